/- Layer 9, plain: metas, and what is done to a device for pages. -/
import Derived.Test.YtlmnjieonhjhcaaSectZ
import Derived.Test.YtlmnjieonhjhcaaWords2
namespace Go.Proofs.Ytlmnjieonhjhcaa
open Go.RowKit Go.Maps
set_option maxRecDepth 100000
set_option linter.unusedSimpArgs false
set_option linter.unusedVariables false

/-! ### metas -/
structure Mt where
  gen : Nat
  root : Nat
  count : Nat
  mark : Nat
def Mt.fit (m : Mt) : Prop := m.gen < 18446744073709551616 ∧ m.root < 18446744073709551616 ∧ m.count < 18446744073709551616 ∧ m.mark < 18446744073709551616
def titleB : List UInt8 := [119, 97, 121, 98, 105, 108, 108, 49]
def metaB (m : Mt) : List UInt8 := titleB ++ be 8 m.gen ++ be 8 m.root ++ be 8 m.count ++ be 8 m.mark
theorem metaB_length (m : Mt) : (metaB m).length = 40 := by simp [metaB, titleB, be_length]
/-- a meta's first sector -/
def secM (m : Mt) : Sec := ⟨metaB m ++ List.replicate 24 0, by simp [metaB_length]⟩
/-- what a sector has where a meta would be -/
def mtOf (s : List UInt8) : Mt := ⟨nat ((s.drop 8).take 8), nat ((s.drop 16).take 8), nat ((s.drop 24).take 8), nat ((s.drop 32).take 8)⟩
theorem eight (l : List UInt8) : nat (l.take 8) < 18446744073709551616 := by
  have h := nat_lt (l.take 8)
  have h8 : (l.take 8).length ≤ 8 := by rw [List.length_take]; omega
  exact Nat.lt_of_lt_of_le h (Nat.pow_le_pow_right (by omega) h8)
theorem mtOf_fit (s : List UInt8) : (mtOf s).fit := ⟨eight _, eight _, eight _, eight _⟩
theorem drop_be (v : Nat) (r : List UInt8) : (be 8 v ++ r).drop 8 = r := by
  rw [List.drop_append_of_le_length (by simp [be_length]), List.drop_of_length_le (by simp [be_length]), List.nil_append]
theorem take_be8 (v : Nat) (r : List UInt8) : (be 8 v ++ r).take 8 = be 8 v := by
  rw [List.take_append_of_le_length (by simp [be_length]), List.take_of_length_le (by simp [be_length])]
theorem mtOf_secM {m : Mt} (f : m.fit) : mtOf (secM m).1 = m := by
  obtain ⟨f1, f2, f3, f4⟩ := f
  have h0 : (secM m).1 = titleB ++ (be 8 m.gen ++ (be 8 m.root ++ (be 8 m.count ++ (be 8 m.mark ++ List.replicate 24 0)))) := by
    simp only [secM, metaB, List.append_assoc]
  have d8 : (secM m).1.drop 8 = be 8 m.gen ++ (be 8 m.root ++ (be 8 m.count ++ (be 8 m.mark ++ List.replicate 24 0))) := by rw [h0]; rfl
  have d16 : (secM m).1.drop 16 = be 8 m.root ++ (be 8 m.count ++ (be 8 m.mark ++ List.replicate 24 0)) := by
    rw [show (16 : Nat) = 8 + 8 from rfl, ← List.drop_drop, d8, drop_be]
  have d24 : (secM m).1.drop 24 = be 8 m.count ++ (be 8 m.mark ++ List.replicate 24 0) := by
    rw [show (24 : Nat) = 16 + 8 from rfl, ← List.drop_drop, d16, drop_be]
  have d32 : (secM m).1.drop 32 = be 8 m.mark ++ List.replicate 24 0 := by
    rw [show (32 : Nat) = 24 + 8 from rfl, ← List.drop_drop, d24, drop_be]
  unfold mtOf
  rw [d8, d16, d24, d32, take_be8, take_be8, take_be8, take_be8, nat_be8 _ f1, nat_be8 _ f2, nat_be8 _ f3, nat_be8 _ f4]
/-- whether a sector is a meta of this page, in a file of so many -/
def mtGood (m : Mt) (page pages : Nat) : Prop := 0 < m.gen ∧ m.gen % 2 = page ∧ (m.root = 0 ∨ (2 ≤ m.root ∧ m.root < pages)) ∧ m.count ≤ 4611686018427387904
instance (m : Mt) (page pages : Nat) : Decidable (mtGood m page pages) := by unfold mtGood; infer_instance
def parseOk (s : Sec) (page pages : Nat) : Bool := decide (mtGood (mtOf s.1) page pages) && (secM (mtOf s.1)).1 == s.1
theorem parse_secM {m : Mt} (f : m.fit) (page pages : Nat) : parseOk (secM m) page pages = decide (mtGood m page pages) := by
  unfold parseOk
  rw [mtOf_secM f]
  simp
/-- noughts are no meta -/
theorem parse_zero (page pages : Nat) : parseOk zSec page pages = false := by
  unfold parseOk
  have h : (mtOf zSec.1).gen = 0 := by rfl
  have : ¬ mtGood (mtOf zSec.1) page pages := fun g => by have := g.1; omega
  rw [decide_eq_false this]
  rfl

/-! ### a page's sectors, and what is written -/
def secG (b : List UInt8) (k : Nat) : Sec := ⟨((b.drop (64 * k)).take 64 ++ List.replicate 64 0).take 64, by simp⟩
/-- the sectors of a page from the k-th on, n of them -/
def wpP (nm : Nm) (id : Nat) (b : List UInt8) : Nat → Nat → Dv → Int × Dv
  | _, 0, S => (0, S)
  | k, n + 1, S => if (pWrite S nm ((id * 8 + k : Nat) : Int) (secG b k)).1 = 0 then wpP nm id b (k + 1) n (pWrite S nm ((id * 8 + k : Nat) : Int) (secG b k)).2 else pWrite S nm ((id * 8 + k : Nat) : Int) (secG b k)
def nmP : Nm := [112]
/-- the meta that holds -/
def newP1 (S : Dv) (pages page : Nat) (best : Mt) : Mt :=
  if (pRead S nmP ((page * 8 : Nat) : Int)).2 = 0 ∧ parseOk (pRead S nmP ((page * 8 : Nat) : Int)).1 page pages = true ∧ best.gen < (mtOf (pRead S nmP ((page * 8 : Nat) : Int)).1.1).gen then mtOf (pRead S nmP ((page * 8 : Nat) : Int)).1.1 else best
def newP (S : Dv) : Mt := if S.len nmP / 8 < 2 then ⟨0, 0, 0, 0⟩ else newP1 S (S.len nmP / 8) 1 (newP1 S (S.len nmP / 8) 0 ⟨0, 0, 0, 0⟩)
/-- all that was written last, then the meta -/
def storeP (S : Dv) (m : Mt) : Int × Dv :=
  if (pSync S nmP).1 = 0 then
    if (pWrite (pSync S nmP).2 nmP ((m.gen % 2 * 8 : Nat) : Int) (secM m)).1 = 0 then pSync (pWrite (pSync S nmP).2 nmP ((m.gen % 2 * 8 : Nat) : Int) (secM m)).2 nmP
    else pWrite (pSync S nmP).2 nmP ((m.gen % 2 * 8 : Nat) : Int) (secM m)
  else pSync S nmP
/-- the file is made -/
def fillP (S : Dv) : Int × Dv := if (wpP nmP 0 [] 0 8 S).1 = 0 then wpP nmP 1 (secM ⟨1, 0, 0, 0⟩).1 0 8 (wpP nmP 0 [] 0 8 S).2 else wpP nmP 0 [] 0 8 S
def createP (S : Dv) : Int × Dv :=
  if (pMake S nmP).1 = 0 then
    if (fillP (pMake S nmP).2).1 = 0 then (0, (fillP (pMake S nmP).2).2) else ((fillP (pMake S nmP).2).1, (pDrop (fillP (pMake S nmP).2).2 nmP).2)
  else pMake S nmP
end Go.Proofs.Ytlmnjieonhjhcaa
