/- Layer 13, plain: ops, their octets, how they are read; ops as they lie in memory. -/
import Derived.Test.YtflbjmpbkcjdhaaOctsL
import Derived.Test.YtflbjmpbkcjdhaaWords2
import Derived.OwnWalk
namespace Go.Proofs.Ytflbjmpbkcjdhaa
open Go.RowKit
set_option maxRecDepth 100000
set_option linter.unusedSimpArgs false
set_option linter.unusedVariables false

structure Opx where
  key : List UInt8
  del : Bool
  val : List UInt8

def fitO (o : Opx) : Bool := decide (1 ≤ o.key.length) && decide (o.key.length ≤ 130) && decide (o.val.length ≤ 11000) && (!o.del || decide (o.val.length = 0))
def headB (k : Nat) (key : List UInt8) : List UInt8 := be 1 k ++ be 1 key.length ++ key
def opB (o : Opx) : List UInt8 := if o.del then headB 2 o.key else headB 1 o.key ++ be 4 o.val.length ++ o.val
def opsB (l : List Opx) : List UInt8 := l.flatMap opB
def sizeO (o : Opx) : Nat := if o.del then 2 + o.key.length else 6 + o.key.length + o.val.length
theorem fitO_is {o : Opx} (h : fitO o = true) : 1 ≤ o.key.length ∧ o.key.length ≤ 130 ∧ o.val.length ≤ 11000 ∧ (o.del = true → o.val = []) := by
  unfold fitO at h
  simp only [Bool.and_eq_true, decide_eq_true_eq, Bool.or_eq_true, Bool.not_eq_true'] at h
  obtain ⟨⟨⟨h1, h2⟩, h3⟩, h4⟩ := h
  refine ⟨h1, h2, h3, fun hd => ?_⟩
  rcases h4 with h4 | h4
  · rw [hd] at h4; cases h4
  · exact List.eq_nil_of_length_eq_zero h4
theorem opB_length (o : Opx) : (opB o).length = sizeO o := by
  unfold opB sizeO headB
  cases o.del <;> simp [be_length] <;> omega
theorem opsB_nil : opsB [] = [] := rfl
theorem opsB_cons (o : Opx) (l : List Opx) : opsB (o :: l) = opB o ++ opsB l := rfl
theorem opsB_append (l m : List Opx) : opsB (l ++ m) = opsB l ++ opsB m := by simp [opsB]
theorem opsB_take (l : List Opx) (j : Nat) (h : j < l.length) : opsB (l.take (j + 1)) = opsB (l.take j) ++ opB l[j] := by
  rw [List.take_succ_eq_append_getElem h, opsB_append]
  simp [opsB]
theorem opsB_mono (l : List Opx) (j : Nat) : (opsB (l.take j)).length ≤ (opsB l).length := by
  have h : opsB l = opsB (l.take j) ++ opsB (l.drop j) := by rw [← opsB_append, List.take_append_drop]
  rw [h, List.length_append]; omega
def unitOk (l : List Opx) : Bool := l.all fitO && decide ((opsB l).length ≤ 190000)
theorem unitOk_fit {l : List Opx} {j : Nat} (hj : j < l.length) (h : fitO l[j] = false) : unitOk l = false := by
  unfold unitOk
  have : l.all fitO = false := by
    rw [List.all_eq_false]
    exact ⟨_, List.getElem_mem hj, by rw [h]; simp⟩
  rw [this, Bool.false_and]
theorem unitOk_long {l : List Opx} {j : Nat} (h : 190000 < (opsB (l.take j)).length) : unitOk l = false := by
  unfold unitOk
  have := opsB_mono l j
  rw [decide_eq_false (by omega), Bool.and_false]

/-- an op that is read, and where its octets lie -/
structure Tl where
  o : Opx
  pos : Nat
def putP (L : Nat) (b : List UInt8) : Option (Tl × List UInt8) :=
  let o : Opx := ⟨txt 1 b, false, txt 4 (txtRest 1 b)⟩
  if (!(txtShort 1 b || txtShort 4 (txtRest 1 b)) && fitO o) = true then some (⟨o, L - (txtRest 4 (txtRest 1 b)).length - o.val.length⟩, txtRest 4 (txtRest 1 b)) else none
def delP (b : List UInt8) : Option (Tl × List UInt8) :=
  let o : Opx := ⟨txt 1 b, true, []⟩
  if (!txtShort 1 b && fitO o) = true then some (⟨o, 0⟩, txtRest 1 b) else none
/-- the next op of b, which is not empty -/
def nextP (L : Nat) (b : List UInt8) : Option (Tl × List UInt8) :=
  if nat (tk 1 b) = 1 then putP L (rst 1 b) else if nat (tk 1 b) = 2 then delP (rst 1 b) else none
theorem nextP_less {L : Nat} {b r : List UInt8} {t : Tl} (h : nextP L b = some (t, r)) (hb : b ≠ []) : r.length < b.length := by
  have h1 : (rst 1 b).length < b.length := by
    have : 0 < b.length := List.length_pos_iff.2 hb
    rw [rst_yes (by omega), List.length_drop]; omega
  unfold nextP at h
  split at h
  · unfold putP at h
    simp only at h
    split at h
    · injection h with h; injection h with _ h; subst h
      exact Nat.lt_of_le_of_lt (Nat.le_trans (txtRest_sub _ _) (txtRest_sub _ _)) h1
    · cases h
  · split at h
    · unfold delP at h
      simp only at h
      split at h
      · injection h with h; injection h with _ h; subst h
        exact Nat.lt_of_le_of_lt (txtRest_sub _ _) h1
      · cases h
    · cases h
theorem nextP_fit {L : Nat} {b r : List UInt8} {t : Tl} (h : nextP L b = some (t, r)) : fitO t.o = true := by
  unfold nextP at h
  split at h
  · unfold putP at h
    simp only at h
    split at h
    · rename_i h2
      injection h with h; injection h with h _; subst h
      rw [Bool.and_eq_true] at h2
      exact h2.2
    · cases h
  · split at h
    · unfold delP at h
      simp only at h
      split at h
      · rename_i h2
        injection h with h; injection h with h _; subst h
        rw [Bool.and_eq_true] at h2
        exact h2.2
      · cases h
    · cases h
def opsF (L : Nat) : Nat → List UInt8 → Option (List Tl)
  | 0, b => if b = [] then some [] else none
  | n + 1, b => if b = [] then some [] else match nextP L b with
    | none => none
    | some (t, r) => (opsF L n r).map (t :: ·)
theorem opsF_enough (L : Nat) : ∀ (n m : Nat) (b : List UInt8), b.length ≤ n → b.length ≤ m → opsF L n b = opsF L m b := by
  intro n
  induction n with
  | zero =>
    intro m b hn _
    have : b = [] := List.eq_nil_of_length_eq_zero (by omega)
    subst this
    cases m <;> simp [opsF]
  | succ n ih =>
    intro m b hn hm
    by_cases hb : b = []
    · subst hb
      cases m <;> simp [opsF]
    · have : 0 < b.length := List.length_pos_iff.2 hb
      obtain ⟨m, rfl⟩ : ∃ k, m = k + 1 := ⟨m - 1, by omega⟩
      rw [opsF, opsF, if_neg hb, if_neg hb]
      cases e : nextP L b with
      | none => rfl
      | some p =>
        obtain ⟨t, r⟩ := p
        have := nextP_less e hb
        simp only
        rw [ih m r (by omega) (by omega)]
def opsP (L : Nat) (b : List UInt8) : Option (List Tl) := opsF L b.length b
theorem opsP_nil (L : Nat) : opsP L [] = some [] := rfl
theorem opsP_no {L : Nat} {b : List UInt8} (hb : b ≠ []) (h : nextP L b = none) : opsP L b = none := by
  have : 0 < b.length := List.length_pos_iff.2 hb
  unfold opsP
  obtain ⟨m, e⟩ : ∃ k, b.length = k + 1 := ⟨b.length - 1, by omega⟩
  rw [e, opsF, if_neg hb, h]
theorem opsP_next {L : Nat} {b r : List UInt8} {t : Tl} (hb : b ≠ []) (h : nextP L b = some (t, r)) : opsP L b = (opsP L r).map (t :: ·) := by
  have : 0 < b.length := List.length_pos_iff.2 hb
  have h2 := nextP_less h hb
  unfold opsP
  obtain ⟨m, e⟩ : ∃ k, b.length = k + 1 := ⟨b.length - 1, by omega⟩
  rw [e, opsF, if_neg hb, h]
  simp only
  rw [opsF_enough L m r.length r (by omega) (Nat.le_refl _)]
/-- what stands behind acc ops -/
def Behind (L : Nat) (b : List UInt8) (acc : List Tl) (r : List UInt8) : Prop := opsP L b = (opsP L r).map (acc ++ ·)
theorem Behind.start (L : Nat) (b : List UInt8) : Behind L b [] b := by
  unfold Behind
  cases opsP L b <;> rfl
theorem Behind.next {L : Nat} {b r r' : List UInt8} {acc : List Tl} {t : Tl} (h : Behind L b acc r) (hr : r ≠ []) (e : nextP L r = some (t, r')) : Behind L b (acc ++ [t]) r' := by
  unfold Behind at *
  rw [h, opsP_next hr e]
  cases opsP L r' <;> simp
theorem Behind.none {L : Nat} {b r : List UInt8} {acc : List Tl} (h : Behind L b acc r) (hr : r ≠ []) (e : nextP L r = none) : opsP L b = none := by
  unfold Behind at h
  rw [h, opsP_no hr e]; rfl
theorem Behind.done {L : Nat} {b : List UInt8} {acc : List Tl} (h : Behind L b acc []) : opsP L b = some acc := by
  unfold Behind at h
  rw [h, opsP_nil]; simp
def unitP (b : List UInt8) : Option (List Tl) := if 190000 < b.length then none else opsP b.length b

/-- what is read of the octets of ops -/
def posO (L : Nat) (o : Opx) (R : List UInt8) : Nat := if o.del then 0 else L - R.length - o.val.length
def tellO (L : Nat) : List Opx → List Tl
  | [] => []
  | o :: l => ⟨o, posO L o (opsB l)⟩ :: tellO L l
theorem tk_one1 (k : Nat) (hk : k < 256) (R : List UInt8) : nat (tk 1 (be 1 k ++ R)) = k ∧ rst 1 (be 1 k ++ R) = R := by
  obtain ⟨h1, h2, _⟩ := tk_pre (n := 1) (a := be 1 k) R (by rw [be_length])
  rw [h1, nat_be]
  exact ⟨Nat.mod_eq_of_lt (by simpa using hk), h2⟩
theorem txt_of2 (k : Nat) (S R : List UInt8) (h : S.length < 256 ^ k) : txt k (be k S.length ++ S ++ R) = S ∧ txtRest k (be k S.length ++ S ++ R) = R ∧ txtShort k (be k S.length ++ S ++ R) = false := by
  have := txt_pre k S R h
  rwa [← List.append_assoc] at this
theorem nextP_back (L : Nat) (o : Opx) (R : List UInt8) (h : fitO o = true) : nextP L (opB o ++ R) = some (⟨o, posO L o R⟩, R) := by
  obtain ⟨h1, h2, h3, h4⟩ := fitO_is h
  rcases o with ⟨key, del, val⟩
  simp only at h1 h2 h3 h4
  cases del
  · have e : opB ⟨key, false, val⟩ ++ R = be 1 1 ++ (be 1 key.length ++ key ++ (be 4 val.length ++ val ++ R)) := by simp [opB, headB]
    obtain ⟨e1, e2⟩ := tk_one1 1 (by omega) (be 1 key.length ++ key ++ (be 4 val.length ++ val ++ R))
    obtain ⟨a1, a2, a3⟩ := txt_of2 1 key (be 4 val.length ++ val ++ R) (by omega)
    obtain ⟨b1, b2, b3⟩ := txt_of2 4 val R (by omega)
    rw [e]
    unfold nextP
    rw [e1, e2, if_pos rfl]
    unfold putP
    simp only
    rw [a1, a2, a3, b1, b2, b3, if_pos (by rw [h]; rfl)]
    simp [posO]
  · have hv : val = [] := h4 rfl
    subst hv
    have e : opB ⟨key, true, []⟩ ++ R = be 1 2 ++ (be 1 key.length ++ key ++ R) := by simp [opB, headB]
    obtain ⟨e1, e2⟩ := tk_one1 2 (by omega) (be 1 key.length ++ key ++ R)
    obtain ⟨a1, a2, a3⟩ := txt_of2 1 key R (by omega)
    rw [e]
    unfold nextP
    rw [e1, e2, if_neg (by omega), if_pos rfl]
    unfold delP
    simp only
    rw [a1, a2, a3, if_pos (by rw [h]; rfl)]
    simp [posO]
theorem opB_ne (o : Opx) : opB o ≠ [] := by
  intro h
  have := opB_length o
  rw [h] at this
  unfold sizeO at this
  split at this <;> simp at this <;> omega
theorem opsP_back (L : Nat) : ∀ (l : List Opx), l.all fitO = true → opsP L (opsB l) = some (tellO L l)
  | [], _ => rfl
  | o :: l, h => by
    rw [List.all_cons, Bool.and_eq_true] at h
    have hb : opsB (o :: l) ≠ [] := by
      rw [opsB_cons]
      intro e
      exact opB_ne o (List.append_eq_nil_iff.1 e).1
    rw [opsP_next hb (by rw [opsB_cons]; exact nextP_back L o (opsB l) h.1), opsP_back L l h.2]
    rfl
theorem tellO_length (L : Nat) : ∀ l : List Opx, (tellO L l).length = l.length
  | [] => rfl
  | o :: l => by rw [tellO, List.length_cons, List.length_cons, tellO_length L l]
theorem tellO_at (L : Nat) : ∀ (l : List Opx) (i : Nat) (hi : i < l.length), (tellO L l)[i]? = some ⟨l[i], posO L l[i] (opsB (l.drop (i + 1)))⟩
  | [], i, hi => by simp at hi
  | o :: l, 0, _ => rfl
  | o :: l, i + 1, hi => by
    have := tellO_at L l i (by simpa using hi)
    rw [tellO, List.getElem?_cons_succ, this]
    simp
/-- the value lies where its place says -/
theorem val_lies (l : List Opx) (i : Nat) (hi : i < l.length) (hd : l[i].del = true → l[i].val = []) :
    posO (opsB l).length l[i] (opsB (l.drop (i + 1))) + l[i].val.length ≤ (opsB l).length ∧ ((opsB l).drop (posO (opsB l).length l[i] (opsB (l.drop (i + 1))))).take l[i].val.length = l[i].val := by
  have e : opsB l = opsB (l.take i) ++ opB l[i] ++ opsB (l.drop (i + 1)) := by
    rw [← opsB_take l i hi, ← opsB_append, List.take_append_drop]
  generalize l[i] = o at *
  generalize opsB (l.take i) = P at *
  generalize opsB (l.drop (i + 1)) = R at *
  rw [e]
  unfold posO
  cases hdl : o.del
  · have e2 : opB o = (headB 1 o.key ++ be 4 o.val.length) ++ o.val := by unfold opB; rw [hdl]; simp
    rw [e2]
    generalize headB 1 o.key ++ be 4 o.val.length = H
    have e3 : P ++ (H ++ o.val) ++ R = (P ++ H) ++ (o.val ++ R) := by simp
    rw [e3]
    have e4 : ((P ++ H) ++ (o.val ++ R)).length - R.length - o.val.length = (P ++ H).length := by simp only [List.length_append]; omega
    simp only [Bool.false_eq_true, if_false]
    rw [e4, List.drop_left, List.take_left]
    exact ⟨by simp only [List.length_append]; omega, rfl⟩
  · have := hd hdl
    rw [this]
    simp

/-! ### memory -/
/-- an op, and where its value lies -/
structure Om where
  o : Opx
  A : Option Addr
  c : Nat
def cellsOm (m : Om) : List Value := [.string ⟨m.o.key.toArray⟩, .bool m.o.del, .slice m.A m.o.val.length m.c]
def cellsOms (l : List Om) : List Value := l.flatMap cellsOm
def omV (m : Om) : Value := .agg #[.string ⟨m.o.key.toArray⟩, .bool m.o.del, .slice m.A m.o.val.length m.c]
def ValAt (w : World) (B : Nat) (m : Om) : Prop := Lies w B m.A (B8 m.o.val) ∧ m.o.val.length ≤ m.c ∧ m.c ≤ maxLen
def OpsAt (w : World) (B : Nat) (l : List Om) (A : Option Addr) (c : Nat) : Prop := l.length ≤ c ∧ c ≤ maxLen ∧ Lies w B A (cellsOms l) ∧ ∀ m ∈ l, ValAt w B m
/-- texts that are not longer than the model bears -/
def Few (l : List Om) : Prop := l.length ≤ 1000000 ∧ ∀ m ∈ l, m.o.key.length ≤ 1000000 ∧ m.o.val.length ≤ 1000000
def pl (l : List Om) : List Opx := l.map (·.o)
theorem pl_length (l : List Om) : (pl l).length = l.length := by simp [pl]
theorem pl_at (l : List Om) (i : Nat) (h : i < (pl l).length) : (pl l)[i] = (l[i]'(by simpa [pl] using h)).o := by simp [pl]
theorem pl_take (l : List Om) (i : Nat) : (pl l).take i = pl (l.take i) := by simp [pl]
theorem pl_append (l m : List Om) : pl (l ++ m) = pl l ++ pl m := by simp [pl]
theorem ValAt.below {w w' : World} {B : Nat} {m : Om} (h : ValAt w B m) (hb : Below B w w') : ValAt w' B m := ⟨h.1.below hb, h.2⟩
theorem ValAt.more {w : World} {B B' : Nat} {m : Om} (h : ValAt w B m) (hB : B ≤ B') : ValAt w B' m := ⟨h.1.more hB, h.2⟩
theorem OpsAt.below {w w' : World} {B : Nat} {l : List Om} {A : Option Addr} {c : Nat} (h : OpsAt w B l A c) (hb : Below B w w') : OpsAt w' B l A c := ⟨h.1, h.2.1, h.2.2.1.below hb, fun m hm => (h.2.2.2 m hm).below hb⟩
theorem OpsAt.more {w : World} {B B' : Nat} {l : List Om} {A : Option Addr} {c : Nat} (h : OpsAt w B l A c) (hB : B ≤ B') : OpsAt w B' l A c := ⟨h.1, h.2.1, h.2.2.1.more hB, fun m hm => (h.2.2.2 m hm).more hB⟩
theorem Few.at {l : List Om} (h : Few l) (i : Nat) (hi : i < l.length) : l[i].o.key.length ≤ 1000000 ∧ l[i].o.val.length ≤ 1000000 := h.2 _ (List.getElem_mem hi)
theorem cellsOms_length (l : List Om) : (cellsOms l).length = l.length * 3 := by
  induction l with
  | nil => rfl
  | cons f l ih =>
    have e : cellsOms (f :: l) = cellsOm f ++ cellsOms l := rfl
    rw [e, List.length_append, ih, List.length_cons, show (cellsOm f).length = 3 from rfl]
    omega
theorem cellsOms_append (l m : List Om) : cellsOms (l ++ m) = cellsOms l ++ cellsOms m := by simp [cellsOms]
theorem cellsOm_one (r : Om) : ∀ u ∈ cellsOm r, u.oneCell' = true := by
  intro u hu
  simp only [cellsOm, List.mem_cons, List.not_mem_nil, or_false] at hu
  rcases hu with rfl | rfl | rfl <;> rfl
theorem cellsOms_one (l : List Om) : ∀ u ∈ cellsOms l, u.oneCell' = true := by
  intro u hu
  simp only [cellsOms, List.mem_flatMap] at hu
  obtain ⟨f, _, hf⟩ := hu
  exact cellsOm_one f u hf
theorem cellsOms_at : ∀ (l : List Om) (i : Nat) (hi : i < l.length) (j : Nat) (u : Value), (cellsOm l[i])[j]? = some u → (cellsOms l)[i * 3 + j]? = some u := by
  intro l
  induction l with
  | nil => intro i hi; simp at hi
  | cons f l ih =>
    intro i hi j u hu
    have e : cellsOms (f :: l) = cellsOm f ++ cellsOms l := rfl
    rw [e]
    cases i with
    | zero =>
      have hu' : (cellsOm f)[j]? = some u := hu
      rw [Nat.zero_mul, Nat.zero_add, List.getElem?_append_left (List.getElem?_eq_some_iff.1 hu').1]
      exact hu'
    | succ i =>
      rw [List.getElem?_append_right (by rw [show (cellsOm f).length = 3 from rfl]; omega), show (cellsOm f).length = 3 from rfl, show (i + 1) * 3 + j - 3 = i * 3 + j by omega]
      exact ih i (by simpa using hi) j u hu
/-- the cells of one op -/
theorem lies_om {w : World} {B : Nat} {A : Option Addr} {l : List Om} (h : Lies w B A (cellsOms l)) (i : Nat) (hi : i < l.length) :
    ∃ b o, A = some ⟨b, o, none⟩ ∧ b < B ∧ w.cell? ⟨b, o + i * 3, none⟩ = some (.string ⟨l[i].o.key.toArray⟩) ∧ w.cell? ⟨b, o + i * 3 + 1, none⟩ = some (.bool l[i].o.del) ∧ w.cell? ⟨b, o + i * 3 + 2, none⟩ = some (.slice l[i].A l[i].o.val.length l[i].c) := by
  rcases h with h | ⟨b, o, e, hb, hc⟩
  · have hl := cellsOms_length l
    rw [h] at hl
    simp at hl
    omega
  · exact ⟨b, o, e, hb, hc _ _ (cellsOms_at l i hi 0 _ rfl), by rw [Nat.add_assoc]; exact hc _ _ (cellsOms_at l i hi 1 _ rfl), by rw [Nat.add_assoc]; exact hc _ _ (cellsOms_at l i hi 2 _ rfl)⟩
theorem size_arr (l : List UInt8) : (⟨l.toArray⟩ : ByteArray).size = l.length := by simp [ByteArray.size]
theorem own_less {w : World} {base base' : Nat} {e : TypeId} {size : Nat} {v : Value} {n : Nat} {xs : List Value} (h : w.ownsRow base e size v n xs) (hb : base' ≤ base) : w.ownsRow base' e size v n xs := by
  refine ⟨h.1, ?_⟩
  rcases h.2 with h | ⟨b, cap, cur, hv, hb', rest⟩
  · exact .inl h
  · exact .inr ⟨b, cap, cur, hv, Nat.le_trans hb hb', rest⟩
theorem own_lies {w : World} {base : Nat} {e : TypeId} {size n c : Nat} {D : Nat} {A : Option Addr} {xs : List Value} (h : w.ownsRow base e size (.slice A n c) n xs) (hD : w.heap.size ≤ D) : Lies w D A xs := by
  rcases h.2 with ⟨hv, hn⟩ | ⟨g, cap, cur, hv, _, hg, _⟩
  · left
    apply List.eq_nil_of_length_eq_zero
    rw [h.1, hn, Nat.zero_mul]
  · have hA : A = some ⟨g, 0, none⟩ := by injection hv
    subst hA
    refine .inr ⟨g, 0, rfl, ?_, fun j u hu => ?_⟩
    · have := (Array.getElem?_eq_some_iff.1 hg).1
      exact Nat.lt_of_lt_of_le this hD
    · have := h.cells (g := g) rfl j u hu
      have hadd : (⟨g, 0, none⟩ : Addr).add j = ⟨g, j, none⟩ := by unfold Addr.add; split <;> simp_all
      rw [hadd] at this
      simpa using this
theorem own_set {w : World} {base n i : Nat} {e : TypeId} {size k : Nat} {v u : Value} {xs : List Value} (h : w.ownsRow base e size v k xs) (hn : n < base) : (w.setCell ⟨n, i, none⟩ u).ownsRow base e size v k xs := by
  refine h.kept (only_set (only_refl w (some n)) i u) ?_
  rcases hv : v.ownBlock with _ | q
  · exact .inl rfl
  · have := h.lt q hv
    exact .inr (by intro e; injection e; omega)
theorem om_info : (Try.prog.info? 24).map (fun i => (i.zero, i.size, i.bytes)) = some (some (.agg #[.string ⟨#[]⟩, .bool false, .slice none 0 0]), 3, 48) := by kernel_rfl
theorem info_parts2 {P : Program} {t : TypeId} {z : Option Value} {s b : Nat} (h : (P.info? t).map (fun i => (i.zero, i.size, i.bytes)) = some (z, s, b)) : ∃ i, P.info? t = some i ∧ i.zero = z ∧ i.size = s ∧ i.bytes = b := by
  cases e : P.info? t with
  | none => rw [e] at h; cases h
  | some i =>
    rw [e] at h
    injection h with h
    injection h with h1 h2
    injection h2 with h2 h3
    exact ⟨i, rfl, h1, h2, h3⟩
end Go.Proofs.Ytflbjmpbkcjdhaa
