/- Contracts of package tabl: which fields may be. Contracts of package tabl: a field that may be or not. -/
import Derived.Test.YtlfppfknelddcaaDoorTablP
import Derived.Test.YtlfppfknelddcaaDoorWords2
import Derived.Test.YtlfppfknelddcaaDoorOctsR
import Derived.Deep.QuietTactic
import Derived.BigQuiet
import Derived.WalkLawsBesides
namespace Go.Proofs.YtlfppfknelddcaaDoor
section
open Go.RowKit
set_option maxRecDepth 100000

/-- a field as a value -/
def aggF (v : Value) (f : Fld) : Value := .agg #[.string ⟨f.name.toArray⟩, .int .u8 (f.kind.toNat : Int), .int .i64 f.n, .string ⟨f.s.toArray⟩, v]

def SizeIs (f : Fld) (w : World) (e : Ending) (w' : World) : Prop :=
  ∃ (n : Nat) (b : Bool), e = .returned (.tuple #[.int .i64 n, .bool b]) ∧ b = mayB f ∧ (b = true → n = sizeN f) ∧ n ≤ 9223372036854775807 ∧ Below w.heap.size w w'
theorem SizeIs.of {f : Fld} {w w' : World} {x : Int} {b : Bool} (n : Nat) (hx : x = (n : Int)) (hb : b = mayB f) (hn : b = true → n = sizeN f) (hle : n ≤ 9223372036854775807) (hW : Below w.heap.size w w') : SizeIs f w (.returned (.tuple #[.int .i64 x, .bool b])) w' :=
  ⟨n, b, by rw [hx], hb, hn, hle, hW⟩
theorem below_drewN {B : Nat} {a w : World} (h : Below B a w) (n : Nat) : Below B a (w.drewN n) := by
  induction n with
  | zero => exact h
  | succ n ih => exact ih.drew
theorem below_box (w : World) (o : Obj) (n : Nat) : Below w.heap.size w ((w.alloc o).drewN n) := below_drewN ((Below.refl _ w).alloc (Nat.le_refl _) o) n
theorem emp_len {α : Type} (t : List α) : ((t.length : Int) == 0) = t.isEmpty := by cases t <;> simp; omega
def i32of (n : Int) : Int := IntKind.i32.wrap n

set_option maxHeartbeats 2000000 in
set_option maxRecDepth 100000 in
theorem size_some (nm s : List UInt8) (k : UInt8) (n : Int) (t : List Fld) (A : Option Addr) (c : Nat) (w : World) (h0 : nm.isEmpty = false) (h1 : (nm.length : Int) ≤ 128) (hs : s.length ≤ 140737488355328) (_ht : t.length ≤ 9223372036854775807) (HR : Hid (I64 n)) :
    Calls Tryd.prog 95 #[.agg #[.string ⟨nm.toArray⟩, .int .u8 (k.toNat : Int), .int .i64 n, .string ⟨s.toArray⟩, .slice A t.length c]] w (SizeIs (.mk nm k n s t) w) := by
  have h2 : 1 ≤ nm.length := by cases nm <;> simp_all
  have h3 : nm.length ≤ 128 := by omega
  rcases kind_cases k with hc | hc | hc | hc | hc | hc | hc
  · subst hc
    rw [show ((UInt8.toNat 116 : Nat) : Int) = 116 from rfl]
    go_enter Tryd.func95, Tryd.ntmps95
    go_wp2_with fail
    go_quiet (fail)
    go_wp2_with fail
    all_goals
      go_ret2
      refine SizeIs.of (sizeN (.mk nm 116 n s t)) ?_ ?_ ?_ ?_ (below_box _ _ _)
      · simp [sizeN, sizeK, Fld.name, Fld.kind]
      · simp [mayB, kindB, Fld.name, Fld.kind, Fld.s, Fld.n, Fld.t, emp_len, *]
      · intro _; rfl
      · simp [sizeN, sizeK, Fld.name, Fld.kind]; omega
  · subst hc
    rw [show ((UInt8.toNat 73 : Nat) : Int) = 73 from rfl]
    by_cases hI : I32 n
    · have HI := Lib.hid hI
      unfold I32 at hI
      obtain ⟨g1, g2⟩ := hI
      go_enter Tryd.func95, Tryd.ntmps95
      go_wp2_with fail
      go_quiet (fail)
      go_wp2_with fail
      all_goals
        go_ret2
        refine SizeIs.of (sizeN (.mk nm 73 n s t)) ?_ ?_ ?_ ?_ (below_box _ _ _)
        · simp [sizeN, sizeK, Fld.name, Fld.kind]
        · simp [mayB, kindB, Fld.name, Fld.kind, Fld.s, Fld.n, Fld.t, emp_len, HI.out, *]
        · intro _; rfl
        · simp [sizeN, sizeK, Fld.name, Fld.kind]; omega
    · have HI := Lib.hid hI
      obtain ⟨m, hm⟩ : ∃ m, wrap32 n = m := ⟨_, rfl⟩
      have hne : (n == m) = false := by
        rw [← hm]
        simp only [beq_eq_false_iff_ne]
        intro h
        apply hI
        unfold wrap32 at h
        unfold I32
        omega
      have m1 : -2147483648 ≤ m := by rw [← hm]; unfold wrap32; omega
      have m2 : m ≤ 2147483647 := by rw [← hm]; unfold wrap32; omega
      clear hI
      go_enter Tryd.func95, Tryd.ntmps95
      go_wp2_with fail
      go_quiet (fail)
      go_wp2_with fail
      all_goals
        go_ret2
        refine SizeIs.of (sizeN (.mk nm 73 n s t)) ?_ ?_ ?_ ?_ (below_box _ _ _)
        · simp [sizeN, sizeK, Fld.name, Fld.kind]
        · simp [mayB, kindB, Fld.name, Fld.kind, Fld.s, Fld.n, Fld.t, HI.out, *]
        · intro _; rfl
        · simp [sizeN, sizeK, Fld.name, Fld.kind]; omega
  · subst hc
    rw [show ((UInt8.toNat 108 : Nat) : Int) = 108 from rfl]
    go_enter Tryd.func95, Tryd.ntmps95
    go_wp2_with fail
    go_quiet (fail)
    go_wp2_with fail
    all_goals
      go_ret2
      refine SizeIs.of (sizeN (.mk nm 108 n s t)) ?_ ?_ ?_ ?_ (below_box _ _ _)
      · simp [sizeN, sizeK, Fld.name, Fld.kind]
      · simp [mayB, kindB, Fld.name, Fld.kind, Fld.s, Fld.n, Fld.t, emp_len, HR.out, *]
      · intro _; rfl
      · simp [sizeN, sizeK, Fld.name, Fld.kind]; omega
  · subst hc
    rw [show ((UInt8.toNat 83 : Nat) : Int) = 83 from rfl]
    go_enter Tryd.func95, Tryd.ntmps95
    go_wp2_with fail
    go_quiet (fail)
    go_wp2_with fail
    all_goals
      go_ret2
      refine SizeIs.of (sizeN (.mk nm 83 n s t)) ?_ ?_ ?_ ?_ (below_box _ _ _)
      · simp [sizeN, sizeK, Fld.name, Fld.kind, Fld.s]; omega
      · simp [mayB, kindB, Fld.name, Fld.kind, Fld.n, Fld.t, emp_len, *]
      · intro _; rfl
      · simp [sizeN, sizeK, Fld.name, Fld.kind, Fld.s]; omega
  · subst hc
    rw [show ((UInt8.toNat 70 : Nat) : Int) = 70 from rfl]
    go_enter Tryd.func95, Tryd.ntmps95
    go_wp2_with fail
    go_quiet (fail)
    go_wp2_with fail
    all_goals
      go_ret2
      refine SizeIs.of (sizeN (.mk nm 70 n s t)) ?_ ?_ ?_ ?_ (below_box _ _ _)
      · simp [sizeN, sizeK, Fld.name, Fld.kind]
      · simp [mayB, kindB, Fld.name, Fld.kind, Fld.s, Fld.n, *]
      · intro _; rfl
      · simp [sizeN, sizeK, Fld.name, Fld.kind]; omega
  · subst hc
    rw [show ((UInt8.toNat 86 : Nat) : Int) = 86 from rfl]
    go_enter Tryd.func95, Tryd.ntmps95
    go_wp2_with fail
    go_quiet (fail)
    go_wp2_with fail
    all_goals
      go_ret2
      refine SizeIs.of (sizeN (.mk nm 86 n s t)) ?_ ?_ ?_ ?_ (below_box _ _ _)
      · simp [sizeN, sizeK, Fld.name, Fld.kind]
      · simp [mayB, kindB, Fld.name, Fld.kind, Fld.s, Fld.n, Fld.t, emp_len, *]
      · intro _; rfl
      · simp [sizeN, sizeK, Fld.name, Fld.kind]; omega
  · obtain ⟨a1, a2, a3, a4, a5, a6⟩ := hc
    have ne : ∀ q : UInt8, k ≠ q → ((k.toNat : Int) == (q.toNat : Int)) = false := by
      intro q hq
      simp only [beq_eq_false_iff_ne]
      intro h
      exact hq (UInt8.toNat_inj.1 (by omega))
    have b1 := ne 116 a1
    have b2 := ne 73 a2
    have b3 := ne 108 a3
    have b4 := ne 83 a4
    have b5 := ne 70 a5
    have b6 := ne 86 a6
    rw [show ((UInt8.toNat 116 : Nat) : Int) = 116 from rfl] at b1
    rw [show ((UInt8.toNat 73 : Nat) : Int) = 73 from rfl] at b2
    rw [show ((UInt8.toNat 108 : Nat) : Int) = 108 from rfl] at b3
    rw [show ((UInt8.toNat 83 : Nat) : Int) = 83 from rfl] at b4
    rw [show ((UInt8.toNat 70 : Nat) : Int) = 70 from rfl] at b5
    rw [show ((UInt8.toNat 86 : Nat) : Int) = 86 from rfl] at b6
    have hno : false = mayB (.mk nm k n s t) := by simp [mayB, kindB, Fld.kind, a1, a2, a3, a4, a5, a6]
    have HN := Lib.hid hno
    clear ne a1 a2 a3 a4 a5 a6 hno
    go_enter Tryd.func95, Tryd.ntmps95
    go_wp2_with fail
    go_quiet (fail)
    go_wp2_with fail
    go_ret2
    exact SizeIs.of 0 rfl HN.out (fun h => by cases h) (Nat.zero_le _) (below_box _ _ _)
end
section
open Go.RowKit
set_option maxRecDepth 100000

theorem size_none (nm s : List UInt8) (k : UInt8) (n : Int) (t : List Fld) (A : Option Addr) (c : Nat) (w : World) (hn : ¬ (1 ≤ nm.length ∧ nm.length ≤ 128)) (hm : nm.length ≤ 9223372036854775807) :
    Calls Tryd.prog 95 #[.agg #[.string ⟨nm.toArray⟩, .int .u8 (k.toNat : Int), .int .i64 n, .string ⟨s.toArray⟩, .slice A t.length c]] w (SizeIs (.mk nm k n s t) w) := by
  have hno : false = mayB (.mk nm k n s t) := by
    unfold mayB
    rw [show decide (1 ≤ (Fld.mk nm k n s t).name.length ∧ (Fld.mk nm k n s t).name.length ≤ 128) = false from decide_eq_false hn]
    rfl
  have HN := Lib.hid hno
  clear hno
  cases nm with
  | nil =>
    go_enter Tryd.func95, Tryd.ntmps95
    go_wp2_with fail
    go_ret2
    exact SizeIs.of 0 rfl HN.out (fun h => by cases h) (Nat.zero_le _) (below_drewN ((Below.refl _ w).alloc (Nat.le_refl _) _) 0)
  | cons x nm =>
    obtain ⟨m, hM⟩ : ∃ m, m = x :: nm := ⟨_, rfl⟩
    rw [← hM] at hn HN hm ⊢
    have h0 : m.isEmpty = false := by rw [hM]; rfl
    have h1 : 128 < (m.length : Int) := by
      have : 1 ≤ m.length := by rw [hM]; simp
      omega
    clear hn hM
    go_enter Tryd.func95, Tryd.ntmps95
    go_wp2_with fail
    go_ret2
    exact SizeIs.of 0 rfl HN.out (fun h => by cases h) (Nat.zero_le _) (below_drewN ((Below.refl _ w).alloc (Nat.le_refl _) _) 0)
theorem size_any (f : Fld) (A : Option Addr) (c : Nat) (w : World) (hf : Held f) (ht : f.t.length ≤ maxLen) :
    Calls Tryd.prog 95 #[aggF (.slice A f.t.length c) f] w (SizeIs f w) := by
  obtain ⟨nm, k, n, s, t⟩ := f
  obtain ⟨h1, h2, hs⟩ := hf
  simp only [Fld.name, Fld.n, Fld.s, Fld.t] at h1 h2 hs ht
  unfold maxLen at ht
  by_cases hn : 1 ≤ nm.length ∧ nm.length ≤ 128
  · exact size_some nm s k n t A c w (by cases nm <;> simp_all) (by omega) hs (by omega) (Lib.hid h1)
  · exact size_none nm s k n t A c w hn (by omega)
end
end Go.Proofs.YtlfppfknelddcaaDoor
