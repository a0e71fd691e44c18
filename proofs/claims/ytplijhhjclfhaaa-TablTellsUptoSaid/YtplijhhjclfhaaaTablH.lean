/- Contract of the document's own answer for layer 2: which fields may be. -/
import Derived.Test.YtplijhhjclfhaaaTablV
namespace Go.Proofs.Ytplijhhjclfhaaa
open Go.RowKit

def MayIs (f : Fld) (w : World) (e : Ending) (w' : World) : Prop := e = .returned (.bool (mayB f)) ∧ Below w.heap.size w w'
theorem MayIs.of {f : Fld} {w w' : World} {b : Bool} (hb : b = mayB f) (hW : Below w.heap.size w w') : MayIs f w (.returned (.bool b)) w' := ⟨by rw [hb], hW⟩

set_option maxHeartbeats 2000000 in
set_option maxRecDepth 100000 in
theorem fieldOk_some (nm s : List UInt8) (k : UInt8) (n : Int) (t : List Fld) (A : Option Addr) (c : Nat) (w : World) (h1' : 1 ≤ (nm.length : Int)) (h1 : (nm.length : Int) ≤ 128) (_ht : t.length ≤ 9223372036854775807) (HR : Hid (I64 n)) :
    Calls Try.prog 54 #[.agg #[.string ⟨nm.toArray⟩, .int .u8 (k.toNat : Int), .int .i64 n, .string ⟨s.toArray⟩, .slice A t.length c]] w (MayIs (.mk nm k n s t) w) := by
  have h2 : 1 ≤ nm.length := by omega
  have h3 : nm.length ≤ 128 := by omega
  rcases kind_cases k with hc | hc | hc | hc | hc | hc | hc
  · subst hc
    rw [show ((UInt8.toNat 116 : Nat) : Int) = 116 from rfl]
    go_enter Try.func54, Try.ntmps54
    go_wp2_with fail
    all_goals
      go_ret
      refine MayIs.of ?_ (below_drewN ((Below.refl _ w).alloc (Nat.le_refl _) _) 0)
      simp [mayB, kindB, Fld.name, Fld.kind, Fld.s, Fld.n, Fld.t, emp_len, *]
  · subst hc
    rw [show ((UInt8.toNat 73 : Nat) : Int) = 73 from rfl]
    rcases Int.lt_or_le n (-2147483648) with g1 | g1
    · have HI : Hid (¬ I32 n) := Lib.hid (by unfold I32; omega)
      go_enter Try.func54, Try.ntmps54
      go_wp2_with fail
      all_goals
        go_ret
        refine MayIs.of ?_ (below_drewN ((Below.refl _ w).alloc (Nat.le_refl _) _) 0)
        simp [mayB, kindB, Fld.name, Fld.kind, Fld.s, Fld.n, Fld.t, HI.out, *]
    · rcases Int.lt_or_le 2147483647 n with g2 | g2
      · have HI : Hid (¬ I32 n) := Lib.hid (by unfold I32; omega)
        have hdv : decide (n < 2147483648) = false := decide_eq_false (by omega)
        go_enter Try.func54, Try.ntmps54
        go_wp2_with fail
        all_goals
          go_ret
          refine MayIs.of ?_ (below_drewN ((Below.refl _ w).alloc (Nat.le_refl _) _) 0)
          simp [mayB, kindB, Fld.name, Fld.kind, Fld.s, Fld.n, Fld.t, HI.out, *]
      · have HI : Hid (I32 n) := Lib.hid ⟨g1, g2⟩
        go_enter Try.func54, Try.ntmps54
        go_wp2_with fail
        all_goals
          go_ret
          refine MayIs.of ?_ (below_drewN ((Below.refl _ w).alloc (Nat.le_refl _) _) 0)
          simp [mayB, kindB, Fld.name, Fld.kind, Fld.s, Fld.n, Fld.t, emp_len, HI.out, *]
  · subst hc
    rw [show ((UInt8.toNat 108 : Nat) : Int) = 108 from rfl]
    go_enter Try.func54, Try.ntmps54
    go_wp2_with fail
    all_goals
      go_ret
      refine MayIs.of ?_ (below_drewN ((Below.refl _ w).alloc (Nat.le_refl _) _) 0)
      simp [mayB, kindB, Fld.name, Fld.kind, Fld.s, Fld.n, Fld.t, emp_len, HR.out, *]
  · subst hc
    rw [show ((UInt8.toNat 83 : Nat) : Int) = 83 from rfl]
    go_enter Try.func54, Try.ntmps54
    go_wp2_with fail
    all_goals
      go_ret
      refine MayIs.of ?_ (below_drewN ((Below.refl _ w).alloc (Nat.le_refl _) _) 0)
      simp [mayB, kindB, Fld.name, Fld.kind, Fld.n, Fld.t, emp_len, *]
  · subst hc
    rw [show ((UInt8.toNat 70 : Nat) : Int) = 70 from rfl]
    go_enter Try.func54, Try.ntmps54
    go_wp2_with fail
    all_goals
      go_ret
      refine MayIs.of ?_ (below_drewN ((Below.refl _ w).alloc (Nat.le_refl _) _) 0)
      simp [mayB, kindB, Fld.name, Fld.kind, Fld.s, Fld.n, *]
  · subst hc
    rw [show ((UInt8.toNat 86 : Nat) : Int) = 86 from rfl]
    go_enter Try.func54, Try.ntmps54
    go_wp2_with fail
    all_goals
      go_ret
      refine MayIs.of ?_ (below_drewN ((Below.refl _ w).alloc (Nat.le_refl _) _) 0)
      simp [mayB, kindB, Fld.name, Fld.kind, Fld.s, Fld.n, Fld.t, emp_len, *]
  · obtain ⟨a1, a2, a3, a4, a5, a6⟩ := hc
    have ne : ∀ q : UInt8, k ≠ q → ((k.toNat : Int) == (q.toNat : Int)) = false := by
      intro q hq
      simp only [beq_eq_false_iff_ne]
      intro h
      exact hq (UInt8.toNat_inj.1 (by omega))
    have b1 := ne 116 a1
    have b2 := ne 73 a2
    have b3 := ne 108 a3
    have b4 := ne 83 a4
    have b5 := ne 70 a5
    have b6 := ne 86 a6
    rw [show ((UInt8.toNat 116 : Nat) : Int) = 116 from rfl] at b1
    rw [show ((UInt8.toNat 73 : Nat) : Int) = 73 from rfl] at b2
    rw [show ((UInt8.toNat 108 : Nat) : Int) = 108 from rfl] at b3
    rw [show ((UInt8.toNat 83 : Nat) : Int) = 83 from rfl] at b4
    rw [show ((UInt8.toNat 70 : Nat) : Int) = 70 from rfl] at b5
    rw [show ((UInt8.toNat 86 : Nat) : Int) = 86 from rfl] at b6
    have hno : false = mayB (.mk nm k n s t) := by simp [mayB, kindB, Fld.kind, a1, a2, a3, a4, a5, a6]
    have HN := Lib.hid hno
    clear ne a1 a2 a3 a4 a5 a6 hno
    go_enter Try.func54, Try.ntmps54
    go_wp2_with fail
    go_ret
    exact MayIs.of HN.out (below_drewN ((Below.refl _ w).alloc (Nat.le_refl _) _) 0)
theorem fieldOk_none (nm s : List UInt8) (k : UInt8) (n : Int) (t : List Fld) (A : Option Addr) (c : Nat) (w : World) (hn : ¬ (1 ≤ nm.length ∧ nm.length ≤ 128)) (hm : nm.length ≤ 9223372036854775807) :
    Calls Try.prog 54 #[.agg #[.string ⟨nm.toArray⟩, .int .u8 (k.toNat : Int), .int .i64 n, .string ⟨s.toArray⟩, .slice A t.length c]] w (MayIs (.mk nm k n s t) w) := by
  have hno : false = mayB (.mk nm k n s t) := by
    unfold mayB
    rw [show decide (1 ≤ (Fld.mk nm k n s t).name.length ∧ (Fld.mk nm k n s t).name.length ≤ 128) = false from decide_eq_false hn]
    rfl
  have HN := Lib.hid hno
  clear hno
  rcases Int.lt_or_le (nm.length : Int) 1 with h | h
  · go_enter Try.func54, Try.ntmps54
    go_wp2_with fail
    go_ret
    exact MayIs.of HN.out (below_drewN ((Below.refl _ w).alloc (Nat.le_refl _) _) 0)
  · have h' : 128 < (nm.length : Int) := by omega
    clear hn
    go_enter Try.func54, Try.ntmps54
    go_wp2_with fail
    go_ret
    exact MayIs.of HN.out (below_drewN ((Below.refl _ w).alloc (Nat.le_refl _) _) 0)
theorem fieldOk_any (f : Fld) (A : Option Addr) (c : Nat) (w : World) (hf : Held f) (ht : f.t.length ≤ maxLen) :
    Calls Try.prog 54 #[aggF (.slice A f.t.length c) f] w (MayIs f w) := by
  obtain ⟨nm, k, n, s, t⟩ := f
  obtain ⟨h1, h2, hs⟩ := hf
  simp only [Fld.name, Fld.n, Fld.s, Fld.t] at h1 h2 hs ht
  unfold maxLen at ht
  by_cases hn : 1 ≤ nm.length ∧ nm.length ≤ 128
  · exact fieldOk_some nm s k n t A c w (by omega) (by omega) (by omega) (Lib.hid h1)
  · exact fieldOk_none nm s k n t A c w hn (by omega)
end Go.Proofs.Ytplijhhjclfhaaa
