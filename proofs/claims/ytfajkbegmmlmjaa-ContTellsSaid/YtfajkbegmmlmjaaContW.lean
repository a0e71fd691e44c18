/- Contracts of package cont: a head's flags, its octets. -/
import Derived.Test.YtfajkbegmmlmjaaContS
import Derived.Test.YtfajkbegmmlmjaaOctsR
import Derived.Test.YtfajkbegmmlmjaaWords2
namespace Go.Proofs.Ytfajkbegmmlmjaa
open Go.RowKit
set_option maxRecDepth 100000
set_option linter.unusedSimpArgs false
set_option linter.unusedVariables false

/-- a text as a value, and a head as one -/
def strV (t : List UInt8) : Value := .string ⟨t.toArray⟩
def headV (s : Nat) (m : Int) (t : List UInt8) : Value := .agg #[.int .u64 s, .int .i64 m, .string ⟨t.toArray⟩]
theorem not_empty {t : List UInt8} (h : t ≠ []) : t.isEmpty = false := by
  cases t
  · exact absurd rfl h
  · rfl
theorem flags_any (s : Nat) (m : Int) (t : List UInt8) (w : World) :
    Calls Try.prog 25 #[headV s m t] w fun e w' => e = .returned (.int .u64 (hflags t m)) ∧ Below w.heap.size w w' := by
  obtain ⟨W, hW⟩ : ∃ W, W = w.alloc (.cells #[.int .u64 s, .int .i64 m, .string ⟨t.toArray⟩] 25) := ⟨_, rfl⟩
  have hb : Below w.heap.size w W := by rw [hW]; exact (Below.refl _ _).alloc (Nat.le_refl _) _
  have HB := Lib.hid hb
  have HW := Lib.hid hW
  clear hb hW
  unfold headV
  by_cases ht : t = []
  · subst ht
    by_cases hm : m = 0
    · subst hm
      go_enter Try.func25, Try.ntmps25
      go_wp2_with fail
      go_ret
      exact ⟨rfl, by rw [← HW.out]; exact HB.out⟩
    · have D : Hid (hflags [] m = 4096) := Lib.hid (by unfold hflags; rw [if_pos rfl, if_neg hm])
      go_enter Try.func25, Try.ntmps25
      go_wp2_with fail
      go_ret
      exact ⟨by rw [D.out]; rfl, by rw [← HW.out]; exact HB.out⟩
  · have hs := not_empty ht
    by_cases hm : m = 0
    · subst hm
      have D : Hid (hflags t 0 = 32768) := Lib.hid (by unfold hflags; rw [if_neg ht, if_pos rfl])
      go_enter Try.func25, Try.ntmps25
      go_wp2_with fail
      go_ret
      exact ⟨by rw [D.out]; rfl, by rw [← HW.out]; exact HB.out⟩
    · have D : Hid (hflags t m = 36864) := Lib.hid (by unfold hflags; rw [if_neg ht, if_neg hm])
      go_enter Try.func25, Try.ntmps25
      go_wp2_with fail
      go_ret
      exact ⟨by rw [D.out]; rfl, by rw [← HW.out]; exact HB.out⟩
end Go.Proofs.Ytfajkbegmmlmjaa
