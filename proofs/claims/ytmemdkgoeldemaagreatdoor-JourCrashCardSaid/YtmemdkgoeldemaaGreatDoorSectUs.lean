/- Layer 7: how many sectors a device has, and may have. -/
import Derived.Test.YtmemdkgoeldemaaGreatDoorSectY0
namespace Go.Proofs.YtmemdkgoeldemaaGreatDoor
open Go.RowKit Go.Maps
set_option maxRecDepth 100000
set_option linter.unusedSimpArgs false
set_option linter.unusedVariables false
section
variable {K : Nat → Prop} {w : World} {g : Nat} {S : Dv} {b1 b2 b3 : Nat} {sv : Nm → Value}
set_option maxHeartbeats 1000000 in
theorem used_any (h : Dev K w g S) : Calls Tryz.prog 36 #[ptr g] w fun e w' => e = .returned (.int .i64 (S.used : Int)) ∧ w = w' := by
  obtain ⟨h0, b1, b2, b3, sv, h⟩ := h
  obtain ⟨c0, c1, c2, c3, c4, c5⟩ := h.cell
  go_enter Tryz.func36, Tryz.ntmps36
  go_wp2
  go_ret
  exact ⟨rfl, rfl⟩
set_option maxHeartbeats 1000000 in
theorem most_any (h : Dev K w g S) : Calls Tryz.prog 73 #[ptr g] w fun e w' => e = .returned (.int .i64 (S.most : Int)) ∧ w = w' := by
  obtain ⟨h0, b1, b2, b3, sv, h⟩ := h
  obtain ⟨c0, c1, c2, c3, c4, c5⟩ := h.cell
  go_enter Tryz.func73, Tryz.ntmps73
  go_wp2
  go_ret
  exact ⟨rfl, rfl⟩
end
section
variable {B g : Nat} {X : Nat → Prop} {w0 W : World} {S : Dv}
theorem at_used (h : At B X w0 g S W) (c : Nat) (hc : S.used = c) : Calls Tryz.prog 36 #[ptr g] W fun e w' => e = .returned (.int .i64 (c : Int)) ∧ W = w' := by
  rw [← hc]; exact used_any h.dev
theorem at_most (h : At B X w0 g S W) (c : Nat) (hc : S.most = c) : Calls Tryz.prog 73 #[ptr g] W fun e w' => e = .returned (.int .i64 (c : Int)) ∧ W = w' := by
  rw [← hc]; exact most_any h.dev
end
end Go.Proofs.YtmemdkgoeldemaaGreatDoor
