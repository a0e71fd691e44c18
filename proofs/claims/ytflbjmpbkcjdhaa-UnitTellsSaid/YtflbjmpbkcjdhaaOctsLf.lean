/- Contracts of package octs: how many octets are left. -/
import Derived.Test.YtflbjmpbkcjdhaaOctsR
namespace Go.Proofs.Ytflbjmpbkcjdhaa
open Go.RowKit
set_option maxRecDepth 100000

theorem in_left (g : Nat) (l : List UInt8) (bad : Bool) (w : World) (h : InAt w g l bad) :
    Calls Try.prog 32 #[.pointer (some ⟨g, 0, none⟩)] w fun e w' => e = .returned (.int .i64 l.length) ∧ w = w' := by
  obtain ⟨A, c, hw, hlc, hcm, hl⟩ := h
  have c0 : w.cell? ⟨g, 0, none⟩ = some (.slice A l.length c) := hw.cell 0
  clear hw hl
  go_enter Try.func32, Try.ntmps32
  go_wp2_with fail
  go_ret
  exact ⟨rfl, rfl⟩
end Go.Proofs.Ytflbjmpbkcjdhaa
