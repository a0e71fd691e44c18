/- Contracts of package octs: the rest. -/
import Derived.Test.YtgdlgkbckblagaaOctsR
namespace Go.Proofs.Ytgdlgkbckblagaa
open Go.RowKit
set_option maxRecDepth 100000

theorem in_rest (g : Nat) (l : List UInt8) (bad : Bool) (w : World) (h : InAt w g l bad) (hs : l.length ≤ 140737488355328) :
    Calls Try.prog 34 #[.pointer (some ⟨g, 0, none⟩)] w (ReadOcts g l [] bad w) := by
  have h' := h
  obtain ⟨A, c, hw, hlc, hcm, hl⟩ := h'
  unfold maxLen at hcm
  have c0 : w.cell? ⟨g, 0, none⟩ = some (.slice A l.length c) := hw.cell 0
  have HX := Lib.hid h
  clear h hw hl
  go_enter Try.func34, Try.ntmps34
  go_wp2_with fail
  refine (take_any g l.length l _ _ HX.out).mono ?_
  rintro e w2 ⟨A, c, rfl, h1, h2, h3, h4, h5⟩
  rw [tk_yes (Nat.le_refl _), List.take_length] at h1 h3 ⊢
  rw [rst_yes (Nat.le_refl _), short_no (Nat.le_refl _), Bool.or_false, List.drop_length] at h4
  have H3 := Lib.hid h3
  have H4 := Lib.hid h4
  have H5 := Lib.hid h5
  have hlt := h4.lt
  clear h1 h2 h3 h4 h5 c0
  go_wp2_with fail
  refine (clone_any A c _ g _ H3.out (Nat.le_of_lt hlt) hs).mono ?_
  intro e w3 hn
  have D := Lib.hid (ReadOcts.of_clone H5.out H4.out hn)
  obtain ⟨v, rfl, _⟩ := hn
  go_wp2_with fail
  go_ret
  exact D.out
end Go.Proofs.Ytgdlgkbckblagaa
