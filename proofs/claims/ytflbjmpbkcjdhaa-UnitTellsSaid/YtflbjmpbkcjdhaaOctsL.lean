/- Contracts of package octs: long texts that are read. -/
import Derived.Test.YtflbjmpbkcjdhaaOctsR
namespace Go.Proofs.Ytflbjmpbkcjdhaa
open Go.RowKit
set_option maxRecDepth 100000

theorem in_long (g : Nat) (l : List UInt8) (bad : Bool) (w : World) (h : InAt w g l bad) (hs : l.length ≤ 140737488355328) :
    Calls Try.prog 42 #[.pointer (some ⟨g, 0, none⟩)] w (ReadOcts g (txt 4 l) (txtRest 4 l) (bad || txtShort 4 l) w) := by
  have H := Lib.hid h
  clear h
  go_enter Try.func42, Try.ntmps42
  go_wp2_with fail
  refine (in_int g 4 l bad _ H.out).mono ?_
  rintro e w1 ⟨rfl, h1, h2⟩
  rw [show wid 4 = 4 from rfl] at h1 ⊢
  have H1 := Lib.hid h1
  have H2 := Lib.hid h2
  clear h1 h2
  go_wp2_with fail
  refine (take_any g (nat (tk 4 l)) (rst 4 l) _ _ H1.out).mono ?_
  rintro e w2 ⟨A, c, rfl, h1, h2, h3, h4, h5⟩
  have H3 := Lib.hid h3
  have H4 : Hid (InAt w2 g (txtRest 4 l) (bad || txtShort 4 l)) := by rw [Bool.or_assoc] at h4; exact h4
  have H5 := Lib.hid (only_trans H2.out h5)
  have hlt := H4.out.lt
  have htx : (tk (nat (tk 4 l)) (rst 4 l)).length ≤ 140737488355328 := Nat.le_trans (txt_sub 4 l) hs
  have HT := Lib.hid htx
  clear h1 h2 h3 h4 h5 htx
  go_wp2_with fail
  refine (clone_any A c _ g _ H3.out (Nat.le_of_lt hlt) HT.out).mono ?_
  intro e w3 hn
  have D := Lib.hid (ReadOcts.of_clone H5.out H4.out hn)
  obtain ⟨v, rfl, _⟩ := hn
  go_wp2_with fail
  go_ret
  exact D.out
end Go.Proofs.Ytflbjmpbkcjdhaa
