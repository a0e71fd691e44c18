/- Contracts of package octs: texts and rests that are read. -/
import Derived.Test.YtflbjmpbkcjdhaaOctsS
namespace Go.Proofs.Ytflbjmpbkcjdhaa
open Go.RowKit
set_option maxRecDepth 100000

theorem InAt.below {w w' : World} {g B : Nat} {l : List UInt8} {bad : Bool} (h : InAt w g l bad) (hb : Below B w w') (hg : g < B) : InAt w' g l bad := by
  obtain ⟨A, c, h1, h2, h3, h4⟩ := h
  exact ⟨A, c, h1.below hb hg, h2, h3, h4.below (hb.mono (by omega))⟩
theorem InAt.lt {w : World} {g : Nat} {l : List UInt8} {bad : Bool} (h : InAt w g l bad) : g < w.heap.size := by
  obtain ⟨A, c, h1, _⟩ := h
  exact h1.lt

def ReadShort (g : Nat) (l : List UInt8) (bad : Bool) (w : World) (e : Ending) (w' : World) : Prop :=
  e = .returned (.string ⟨(txt 1 l).toArray⟩) ∧ InAt w' g (txtRest 1 l) (bad || txtShort 1 l) ∧ w.grownBy w' (some g)
theorem in_short (g : Nat) (l : List UInt8) (bad : Bool) (w : World) (h : InAt w g l bad) :
    Calls Try.prog 41 #[.pointer (some ⟨g, 0, none⟩)] w (ReadShort g l bad w) := by
  have H := Lib.hid h
  clear h
  go_enter Try.func41, Try.ntmps41
  go_wp2_with fail
  refine (in_int g 1 l bad _ H.out).mono ?_
  rintro e w1 ⟨rfl, h1, h2⟩
  rw [show wid 1 = 1 from rfl] at h1 ⊢
  have H1 := Lib.hid h1
  have H2 := Lib.hid h2
  clear h1 h2
  go_wp2_with fail
  refine (take_any g (nat (tk 1 l)) (rst 1 l) _ _ H1.out).mono ?_
  rintro e w2 ⟨A, c, rfl, h1, h2, h3, h4, h5⟩
  have cv := run_octets_string (P := Try.prog) 22 9 5 Try.underlying22 Try.underlying5 Try.underlying9 h3 c
  have DONE : Hid (ReadShort g l bad w (.returned (.string ⟨(tk (nat (tk 1 l)) (rst 1 l)).toArray⟩)) w2) := ⟨rfl, by rw [Bool.or_assoc] at h4; exact h4, only_trans H2.out h5⟩
  clear h1 h2 h3 h4 h5
  go_wp2_with fail
  go_ret
  exact DONE.out

def ReadOcts (g : Nat) (t rest : List UInt8) (bad : Bool) (w : World) (e : Ending) (w' : World) : Prop :=
  ∃ v, e = .returned v ∧ w'.ownsRow w.heap.size 5 1 v t.length (B8 t) ∧ InAt w' g rest bad ∧ w.grownBy w' (some g)
theorem ReadOcts.of_clone {g : Nat} {t rest : List UInt8} {bad : Bool} {w w1 w2 : World} {e : Ending} (hg : w.grownBy w1 (some g)) (hi : InAt w1 g rest bad) (h : NewOcts w1.heap.size t w1 e w2) : ReadOcts g t rest bad w e w2 := by
  obtain ⟨v, rfl, h1, h2⟩ := h
  refine ⟨v, rfl, ?_, hi.below h2 hi.lt, only_trans hg (only_below h2 _)⟩
  refine ⟨h1.1, ?_⟩
  rcases h1.2 with h | ⟨b, cap, cur, hv, hb, rest⟩
  · exact .inl h
  · exact .inr ⟨b, cap, cur, hv, Nat.le_trans hg.size hb, rest⟩

theorem in_ok (g : Nat) (l : List UInt8) (bad : Bool) (w : World) (h : InAt w g l bad) :
    Calls Try.prog 43 #[.pointer (some ⟨g, 0, none⟩)] w fun e w' => e = .returned (.bool (!bad)) ∧ w = w' := by
  obtain ⟨A, c, hw, hlc, hcm, hl⟩ := h
  have c1 : w.cell? ⟨g, 1, none⟩ = some (.bool bad) := hw.cell 1
  clear hw hl
  go_enter Try.func43, Try.ntmps43
  go_wp2_with fail
  go_ret
  exact ⟨rfl, rfl⟩
theorem ret_bool {a b : Bool} (h : a = b) : Ending.returned (.bool a) = .returned (.bool b) := by rw [h]
theorem beq_decide (l l' : List UInt8) : (l == l') = decide (l = l') := by rw [Bool.eq_iff_iff]; simp
end Go.Proofs.Ytflbjmpbkcjdhaa
