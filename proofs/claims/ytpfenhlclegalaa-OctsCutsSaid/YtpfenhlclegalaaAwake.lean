/- The fixed call that every statement of layer 1 asks. -/
import Derived.Test.YtpfenhlclegalaaOctsR
import Derived.Deep.RegionHeld3
namespace Go.Proofs.Ytpfenhlclegalaa
open Go.RowKit

theorem awake_lit : B8 [1, 2, 1, 97, 9] = [.int .u8 1, .int .u8 2, .int .u8 1, .int .u8 97, .int .u8 9] := rfl
theorem awake_two : B8 (be 2 258) = [.int .u8 1, .int .u8 2] := rfl
theorem awake_any (w : World) : Calls Try.prog 8 #[] w fun e w' => e = .returned (.bool true) ∧ Below w.heap.size w w' := by
  have h0 : Lies (w.alloc (.cells #[.int .u8 1, .int .u8 2, .int .u8 1, .int .u8 97, .int .u8 9] 5)) (w.heap.size + 1) (some ⟨w.heap.size, 0, none⟩) (B8 [1, 2, 1, 97, 9]) := by
    rw [awake_lit]; exact Lies.lit w 5 _
  have b0 : Below w.heap.size w (w.alloc (.cells #[.int .u8 1, .int .u8 2, .int .u8 1, .int .u8 97, .int .u8 9] 5)) := (Below.refl _ _).alloc (Nat.le_refl _) _
  have H0 := Lib.hid h0
  have B0 := Lib.hid b0
  clear h0 b0
  go_enter Try.func8, Try.ntmps8
  go_wp2_with fail
  refine (from_any (some ⟨w.heap.size, 0, none⟩) 5 [1, 2, 1, 97, 9] (w.heap.size + 1) _ H0.out (by simp) (by simp)).mono ?_
  rintro e w1 ⟨g, hg, rfl, hi, hb⟩
  have hg' : w.heap.size ≤ g := by simp at hg; omega
  have B1 := Lib.hid (B0.out.trans (hb.mono (by simp)))
  have I1 := Lib.hid hi
  clear hi hb hg
  go_wp2_with fail
  refine (in_int g 2 _ _ _ I1.out).mono ?_
  rintro e w2 ⟨rfl, hi, hb⟩
  rw [show wid 2 = 2 from rfl] at hi ⊢
  have B2 := Lib.hid (B1.out.trans (below_only hb hg' B1.out.size))
  have I2 : Hid (InAt w2 g [1, 97, 9] false) := hi
  have e2 : ((nat (tk 2 [1, 2, 1, 97, 9]) : Nat) : Int) = 258 := rfl
  rw [e2]
  clear hi hb e2
  go_wp2_with fail
  refine (in_short g _ _ _ I2.out).mono ?_
  rintro e w3 ⟨rfl, hi, hb⟩
  have B3 := Lib.hid (B2.out.trans (below_only hb hg' B2.out.size))
  have I3 : Hid (InAt w3 g [9] false) := hi
  have e2 : (txt 1 [1, 97, 9]).toArray = #[97] := rfl
  rw [e2]
  clear hi hb e2
  go_wp2_with fail
  refine (int_any none 0 [] 0 2 258 _ (Lies.empty _ _ _) (Nat.zero_le _) (by simp)).mono ?_
  rintro e w4 ⟨v, rfl, ho, hb⟩
  rw [show wid 2 = 2 from rfl] at ho
  have B4 := Lib.hid (B3.out.trans (hb.mono B3.out.size))
  have I4 := Lib.hid (I3.out.below hb I3.out.lt)
  obtain ⟨A, c, rfl, _, _⟩ := own_form ho
  have hl := Lies.own ho (Nat.le_refl _)
  rcases hl with hl | ⟨b, o, rfl, _, hc⟩
  · cases hl
  · have c0 : w4.cell? ⟨b, o, none⟩ = some (.int .u8 1) := hc 0 _ rfl
    have c1 : w4.cell? ⟨b, o + 1, none⟩ = some (.int .u8 2) := hc 1 _ rfl
    clear ho hb hc
    go_wp2_with (first
      | (go_at_call 17; refine (in_left g _ _ _ I4.out).mono ?_; rintro e w' ⟨rfl, rfl⟩)
      | (go_at_call 16; refine (in_ok g _ _ _ I4.out).mono ?_; rintro e w' ⟨rfl, rfl⟩))
    go_ret
    exact ⟨rfl, B4.out⟩
end Go.Proofs.Ytpfenhlclegalaa
