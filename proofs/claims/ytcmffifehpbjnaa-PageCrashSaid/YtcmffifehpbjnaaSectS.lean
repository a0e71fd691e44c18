/- Layer 7: settle. -/
import Derived.Test.YtcmffifehpbjnaaSectR
namespace Go.Proofs.Ytcmffifehpbjnaa
open Go.RowKit Go.Maps
set_option maxRecDepth 100000
set_option linter.unusedSimpArgs false
set_option linter.unusedVariables false
/-- w' is w but for the blocks of which D tells, and new ones -/
def Only (D : Nat → Prop) (w w' : World) : Prop := Turn D w w'
section
variable {K : Nat → Prop} {w w' : World} {g : Nat} {b1 b2 b3 : Nat} {mo us le : Int} {ff : Nm → Option Value} {lf rf : Nm × Nat → Option Value}
theorem box_cells (w : World) (a b : Value) (t : TypeId) : (w.alloc (.cells #[a, b] t)).cell? ⟨w.heap.size, 0, none⟩ = some a ∧ (w.alloc (.cells #[a, b] t)).cell? ⟨w.heap.size, 1, none⟩ = some b := by
  have h := heap_alloc_new w (.cells #[a, b] t)
  exact ⟨(cell_of_row _ _ 0 _ _ _ h).trans rfl, (cell_of_row _ _ 1 _ _ _ h).trans rfl⟩
theorem Turn.after {K : Nat → Prop} {a b : World} (h : Turn K a.drew b) : Turn K a b := ⟨h.os, h.tape, h.output, h.size, h.block⟩
/-- what settle makes of what lasts -/
noncomputable def stlF (lf : Nm × Nat → Option Value) (x : Nm × Nat) (s : Sec) (what : Int) : Nm × Nat → Option Value :=
  if what = 1 then upd lf x (some (laV (s, false))) else if what = 2 then upd lf x (some (laV (zSec, true))) else lf
set_option maxHeartbeats 4000000 in
theorem settle_any (h : Raw K w g mo us le b1 b2 b3 ff lf rf) (x : Nm × Nat) (hx : plOk x) (s : Sec) (hs : rf x = some (frV s)) (L : List (Nm × Nat)) (hL : ∀ x, (lf x).isSome = true → x ∈ L) (hl : L.length < maxLen)
    (what : Int) (hw : what = 0 ∨ what = 1 ∨ what = 2) :
    Calls Try.prog 47 #[ptr g, plV x, .int .i64 what] w fun e w' => e = .returned (.tuple #[]) ∧ Raw K w' g mo us le b1 b2 b3 ff (stlF lf x s what) (upd rf x none) ∧ Turn (fun i => i = b2 ∨ i = b3) w w' := by
  have hg := h.glt
  have hb2 := h.lasts.lt
  have hb3 := h.fresh.lt
  obtain ⟨A1, hA⟩ : ∃ A1 : Obj, A1 = .cells #[.string ⟨x.1.toArray⟩, .int .i64 (x.2 : Int)] 86 := ⟨_, rfl⟩
  obtain ⟨W, hW⟩ : ∃ W, W = w.alloc A1 := ⟨_, rfl⟩
  have hB := box_cells w (.string ⟨x.1.toArray⟩) (.int .i64 (x.2 : Int)) 86
  rw [← hA, ← hW] at hB
  obtain ⟨k1, k2⟩ := hB
  have hz : W.heap.size = w.heap.size + 1 := by rw [hW]; simp
  have hBel : Below w.heap.size w W := by rw [hW]; exact (Below.refl _ w).alloc (Nat.le_refl _) _
  have R0 := h.below hBel
  have q2 : w.heap.size ≠ b2 := by omega
  have q3 : w.heap.size ≠ b3 := by omega
  obtain ⟨c0, c1, c2, c3, c4, c5⟩ := R0.cell
  rcases hw with rfl | rfl | rfl
  · -- what lasted
    obtain ⟨w2, r2, R2, t2⟩ := R0.drew.del_fr hx 0
    have hR2 := Lib.hid R2
    have hT : Hid (Turn (fun i => i = b2 ∨ i = b3) w w2) := Lib.hid ((Turn.of_below hBel).trans (turn_map (K := More (fun i => i = b2 ∨ i = b3) w) t2 (.inl (.inr rfl))).after)
    have HZ := Lib.hid hz
    subst hW
    subst hA
    unfold plV at r2 ⊢
    clear h R0 R2 t2 hs hL hl hBel hz
    go_enter Try.func47, Try.ntmps47
    go_wp2
    go_region
    all_goals
      go_wp2
      go_end0
      exact ⟨rfl, hR2.out, hT.out⟩
  · obtain ⟨w1, r1, R1, t1⟩ := R0.drew.put_la hx (.agg (csL (s, false))) L hL hl
    obtain ⟨w2, r2, R2, t2⟩ := R1.drew.del_fr hx 0
    obtain ⟨d0, d1, d2, d3, d4, d5⟩ := R1.cell
    have e1 := ((R0.drew).look_fr hx).2
    rw [hs] at e1
    simp only [Option.getD_some, frV_eq] at e1
    have e2 := sector_fold s
    have e3 := csF_size s
    have m1 := turned_box t1 q2 (show w.heap.size < W.heap.size by omega) 0
    have m2 := turned_box t1 q2 (show w.heap.size < W.heap.size by omega) 1
    have m1' : w1.cell? ⟨w.heap.size, 0, none⟩ = some (.string ⟨x.1.toArray⟩) := m1.trans k1
    have m2' : w1.cell? ⟨w.heap.size, 1, none⟩ = some (.int .i64 (x.2 : Int)) := m2.trans k2
    have hR2 := Lib.hid R2
    have hT : Hid (Turn (fun i => i = b2 ∨ i = b3) w w2) := Lib.hid (((Turn.of_below hBel).trans (turn_map (K := More (fun i => i = b2 ∨ i = b3) w) t1 (.inl (.inl rfl))).after).trans (turn_map (K := More (fun i => i = b2 ∨ i = b3) w) t2 (.inl (.inr rfl))).after)
    subst hW
    subst hA
    unfold plV at r1 r2 e1 ⊢
    clear h R0 R1 R2 t1 t2 hs hL hl hBel hz m1 m2
    go_enter Try.func47, Try.ntmps47
    go_wp2
    go_region
    all_goals
      go_wp2
      go_region
      all_goals
        go_wp2
        go_end0
        exact ⟨rfl, hR2.out, hT.out⟩
  · obtain ⟨w1, r1, R1, t1⟩ := R0.drew.put_la hx (.agg (csL (zSec, true))) L hL hl
    obtain ⟨w2, r2, R2, t2⟩ := R1.drew.del_fr hx 0
    obtain ⟨d0, d1, d2, d3, d4, d5⟩ := R1.cell
    have m1 := turned_box t1 q2 (show w.heap.size < W.heap.size by omega) 0
    have m2 := turned_box t1 q2 (show w.heap.size < W.heap.size by omega) 1
    have m1' : w1.cell? ⟨w.heap.size, 0, none⟩ = some (.string ⟨x.1.toArray⟩) := m1.trans k1
    have m2' : w1.cell? ⟨w.heap.size, 1, none⟩ = some (.int .i64 (x.2 : Int)) := m2.trans k2
    have e5 : Try.zeroCells88.setIfInBounds 64 (.bool true) = csL (zSec, true) := by kernel_rfl
    have hR2 := Lib.hid R2
    have hT : Hid (Turn (fun i => i = b2 ∨ i = b3) w w2) := Lib.hid (((Turn.of_below hBel).trans (turn_map (K := More (fun i => i = b2 ∨ i = b3) w) t1 (.inl (.inl rfl))).after).trans (turn_map (K := More (fun i => i = b2 ∨ i = b3) w) t2 (.inl (.inr rfl))).after)
    subst hW
    subst hA
    unfold plV at r1 r2 ⊢
    clear h R0 R1 R2 t1 t2 hs hL hl hBel hz m1 m2
    go_enter Try.func47, Try.ntmps47
    go_wp2
    go_region
    all_goals
      go_wp2
      go_region
      all_goals
        go_wp2
        go_end0
        exact ⟨rfl, hR2.out, hT.out⟩
end
end Go.Proofs.Ytcmffifehpbjnaa
