/- Layer 7: what Make, Write, Drop, Sync refuse. -/
import Derived.Test.YtcmffifehpbjnaaSectG
namespace Go.Proofs.Ytcmffifehpbjnaa
open Go.RowKit Go.Maps
set_option maxRecDepth 100000
set_option linter.unusedSimpArgs false
set_option linter.unusedVariables false
section
variable {K : Nat → Prop} {w w' : World} {g : Nat} {b1 b2 b3 : Nat} {S : Dv} {sv : Nm → Value}
set_option maxHeartbeats 4000000 in
theorem make_power (h : DevAt K w g S b1 b2 b3 sv) (nm : Nm) (hp : S.left = 0) :
    Calls Try.prog 29 #[ptr g, nmV nm] w fun e w' => e = .returned (.int .i64 8) ∧ Below w.heap.size w w' := by
  have hcut : (S.left == 0) = true := by simpa using hp
  have HH := Lib.hid h
  unfold nmV
  clear h hp
  go_enter Try.func29, Try.ntmps29
  go_wp2_with (go_at_call 49; go_must (refine (cut_any HH.out).mono ?_); rintro e w' ⟨rfl, rfl⟩)
  go_ret
  exact ⟨rfl, Below.refl _ _⟩
set_option maxHeartbeats 4000000 in
theorem make_arg (h : DevAt K w g S b1 b2 b3 sv) (nm : Nm) (hn : nm.length ≤ maxLen) (hp : S.left ≠ 0) (ha : ¬ (1 ≤ nm.length ∧ nm.length ≤ 20)) :
    Calls Try.prog 29 #[ptr g, nmV nm] w fun e w' => e = .returned (.int .i64 1) ∧ Below w.heap.size w w' := by
  have hcut : (S.left == 0) = false := by simpa using hp
  have HH := Lib.hid h
  unfold maxLen at hn
  have hn2 : (⟨nm.toArray⟩ : ByteArray).size ≤ 9223372036854775807 := by show nm.toArray.size ≤ _; simp; omega
  unfold nmV
  rcases (show nm.length = 0 ∨ (1 ≤ nm.length ∧ 20 < nm.length) by omega) with h0 | ⟨h1, h2⟩
  · have he : nm = [] := List.eq_nil_of_length_eq_zero h0
    subst he
    clear h hp ha h0
    go_enter Try.func29, Try.ntmps29
    go_wp2_with (go_at_call 49; go_must (refine (cut_any HH.out).mono ?_); rintro e w' ⟨rfl, rfl⟩)
    go_ret
    exact ⟨rfl, Below.refl _ _⟩
  · have hne : nm.isEmpty = false := by cases nm with
      | nil => simp at h1
      | cons a b => rfl
    have h20' : decide (20 < (nm.length : Int)) = true := by simp; omega
    clear h hp ha
    go_enter Try.func29, Try.ntmps29
    go_wp2_with (go_at_call 49; go_must (refine (cut_any HH.out).mono ?_); rintro e w' ⟨rfl, rfl⟩)
    go_ret
    exact ⟨rfl, Below.refl _ _⟩
set_option maxHeartbeats 4000000 in
theorem make_there (h : DevAt K w g S b1 b2 b3 sv) (nm : Nm) (h1 : 1 ≤ nm.length) (h20 : nm.length ≤ 20) (F : Fil) (hf : fnd S.fs nm = some F) (hp : S.left ≠ 0) :
    Calls Try.prog 29 #[ptr g, nmV nm] w fun e w' => e = .returned (.int .i64 9) ∧ Below w.heap.size w w' := by
  have hn : nm.length ≤ maxLen := by unfold maxLen; omega
  obtain ⟨c0, c1, c2, c3, c4, c5⟩ := h.cell
  have hg := h.glt
  have e1 := (h.raw.look_fl hn).1
  rw [hf] at e1
  simp only [Option.map_some, Option.getD_some, Option.isSome_some, flV] at e1
  obtain ⟨sa, sc, hsv, hsc1, hsc2⟩ := own_form (h.rows nm F hf).1
  rw [hsv] at e1
  obtain ⟨n, hnn⟩ : ∃ n, n = F.l.length := ⟨_, rfl⟩
  obtain ⟨sl, hsl⟩ : ∃ sl, sl = F.wr.length := ⟨_, rfl⟩
  rw [← hnn, ← hsl] at e1
  have HH := Lib.hid h
  have hcut : (S.left == 0) = false := by simpa using hp
  have hne : nm.isEmpty = false := by cases nm with
    | nil => simp at h1
    | cons a b => rfl
  have h20' : decide (20 < (nm.length : Int)) = false := by simp; omega
  unfold nmV at e1 ⊢
  clear h hf hp hnn hsl hsv
  go_enter Try.func29, Try.ntmps29
  go_wp2_with (go_at_call 49; go_must (refine (cut_any HH.out).mono ?_); rintro e w' ⟨rfl, rfl⟩)
  go_ret
  exact ⟨rfl, (Below.refl _ _).alloc (Nat.le_refl _) _⟩
set_option maxHeartbeats 4000000 in
theorem drop_power (h : DevAt K w g S b1 b2 b3 sv) (nm : Nm) (hp : S.left = 0) :
    Calls Try.prog 52 #[ptr g, nmV nm] w fun e w' => e = .returned (.int .i64 8) ∧ Below w.heap.size w w' := by
  have hcut : (S.left == 0) = true := by simpa using hp
  have HH := Lib.hid h
  unfold nmV
  clear h hp
  go_enter Try.func52, Try.ntmps52
  go_wp2_with (go_at_call 49; go_must (refine (cut_any HH.out).mono ?_); rintro e w' ⟨rfl, rfl⟩)
  go_ret
  exact ⟨rfl, Below.refl _ _⟩
set_option maxHeartbeats 4000000 in
theorem sync_power (h : DevAt K w g S b1 b2 b3 sv) (nm : Nm) (hp : S.left = 0) :
    Calls Try.prog 32 #[ptr g, nmV nm] w fun e w' => e = .returned (.int .i64 8) ∧ Below w.heap.size w w' := by
  have hcut : (S.left == 0) = true := by simpa using hp
  have HH := Lib.hid h
  unfold nmV
  clear h hp
  go_enter Try.func32, Try.ntmps32
  go_wp2_with (go_at_call 49; go_must (refine (cut_any HH.out).mono ?_); rintro e w' ⟨rfl, rfl⟩)
  go_ret
  exact ⟨rfl, Below.refl _ _⟩
set_option maxHeartbeats 4000000 in
theorem write_power (h : DevAt K w g S b1 b2 b3 sv) (nm : Nm) (k : Int) (x : Sec) (hp : S.left = 0) :
    Calls Try.prog 30 #[ptr g, nmV nm, .int .i64 k, .agg (csF x)] w fun e w' => e = .returned (.int .i64 8) ∧ Below w.heap.size w w' := by
  have hcut : (S.left == 0) = true := by simpa using hp
  have HH := Lib.hid (h.alloc (.cells (csF x) 64))
  unfold nmV
  clear h hp
  go_enter Try.func30, Try.ntmps30
  go_wp2_with (go_at_call 49; go_must (refine (cut_any HH.out).mono ?_); rintro e w' ⟨rfl, rfl⟩)
  go_ret
  exact ⟨rfl, (Below.refl _ _).alloc (Nat.le_refl _) _⟩
set_option maxHeartbeats 4000000 in
theorem drop_none (h : DevAt K w g S b1 b2 b3 sv) (nm : Nm) (hn : nm.length ≤ maxLen) (hf : fnd S.fs nm = none) (hp : S.left ≠ 0) :
    Calls Try.prog 52 #[ptr g, nmV nm] w fun e w' => e = .returned (.int .i64 10) ∧ Below w.heap.size w w' := by
  obtain ⟨c0, c1, c2, c3, c4, c5⟩ := h.cell
  have hg := h.glt
  have e1 := (h.raw.look_fl hn).1
  rw [hf] at e1
  simp only [Option.map_none, Option.getD_none, Option.isSome_none, flV] at e1
  have HH := Lib.hid h
  have hcut : (S.left == 0) = false := by simpa using hp
  unfold nmV at e1 ⊢
  clear h hf hp
  go_enter Try.func52, Try.ntmps52
  go_wp2_with (go_at_call 49; go_must (refine (cut_any HH.out).mono ?_); rintro e w' ⟨rfl, rfl⟩)
  go_ret
  exact ⟨rfl, (Below.refl _ _).alloc (Nat.le_refl _) _⟩
set_option maxHeartbeats 4000000 in
theorem sync_none (h : DevAt K w g S b1 b2 b3 sv) (nm : Nm) (hn : nm.length ≤ maxLen) (hf : fnd S.fs nm = none) (hp : S.left ≠ 0) :
    Calls Try.prog 32 #[ptr g, nmV nm] w fun e w' => e = .returned (.int .i64 10) ∧ Below w.heap.size w w' := by
  obtain ⟨c0, c1, c2, c3, c4, c5⟩ := h.cell
  have hg := h.glt
  have e1 := (h.raw.look_fl hn).1
  rw [hf] at e1
  simp only [Option.map_none, Option.getD_none, Option.isSome_none, flV] at e1
  have HH := Lib.hid h
  have hcut : (S.left == 0) = false := by simpa using hp
  unfold nmV at e1 ⊢
  clear h hf hp
  go_enter Try.func32, Try.ntmps32
  go_wp2_with (go_at_call 49; go_must (refine (cut_any HH.out).mono ?_); rintro e w' ⟨rfl, rfl⟩)
  go_ret
  exact ⟨rfl, (Below.refl _ _).alloc (Nat.le_refl _) _⟩
set_option maxHeartbeats 4000000 in
theorem write_none (h : DevAt K w g S b1 b2 b3 sv) (nm : Nm) (hn : nm.length ≤ maxLen) (k : Int) (x : Sec) (hf : fnd S.fs nm = none) (hp : S.left ≠ 0) :
    Calls Try.prog 30 #[ptr g, nmV nm, .int .i64 k, .agg (csF x)] w fun e w' => e = .returned (.int .i64 10) ∧ Below w.heap.size w w' := by
  have hA := h.alloc (.cells (csF x) 64)
  obtain ⟨c0, c1, c2, c3, c4, c5⟩ := h.cell
  have hg := h.glt
  have e1 := (hA.raw.look_fl hn).1
  rw [hf] at e1
  simp only [Option.map_none, Option.getD_none, Option.isSome_none, flV] at e1
  have HH := Lib.hid hA
  have hcut : (S.left == 0) = false := by simpa using hp
  unfold nmV at e1 ⊢
  clear h hA hf hp
  go_enter Try.func30, Try.ntmps30
  go_wp2_with (go_at_call 49; go_must (refine (cut_any HH.out).mono ?_); rintro e w' ⟨rfl, rfl⟩)
  go_ret
  exact ⟨rfl, ((Below.refl _ _).alloc (Nat.le_refl _) _).alloc (by simp) _⟩
set_option maxHeartbeats 4000000 in
theorem write_arg (h : DevAt K w g S b1 b2 b3 sv) (nm : Nm) (hn : nm.length ≤ maxLen) (k : Int) (x : Sec) (F : Fil) (hf : fnd S.fs nm = some F) (hp : S.left ≠ 0) (hk : k < 0 ∨ (F.l.length : Int) < k) :
    Calls Try.prog 30 #[ptr g, nmV nm, .int .i64 k, .agg (csF x)] w fun e w' => e = .returned (.int .i64 1) ∧ Below w.heap.size w w' := by
  have hA := h.alloc (.cells (csF x) 64)
  obtain ⟨c0, c1, c2, c3, c4, c5⟩ := h.cell
  have hg := h.glt
  have e1 := (hA.raw.look_fl hn).1
  rw [hf] at e1
  simp only [Option.map_some, Option.getD_some, Option.isSome_some, flV] at e1
  obtain ⟨sa, sc, hsv, hsc1, hsc2⟩ := own_form (h.rows nm F hf).1
  rw [hsv] at e1
  obtain ⟨n, hnn⟩ : ∃ n, n = F.l.length := ⟨_, rfl⟩
  obtain ⟨sl, hsl⟩ : ∃ sl, sl = F.wr.length := ⟨_, rfl⟩
  rw [← hnn] at hk
  rw [← hnn, ← hsl] at e1
  have HH := Lib.hid hA
  have hcut : (S.left == 0) = false := by simpa using hp
  unfold nmV at e1 ⊢
  clear h hA hf hp hnn hsl hsv
  rcases (show k < 0 ∨ (¬ k < 0 ∧ (n : Int) < k) by omega) with hk | ⟨hk, hk2⟩
  · go_enter Try.func30, Try.ntmps30
    go_wp2_with (go_at_call 49; go_must (refine (cut_any HH.out).mono ?_); rintro e w' ⟨rfl, rfl⟩)
    go_ret
    exact ⟨rfl, ((Below.refl _ _).alloc (Nat.le_refl _) _).alloc (by simp) _⟩
  · go_enter Try.func30, Try.ntmps30
    go_wp2_with (go_at_call 49; go_must (refine (cut_any HH.out).mono ?_); rintro e w' ⟨rfl, rfl⟩)
    go_ret
    exact ⟨rfl, ((Below.refl _ _).alloc (Nat.le_refl _) _).alloc (by simp) _⟩
set_option maxHeartbeats 4000000 in
theorem write_full (h : DevAt K w g S b1 b2 b3 sv) (nm : Nm) (hn : nm.length ≤ maxLen) (j : Nat) (x : Sec) (F : Fil) (hf : fnd S.fs nm = some F) (hp : S.left ≠ 0) (hj : j = F.l.length) (hu : S.most ≤ S.used) :
    Calls Try.prog 30 #[ptr g, nmV nm, .int .i64 (j : Int), .agg (csF x)] w fun e w' => e = .returned (.int .i64 6) ∧ Below w.heap.size w w' := by
  have hA := h.alloc (.cells (csF x) 64)
  obtain ⟨c0, c1, c2, c3, c4, c5⟩ := h.cell
  have hg := h.glt
  have e1 := (hA.raw.look_fl hn).1
  rw [hf] at e1
  simp only [Option.map_some, Option.getD_some, Option.isSome_some, flV] at e1
  obtain ⟨sa, sc, hsv, hsc1, hsc2⟩ := own_form (h.rows nm F hf).1
  rw [hsv] at e1
  obtain ⟨sl, hsl⟩ : ∃ sl, sl = F.wr.length := ⟨_, rfl⟩
  rw [← hj, ← hsl] at e1
  have HH := Lib.hid hA
  have hcut : (S.left == 0) = false := by simpa using hp
  have hu2 : decide (S.most ≤ S.used) = true := by simp; omega
  have hjj : ((j : Int) == (j : Int)) = true := by simp
  unfold nmV at e1 ⊢
  clear h hA hf hp hsl hsv hj
  go_enter Try.func30, Try.ntmps30
  go_wp2_with (go_at_call 49; go_must (refine (cut_any HH.out).mono ?_); rintro e w' ⟨rfl, rfl⟩)
  go_quiet (fail)
  go_wp2
  go_ret
  exact ⟨rfl, (((Below.refl _ _).alloc (Nat.le_refl _) _).alloc (by simp) _).trans ⟨rfl, rfl, rfl, Nat.le_refl _, fun _ _ => rfl⟩⟩
end
end Go.Proofs.Ytcmffifehpbjnaa
