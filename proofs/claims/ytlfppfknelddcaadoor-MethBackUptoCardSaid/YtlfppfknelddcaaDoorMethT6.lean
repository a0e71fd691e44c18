/- Contracts of the reader of package meth: a part, long. -/
import Derived.Test.YtlfppfknelddcaaDoorOctsL
import Derived.Test.YtlfppfknelddcaaDoorMethT5
import Derived.Test.YtlfppfknelddcaaDoorOctsR
namespace Go.Proofs.YtlfppfknelddcaaDoor
open Go.RowKit
set_option maxRecDepth 100000
set_option linter.unusedSimpArgs false
set_option linter.unusedVariables false

set_option maxHeartbeats 2000000 in
theorem rpart_l (g gi gm : Nat) (c i : Int) (st : RS) (vN vS vF vT : Value) (lo hi : Nat) (k : Nat) (w : World) (h : RAt w g gi gm c i st vN vS vF vT lo hi) (hs : st.p.s.length ≤ 1000) (hs2 : st.b.length ≤ 140737488355328) :
    Calls Tryd.prog 46 #[.pointer (some ⟨g, 0, none⟩), .int .u8 108, .int .i64 k] w (ReadsE g gi gm c i (rstep 108 k st) w) := by
  obtain ⟨i0, hi0, hz0, hz1, hz2⟩ := info_parts string_info
  have GI := Lib.hid hi0
  have G0 := Lib.hid hz0
  have G1 := Lib.hid hz1
  have G2 := Lib.hid hz2
  obtain ⟨X, hX⟩ : ∃ X, X = txt 4 st.b := ⟨_, rfl⟩
  obtain ⟨R, hR⟩ : ∃ R, R = txtRest 4 st.b := ⟨_, rfl⟩
  obtain ⟨bd, hbd⟩ : ∃ bd, bd = (st.bad || txtShort 4 st.b) := ⟨_, rfl⟩
  obtain ⟨T, hT⟩ : ∃ T, T = rstep 108 k st := ⟨_, rfl⟩
  rw [← hT]
  have he : rstep 108 k st = { st with b := R, bad := bd, p := st.p.app (pS X) } := by
    unfold rstep
    rw [if_neg (by decide), if_pos rfl]
    rw [← hX, ← hR, ← hbd]
  have E := Lib.hid (hT.trans he)
  obtain ⟨AX, cX, rfl, _, hcm⟩ := own_form h.s
  obtain ⟨n, hn⟩ : ∃ n, n = st.p.s.length := ⟨_, rfl⟩
  rw [← hn] at h
  have HIN : Hid (InAt w.drew gi st.b st.bad) := Lib.hid h.drew.in_
  have S0 := Lib.hid h.drew.rs0
  have m4 : w.drew.cell? ⟨gm, 3, none⟩ = some (.slice AX n cX) := h.m.cell 3
  have m4' : w.cell? ⟨gm, 3, none⟩ = some (.slice AX n cX) := h.m.cell 3
  have ADS : Hid (∀ w1, InAt w1 gi R bd → w.drew.grownBy w1 (some gi) → Adds g gi gm 3 9 (.slice AX n cX) n (cellsS st.p.s) (St X) w1 (fun w' => ReadsE g gi gm c i { st with b := R, bad := bd, p := st.p.app (pS X) } w (.returned (.tuple #[])) w')) := Lib.hid (fun w1 hin hg1 => by
    obtain ⟨k1, k2⟩ := h.drew.read hg1 hin
    exact adds_s k1 hn ((Below.refl _ w).drew.trans k2) X)
  have N1 : Hid (n + 1 ≤ maxLen) := Lib.hid (by unfold maxLen; omega)
  have N2 : Hid ((n + 1) * 16 ≤ 140737488355328) := Lib.hid (by omega)
  have HX := Lib.hid hX
  have HR := Lib.hid hR
  have HBD := Lib.hid hbd
  clear hi0 hz0 hz1 hz2 h hX hR hbd hT he hn hcm
  go_enter Tryd.func46, Tryd.ntmps46
  go_wp2_with fail
  refine wp_region_held_drew (S := RS0 g gi gm) (by kernel_rfl) S0.out (fun hS0 => ?_)
  refine wpAnyH_take (i := 0) (oi := ⟨some 54, _, _, _, _, _⟩) (v := ?_) rfl (by kernel_rfl) (by kernel_rfl) (by kernel_rfl) (fun _ _ _ h => h) (Or.inl ⟨by rfl, ?_⟩) (by assumption) ?_
  rotate_left
  · (intro wS hSw; obtain ⟨hSa, hSb⟩ := hSw; go_simp); all_goals (with_reducible rfl)
  simp only [Act.put, List.setIfInBounds_toArray, List.set_cons_zero, List.set_cons_succ]
  refine wpAnyH_take (i := 1) (oi := ⟨some 55, _, _, _, _, _⟩) (v := ?_) rfl (by kernel_rfl) (by kernel_rfl) (by kernel_rfl) (fun _ _ _ h => h) (Or.inl ⟨by rfl, ?_⟩) (by assumption) ?_
  rotate_left
  · (intro wS hSw; obtain ⟨hSa, hSb⟩ := hSw; go_simp); all_goals (with_reducible rfl)
  simp only [Act.put, List.setIfInBounds_toArray, List.set_cons_zero, List.set_cons_succ]
  refine wpAnyH_take (i := 2) (oi := ⟨some 56, _, _, _, _, _⟩) (v := ?_) rfl (by kernel_rfl) (by kernel_rfl) (by kernel_rfl) (fun _ _ _ h => h) (Or.inl ⟨by rfl, ?_⟩) (by assumption) ?_
  rotate_left
  · (intro wS hSw; obtain ⟨hSa, hSb⟩ := hSw; go_simp); all_goals (with_reducible rfl)
  simp only [Act.put, List.setIfInBounds_toArray, List.set_cons_zero, List.set_cons_succ]
  refine wpAnyH_take (i := 3) (oi := ⟨some 57, _, _, _, _, _⟩) (v := ?_) rfl (by kernel_rfl) (by kernel_rfl) (by kernel_rfl) (fun _ _ _ h => h) (Or.inl ⟨by rfl, ?_⟩) (by assumption) ?_
  rotate_left
  · (intro wS hSw; obtain ⟨hSa, hSb⟩ := hSw; go_simp); all_goals (with_reducible rfl)
  simp only [Act.put, List.setIfInBounds_toArray, List.set_cons_zero, List.set_cons_succ]
  refine wpAnyH_take (i := 4) (oi := ⟨some 58, _, _, _, _, _⟩) (v := ?_) rfl (by kernel_rfl) (by kernel_rfl) (by kernel_rfl) (fun _ _ _ h => h) (Or.inl ⟨by rfl, ?_⟩) (by assumption) ?_
  rotate_left
  · (intro wS hSw; obtain ⟨hSa, hSb⟩ := hSw; go_simp); all_goals (with_reducible rfl)
  simp only [Act.put, List.setIfInBounds_toArray, List.set_cons_zero, List.set_cons_succ]
  refine wpAnyH_take (i := 5) (oi := ⟨some 59, _, _, _, _, _⟩) (v := ?_) rfl (by kernel_rfl) (by kernel_rfl) (by kernel_rfl) (fun _ _ _ h => h) (Or.inl ⟨by rfl, ?_⟩) (by assumption) ?_
  rotate_left
  · (intro wS hSw; obtain ⟨hSa, hSb⟩ := hSw; go_simp); all_goals (with_reducible rfl)
  simp only [Act.put, List.setIfInBounds_toArray, List.set_cons_zero, List.set_cons_succ]
  refine wpAnyH_take (i := 6) (oi := ⟨some 60, _, _, _, _, _⟩) (v := ?_) rfl (by kernel_rfl) (by kernel_rfl) (by kernel_rfl) (fun _ _ _ h => h) (Or.inl ⟨by rfl, ?_⟩) (by assumption) ?_
  rotate_left
  · (intro wS hSw; obtain ⟨hSa, hSb⟩ := hSw; go_simp); all_goals (with_reducible rfl)
  simp only [Act.put, List.setIfInBounds_toArray, List.set_cons_zero, List.set_cons_succ]
  refine wpAnyH_take (i := 7) (oi := ⟨some 61, _, _, _, _, _⟩) (v := ?_) rfl (by kernel_rfl) (by kernel_rfl) (by kernel_rfl) (fun _ _ _ h => h) (Or.inl ⟨by rfl, ?_⟩) (by assumption) ?_
  rotate_left
  · (intro wS hSw; obtain ⟨hSa, hSb⟩ := hSw; go_simp); all_goals (with_reducible rfl)
  simp only [Act.put, List.setIfInBounds_toArray, List.set_cons_zero, List.set_cons_succ]
  refine wpAnyH_take (i := 8) (oi := ⟨some 62, _, _, _, _, _⟩) (v := ?_) rfl (by kernel_rfl) (by kernel_rfl) (by kernel_rfl) (fun _ _ _ h => h) (Or.inl ⟨by rfl, ?_⟩) (by assumption) ?_
  rotate_left
  · (intro wS hSw; obtain ⟨hSa, hSb⟩ := hSw; go_simp); all_goals (with_reducible rfl)
  simp only [Act.put, List.setIfInBounds_toArray, List.set_cons_zero, List.set_cons_succ]
  refine wpAnyH_take (i := 9) (oi := ⟨some 63, _, _, _, _, _⟩) (v := ?_) rfl (by kernel_rfl) (by kernel_rfl) (by kernel_rfl) (fun _ _ _ h => h) (Or.inl ⟨by rfl, ?_⟩) (by assumption) ?_
  rotate_left
  · (intro wS hSw; obtain ⟨hSa, hSb⟩ := hSw; go_simp); all_goals (with_reducible rfl)
  simp only [Act.put, List.setIfInBounds_toArray, List.set_cons_zero, List.set_cons_succ]
  refine wpAnyH_take (i := 11) (oi := ⟨some 65, _, _, _, _, _⟩) (v := ?_) rfl (by kernel_rfl) (by kernel_rfl) (by kernel_rfl) (fun _ _ _ h => h) (Or.inl ⟨by rfl, ?_⟩) (by assumption) ?_
  rotate_left
  · (intro wS hSw; obtain ⟨hSa, hSb⟩ := hSw; go_simp); all_goals (with_reducible rfl)
  simp only [Act.put, List.setIfInBounds_toArray, List.set_cons_zero, List.set_cons_succ]
  refine wpAnyH_take (i := 12) (oi := ⟨some 66, _, _, _, _, _⟩) (v := ?_) rfl (by kernel_rfl) (by kernel_rfl) (by kernel_rfl) (fun _ _ _ h => h) (Or.inl ⟨by rfl, ?_⟩) (by assumption) ?_
  rotate_left
  · (intro wS hSw; obtain ⟨hSa, hSb⟩ := hSw; go_simp); all_goals (with_reducible rfl)
  simp only [Act.put, List.setIfInBounds_toArray, List.set_cons_zero, List.set_cons_succ]
  refine wpAnyH_take (i := 13) (oi := ⟨some 67, _, _, _, _, _⟩) (v := ?_) rfl (by kernel_rfl) (by kernel_rfl) (by kernel_rfl) (fun _ _ _ h => h) (Or.inl ⟨by rfl, ?_⟩) (by assumption) ?_
  rotate_left
  · (intro wS hSw; obtain ⟨hSa, hSb⟩ := hSw; go_simp); all_goals (with_reducible rfl)
  simp only [Act.put, List.setIfInBounds_toArray, List.set_cons_zero, List.set_cons_succ]
  refine wpAnyH_take (i := 14) (oi := ⟨some 68, _, _, _, _, _⟩) (v := ?_) rfl (by kernel_rfl) (by kernel_rfl) (by kernel_rfl) (fun _ _ _ h => h) (Or.inl ⟨by rfl, ?_⟩) (by assumption) ?_
  rotate_left
  · (intro wS hSw; obtain ⟨hSa, hSb⟩ := hSw; go_simp); all_goals (with_reducible rfl)
  simp only [Act.put, List.setIfInBounds_toArray, List.set_cons_zero, List.set_cons_succ]
  refine wpAnyH_ready (rs := [10, 15]) (by kernel_rfl) (by simp) ?_
  refine AllReadyH.cons (o := ⟨some 64, _, _, _, _, _⟩) rfl (fun K hK => ?_) (AllReadyH.cons (o := ⟨some 69, _, _, _, _, _⟩) rfl (fun K hK => ?_) AllReadyH.nil)
  · go_simp
    refine hK.out _ _ ?_ (fun hHeld => ?_)
    · exact hS0
    clear hK K
    try simp only [Act.put, List.setIfInBounds_toArray, List.set_cons_zero, List.set_cons_succ]
    refine wpAnyH_ready (rs := [15]) (by kernel_rfl) (by simp) ?_
    refine AllReadyH.cons (o := ⟨some 69, _, _, _, _, _⟩) rfl (fun K hK => ?_) AllReadyH.nil
    go_simp
    refine (in_long gi st.b st.bad _ HIN.out hs2).mono ?_
    rintro e w1 ⟨v1, rfl, ho1, hin, hg1⟩
    rw [← HX.out] at ho1
    rw [← HR.out, ← HBD.out] at hin
    obtain ⟨A1, c1, rfl, _, _⟩ := own_form ho1
    have cv := run_octets_string (P := Tryd.prog) 24 9 5 Tryd.underlying24 Tryd.underlying5 Tryd.underlying9 (Lies.own ho1 (Nat.le_refl _)) c1
    have AD := ADS.out w1 hin hg1
    have l1 := AD.l1
    have lA := AD.lA
    clear ho1 hin hg1
    go_wp2_with fail
    refine hK.out _ _ ?_ (fun hHeld => ?_)
    · exact AD.s1
    clear hK K
    try simp only [Act.put, List.setIfInBounds_toArray, List.set_cons_zero, List.set_cons_succ]
    refine wpAnyH_ready (rs := [16]) (by kernel_rfl) (by simp) ?_
    refine AllReadyH.cons (o := ⟨some 70, _, _, _, _, _⟩) rfl (fun K hK => ?_) AllReadyH.nil
    go_simp
    refine hK.out _ _ ?_ (fun hHeld => ?_)
    · exact AD.s1
    clear hK K
    try simp only [Act.put, List.setIfInBounds_toArray, List.set_cons_zero, List.set_cons_succ]
    refine wpAnyH_ready (rs := [17]) (by kernel_rfl) (by simp) ?_
    refine AllReadyH.cons (o := ⟨some 71, _, _, _, _, _⟩) rfl (fun K hK => ?_) AllReadyH.nil
    go_simp
    refine hK.out _ _ ?_ (fun hHeld => ?_)
    · exact AD.sA
    clear hK K
    try simp only [Act.put, List.setIfInBounds_toArray, List.set_cons_zero, List.set_cons_succ]
    refine wpAnyH_ready (rs := [18]) (by kernel_rfl) (by simp) ?_
    refine AllReadyH.cons (o := ⟨some 72, _, _, _, _, _⟩) rfl (fun K hK => ?_) AllReadyH.nil
    refine step_append_own2 rfl _ _ 29 rfl (g + 1) 9 i0 (.string ⟨#[]⟩) 1 16 Tryd.underlying29 GI.out G0.out G1.out G2.out rfl (by omega) (.slice AX n cX) n (cellsS st.p.s) (by rfl) AD.own _ (some ⟨w1.heap.size, 0, none⟩) 1 1 [St X] (by rfl) AD.lies rfl (by simp [Value.oneCell']) N1.out N2.out AD.size ?_
    intro v' w3 hown3 hg3 hv3
    obtain ⟨A3, c3, rfl, _, _⟩ := own_form hown3
    have DD := AD.done w3 A3 c3 hown3 hg3 hv3
    obtain ⟨KP, f4, m4b⟩ := AD.s3 w3 hg3
    clear hown3 hg3 hv3
    refine hK.out _ _ ?_ (fun hHeld => ?_)
    · exact KP
    clear hK K
    try simp only [Act.put, List.setIfInBounds_toArray, List.set_cons_zero, List.set_cons_succ]
    refine wpAnyH_take (i := 19) (oi := ⟨some 73, _, _, _, _, _⟩) (v := ?_) rfl (by kernel_rfl) (by kernel_rfl) (by kernel_rfl) (fun _ _ _ h => h) (Or.inl ⟨by rfl, ?_⟩) (by assumption) ?_
    rotate_left
    · (intro wS hSw; obtain ⟨hSa, hSb⟩ := hSw; go_simp); all_goals (with_reducible rfl)
    simp only [Act.put, List.setIfInBounds_toArray, List.set_cons_zero, List.set_cons_succ]
    refine wpAnyH_take (i := 20) (oi := ⟨some 74, _, _, _, _, _⟩) (v := ?_) rfl (by kernel_rfl) (by kernel_rfl) (by kernel_rfl) (fun _ _ _ h => h) (Or.inl ⟨by rfl, ?_⟩) (by assumption) ?_
    rotate_left
    · (intro wS hSw; obtain ⟨hSa, hSb⟩ := hSw; go_simp); all_goals (with_reducible rfl)
    simp only [Act.put, List.setIfInBounds_toArray, List.set_cons_zero, List.set_cons_succ]
    refine wpAnyH_ready (rs := [21]) (by kernel_rfl) (by simp) ?_
    refine AllReadyH.cons (o := ⟨none, _, _, _, _, _⟩) rfl (fun K hK => ?_) AllReadyH.nil
    go_simp
    refine hK.out _ _ ?_ (fun hHeld => ?_)
    · exact AD.s4 _ _ KP
    clear hK K
    try simp only [Act.put, List.setIfInBounds_toArray, List.set_cons_zero, List.set_cons_succ]
    refine wpAnyH_done (by kernel_rfl) ?_ _
    go_wp2_with fail
    go_end0
    exact DD.by E.out
  · go_simp
    refine (in_long gi st.b st.bad _ HIN.out hs2).mono ?_
    rintro e w1 ⟨v1, rfl, ho1, hin, hg1⟩
    rw [← HX.out] at ho1
    rw [← HR.out, ← HBD.out] at hin
    obtain ⟨A1, c1, rfl, _, _⟩ := own_form ho1
    have cv := run_octets_string (P := Tryd.prog) 24 9 5 Tryd.underlying24 Tryd.underlying5 Tryd.underlying9 (Lies.own ho1 (Nat.le_refl _)) c1
    have AD := ADS.out w1 hin hg1
    have l1 := AD.l1
    have lA := AD.lA
    clear ho1 hin hg1
    go_wp2_with fail
    refine hK.out _ _ ?_ (fun hHeld => ?_)
    · exact AD.s1
    clear hK K
    try simp only [Act.put, List.setIfInBounds_toArray, List.set_cons_zero, List.set_cons_succ]
    refine wpAnyH_ready (rs := [10, 16]) (by kernel_rfl) (by simp) ?_
    refine AllReadyH.cons (o := ⟨some 64, _, _, _, _, _⟩) rfl (fun K hK => ?_) (AllReadyH.cons (o := ⟨some 70, _, _, _, _, _⟩) rfl (fun K hK => ?_) AllReadyH.nil)
    · go_simp
      refine hK.out _ _ ?_ (fun hHeld => ?_)
      · exact AD.s1
      clear hK K
      try simp only [Act.put, List.setIfInBounds_toArray, List.set_cons_zero, List.set_cons_succ]
      refine wpAnyH_ready (rs := [16]) (by kernel_rfl) (by simp) ?_
      refine AllReadyH.cons (o := ⟨some 70, _, _, _, _, _⟩) rfl (fun K hK => ?_) AllReadyH.nil
      go_simp
      refine hK.out _ _ ?_ (fun hHeld => ?_)
      · exact AD.s1
      clear hK K
      try simp only [Act.put, List.setIfInBounds_toArray, List.set_cons_zero, List.set_cons_succ]
      refine wpAnyH_ready (rs := [17]) (by kernel_rfl) (by simp) ?_
      refine AllReadyH.cons (o := ⟨some 71, _, _, _, _, _⟩) rfl (fun K hK => ?_) AllReadyH.nil
      go_simp
      refine hK.out _ _ ?_ (fun hHeld => ?_)
      · exact AD.sA
      clear hK K
      try simp only [Act.put, List.setIfInBounds_toArray, List.set_cons_zero, List.set_cons_succ]
      refine wpAnyH_ready (rs := [18]) (by kernel_rfl) (by simp) ?_
      refine AllReadyH.cons (o := ⟨some 72, _, _, _, _, _⟩) rfl (fun K hK => ?_) AllReadyH.nil
      refine step_append_own2 rfl _ _ 29 rfl (g + 1) 9 i0 (.string ⟨#[]⟩) 1 16 Tryd.underlying29 GI.out G0.out G1.out G2.out rfl (by omega) (.slice AX n cX) n (cellsS st.p.s) (by rfl) AD.own _ (some ⟨w1.heap.size, 0, none⟩) 1 1 [St X] (by rfl) AD.lies rfl (by simp [Value.oneCell']) N1.out N2.out AD.size ?_
      intro v' w3 hown3 hg3 hv3
      obtain ⟨A3, c3, rfl, _, _⟩ := own_form hown3
      have DD := AD.done w3 A3 c3 hown3 hg3 hv3
      obtain ⟨KP, f4, m4b⟩ := AD.s3 w3 hg3
      clear hown3 hg3 hv3
      refine hK.out _ _ ?_ (fun hHeld => ?_)
      · exact KP
      clear hK K
      try simp only [Act.put, List.setIfInBounds_toArray, List.set_cons_zero, List.set_cons_succ]
      refine wpAnyH_take (i := 19) (oi := ⟨some 73, _, _, _, _, _⟩) (v := ?_) rfl (by kernel_rfl) (by kernel_rfl) (by kernel_rfl) (fun _ _ _ h => h) (Or.inl ⟨by rfl, ?_⟩) (by assumption) ?_
      rotate_left
      · (intro wS hSw; obtain ⟨hSa, hSb⟩ := hSw; go_simp); all_goals (with_reducible rfl)
      simp only [Act.put, List.setIfInBounds_toArray, List.set_cons_zero, List.set_cons_succ]
      refine wpAnyH_take (i := 20) (oi := ⟨some 74, _, _, _, _, _⟩) (v := ?_) rfl (by kernel_rfl) (by kernel_rfl) (by kernel_rfl) (fun _ _ _ h => h) (Or.inl ⟨by rfl, ?_⟩) (by assumption) ?_
      rotate_left
      · (intro wS hSw; obtain ⟨hSa, hSb⟩ := hSw; go_simp); all_goals (with_reducible rfl)
      simp only [Act.put, List.setIfInBounds_toArray, List.set_cons_zero, List.set_cons_succ]
      refine wpAnyH_ready (rs := [21]) (by kernel_rfl) (by simp) ?_
      refine AllReadyH.cons (o := ⟨none, _, _, _, _, _⟩) rfl (fun K hK => ?_) AllReadyH.nil
      go_simp
      refine hK.out _ _ ?_ (fun hHeld => ?_)
      · exact AD.s4 _ _ KP
      clear hK K
      try simp only [Act.put, List.setIfInBounds_toArray, List.set_cons_zero, List.set_cons_succ]
      refine wpAnyH_done (by kernel_rfl) ?_ _
      go_wp2_with fail
      go_end0
      exact DD.by E.out
    · go_simp
      refine hK.out _ _ ?_ (fun hHeld => ?_)
      · exact AD.s1
      clear hK K
      try simp only [Act.put, List.setIfInBounds_toArray, List.set_cons_zero, List.set_cons_succ]
      refine wpAnyH_ready (rs := [10, 17]) (by kernel_rfl) (by simp) ?_
      refine AllReadyH.cons (o := ⟨some 64, _, _, _, _, _⟩) rfl (fun K hK => ?_) (AllReadyH.cons (o := ⟨some 71, _, _, _, _, _⟩) rfl (fun K hK => ?_) AllReadyH.nil)
      · go_simp
        refine hK.out _ _ ?_ (fun hHeld => ?_)
        · exact AD.s1
        clear hK K
        try simp only [Act.put, List.setIfInBounds_toArray, List.set_cons_zero, List.set_cons_succ]
        refine wpAnyH_ready (rs := [17]) (by kernel_rfl) (by simp) ?_
        refine AllReadyH.cons (o := ⟨some 71, _, _, _, _, _⟩) rfl (fun K hK => ?_) AllReadyH.nil
        go_simp
        refine hK.out _ _ ?_ (fun hHeld => ?_)
        · exact AD.sA
        clear hK K
        try simp only [Act.put, List.setIfInBounds_toArray, List.set_cons_zero, List.set_cons_succ]
        refine wpAnyH_ready (rs := [18]) (by kernel_rfl) (by simp) ?_
        refine AllReadyH.cons (o := ⟨some 72, _, _, _, _, _⟩) rfl (fun K hK => ?_) AllReadyH.nil
        refine step_append_own2 rfl _ _ 29 rfl (g + 1) 9 i0 (.string ⟨#[]⟩) 1 16 Tryd.underlying29 GI.out G0.out G1.out G2.out rfl (by omega) (.slice AX n cX) n (cellsS st.p.s) (by rfl) AD.own _ (some ⟨w1.heap.size, 0, none⟩) 1 1 [St X] (by rfl) AD.lies rfl (by simp [Value.oneCell']) N1.out N2.out AD.size ?_
        intro v' w3 hown3 hg3 hv3
        obtain ⟨A3, c3, rfl, _, _⟩ := own_form hown3
        have DD := AD.done w3 A3 c3 hown3 hg3 hv3
        obtain ⟨KP, f4, m4b⟩ := AD.s3 w3 hg3
        clear hown3 hg3 hv3
        refine hK.out _ _ ?_ (fun hHeld => ?_)
        · exact KP
        clear hK K
        try simp only [Act.put, List.setIfInBounds_toArray, List.set_cons_zero, List.set_cons_succ]
        refine wpAnyH_take (i := 19) (oi := ⟨some 73, _, _, _, _, _⟩) (v := ?_) rfl (by kernel_rfl) (by kernel_rfl) (by kernel_rfl) (fun _ _ _ h => h) (Or.inl ⟨by rfl, ?_⟩) (by assumption) ?_
        rotate_left
        · (intro wS hSw; obtain ⟨hSa, hSb⟩ := hSw; go_simp); all_goals (with_reducible rfl)
        simp only [Act.put, List.setIfInBounds_toArray, List.set_cons_zero, List.set_cons_succ]
        refine wpAnyH_take (i := 20) (oi := ⟨some 74, _, _, _, _, _⟩) (v := ?_) rfl (by kernel_rfl) (by kernel_rfl) (by kernel_rfl) (fun _ _ _ h => h) (Or.inl ⟨by rfl, ?_⟩) (by assumption) ?_
        rotate_left
        · (intro wS hSw; obtain ⟨hSa, hSb⟩ := hSw; go_simp); all_goals (with_reducible rfl)
        simp only [Act.put, List.setIfInBounds_toArray, List.set_cons_zero, List.set_cons_succ]
        refine wpAnyH_ready (rs := [21]) (by kernel_rfl) (by simp) ?_
        refine AllReadyH.cons (o := ⟨none, _, _, _, _, _⟩) rfl (fun K hK => ?_) AllReadyH.nil
        go_simp
        refine hK.out _ _ ?_ (fun hHeld => ?_)
        · exact AD.s4 _ _ KP
        clear hK K
        try simp only [Act.put, List.setIfInBounds_toArray, List.set_cons_zero, List.set_cons_succ]
        refine wpAnyH_done (by kernel_rfl) ?_ _
        go_wp2_with fail
        go_end0
        exact DD.by E.out
      · go_simp
        refine hK.out _ _ ?_ (fun hHeld => ?_)
        · exact AD.sA
        clear hK K
        try simp only [Act.put, List.setIfInBounds_toArray, List.set_cons_zero, List.set_cons_succ]
        refine wpAnyH_ready (rs := [10]) (by kernel_rfl) (by simp) ?_
        refine AllReadyH.cons (o := ⟨some 64, _, _, _, _, _⟩) rfl (fun K hK => ?_) AllReadyH.nil
        go_simp
        refine hK.out _ _ ?_ (fun hHeld => ?_)
        · exact AD.sA
        clear hK K
        try simp only [Act.put, List.setIfInBounds_toArray, List.set_cons_zero, List.set_cons_succ]
        refine wpAnyH_ready (rs := [18]) (by kernel_rfl) (by simp) ?_
        refine AllReadyH.cons (o := ⟨some 72, _, _, _, _, _⟩) rfl (fun K hK => ?_) AllReadyH.nil
        refine step_append_own2 rfl _ _ 29 rfl (g + 1) 9 i0 (.string ⟨#[]⟩) 1 16 Tryd.underlying29 GI.out G0.out G1.out G2.out rfl (by omega) (.slice AX n cX) n (cellsS st.p.s) (by rfl) AD.own _ (some ⟨w1.heap.size, 0, none⟩) 1 1 [St X] (by rfl) AD.lies rfl (by simp [Value.oneCell']) N1.out N2.out AD.size ?_
        intro v' w3 hown3 hg3 hv3
        obtain ⟨A3, c3, rfl, _, _⟩ := own_form hown3
        have DD := AD.done w3 A3 c3 hown3 hg3 hv3
        obtain ⟨KP, f4, m4b⟩ := AD.s3 w3 hg3
        clear hown3 hg3 hv3
        refine hK.out _ _ ?_ (fun hHeld => ?_)
        · exact KP
        clear hK K
        try simp only [Act.put, List.setIfInBounds_toArray, List.set_cons_zero, List.set_cons_succ]
        refine wpAnyH_take (i := 19) (oi := ⟨some 73, _, _, _, _, _⟩) (v := ?_) rfl (by kernel_rfl) (by kernel_rfl) (by kernel_rfl) (fun _ _ _ h => h) (Or.inl ⟨by rfl, ?_⟩) (by assumption) ?_
        rotate_left
        · (intro wS hSw; obtain ⟨hSa, hSb⟩ := hSw; go_simp); all_goals (with_reducible rfl)
        simp only [Act.put, List.setIfInBounds_toArray, List.set_cons_zero, List.set_cons_succ]
        refine wpAnyH_take (i := 20) (oi := ⟨some 74, _, _, _, _, _⟩) (v := ?_) rfl (by kernel_rfl) (by kernel_rfl) (by kernel_rfl) (fun _ _ _ h => h) (Or.inl ⟨by rfl, ?_⟩) (by assumption) ?_
        rotate_left
        · (intro wS hSw; obtain ⟨hSa, hSb⟩ := hSw; go_simp); all_goals (with_reducible rfl)
        simp only [Act.put, List.setIfInBounds_toArray, List.set_cons_zero, List.set_cons_succ]
        refine wpAnyH_ready (rs := [21]) (by kernel_rfl) (by simp) ?_
        refine AllReadyH.cons (o := ⟨none, _, _, _, _, _⟩) rfl (fun K hK => ?_) AllReadyH.nil
        go_simp
        refine hK.out _ _ ?_ (fun hHeld => ?_)
        · exact AD.s4 _ _ KP
        clear hK K
        try simp only [Act.put, List.setIfInBounds_toArray, List.set_cons_zero, List.set_cons_succ]
        refine wpAnyH_done (by kernel_rfl) ?_ _
        go_wp2_with fail
        go_end0
        exact DD.by E.out
end Go.Proofs.YtlfppfknelddcaaDoor
