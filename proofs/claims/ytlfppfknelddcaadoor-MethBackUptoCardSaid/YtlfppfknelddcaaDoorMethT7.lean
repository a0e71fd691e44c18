/- Contracts of the reader of package meth: a part, a number of one octet, of two. -/
import Derived.Test.YtlfppfknelddcaaDoorMethT5
import Derived.Test.YtlfppfknelddcaaDoorOctsR
namespace Go.Proofs.YtlfppfknelddcaaDoor
open Go.RowKit
set_option maxRecDepth 100000
set_option linter.unusedSimpArgs false
set_option linter.unusedVariables false

set_option maxHeartbeats 2000000 in
theorem rpart_n1 (g gi gm : Nat) (c i : Int) (st : RS) (vN vS vF vT : Value) (lo hi : Nat) (k : Nat) (w : World) (h : RAt w g gi gm c i st vN vS vF vT lo hi) (hs : st.p.n.length ≤ 1000) :
    Calls Tryd.prog 46 #[.pointer (some ⟨g, 0, none⟩), .int .u8 49, .int .i64 k] w (ReadsE g gi gm c i (rstep 49 k st) w) := by
  obtain ⟨i0, hi0, hz0, hz1, hz2⟩ := info_parts u64_info
  have GI := Lib.hid hi0
  have G0 := Lib.hid hz0
  have G1 := Lib.hid hz1
  have G2 := Lib.hid hz2
  have H1 : Hid (wid 1 = 1) := Lib.hid rfl
  obtain ⟨X, hX⟩ : ∃ X, X = nat (tk 1 st.b) := ⟨_, rfl⟩
  obtain ⟨R, hR⟩ : ∃ R, R = rst 1 st.b := ⟨_, rfl⟩
  obtain ⟨bd, hbd⟩ : ∃ bd, bd = (st.bad || short 1 st.b) := ⟨_, rfl⟩
  obtain ⟨T, hT⟩ : ∃ T, T = rstep 49 k st := ⟨_, rfl⟩
  rw [← hT]
  have he : rstep 49 k st = { st with b := R, bad := bd, p := st.p.app (pN X) } := by
    unfold rstep
    rw [if_neg (by decide), if_neg (by decide), if_neg (by decide), if_neg (by decide)]
    rw [show wd 49 = 1 from rfl, ← hX, ← hR, ← hbd]
  have E := Lib.hid (hT.trans he)
  obtain ⟨AX, cX, rfl, _, hcm⟩ := own_form h.n
  obtain ⟨n, hn⟩ : ∃ n, n = st.p.n.length := ⟨_, rfl⟩
  rw [← hn] at h
  have HIN : Hid (InAt w.drew gi st.b st.bad) := Lib.hid h.drew.in_
  have S0 := Lib.hid h.drew.rs0
  have m4 : w.drew.cell? ⟨gm, 2, none⟩ = some (.slice AX n cX) := h.m.cell 2
  have m4' : w.cell? ⟨gm, 2, none⟩ = some (.slice AX n cX) := h.m.cell 2
  have ADS : Hid (∀ w1, InAt w1 gi R bd → w.drew.grownBy w1 (some gi) → Adds g gi gm 2 27 (.slice AX n cX) n (cellsN st.p.n) (.int .u64 (X : Int)) w1 (fun w' => ReadsE g gi gm c i { st with b := R, bad := bd, p := st.p.app (pN X) } w (.returned (.tuple #[])) w')) := Lib.hid (fun w1 hin hg1 => by
    obtain ⟨k1, k2⟩ := h.drew.read hg1 hin
    exact adds_n k1 hn ((Below.refl _ w).drew.trans k2) X)
  have N1 : Hid (n + 1 ≤ maxLen) := Lib.hid (by unfold maxLen; omega)
  have N2 : Hid ((n + 1) * 8 ≤ 140737488355328) := Lib.hid (by omega)
  have HX := Lib.hid hX
  have HR := Lib.hid hR
  have HBD := Lib.hid hbd
  clear hi0 hz0 hz1 hz2 h hX hR hbd hT he hn hcm
  go_enter Tryd.func46, Tryd.ntmps46
  go_wp2_with fail
  refine wp_region_held_drew (S := RS0 g gi gm) (by kernel_rfl) S0.out (fun hS0 => ?_)
  refine wpAnyH_take (i := 0) (oi := ⟨some 7, _, _, _, _, _⟩) (v := ?_) rfl (by kernel_rfl) (by kernel_rfl) (by kernel_rfl) (fun _ _ _ h => h) (Or.inl ⟨by rfl, ?_⟩) (by assumption) ?_
  rotate_left
  · (intro wS hSw; obtain ⟨hSa, hSb⟩ := hSw; go_simp); all_goals (with_reducible rfl)
  simp only [Act.put, List.setIfInBounds_toArray, List.set_cons_zero, List.set_cons_succ]
  refine wpAnyH_take (i := 1) (oi := ⟨some 8, _, _, _, _, _⟩) (v := ?_) rfl (by kernel_rfl) (by kernel_rfl) (by kernel_rfl) (fun _ _ _ h => h) (Or.inl ⟨by rfl, ?_⟩) (by assumption) ?_
  rotate_left
  · (intro wS hSw; obtain ⟨hSa, hSb⟩ := hSw; go_simp); all_goals (with_reducible rfl)
  simp only [Act.put, List.setIfInBounds_toArray, List.set_cons_zero, List.set_cons_succ]
  refine wpAnyH_take (i := 2) (oi := ⟨some 9, _, _, _, _, _⟩) (v := ?_) rfl (by kernel_rfl) (by kernel_rfl) (by kernel_rfl) (fun _ _ _ h => h) (Or.inl ⟨by rfl, ?_⟩) (by assumption) ?_
  rotate_left
  · (intro wS hSw; obtain ⟨hSa, hSb⟩ := hSw; go_simp); all_goals (with_reducible rfl)
  simp only [Act.put, List.setIfInBounds_toArray, List.set_cons_zero, List.set_cons_succ]
  refine wpAnyH_take (i := 3) (oi := ⟨some 10, _, _, _, _, _⟩) (v := ?_) rfl (by kernel_rfl) (by kernel_rfl) (by kernel_rfl) (fun _ _ _ h => h) (Or.inl ⟨by rfl, ?_⟩) (by assumption) ?_
  rotate_left
  · (intro wS hSw; obtain ⟨hSa, hSb⟩ := hSw; go_simp); all_goals (with_reducible rfl)
  simp only [Act.put, List.setIfInBounds_toArray, List.set_cons_zero, List.set_cons_succ]
  refine wpAnyH_take (i := 4) (oi := ⟨some 11, _, _, _, _, _⟩) (v := ?_) rfl (by kernel_rfl) (by kernel_rfl) (by kernel_rfl) (fun _ _ _ h => h) (Or.inl ⟨by rfl, ?_⟩) (by assumption) ?_
  rotate_left
  · (intro wS hSw; obtain ⟨hSa, hSb⟩ := hSw; go_simp); all_goals (with_reducible rfl)
  simp only [Act.put, List.setIfInBounds_toArray, List.set_cons_zero, List.set_cons_succ]
  refine wpAnyH_take (i := 5) (oi := ⟨some 12, _, _, _, _, _⟩) (v := ?_) rfl (by kernel_rfl) (by kernel_rfl) (by kernel_rfl) (fun _ _ _ h => h) (Or.inl ⟨by rfl, ?_⟩) (by assumption) ?_
  rotate_left
  · (intro wS hSw; obtain ⟨hSa, hSb⟩ := hSw; go_simp); all_goals (with_reducible rfl)
  simp only [Act.put, List.setIfInBounds_toArray, List.set_cons_zero, List.set_cons_succ]
  refine wpAnyH_take (i := 6) (oi := ⟨some 13, _, _, _, _, _⟩) (v := ?_) rfl (by kernel_rfl) (by kernel_rfl) (by kernel_rfl) (fun _ _ _ h => h) (Or.inl ⟨by rfl, ?_⟩) (by assumption) ?_
  rotate_left
  · (intro wS hSw; obtain ⟨hSa, hSb⟩ := hSw; go_simp); all_goals (with_reducible rfl)
  simp only [Act.put, List.setIfInBounds_toArray, List.set_cons_zero, List.set_cons_succ]
  refine wpAnyH_take (i := 7) (oi := ⟨some 14, _, _, _, _, _⟩) (v := ?_) rfl (by kernel_rfl) (by kernel_rfl) (by kernel_rfl) (fun _ _ _ h => h) (Or.inl ⟨by rfl, ?_⟩) (by assumption) ?_
  rotate_left
  · (intro wS hSw; obtain ⟨hSa, hSb⟩ := hSw; go_simp); all_goals (with_reducible rfl)
  simp only [Act.put, List.setIfInBounds_toArray, List.set_cons_zero, List.set_cons_succ]
  refine wpAnyH_take (i := 8) (oi := ⟨some 15, _, _, _, _, _⟩) (v := ?_) rfl (by kernel_rfl) (by kernel_rfl) (by kernel_rfl) (fun _ _ _ h => h) (Or.inl ⟨by rfl, ?_⟩) (by assumption) ?_
  rotate_left
  · (intro wS hSw; obtain ⟨hSa, hSb⟩ := hSw; go_simp); all_goals (with_reducible rfl)
  simp only [Act.put, List.setIfInBounds_toArray, List.set_cons_zero, List.set_cons_succ]
  refine wpAnyH_take (i := 9) (oi := ⟨some 16, _, _, _, _, _⟩) (v := ?_) rfl (by kernel_rfl) (by kernel_rfl) (by kernel_rfl) (fun _ _ _ h => h) (Or.inl ⟨by rfl, ?_⟩) (by assumption) ?_
  rotate_left
  · (intro wS hSw; obtain ⟨hSa, hSb⟩ := hSw; go_simp); all_goals (with_reducible rfl)
  simp only [Act.put, List.setIfInBounds_toArray, List.set_cons_zero, List.set_cons_succ]
  refine wpAnyH_take (i := 11) (oi := ⟨some 18, _, _, _, _, _⟩) (v := ?_) rfl (by kernel_rfl) (by kernel_rfl) (by kernel_rfl) (fun _ _ _ h => h) (Or.inl ⟨by rfl, ?_⟩) (by assumption) ?_
  rotate_left
  · (intro wS hSw; obtain ⟨hSa, hSb⟩ := hSw; go_simp); all_goals (with_reducible rfl)
  simp only [Act.put, List.setIfInBounds_toArray, List.set_cons_zero, List.set_cons_succ]
  refine wpAnyH_take (i := 12) (oi := ⟨some 19, _, _, _, _, _⟩) (v := ?_) rfl (by kernel_rfl) (by kernel_rfl) (by kernel_rfl) (fun _ _ _ h => h) (Or.inl ⟨by rfl, ?_⟩) (by assumption) ?_
  rotate_left
  · (intro wS hSw; obtain ⟨hSa, hSb⟩ := hSw; go_simp); all_goals (with_reducible rfl)
  simp only [Act.put, List.setIfInBounds_toArray, List.set_cons_zero, List.set_cons_succ]
  refine wpAnyH_take (i := 13) (oi := ⟨some 20, _, _, _, _, _⟩) (v := ?_) rfl (by kernel_rfl) (by kernel_rfl) (by kernel_rfl) (fun _ _ _ h => h) (Or.inl ⟨by rfl, ?_⟩) (by assumption) ?_
  rotate_left
  · (intro wS hSw; obtain ⟨hSa, hSb⟩ := hSw; go_simp); all_goals (with_reducible rfl)
  simp only [Act.put, List.setIfInBounds_toArray, List.set_cons_zero, List.set_cons_succ]
  refine wpAnyH_take (i := 14) (oi := ⟨some 21, _, _, _, _, _⟩) (v := ?_) rfl (by kernel_rfl) (by kernel_rfl) (by kernel_rfl) (fun _ _ _ h => h) (Or.inl ⟨by rfl, ?_⟩) (by assumption) ?_
  rotate_left
  · (intro wS hSw; obtain ⟨hSa, hSb⟩ := hSw; go_simp); all_goals (with_reducible rfl)
  simp only [Act.put, List.setIfInBounds_toArray, List.set_cons_zero, List.set_cons_succ]
  refine wpAnyH_take (i := 15) (oi := ⟨some 22, _, _, _, _, _⟩) (v := ?_) rfl (by kernel_rfl) (by kernel_rfl) (by kernel_rfl) (fun _ _ _ h => h) (Or.inl ⟨by rfl, ?_⟩) (by assumption) ?_
  rotate_left
  · (intro wS hSw; obtain ⟨hSa, hSb⟩ := hSw; go_simp); all_goals (with_reducible rfl)
  simp only [Act.put, List.setIfInBounds_toArray, List.set_cons_zero, List.set_cons_succ]
  refine wpAnyH_take (i := 16) (oi := ⟨some 23, _, _, _, _, _⟩) (v := ?_) rfl (by kernel_rfl) (by kernel_rfl) (by kernel_rfl) (fun _ _ _ h => h) (Or.inl ⟨by rfl, ?_⟩) (by assumption) ?_
  rotate_left
  · (intro wS hSw; obtain ⟨hSa, hSb⟩ := hSw; go_simp); all_goals (with_reducible rfl)
  simp only [Act.put, List.setIfInBounds_toArray, List.set_cons_zero, List.set_cons_succ]
  refine wpAnyH_take (i := 17) (oi := ⟨some 24, _, _, _, _, _⟩) (v := ?_) rfl (by kernel_rfl) (by kernel_rfl) (by kernel_rfl) (fun _ _ _ h => h) (Or.inl ⟨by rfl, ?_⟩) (by assumption) ?_
  rotate_left
  · (intro wS hSw; obtain ⟨hSa, hSb⟩ := hSw; go_simp); all_goals (with_reducible rfl)
  simp only [Act.put, List.setIfInBounds_toArray, List.set_cons_zero, List.set_cons_succ]
  refine wpAnyH_ready (rs := [10, 18]) (by kernel_rfl) (by simp) ?_
  refine AllReadyH.cons (o := ⟨some 17, _, _, _, _, _⟩) rfl (fun K hK => ?_) (AllReadyH.cons (o := ⟨some 25, _, _, _, _, _⟩) rfl (fun K hK => ?_) AllReadyH.nil)
  · go_simp
    refine hK.out _ _ ?_ (fun hHeld => ?_)
    · exact hS0
    clear hK K
    try simp only [Act.put, List.setIfInBounds_toArray, List.set_cons_zero, List.set_cons_succ]
    refine wpAnyH_ready (rs := [18]) (by kernel_rfl) (by simp) ?_
    refine AllReadyH.cons (o := ⟨some 25, _, _, _, _, _⟩) rfl (fun K hK => ?_) AllReadyH.nil
    go_simp
    refine (in_int gi 1 st.b st.bad _ HIN.out).mono ?_
    rw [H1.out]
    rintro e w1 ⟨rfl, hin, hg1⟩
    rw [← HX.out]
    rw [← HR.out, ← HBD.out] at hin
    have AD := ADS.out w1 hin hg1
    have l1 := AD.l1
    have lA := AD.lA
    clear hin hg1
    go_wp2_with fail
    refine hK.out _ _ ?_ (fun hHeld => ?_)
    · exact AD.s1
    clear hK K
    try simp only [Act.put, List.setIfInBounds_toArray, List.set_cons_zero, List.set_cons_succ]
    refine wpAnyH_ready (rs := [19]) (by kernel_rfl) (by simp) ?_
    refine AllReadyH.cons (o := ⟨some 26, _, _, _, _, _⟩) rfl (fun K hK => ?_) AllReadyH.nil
    go_simp
    refine hK.out _ _ ?_ (fun hHeld => ?_)
    · exact AD.sA
    clear hK K
    try simp only [Act.put, List.setIfInBounds_toArray, List.set_cons_zero, List.set_cons_succ]
    refine wpAnyH_ready (rs := [20]) (by kernel_rfl) (by simp) ?_
    refine AllReadyH.cons (o := ⟨some 27, _, _, _, _, _⟩) rfl (fun K hK => ?_) AllReadyH.nil
    refine step_append_own2 rfl _ _ 28 rfl (g + 1) 27 i0 (.int .u64 0) 1 8 Tryd.underlying28 GI.out G0.out G1.out G2.out rfl (by omega) (.slice AX n cX) n (cellsN st.p.n) (by rfl) AD.own _ (some ⟨w1.heap.size, 0, none⟩) 1 1 [.int .u64 (X : Int)] (by rfl) AD.lies rfl (by simp [Value.oneCell']) N1.out N2.out AD.size ?_
    intro v' w3 hown3 hg3 hv3
    obtain ⟨A3, c3, rfl, _, _⟩ := own_form hown3
    have DD := AD.done w3 A3 c3 hown3 hg3 hv3
    obtain ⟨KP, f4, m4b⟩ := AD.s3 w3 hg3
    clear hown3 hg3 hv3
    refine hK.out _ _ ?_ (fun hHeld => ?_)
    · exact KP
    clear hK K
    try simp only [Act.put, List.setIfInBounds_toArray, List.set_cons_zero, List.set_cons_succ]
    refine wpAnyH_take (i := 21) (oi := ⟨some 28, _, _, _, _, _⟩) (v := ?_) rfl (by kernel_rfl) (by kernel_rfl) (by kernel_rfl) (fun _ _ _ h => h) (Or.inl ⟨by rfl, ?_⟩) (by assumption) ?_
    rotate_left
    · (intro wS hSw; obtain ⟨hSa, hSb⟩ := hSw; go_simp); all_goals (with_reducible rfl)
    simp only [Act.put, List.setIfInBounds_toArray, List.set_cons_zero, List.set_cons_succ]
    refine wpAnyH_take (i := 22) (oi := ⟨some 29, _, _, _, _, _⟩) (v := ?_) rfl (by kernel_rfl) (by kernel_rfl) (by kernel_rfl) (fun _ _ _ h => h) (Or.inl ⟨by rfl, ?_⟩) (by assumption) ?_
    rotate_left
    · (intro wS hSw; obtain ⟨hSa, hSb⟩ := hSw; go_simp); all_goals (with_reducible rfl)
    simp only [Act.put, List.setIfInBounds_toArray, List.set_cons_zero, List.set_cons_succ]
    refine wpAnyH_ready (rs := [23]) (by kernel_rfl) (by simp) ?_
    refine AllReadyH.cons (o := ⟨none, _, _, _, _, _⟩) rfl (fun K hK => ?_) AllReadyH.nil
    go_simp
    refine hK.out _ _ ?_ (fun hHeld => ?_)
    · exact AD.s4 _ _ KP
    clear hK K
    try simp only [Act.put, List.setIfInBounds_toArray, List.set_cons_zero, List.set_cons_succ]
    refine wpAnyH_done (by kernel_rfl) ?_ _
    go_wp2_with fail
    go_end0
    exact DD.by E.out
  · go_simp
    refine (in_int gi 1 st.b st.bad _ HIN.out).mono ?_
    rw [H1.out]
    rintro e w1 ⟨rfl, hin, hg1⟩
    rw [← HX.out]
    rw [← HR.out, ← HBD.out] at hin
    have AD := ADS.out w1 hin hg1
    have l1 := AD.l1
    have lA := AD.lA
    clear hin hg1
    go_wp2_with fail
    refine hK.out _ _ ?_ (fun hHeld => ?_)
    · exact AD.s1
    clear hK K
    try simp only [Act.put, List.setIfInBounds_toArray, List.set_cons_zero, List.set_cons_succ]
    refine wpAnyH_ready (rs := [10, 19]) (by kernel_rfl) (by simp) ?_
    refine AllReadyH.cons (o := ⟨some 17, _, _, _, _, _⟩) rfl (fun K hK => ?_) (AllReadyH.cons (o := ⟨some 26, _, _, _, _, _⟩) rfl (fun K hK => ?_) AllReadyH.nil)
    · go_simp
      refine hK.out _ _ ?_ (fun hHeld => ?_)
      · exact AD.s1
      clear hK K
      try simp only [Act.put, List.setIfInBounds_toArray, List.set_cons_zero, List.set_cons_succ]
      refine wpAnyH_ready (rs := [19]) (by kernel_rfl) (by simp) ?_
      refine AllReadyH.cons (o := ⟨some 26, _, _, _, _, _⟩) rfl (fun K hK => ?_) AllReadyH.nil
      go_simp
      refine hK.out _ _ ?_ (fun hHeld => ?_)
      · exact AD.sA
      clear hK K
      try simp only [Act.put, List.setIfInBounds_toArray, List.set_cons_zero, List.set_cons_succ]
      refine wpAnyH_ready (rs := [20]) (by kernel_rfl) (by simp) ?_
      refine AllReadyH.cons (o := ⟨some 27, _, _, _, _, _⟩) rfl (fun K hK => ?_) AllReadyH.nil
      refine step_append_own2 rfl _ _ 28 rfl (g + 1) 27 i0 (.int .u64 0) 1 8 Tryd.underlying28 GI.out G0.out G1.out G2.out rfl (by omega) (.slice AX n cX) n (cellsN st.p.n) (by rfl) AD.own _ (some ⟨w1.heap.size, 0, none⟩) 1 1 [.int .u64 (X : Int)] (by rfl) AD.lies rfl (by simp [Value.oneCell']) N1.out N2.out AD.size ?_
      intro v' w3 hown3 hg3 hv3
      obtain ⟨A3, c3, rfl, _, _⟩ := own_form hown3
      have DD := AD.done w3 A3 c3 hown3 hg3 hv3
      obtain ⟨KP, f4, m4b⟩ := AD.s3 w3 hg3
      clear hown3 hg3 hv3
      refine hK.out _ _ ?_ (fun hHeld => ?_)
      · exact KP
      clear hK K
      try simp only [Act.put, List.setIfInBounds_toArray, List.set_cons_zero, List.set_cons_succ]
      refine wpAnyH_take (i := 21) (oi := ⟨some 28, _, _, _, _, _⟩) (v := ?_) rfl (by kernel_rfl) (by kernel_rfl) (by kernel_rfl) (fun _ _ _ h => h) (Or.inl ⟨by rfl, ?_⟩) (by assumption) ?_
      rotate_left
      · (intro wS hSw; obtain ⟨hSa, hSb⟩ := hSw; go_simp); all_goals (with_reducible rfl)
      simp only [Act.put, List.setIfInBounds_toArray, List.set_cons_zero, List.set_cons_succ]
      refine wpAnyH_take (i := 22) (oi := ⟨some 29, _, _, _, _, _⟩) (v := ?_) rfl (by kernel_rfl) (by kernel_rfl) (by kernel_rfl) (fun _ _ _ h => h) (Or.inl ⟨by rfl, ?_⟩) (by assumption) ?_
      rotate_left
      · (intro wS hSw; obtain ⟨hSa, hSb⟩ := hSw; go_simp); all_goals (with_reducible rfl)
      simp only [Act.put, List.setIfInBounds_toArray, List.set_cons_zero, List.set_cons_succ]
      refine wpAnyH_ready (rs := [23]) (by kernel_rfl) (by simp) ?_
      refine AllReadyH.cons (o := ⟨none, _, _, _, _, _⟩) rfl (fun K hK => ?_) AllReadyH.nil
      go_simp
      refine hK.out _ _ ?_ (fun hHeld => ?_)
      · exact AD.s4 _ _ KP
      clear hK K
      try simp only [Act.put, List.setIfInBounds_toArray, List.set_cons_zero, List.set_cons_succ]
      refine wpAnyH_done (by kernel_rfl) ?_ _
      go_wp2_with fail
      go_end0
      exact DD.by E.out
    · go_simp
      refine hK.out _ _ ?_ (fun hHeld => ?_)
      · exact AD.sA
      clear hK K
      try simp only [Act.put, List.setIfInBounds_toArray, List.set_cons_zero, List.set_cons_succ]
      refine wpAnyH_ready (rs := [10]) (by kernel_rfl) (by simp) ?_
      refine AllReadyH.cons (o := ⟨some 17, _, _, _, _, _⟩) rfl (fun K hK => ?_) AllReadyH.nil
      go_simp
      refine hK.out _ _ ?_ (fun hHeld => ?_)
      · exact AD.sA
      clear hK K
      try simp only [Act.put, List.setIfInBounds_toArray, List.set_cons_zero, List.set_cons_succ]
      refine wpAnyH_ready (rs := [20]) (by kernel_rfl) (by simp) ?_
      refine AllReadyH.cons (o := ⟨some 27, _, _, _, _, _⟩) rfl (fun K hK => ?_) AllReadyH.nil
      refine step_append_own2 rfl _ _ 28 rfl (g + 1) 27 i0 (.int .u64 0) 1 8 Tryd.underlying28 GI.out G0.out G1.out G2.out rfl (by omega) (.slice AX n cX) n (cellsN st.p.n) (by rfl) AD.own _ (some ⟨w1.heap.size, 0, none⟩) 1 1 [.int .u64 (X : Int)] (by rfl) AD.lies rfl (by simp [Value.oneCell']) N1.out N2.out AD.size ?_
      intro v' w3 hown3 hg3 hv3
      obtain ⟨A3, c3, rfl, _, _⟩ := own_form hown3
      have DD := AD.done w3 A3 c3 hown3 hg3 hv3
      obtain ⟨KP, f4, m4b⟩ := AD.s3 w3 hg3
      clear hown3 hg3 hv3
      refine hK.out _ _ ?_ (fun hHeld => ?_)
      · exact KP
      clear hK K
      try simp only [Act.put, List.setIfInBounds_toArray, List.set_cons_zero, List.set_cons_succ]
      refine wpAnyH_take (i := 21) (oi := ⟨some 28, _, _, _, _, _⟩) (v := ?_) rfl (by kernel_rfl) (by kernel_rfl) (by kernel_rfl) (fun _ _ _ h => h) (Or.inl ⟨by rfl, ?_⟩) (by assumption) ?_
      rotate_left
      · (intro wS hSw; obtain ⟨hSa, hSb⟩ := hSw; go_simp); all_goals (with_reducible rfl)
      simp only [Act.put, List.setIfInBounds_toArray, List.set_cons_zero, List.set_cons_succ]
      refine wpAnyH_take (i := 22) (oi := ⟨some 29, _, _, _, _, _⟩) (v := ?_) rfl (by kernel_rfl) (by kernel_rfl) (by kernel_rfl) (fun _ _ _ h => h) (Or.inl ⟨by rfl, ?_⟩) (by assumption) ?_
      rotate_left
      · (intro wS hSw; obtain ⟨hSa, hSb⟩ := hSw; go_simp); all_goals (with_reducible rfl)
      simp only [Act.put, List.setIfInBounds_toArray, List.set_cons_zero, List.set_cons_succ]
      refine wpAnyH_ready (rs := [23]) (by kernel_rfl) (by simp) ?_
      refine AllReadyH.cons (o := ⟨none, _, _, _, _, _⟩) rfl (fun K hK => ?_) AllReadyH.nil
      go_simp
      refine hK.out _ _ ?_ (fun hHeld => ?_)
      · exact AD.s4 _ _ KP
      clear hK K
      try simp only [Act.put, List.setIfInBounds_toArray, List.set_cons_zero, List.set_cons_succ]
      refine wpAnyH_done (by kernel_rfl) ?_ _
      go_wp2_with fail
      go_end0
      exact DD.by E.out

set_option maxHeartbeats 2000000 in
theorem rpart_n2 (g gi gm : Nat) (c i : Int) (st : RS) (vN vS vF vT : Value) (lo hi : Nat) (k : Nat) (w : World) (h : RAt w g gi gm c i st vN vS vF vT lo hi) (hs : st.p.n.length ≤ 1000) :
    Calls Tryd.prog 46 #[.pointer (some ⟨g, 0, none⟩), .int .u8 50, .int .i64 k] w (ReadsE g gi gm c i (rstep 50 k st) w) := by
  obtain ⟨i0, hi0, hz0, hz1, hz2⟩ := info_parts u64_info
  have GI := Lib.hid hi0
  have G0 := Lib.hid hz0
  have G1 := Lib.hid hz1
  have G2 := Lib.hid hz2
  have H2 : Hid (wid 2 = 2) := Lib.hid rfl
  obtain ⟨X, hX⟩ : ∃ X, X = nat (tk 2 st.b) := ⟨_, rfl⟩
  obtain ⟨R, hR⟩ : ∃ R, R = rst 2 st.b := ⟨_, rfl⟩
  obtain ⟨bd, hbd⟩ : ∃ bd, bd = (st.bad || short 2 st.b) := ⟨_, rfl⟩
  obtain ⟨T, hT⟩ : ∃ T, T = rstep 50 k st := ⟨_, rfl⟩
  rw [← hT]
  have he : rstep 50 k st = { st with b := R, bad := bd, p := st.p.app (pN X) } := by
    unfold rstep
    rw [if_neg (by decide), if_neg (by decide), if_neg (by decide), if_neg (by decide)]
    rw [show wd 50 = 2 from rfl, ← hX, ← hR, ← hbd]
  have E := Lib.hid (hT.trans he)
  obtain ⟨AX, cX, rfl, _, hcm⟩ := own_form h.n
  obtain ⟨n, hn⟩ : ∃ n, n = st.p.n.length := ⟨_, rfl⟩
  rw [← hn] at h
  have HIN : Hid (InAt w.drew gi st.b st.bad) := Lib.hid h.drew.in_
  have S0 := Lib.hid h.drew.rs0
  have m4 : w.drew.cell? ⟨gm, 2, none⟩ = some (.slice AX n cX) := h.m.cell 2
  have m4' : w.cell? ⟨gm, 2, none⟩ = some (.slice AX n cX) := h.m.cell 2
  have ADS : Hid (∀ w1, InAt w1 gi R bd → w.drew.grownBy w1 (some gi) → Adds g gi gm 2 27 (.slice AX n cX) n (cellsN st.p.n) (.int .u64 (X : Int)) w1 (fun w' => ReadsE g gi gm c i { st with b := R, bad := bd, p := st.p.app (pN X) } w (.returned (.tuple #[])) w')) := Lib.hid (fun w1 hin hg1 => by
    obtain ⟨k1, k2⟩ := h.drew.read hg1 hin
    exact adds_n k1 hn ((Below.refl _ w).drew.trans k2) X)
  have N1 : Hid (n + 1 ≤ maxLen) := Lib.hid (by unfold maxLen; omega)
  have N2 : Hid ((n + 1) * 8 ≤ 140737488355328) := Lib.hid (by omega)
  have HX := Lib.hid hX
  have HR := Lib.hid hR
  have HBD := Lib.hid hbd
  clear hi0 hz0 hz1 hz2 h hX hR hbd hT he hn hcm
  go_enter Tryd.func46, Tryd.ntmps46
  go_wp2_with fail
  refine wp_region_held_drew (S := RS0 g gi gm) (by kernel_rfl) S0.out (fun hS0 => ?_)
  refine wpAnyH_take (i := 0) (oi := ⟨some 7, _, _, _, _, _⟩) (v := ?_) rfl (by kernel_rfl) (by kernel_rfl) (by kernel_rfl) (fun _ _ _ h => h) (Or.inl ⟨by rfl, ?_⟩) (by assumption) ?_
  rotate_left
  · (intro wS hSw; obtain ⟨hSa, hSb⟩ := hSw; go_simp); all_goals (with_reducible rfl)
  simp only [Act.put, List.setIfInBounds_toArray, List.set_cons_zero, List.set_cons_succ]
  refine wpAnyH_take (i := 1) (oi := ⟨some 8, _, _, _, _, _⟩) (v := ?_) rfl (by kernel_rfl) (by kernel_rfl) (by kernel_rfl) (fun _ _ _ h => h) (Or.inl ⟨by rfl, ?_⟩) (by assumption) ?_
  rotate_left
  · (intro wS hSw; obtain ⟨hSa, hSb⟩ := hSw; go_simp); all_goals (with_reducible rfl)
  simp only [Act.put, List.setIfInBounds_toArray, List.set_cons_zero, List.set_cons_succ]
  refine wpAnyH_take (i := 2) (oi := ⟨some 9, _, _, _, _, _⟩) (v := ?_) rfl (by kernel_rfl) (by kernel_rfl) (by kernel_rfl) (fun _ _ _ h => h) (Or.inl ⟨by rfl, ?_⟩) (by assumption) ?_
  rotate_left
  · (intro wS hSw; obtain ⟨hSa, hSb⟩ := hSw; go_simp); all_goals (with_reducible rfl)
  simp only [Act.put, List.setIfInBounds_toArray, List.set_cons_zero, List.set_cons_succ]
  refine wpAnyH_take (i := 3) (oi := ⟨some 10, _, _, _, _, _⟩) (v := ?_) rfl (by kernel_rfl) (by kernel_rfl) (by kernel_rfl) (fun _ _ _ h => h) (Or.inl ⟨by rfl, ?_⟩) (by assumption) ?_
  rotate_left
  · (intro wS hSw; obtain ⟨hSa, hSb⟩ := hSw; go_simp); all_goals (with_reducible rfl)
  simp only [Act.put, List.setIfInBounds_toArray, List.set_cons_zero, List.set_cons_succ]
  refine wpAnyH_take (i := 4) (oi := ⟨some 11, _, _, _, _, _⟩) (v := ?_) rfl (by kernel_rfl) (by kernel_rfl) (by kernel_rfl) (fun _ _ _ h => h) (Or.inl ⟨by rfl, ?_⟩) (by assumption) ?_
  rotate_left
  · (intro wS hSw; obtain ⟨hSa, hSb⟩ := hSw; go_simp); all_goals (with_reducible rfl)
  simp only [Act.put, List.setIfInBounds_toArray, List.set_cons_zero, List.set_cons_succ]
  refine wpAnyH_take (i := 5) (oi := ⟨some 12, _, _, _, _, _⟩) (v := ?_) rfl (by kernel_rfl) (by kernel_rfl) (by kernel_rfl) (fun _ _ _ h => h) (Or.inl ⟨by rfl, ?_⟩) (by assumption) ?_
  rotate_left
  · (intro wS hSw; obtain ⟨hSa, hSb⟩ := hSw; go_simp); all_goals (with_reducible rfl)
  simp only [Act.put, List.setIfInBounds_toArray, List.set_cons_zero, List.set_cons_succ]
  refine wpAnyH_take (i := 6) (oi := ⟨some 13, _, _, _, _, _⟩) (v := ?_) rfl (by kernel_rfl) (by kernel_rfl) (by kernel_rfl) (fun _ _ _ h => h) (Or.inl ⟨by rfl, ?_⟩) (by assumption) ?_
  rotate_left
  · (intro wS hSw; obtain ⟨hSa, hSb⟩ := hSw; go_simp); all_goals (with_reducible rfl)
  simp only [Act.put, List.setIfInBounds_toArray, List.set_cons_zero, List.set_cons_succ]
  refine wpAnyH_take (i := 7) (oi := ⟨some 14, _, _, _, _, _⟩) (v := ?_) rfl (by kernel_rfl) (by kernel_rfl) (by kernel_rfl) (fun _ _ _ h => h) (Or.inl ⟨by rfl, ?_⟩) (by assumption) ?_
  rotate_left
  · (intro wS hSw; obtain ⟨hSa, hSb⟩ := hSw; go_simp); all_goals (with_reducible rfl)
  simp only [Act.put, List.setIfInBounds_toArray, List.set_cons_zero, List.set_cons_succ]
  refine wpAnyH_take (i := 8) (oi := ⟨some 15, _, _, _, _, _⟩) (v := ?_) rfl (by kernel_rfl) (by kernel_rfl) (by kernel_rfl) (fun _ _ _ h => h) (Or.inl ⟨by rfl, ?_⟩) (by assumption) ?_
  rotate_left
  · (intro wS hSw; obtain ⟨hSa, hSb⟩ := hSw; go_simp); all_goals (with_reducible rfl)
  simp only [Act.put, List.setIfInBounds_toArray, List.set_cons_zero, List.set_cons_succ]
  refine wpAnyH_take (i := 9) (oi := ⟨some 16, _, _, _, _, _⟩) (v := ?_) rfl (by kernel_rfl) (by kernel_rfl) (by kernel_rfl) (fun _ _ _ h => h) (Or.inl ⟨by rfl, ?_⟩) (by assumption) ?_
  rotate_left
  · (intro wS hSw; obtain ⟨hSa, hSb⟩ := hSw; go_simp); all_goals (with_reducible rfl)
  simp only [Act.put, List.setIfInBounds_toArray, List.set_cons_zero, List.set_cons_succ]
  refine wpAnyH_take (i := 11) (oi := ⟨some 18, _, _, _, _, _⟩) (v := ?_) rfl (by kernel_rfl) (by kernel_rfl) (by kernel_rfl) (fun _ _ _ h => h) (Or.inl ⟨by rfl, ?_⟩) (by assumption) ?_
  rotate_left
  · (intro wS hSw; obtain ⟨hSa, hSb⟩ := hSw; go_simp); all_goals (with_reducible rfl)
  simp only [Act.put, List.setIfInBounds_toArray, List.set_cons_zero, List.set_cons_succ]
  refine wpAnyH_take (i := 12) (oi := ⟨some 19, _, _, _, _, _⟩) (v := ?_) rfl (by kernel_rfl) (by kernel_rfl) (by kernel_rfl) (fun _ _ _ h => h) (Or.inl ⟨by rfl, ?_⟩) (by assumption) ?_
  rotate_left
  · (intro wS hSw; obtain ⟨hSa, hSb⟩ := hSw; go_simp); all_goals (with_reducible rfl)
  simp only [Act.put, List.setIfInBounds_toArray, List.set_cons_zero, List.set_cons_succ]
  refine wpAnyH_take (i := 13) (oi := ⟨some 20, _, _, _, _, _⟩) (v := ?_) rfl (by kernel_rfl) (by kernel_rfl) (by kernel_rfl) (fun _ _ _ h => h) (Or.inl ⟨by rfl, ?_⟩) (by assumption) ?_
  rotate_left
  · (intro wS hSw; obtain ⟨hSa, hSb⟩ := hSw; go_simp); all_goals (with_reducible rfl)
  simp only [Act.put, List.setIfInBounds_toArray, List.set_cons_zero, List.set_cons_succ]
  refine wpAnyH_take (i := 14) (oi := ⟨some 21, _, _, _, _, _⟩) (v := ?_) rfl (by kernel_rfl) (by kernel_rfl) (by kernel_rfl) (fun _ _ _ h => h) (Or.inl ⟨by rfl, ?_⟩) (by assumption) ?_
  rotate_left
  · (intro wS hSw; obtain ⟨hSa, hSb⟩ := hSw; go_simp); all_goals (with_reducible rfl)
  simp only [Act.put, List.setIfInBounds_toArray, List.set_cons_zero, List.set_cons_succ]
  refine wpAnyH_take (i := 15) (oi := ⟨some 22, _, _, _, _, _⟩) (v := ?_) rfl (by kernel_rfl) (by kernel_rfl) (by kernel_rfl) (fun _ _ _ h => h) (Or.inl ⟨by rfl, ?_⟩) (by assumption) ?_
  rotate_left
  · (intro wS hSw; obtain ⟨hSa, hSb⟩ := hSw; go_simp); all_goals (with_reducible rfl)
  simp only [Act.put, List.setIfInBounds_toArray, List.set_cons_zero, List.set_cons_succ]
  refine wpAnyH_take (i := 16) (oi := ⟨some 23, _, _, _, _, _⟩) (v := ?_) rfl (by kernel_rfl) (by kernel_rfl) (by kernel_rfl) (fun _ _ _ h => h) (Or.inl ⟨by rfl, ?_⟩) (by assumption) ?_
  rotate_left
  · (intro wS hSw; obtain ⟨hSa, hSb⟩ := hSw; go_simp); all_goals (with_reducible rfl)
  simp only [Act.put, List.setIfInBounds_toArray, List.set_cons_zero, List.set_cons_succ]
  refine wpAnyH_take (i := 17) (oi := ⟨some 24, _, _, _, _, _⟩) (v := ?_) rfl (by kernel_rfl) (by kernel_rfl) (by kernel_rfl) (fun _ _ _ h => h) (Or.inl ⟨by rfl, ?_⟩) (by assumption) ?_
  rotate_left
  · (intro wS hSw; obtain ⟨hSa, hSb⟩ := hSw; go_simp); all_goals (with_reducible rfl)
  simp only [Act.put, List.setIfInBounds_toArray, List.set_cons_zero, List.set_cons_succ]
  refine wpAnyH_ready (rs := [10, 18]) (by kernel_rfl) (by simp) ?_
  refine AllReadyH.cons (o := ⟨some 17, _, _, _, _, _⟩) rfl (fun K hK => ?_) (AllReadyH.cons (o := ⟨some 25, _, _, _, _, _⟩) rfl (fun K hK => ?_) AllReadyH.nil)
  · go_simp
    refine hK.out _ _ ?_ (fun hHeld => ?_)
    · exact hS0
    clear hK K
    try simp only [Act.put, List.setIfInBounds_toArray, List.set_cons_zero, List.set_cons_succ]
    refine wpAnyH_ready (rs := [18]) (by kernel_rfl) (by simp) ?_
    refine AllReadyH.cons (o := ⟨some 25, _, _, _, _, _⟩) rfl (fun K hK => ?_) AllReadyH.nil
    go_simp
    refine (in_int gi 2 st.b st.bad _ HIN.out).mono ?_
    rw [H2.out]
    rintro e w1 ⟨rfl, hin, hg1⟩
    rw [← HX.out]
    rw [← HR.out, ← HBD.out] at hin
    have AD := ADS.out w1 hin hg1
    have l1 := AD.l1
    have lA := AD.lA
    clear hin hg1
    go_wp2_with fail
    refine hK.out _ _ ?_ (fun hHeld => ?_)
    · exact AD.s1
    clear hK K
    try simp only [Act.put, List.setIfInBounds_toArray, List.set_cons_zero, List.set_cons_succ]
    refine wpAnyH_ready (rs := [19]) (by kernel_rfl) (by simp) ?_
    refine AllReadyH.cons (o := ⟨some 26, _, _, _, _, _⟩) rfl (fun K hK => ?_) AllReadyH.nil
    go_simp
    refine hK.out _ _ ?_ (fun hHeld => ?_)
    · exact AD.sA
    clear hK K
    try simp only [Act.put, List.setIfInBounds_toArray, List.set_cons_zero, List.set_cons_succ]
    refine wpAnyH_ready (rs := [20]) (by kernel_rfl) (by simp) ?_
    refine AllReadyH.cons (o := ⟨some 27, _, _, _, _, _⟩) rfl (fun K hK => ?_) AllReadyH.nil
    refine step_append_own2 rfl _ _ 28 rfl (g + 1) 27 i0 (.int .u64 0) 1 8 Tryd.underlying28 GI.out G0.out G1.out G2.out rfl (by omega) (.slice AX n cX) n (cellsN st.p.n) (by rfl) AD.own _ (some ⟨w1.heap.size, 0, none⟩) 1 1 [.int .u64 (X : Int)] (by rfl) AD.lies rfl (by simp [Value.oneCell']) N1.out N2.out AD.size ?_
    intro v' w3 hown3 hg3 hv3
    obtain ⟨A3, c3, rfl, _, _⟩ := own_form hown3
    have DD := AD.done w3 A3 c3 hown3 hg3 hv3
    obtain ⟨KP, f4, m4b⟩ := AD.s3 w3 hg3
    clear hown3 hg3 hv3
    refine hK.out _ _ ?_ (fun hHeld => ?_)
    · exact KP
    clear hK K
    try simp only [Act.put, List.setIfInBounds_toArray, List.set_cons_zero, List.set_cons_succ]
    refine wpAnyH_take (i := 21) (oi := ⟨some 28, _, _, _, _, _⟩) (v := ?_) rfl (by kernel_rfl) (by kernel_rfl) (by kernel_rfl) (fun _ _ _ h => h) (Or.inl ⟨by rfl, ?_⟩) (by assumption) ?_
    rotate_left
    · (intro wS hSw; obtain ⟨hSa, hSb⟩ := hSw; go_simp); all_goals (with_reducible rfl)
    simp only [Act.put, List.setIfInBounds_toArray, List.set_cons_zero, List.set_cons_succ]
    refine wpAnyH_take (i := 22) (oi := ⟨some 29, _, _, _, _, _⟩) (v := ?_) rfl (by kernel_rfl) (by kernel_rfl) (by kernel_rfl) (fun _ _ _ h => h) (Or.inl ⟨by rfl, ?_⟩) (by assumption) ?_
    rotate_left
    · (intro wS hSw; obtain ⟨hSa, hSb⟩ := hSw; go_simp); all_goals (with_reducible rfl)
    simp only [Act.put, List.setIfInBounds_toArray, List.set_cons_zero, List.set_cons_succ]
    refine wpAnyH_ready (rs := [23]) (by kernel_rfl) (by simp) ?_
    refine AllReadyH.cons (o := ⟨none, _, _, _, _, _⟩) rfl (fun K hK => ?_) AllReadyH.nil
    go_simp
    refine hK.out _ _ ?_ (fun hHeld => ?_)
    · exact AD.s4 _ _ KP
    clear hK K
    try simp only [Act.put, List.setIfInBounds_toArray, List.set_cons_zero, List.set_cons_succ]
    refine wpAnyH_done (by kernel_rfl) ?_ _
    go_wp2_with fail
    go_end0
    exact DD.by E.out
  · go_simp
    refine (in_int gi 2 st.b st.bad _ HIN.out).mono ?_
    rw [H2.out]
    rintro e w1 ⟨rfl, hin, hg1⟩
    rw [← HX.out]
    rw [← HR.out, ← HBD.out] at hin
    have AD := ADS.out w1 hin hg1
    have l1 := AD.l1
    have lA := AD.lA
    clear hin hg1
    go_wp2_with fail
    refine hK.out _ _ ?_ (fun hHeld => ?_)
    · exact AD.s1
    clear hK K
    try simp only [Act.put, List.setIfInBounds_toArray, List.set_cons_zero, List.set_cons_succ]
    refine wpAnyH_ready (rs := [10, 19]) (by kernel_rfl) (by simp) ?_
    refine AllReadyH.cons (o := ⟨some 17, _, _, _, _, _⟩) rfl (fun K hK => ?_) (AllReadyH.cons (o := ⟨some 26, _, _, _, _, _⟩) rfl (fun K hK => ?_) AllReadyH.nil)
    · go_simp
      refine hK.out _ _ ?_ (fun hHeld => ?_)
      · exact AD.s1
      clear hK K
      try simp only [Act.put, List.setIfInBounds_toArray, List.set_cons_zero, List.set_cons_succ]
      refine wpAnyH_ready (rs := [19]) (by kernel_rfl) (by simp) ?_
      refine AllReadyH.cons (o := ⟨some 26, _, _, _, _, _⟩) rfl (fun K hK => ?_) AllReadyH.nil
      go_simp
      refine hK.out _ _ ?_ (fun hHeld => ?_)
      · exact AD.sA
      clear hK K
      try simp only [Act.put, List.setIfInBounds_toArray, List.set_cons_zero, List.set_cons_succ]
      refine wpAnyH_ready (rs := [20]) (by kernel_rfl) (by simp) ?_
      refine AllReadyH.cons (o := ⟨some 27, _, _, _, _, _⟩) rfl (fun K hK => ?_) AllReadyH.nil
      refine step_append_own2 rfl _ _ 28 rfl (g + 1) 27 i0 (.int .u64 0) 1 8 Tryd.underlying28 GI.out G0.out G1.out G2.out rfl (by omega) (.slice AX n cX) n (cellsN st.p.n) (by rfl) AD.own _ (some ⟨w1.heap.size, 0, none⟩) 1 1 [.int .u64 (X : Int)] (by rfl) AD.lies rfl (by simp [Value.oneCell']) N1.out N2.out AD.size ?_
      intro v' w3 hown3 hg3 hv3
      obtain ⟨A3, c3, rfl, _, _⟩ := own_form hown3
      have DD := AD.done w3 A3 c3 hown3 hg3 hv3
      obtain ⟨KP, f4, m4b⟩ := AD.s3 w3 hg3
      clear hown3 hg3 hv3
      refine hK.out _ _ ?_ (fun hHeld => ?_)
      · exact KP
      clear hK K
      try simp only [Act.put, List.setIfInBounds_toArray, List.set_cons_zero, List.set_cons_succ]
      refine wpAnyH_take (i := 21) (oi := ⟨some 28, _, _, _, _, _⟩) (v := ?_) rfl (by kernel_rfl) (by kernel_rfl) (by kernel_rfl) (fun _ _ _ h => h) (Or.inl ⟨by rfl, ?_⟩) (by assumption) ?_
      rotate_left
      · (intro wS hSw; obtain ⟨hSa, hSb⟩ := hSw; go_simp); all_goals (with_reducible rfl)
      simp only [Act.put, List.setIfInBounds_toArray, List.set_cons_zero, List.set_cons_succ]
      refine wpAnyH_take (i := 22) (oi := ⟨some 29, _, _, _, _, _⟩) (v := ?_) rfl (by kernel_rfl) (by kernel_rfl) (by kernel_rfl) (fun _ _ _ h => h) (Or.inl ⟨by rfl, ?_⟩) (by assumption) ?_
      rotate_left
      · (intro wS hSw; obtain ⟨hSa, hSb⟩ := hSw; go_simp); all_goals (with_reducible rfl)
      simp only [Act.put, List.setIfInBounds_toArray, List.set_cons_zero, List.set_cons_succ]
      refine wpAnyH_ready (rs := [23]) (by kernel_rfl) (by simp) ?_
      refine AllReadyH.cons (o := ⟨none, _, _, _, _, _⟩) rfl (fun K hK => ?_) AllReadyH.nil
      go_simp
      refine hK.out _ _ ?_ (fun hHeld => ?_)
      · exact AD.s4 _ _ KP
      clear hK K
      try simp only [Act.put, List.setIfInBounds_toArray, List.set_cons_zero, List.set_cons_succ]
      refine wpAnyH_done (by kernel_rfl) ?_ _
      go_wp2_with fail
      go_end0
      exact DD.by E.out
    · go_simp
      refine hK.out _ _ ?_ (fun hHeld => ?_)
      · exact AD.sA
      clear hK K
      try simp only [Act.put, List.setIfInBounds_toArray, List.set_cons_zero, List.set_cons_succ]
      refine wpAnyH_ready (rs := [10]) (by kernel_rfl) (by simp) ?_
      refine AllReadyH.cons (o := ⟨some 17, _, _, _, _, _⟩) rfl (fun K hK => ?_) AllReadyH.nil
      go_simp
      refine hK.out _ _ ?_ (fun hHeld => ?_)
      · exact AD.sA
      clear hK K
      try simp only [Act.put, List.setIfInBounds_toArray, List.set_cons_zero, List.set_cons_succ]
      refine wpAnyH_ready (rs := [20]) (by kernel_rfl) (by simp) ?_
      refine AllReadyH.cons (o := ⟨some 27, _, _, _, _, _⟩) rfl (fun K hK => ?_) AllReadyH.nil
      refine step_append_own2 rfl _ _ 28 rfl (g + 1) 27 i0 (.int .u64 0) 1 8 Tryd.underlying28 GI.out G0.out G1.out G2.out rfl (by omega) (.slice AX n cX) n (cellsN st.p.n) (by rfl) AD.own _ (some ⟨w1.heap.size, 0, none⟩) 1 1 [.int .u64 (X : Int)] (by rfl) AD.lies rfl (by simp [Value.oneCell']) N1.out N2.out AD.size ?_
      intro v' w3 hown3 hg3 hv3
      obtain ⟨A3, c3, rfl, _, _⟩ := own_form hown3
      have DD := AD.done w3 A3 c3 hown3 hg3 hv3
      obtain ⟨KP, f4, m4b⟩ := AD.s3 w3 hg3
      clear hown3 hg3 hv3
      refine hK.out _ _ ?_ (fun hHeld => ?_)
      · exact KP
      clear hK K
      try simp only [Act.put, List.setIfInBounds_toArray, List.set_cons_zero, List.set_cons_succ]
      refine wpAnyH_take (i := 21) (oi := ⟨some 28, _, _, _, _, _⟩) (v := ?_) rfl (by kernel_rfl) (by kernel_rfl) (by kernel_rfl) (fun _ _ _ h => h) (Or.inl ⟨by rfl, ?_⟩) (by assumption) ?_
      rotate_left
      · (intro wS hSw; obtain ⟨hSa, hSb⟩ := hSw; go_simp); all_goals (with_reducible rfl)
      simp only [Act.put, List.setIfInBounds_toArray, List.set_cons_zero, List.set_cons_succ]
      refine wpAnyH_take (i := 22) (oi := ⟨some 29, _, _, _, _, _⟩) (v := ?_) rfl (by kernel_rfl) (by kernel_rfl) (by kernel_rfl) (fun _ _ _ h => h) (Or.inl ⟨by rfl, ?_⟩) (by assumption) ?_
      rotate_left
      · (intro wS hSw; obtain ⟨hSa, hSb⟩ := hSw; go_simp); all_goals (with_reducible rfl)
      simp only [Act.put, List.setIfInBounds_toArray, List.set_cons_zero, List.set_cons_succ]
      refine wpAnyH_ready (rs := [23]) (by kernel_rfl) (by simp) ?_
      refine AllReadyH.cons (o := ⟨none, _, _, _, _, _⟩) rfl (fun K hK => ?_) AllReadyH.nil
      go_simp
      refine hK.out _ _ ?_ (fun hHeld => ?_)
      · exact AD.s4 _ _ KP
      clear hK K
      try simp only [Act.put, List.setIfInBounds_toArray, List.set_cons_zero, List.set_cons_succ]
      refine wpAnyH_done (by kernel_rfl) ?_ _
      go_wp2_with fail
      go_end0
      exact DD.by E.out
end Go.Proofs.YtlfppfknelddcaaDoor
