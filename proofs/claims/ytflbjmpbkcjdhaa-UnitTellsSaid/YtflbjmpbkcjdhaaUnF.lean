/- Contracts of package unit: the closure of Places. -/
import Derived.Test.YtflbjmpbkcjdhaaUnE
namespace Go.Proofs.Ytflbjmpbkcjdhaa
open Go.RowKit
set_option maxRecDepth 100000
set_option linter.unusedSimpArgs false
set_option linter.unusedVariables false

set_option maxHeartbeats 1000000 in
theorem places1_any (lb g : Nat) (ts : List Tl) (t : Tl) (A : Option Addr) (c : Nat) (E : Int) (w : World) (hJ : JQ lb g ts w) (hts : ts.length ≤ 1000000) (hgw : g < w.heap.size) (h1 : t.o.del = true → t.pos = 0 ∧ t.o.val = []) (h2 : t.o.del = false → (t.pos : Int) = E - t.o.val.length) (hE : E ≤ 190000) (hE0 : 0 ≤ E) (hv : t.o.val.length ≤ 190000) :
    Calls Try.prog 25 #[.agg #[.string ⟨t.o.key.toArray⟩, .bool t.o.del, .slice A t.o.val.length c], .int .i64 E, .pointer (some ⟨lb, 0, none⟩)] w (TakesIn (JQ lb g) lb g ts t w) := by
  obtain ⟨i0, hi, hz0, hz1, hz2⟩ := info_parts2 pl_info
  obtain ⟨A0, c0, e1, e2⟩ := hJ.ex
  have hl := hJ.lbg
  have HI := Lib.hid hi
  have H0 := Lib.hid hz0
  have H1 := Lib.hid hz1
  have H2 := Lib.hid hz2
  have HX := Lib.hid e1
  have HO := Lib.hid e2
  have D1 := Lib.hid h1
  have D2 := Lib.hid h2
  obtain ⟨WA, hWA⟩ : ∃ W, W = w.alloc (.cells #[.string ⟨t.o.key.toArray⟩, .bool t.o.del, .slice A t.o.val.length c] 24) := ⟨_, rfl⟩
  have b1 : Below w.heap.size w WA := by rw [hWA]; exact (Below.refl _ _).alloc (Nat.le_refl _) _
  have x1 : Whole WA w.heap.size 24 #[.string ⟨t.o.key.toArray⟩, .bool t.o.del, .slice A t.o.val.length c] := by rw [hWA]; exact Whole.new _ _ _
  have z1 : WA.heap.size = w.heap.size + 1 := by rw [hWA]; simp
  obtain ⟨W1, hW1⟩ : ∃ W, W = WA.alloc (.cells #[.string ⟨t.o.key.toArray⟩, .bool t.o.del, .int .i64 0, .int .i64 0] 39) := ⟨_, rfl⟩
  have y0 := x1.cell 0
  have y1 := x1.cell 1
  have b2 : Below w.heap.size w W1 := by rw [hW1]; exact b1.alloc b1.size _
  have x2' : Whole W1 w.heap.size 24 #[.string ⟨t.o.key.toArray⟩, .bool t.o.del, .slice A t.o.val.length c] := by rw [hW1]; exact x1.alloc _
  have q1' : Whole W1 (w.heap.size + 1) 39 #[.string ⟨t.o.key.toArray⟩, .bool t.o.del, .int .i64 0, .int .i64 0] := by rw [hW1, ← z1]; exact Whole.new _ _ _
  have X1 := Lib.hid x2'
  have Q1 := Lib.hid q1'
  have B1 := Lib.hid b2
  have d1 : W1.cell? ⟨w.heap.size, 1, none⟩ = some (.bool t.o.del) := x2'.cell 1
  have ZW : Hid (W1.heap.size = w.heap.size + 2) := Lib.hid (by rw [hW1]; simp [z1])
  clear hi hz0 hz1 hz2 e1 e2 h1 h2 b1 x1 b2 x2' q1' hJ
  go_enter Try.func25, Try.ntmps25
  go_upto_region 1 with fail
  rw [← hWA]
  clear hWA
  go_upto_region 2 with fail
  rw [← hW1]
  clear hW1 y0 y1 z1
  obtain ⟨dl, hdl⟩ : ∃ dl, dl = t.o.del := ⟨_, rfl⟩
  rw [← hdl] at d1
  have HD := Lib.hid hdl
  clear hdl
  cases dl with
  | true =>
    have P := Lib.hid (D1.out HD.out.symm)
    have hq : Whole W1 (w.heap.size + 1) 39 (cellsPl t).toArray := by
      have := Q1.out
      unfold cellsPl
      rw [P.out.1, P.out.2]
      exact this
    have hb : Below (w.heap.size + 1) W1 W1 := Below.refl _ _
    obtain ⟨WC, hWC⟩ : ∃ W, W = W1 := ⟨_, rfl⟩
    rw [← hWC] at hq d1
    have hb : Below (w.heap.size + 1) W1 WC := by rw [hWC]; exact Below.refl _ _
    rw [← hWC]
    clear hWC
    have BC : Below w.heap.size w WC := B1.out.trans (hb.mono (by omega))
    have hlw := HX.out.lt
    have XC := HX.out.below BC (by omega)
    have c1 : WC.cell? ⟨lb, 0, none⟩ = some (.slice A0 ts.length c0) := XC.cell 0
    have f1 := XC.frozen 0
    have p0 : WC.cell? ⟨w.heap.size + 1, 0, none⟩ = some (.string ⟨t.o.key.toArray⟩) := hq.cell 0
    have p1 : WC.cell? ⟨w.heap.size + 1, 1, none⟩ = some (.bool t.o.del) := hq.cell 1
    have p2 : WC.cell? ⟨w.heap.size + 1, 2, none⟩ = some (.int .i64 t.pos) := hq.cell 2
    have p3 : WC.cell? ⟨w.heap.size + 1, 3, none⟩ = some (.int .i64 t.o.val.length) := hq.cell 3
    have O1 := Lib.hid (HO.out.kept (only_below BC none) (Classical.em _))
    have HXC := Lib.hid XC
    have HBC := Lib.hid BC
    have HR1 : Hid (ts.length + 1 ≤ maxLen) := Lib.hid (room63 (by omega))
    have HR2 : Hid ((ts.length + 1) * 40 ≤ 140737488355328) := Lib.hid (by omega)
    have zC : g + 1 ≤ WC.heap.size := by have := BC.size; omega
    clear hq hb BC XC
    go_wp2_with (at_builtin; go_must (refine wpList_append_apart rfl _ _ 34 rfl (g + 1) 39 i0 _ 4 40 Try.underlying34 HI.out H0.out H1.out H2.out rfl (by omega) (.slice A0 ts.length c0) ts.length _ rfl (O1.out.alloc _) _ _ 1 1 (cellsPl t) rfl (Lies.lit WC 39 (cellsPl t)) rfl (cellsPl_one _) HR1.out HR2.out (by simp; omega) ?_); intro v7 w7 o7 g7; obtain ⟨A7, c7, rfl, hc7, hm7⟩ := own_form o7; have F7 := JQ.more HXC.out O1.out hl zC g7 o7; have X7 := F7.1; have k0 : w7.cell? ⟨lb, 0, none⟩ = some (.slice A0 ts.length c0) := X7.cell 0; have k1 := X7.frozen 0; have F8 := Lib.hid F7.2; clear F7 X7 g7 o7)
    go_end0
    exact ⟨rfl, F8.out.1, (Bx.low (HBC.out.mono (by omega))).trans F8.out.2⟩
  | false =>
    have P : Hid ((t.pos : Int) = IntKind.i64.wrap (E - t.o.val.length)) := Lib.hid (by rw [D2.out HD.out.symm]; exact (IntWalk.i64_in _ ⟨by omega, by omega⟩).symm)
    have XD : Hid (Whole W1.drew w.heap.size 24 #[.string ⟨t.o.key.toArray⟩, .bool t.o.del, .slice A t.o.val.length c]) := Lib.hid X1.out
    have QD : Hid (Whole W1.drew (w.heap.size + 1) 39 #[.string ⟨t.o.key.toArray⟩, .bool t.o.del, .int .i64 0, .int .i64 0]) := Lib.hid Q1.out
    have BD : Hid (Below (w.heap.size + 1) W1 W1.drew) := Lib.hid ((Below.refl _ _).drew)
    have x2 : W1.drew.cell? ⟨w.heap.size, 2, none⟩ = some (.slice A t.o.val.length c) := XD.out.cell 2
    go_upto_region 3 with fail
    refine wp_region_held_drew (S := (fun w' => w'.cell? ⟨w.heap.size, 2, none⟩ = some (.slice A t.o.val.length c))) (by kernel_rfl) x2 (fun hS0 => ?_)
    obtain ⟨WD, hWD⟩ : ∃ WD, WD = W1.drew := ⟨_, rfl⟩
    have XE := XD.out
    have QE := QD.out
    have BE := BD.out
    rw [← hWD] at XE QE BE hS0 ⊢
    have XD := Lib.hid XE
    have QD := Lib.hid QE
    have BD := Lib.hid BE
    clear hWD XE QE BE x2
    have x2 := XD.out.cell 2
    have q2 := QD.out.cell 2
    have q3 := QD.out.cell 3
    have f2 := QD.out.frozen 2
    have f3 := QD.out.frozen 3
    have q3w := QD.out.cell 3
    have f3w := QD.out.frozen 3
    refine wpAnyH_take (i := 0) (oi := ⟨some 14, _, _, _, _, _⟩) (v := ?_) rfl (by kernel_rfl) (by kernel_rfl) (by kernel_rfl) (fun _ _ _ h => h) (Or.inl ⟨by rfl, ?_⟩) hS0 ?_
    rotate_left
    · (intro wS hSw; (try dsimp only at hSw); go_simp); all_goals (with_reducible rfl)
    try simp only [Act.put, List.setIfInBounds_toArray, List.set_cons_zero, List.set_cons_succ]
    refine wpAnyH_take (i := 1) (oi := ⟨some 15, _, _, _, _, _⟩) (v := ?_) rfl (by kernel_rfl) (by kernel_rfl) (by kernel_rfl) (fun _ _ _ h => h) (Or.inl ⟨by rfl, ?_⟩) hS0 ?_
    rotate_left
    · (intro wS hSw; (try dsimp only at hSw); go_simp); all_goals (with_reducible rfl)
    try simp only [Act.put, List.setIfInBounds_toArray, List.set_cons_zero, List.set_cons_succ]
    refine wpAnyH_take (i := 2) (oi := ⟨some 16, _, _, _, _, _⟩) (v := ?_) rfl (by kernel_rfl) (by kernel_rfl) (by kernel_rfl) (fun _ _ _ h => h) (Or.inl ⟨by rfl, ?_⟩) hS0 ?_
    rotate_left
    · (intro wS hSw; (try dsimp only at hSw); go_simp); all_goals (with_reducible rfl)
    try simp only [Act.put, List.setIfInBounds_toArray, List.set_cons_zero, List.set_cons_succ]
    refine wpAnyH_take (i := 3) (oi := ⟨some 17, _, _, _, _, _⟩) (v := ?_) rfl (by kernel_rfl) (by kernel_rfl) (by kernel_rfl) (fun _ _ _ h => h) (Or.inl ⟨by rfl, ?_⟩) hS0 ?_
    rotate_left
    · (intro wS hSw; (try dsimp only at hSw); go_simp); all_goals (with_reducible rfl)
    try simp only [Act.put, List.setIfInBounds_toArray, List.set_cons_zero, List.set_cons_succ]
    refine wpAnyH_take (i := 4) (oi := ⟨some 18, _, _, _, _, _⟩) (v := ?_) rfl (by kernel_rfl) (by kernel_rfl) (by kernel_rfl) (fun _ _ _ h => h) (Or.inl ⟨by rfl, ?_⟩) hS0 ?_
    rotate_left
    · (intro wS hSw; (try dsimp only at hSw); go_simp); all_goals (with_reducible rfl)
    try simp only [Act.put, List.setIfInBounds_toArray, List.set_cons_zero, List.set_cons_succ]
    refine wpAnyH_take (i := 5) (oi := ⟨some 19, _, _, _, _, _⟩) (v := ?_) rfl (by kernel_rfl) (by kernel_rfl) (by kernel_rfl) (fun _ _ _ h => h) (Or.inl ⟨by rfl, ?_⟩) hS0 ?_
    rotate_left
    · (intro wS hSw; (try dsimp only at hSw); go_simp); all_goals (with_reducible rfl)
    try simp only [Act.put, List.setIfInBounds_toArray, List.set_cons_zero, List.set_cons_succ]
    refine wpAnyH_take (i := 6) (oi := ⟨some 20, _, _, _, _, _⟩) (v := ?_) rfl (by kernel_rfl) (by kernel_rfl) (by kernel_rfl) (fun _ _ _ h => h) (Or.inl ⟨by rfl, ?_⟩) hS0 ?_
    rotate_left
    · (intro wS hSw; (try dsimp only at hSw); go_simp); all_goals (with_reducible rfl)
    try simp only [Act.put, List.setIfInBounds_toArray, List.set_cons_zero, List.set_cons_succ]
    refine wpAnyH_take (i := 7) (oi := ⟨some 21, _, _, _, _, _⟩) (v := ?_) rfl (by kernel_rfl) (by kernel_rfl) (by kernel_rfl) (fun _ _ _ h => h) (Or.inl ⟨by rfl, ?_⟩) hS0 ?_
    rotate_left
    · (intro wS hSw; (try dsimp only at hSw); go_simp); all_goals (with_reducible rfl)
    try simp only [Act.put, List.setIfInBounds_toArray, List.set_cons_zero, List.set_cons_succ]
    refine wpAnyH_take (i := 8) (oi := ⟨some 22, _, _, _, _, _⟩) (v := ?_) rfl (by kernel_rfl) (by kernel_rfl) (by kernel_rfl) (fun _ _ _ h => h) (Or.inl ⟨by rfl, ?_⟩) hS0 ?_
    rotate_left
    · (intro wS hSw; (try dsimp only at hSw); go_simp); all_goals (with_reducible rfl)
    try simp only [Act.put, List.setIfInBounds_toArray, List.set_cons_zero, List.set_cons_succ]
    refine wpAnyH_ready (rs := [9]) (by kernel_rfl) (by simp) ?_
    refine AllReadyH.cons (o := ⟨none, _, _, _, _, _⟩) rfl (fun K hK => ?_) AllReadyH.nil
    go_simp
    have QD := Lib.hid (QD.out.put 2 (.int .i64 (IntKind.i64.wrap (E - t.o.val.length))))
    have BD := Lib.hid (BD.out.setCell (p := ⟨w.heap.size + 1, 2, none⟩) (Nat.le_refl _) (.int .i64 (IntKind.i64.wrap (E - t.o.val.length))))
    have XD := Lib.hid (XD.out.other (i := 2) (u := (.int .i64 (IntKind.i64.wrap (E - t.o.val.length)))) (show w.heap.size ≠ w.heap.size + 1 by omega))
    have z2 := XD.out.cell 2
    clear q2 q3 f2 f3
    have q2 := QD.out.cell 2
    have q3 := QD.out.cell 3
    have f2 := QD.out.frozen 2
    have f3 := QD.out.frozen 3
    refine hK.out _ _ z2 (fun hS9 => ?_)
    clear hK K
    try simp only [Act.put, List.setIfInBounds_toArray, List.set_cons_zero, List.set_cons_succ]
    refine wpAnyH_take (i := 10) (oi := ⟨some 23, _, _, _, _, _⟩) (v := ?_) rfl (by kernel_rfl) (by kernel_rfl) (by kernel_rfl) (fun _ _ _ h => h) (Or.inl ⟨by rfl, ?_⟩) hS9 ?_
    rotate_left
    · (intro wS hSw; (try dsimp only at hSw); go_simp); all_goals (with_reducible rfl)
    try simp only [Act.put, List.setIfInBounds_toArray, List.set_cons_zero, List.set_cons_succ]
    refine wpAnyH_ready (rs := [11]) (by kernel_rfl) (by simp) ?_
    refine AllReadyH.cons (o := ⟨none, _, _, _, _, _⟩) rfl (fun K hK => ?_) AllReadyH.nil
    go_simp
    have QD := Lib.hid (QD.out.put 3 (.int .i64 t.o.val.length))
    have BD := Lib.hid (BD.out.setCell (p := ⟨w.heap.size + 1, 3, none⟩) (Nat.le_refl _) (.int .i64 t.o.val.length))
    have XD := Lib.hid (XD.out.other (i := 3) (u := (.int .i64 t.o.val.length)) (show w.heap.size ≠ w.heap.size + 1 by omega))
    have z2 := XD.out.cell 2
    clear q2 q3 f2 f3
    have q2 := QD.out.cell 2
    have q3 := QD.out.cell 3
    have f2 := QD.out.frozen 2
    have f3 := QD.out.frozen 3
    refine hK.out _ _ z2 (fun hS11 => ?_)
    clear hK K
    try simp only [Act.put, List.setIfInBounds_toArray, List.set_cons_zero, List.set_cons_succ]
    refine wpAnyH_done (by kernel_rfl) ?_ _
    have hq : Whole ((WD.setCell ⟨w.heap.size + 1, 2, none⟩ (.int .i64 (IntKind.i64.wrap (E - t.o.val.length)))).setCell ⟨w.heap.size + 1, 3, none⟩ (.int .i64 t.o.val.length)) (w.heap.size + 1) 39 (cellsPl t).toArray := by
      have := QD.out
      unfold cellsPl
      rw [P.out]
      exact this
    have hb := BD.out
    obtain ⟨WC, hWC⟩ : ∃ W, W = ((WD.setCell ⟨w.heap.size + 1, 2, none⟩ (.int .i64 (IntKind.i64.wrap (E - t.o.val.length)))).setCell ⟨w.heap.size + 1, 3, none⟩ (.int .i64 t.o.val.length)) := ⟨_, rfl⟩
    rw [← hWC] at hq hb
    rw [← hWC]
    clear hWC q2 q3 f2 f3 q3w f3w
    have BC : Below w.heap.size w WC := B1.out.trans (hb.mono (by omega))
    have hlw := HX.out.lt
    have XC := HX.out.below BC (by omega)
    have c1 : WC.cell? ⟨lb, 0, none⟩ = some (.slice A0 ts.length c0) := XC.cell 0
    have f1 := XC.frozen 0
    have p0 : WC.cell? ⟨w.heap.size + 1, 0, none⟩ = some (.string ⟨t.o.key.toArray⟩) := hq.cell 0
    have p1 : WC.cell? ⟨w.heap.size + 1, 1, none⟩ = some (.bool t.o.del) := hq.cell 1
    have p2 : WC.cell? ⟨w.heap.size + 1, 2, none⟩ = some (.int .i64 t.pos) := hq.cell 2
    have p3 : WC.cell? ⟨w.heap.size + 1, 3, none⟩ = some (.int .i64 t.o.val.length) := hq.cell 3
    have O1 := Lib.hid (HO.out.kept (only_below BC none) (Classical.em _))
    have HXC := Lib.hid XC
    have HBC := Lib.hid BC
    have HR1 : Hid (ts.length + 1 ≤ maxLen) := Lib.hid (room63 (by omega))
    have HR2 : Hid ((ts.length + 1) * 40 ≤ 140737488355328) := Lib.hid (by omega)
    have zC : g + 1 ≤ WC.heap.size := by have := BC.size; omega
    clear hq hb BC XC
    go_wp2_with (at_builtin; go_must (refine wpList_append_apart rfl _ _ 34 rfl (g + 1) 39 i0 _ 4 40 Try.underlying34 HI.out H0.out H1.out H2.out rfl (by omega) (.slice A0 ts.length c0) ts.length _ rfl (O1.out.alloc _) _ _ 1 1 (cellsPl t) rfl (Lies.lit WC 39 (cellsPl t)) rfl (cellsPl_one _) HR1.out HR2.out (by simp; omega) ?_); intro v7 w7 o7 g7; obtain ⟨A7, c7, rfl, hc7, hm7⟩ := own_form o7; have F7 := JQ.more HXC.out O1.out hl zC g7 o7; have X7 := F7.1; have k0 : w7.cell? ⟨lb, 0, none⟩ = some (.slice A0 ts.length c0) := X7.cell 0; have k1 := X7.frozen 0; have F8 := Lib.hid F7.2; clear F7 X7 g7 o7)
    go_end0
    exact ⟨rfl, F8.out.1, (Bx.low (HBC.out.mono (by omega))).trans F8.out.2⟩
end Go.Proofs.Ytflbjmpbkcjdhaa
