/- Layer 8: the octets of a batch that are in a sector. -/
import Derived.Test.YtmemdkgoeldemaaGreatDoorJourI
import Derived.Deep.MidRow
namespace Go.Proofs.YtmemdkgoeldemaaGreatDoor
open Go.RowKit Go.Maps
set_option maxRecDepth 100000
set_option linter.unusedSimpArgs false
set_option linter.unusedVariables false
theorem lies_up {w : World} {B D : Nat} {A : Option Addr} {cs : List Value} (h : Lies w B A cs) (hB : B ≤ D) : Lies w D A cs := by
  rcases h with e | ⟨b1, o1, e1, e2, e3⟩
  · exact .inl e
  · exact .inr ⟨b1, o1, e1, Nat.lt_of_lt_of_le e2 hB, e3⟩
theorem field4 (i1 i2 i3 i4 i5 : Int) (w : World) : (Instr.field 127 (.agg #[.int .u64 i1, .int .i64 i2, .int .i64 i3, .int .i64 i4, .int .i64 i5]) 4).run Tryz.prog w = .ok (.int .i64 i5) w := by kernel_rfl
set_option maxHeartbeats 4000000 in
theorem data_any (h : Hd) (f : h.fit) (s : Sec) (w : World) :
    Calls Tryz.prog 96 #[hdV h, .agg (csF s)] w fun e w' => Below w.heap.size w w' ∧
      ((∃ v, e = .returned (.tuple #[v, .bool false]) ∧ dataP h s = none) ∨ ∃ A b c, e = .returned (.tuple #[.slice A b.length c, .bool true]) ∧ dataP h s = some b ∧ b.length ≤ 48 ∧ b.length ≤ c ∧ c ≤ 64 ∧ Lies w' w'.heap.size A (B8 b)) := by
  obtain ⟨f1, f2, f3, f4, f5⟩ := id f
  have hsl := s.2
  have hzf := hdOf_fit s.1 (by rw [hsl]; decide)
  obtain ⟨z, hz⟩ : ∃ z, z = (hdOf s.1).size := ⟨_, rfl⟩
  have hzl : z < 65536 := by rw [hz]; exact hzf.2.2.2.2
  have fz : (h.sized z).fit := ⟨f1, f2, f3, f4, hzl⟩
  have HZ := Lib.hid hz
  clear hzf hz
  unfold hdV
  go_enter Tryz.func96, Tryz.ntmps96
  go_upto_region 1 with (fail)
  refine wp_rename3 (fun W => Below w.heap.size w W ∧ W.heap[w.heap.size]? = some (.cells (hdR h) 127 (0, 0)) ∧ W.heap[w.heap.size + 1]? = some (.cells (csF s) 41 (0, 0)) ∧ W.heap.size = w.heap.size + 2) ⟨((Below.refl _ _).alloc (Nat.le_refl _) _).alloc (by simp) _, ?_, heap_at (by simp), by simp⟩ ?_
  · rw [Below.heap_alloc _ _ _ (by simp)]
    exact heap_alloc_new w _
  rintro W1 ⟨hb1, hr0, hr1, hz1⟩
  have B1 := Lib.hid hb1
  have R1 := Lib.hid hr0
  have Q1 := Lib.hid hr1
  have Z1 := Lib.hid hz1
  clear hb1 hr0 hr1 hz1
  obtain ⟨i1, i2, i3, i4, hv⟩ : ∃ i1 i2 i3 i4 : Int, hdV (hdOf s.1) = .agg #[.int .u64 i1, .int .i64 i2, .int .i64 i3, .int .i64 i4, .int .i64 (z : Int)] := ⟨_, _, _, _, by rw [HZ.out]; rfl⟩
  have HV := Lib.hid hv
  have hfd : ∀ w : World, (Instr.field 127 (.agg #[.int .u64 i1, .int .i64 i2, .int .i64 i3, .int .i64 i4, .int .i64 (z : Int)]) 4).run Tryz.prog w = .ok (.int .i64 (z : Int)) w := fun w => field4 i1 i2 i3 i4 (z : Int) w
  clear hv
  go_upto_region 2 with (first
    | (with_reducible refine at_load36 ?_; go_must (refine wpList_load64 rfl (.tmp 3) rfl (w.heap.size + 1) s rfl Q1.out ?_))
    | (go_at_call 94; go_must (refine (headOf_any s _).mono ?_); rintro e w2 ⟨he, hb2⟩; rw [HV.out] at he; subst he; have B2 := Lib.hid (B1.out.trans (hb2.mono B1.out.size)); have R2 : Whole w2 w.heap.size 127 (hdR h) := (hb2.block _ (by have := Z1.out; omega)).trans R1.out; have Q2 : Hid (w2.heap[w.heap.size + 1]? = some (.cells (csF s) 41 (0, 0))) := Lib.hid ((hb2.block _ (by have := Z1.out; omega)).trans Q1.out); have S2 := Lib.hid hb2.size; have q4 : w2.cell? ⟨w.heap.size, 4, none⟩ = some (.int .i64 (h.size : Int)) := (Whole.cell R2 4).trans rfl; have z4 := Whole.frozen R2 4; have R2h := Lib.hid R2; clear hb2 R2))
  refine wp_rename3 (fun W => Below w.heap.size w W ∧ Whole W w.heap.size 127 (hdR (h.sized z)) ∧ W.heap[w.heap.size + 1]? = some (.cells (csF s) 41 (0, 0)) ∧ w.heap.size + 1 < W.heap.size) ⟨B2.out.setCell (Nat.le_refl _) _, Whole.put R2h.out 4 _, (Below.heap_setCell _ _ _ _ (by show w.heap.size + 1 ≠ w.heap.size; omega)).trans Q2.out, by have := S2.out; have := Z1.out; simp; omega⟩ ?_
  rintro W3 ⟨hb3, hr3, hq3, hs3⟩
  have B3 := Lib.hid hb3
  have RZ : Hid (Whole W3.drew w.heap.size 127 (hdR (h.sized z))) := Lib.hid hr3
  have Q3 : Hid (W3.drew.heap[w.heap.size + 1]? = some (.cells (csF s) 41 (0, 0))) := Lib.hid hq3
  have hl1 : w.heap.size + 1 < W3.drew.heap.size := hs3
  have hl0 : w.heap.size < W3.drew.heap.size := by omega
  have cz : ∀ {w' : World}, Whole w' w.heap.size 127 (hdR (h.sized z)) → w'.cell? ⟨w.heap.size, 0, none⟩ = some (.int .u64 (h.seq : Int)) ∧ w'.cell? ⟨w.heap.size, 1, none⟩ = some (.int .i64 (h.place : Int)) ∧ w'.cell? ⟨w.heap.size, 2, none⟩ = some (.int .i64 (h.count : Int)) ∧ w'.cell? ⟨w.heap.size, 3, none⟩ = some (.int .i64 (h.kind : Int)) ∧ w'.cell? ⟨w.heap.size, 4, none⟩ = some (.int .i64 (z : Int)) := fun hh => ⟨(Whole.cell hh 0).trans rfl, (Whole.cell hh 1).trans rfl, (Whole.cell hh 2).trans rfl, (Whole.cell hh 3).trans rfl, (Whole.cell hh 4).trans rfl⟩
  obtain ⟨L, hL⟩ : ∃ L, L = h.least := ⟨_, rfl⟩
  have HLe : Hid ((h.sized z).least = L) := Lib.hid (by rw [hL]; rfl)
  have HL := Lib.hid hL
  clear hb3 hr3 hq3 hs3 hL q4 z4
  by_cases hc1 : z < L
  · have g1 : (z : Int) < (L : Int) := by omega
    clear hc1
    refine wp_region_held_drew (S := fun w' => w'.cell? ⟨w.heap.size, 0, none⟩ = some (.int .u64 (h.seq : Int)) ∧ w'.cell? ⟨w.heap.size, 1, none⟩ = some (.int .i64 (h.place : Int)) ∧ w'.cell? ⟨w.heap.size, 2, none⟩ = some (.int .i64 (h.count : Int)) ∧ w'.cell? ⟨w.heap.size, 3, none⟩ = some (.int .i64 (h.kind : Int)) ∧ w'.cell? ⟨w.heap.size, 4, none⟩ = some (.int .i64 (z : Int))) (by kernel_rfl) (cz RZ.out) (fun hS0 => ?_)
    refine wpAnyH_take (i := 0) (oi := ⟨some 11, _, _, _, _, _⟩) (v := ?_) rfl (by kernel_rfl) (by kernel_rfl) (by kernel_rfl) (fun _ _ _ h => h) (Or.inl ⟨by rfl, ?_⟩) hS0 ?_
    rotate_left
    · (intro wS hSw; (try dsimp only at hSw); go_simp); all_goals (with_reducible rfl)
    try simp only [Act.put, List.setIfInBounds_toArray, List.set_cons_zero, List.set_cons_succ]
    refine wpAnyH_take (i := 1) (oi := ⟨some 12, _, _, _, _, _⟩) (v := ?_) rfl (by kernel_rfl) (by kernel_rfl) (by kernel_rfl) (fun _ _ _ h => h) (Or.inl ⟨by rfl, ?_⟩) hS0 ?_
    rotate_left
    · (intro wS hSw; (try dsimp only at hSw); go_simp); all_goals (with_reducible rfl)
    try simp only [Act.put, List.setIfInBounds_toArray, List.set_cons_zero, List.set_cons_succ]
    refine wpAnyH_take (i := 2) (oi := ⟨some 13, _, _, _, _, _⟩) (v := ?_) rfl (by kernel_rfl) (by kernel_rfl) (by kernel_rfl) (fun _ _ _ h => h) (Or.inl ⟨by rfl, ?_⟩) hS0 ?_
    rotate_left
    · (intro wS hSw; (try dsimp only at hSw); go_simp); all_goals (with_reducible rfl)
    try simp only [Act.put, List.setIfInBounds_toArray, List.set_cons_zero, List.set_cons_succ]
    refine wpAnyH_ready (rs := [3]) (by kernel_rfl) (by simp) ?_
    refine AllReadyH.cons (o := ⟨some 14, _, _, _, _, _⟩) rfl (fun K hK => ?_) AllReadyH.nil
    go_simp
    refine (show Calls _ _ #[.agg #[.int .u64 (h.seq : Int), .int .i64 (h.place : Int), .int .i64 (h.count : Int), .int .i64 (h.kind : Int), .int .i64 (z : Int)]] _ _ from least_any (h.sized z) fz W3.drew).mono ?_
    rintro e w4 ⟨he, hb4⟩
    rw [HLe.out] at he
    subst he
    have B4 := Lib.hid (B3.out.drew.trans (hb4.mono B3.out.size))
    have RZ4 : Hid (Whole w4 w.heap.size 127 (hdR (h.sized z))) := Lib.hid ((hb4.block _ hl0).trans RZ.out)
    have Q4 : Hid (w4.heap[w.heap.size + 1]? = some (.cells (csF s) 41 (0, 0))) := Lib.hid ((hb4.block _ hl1).trans Q3.out)
    clear hb4
    go_wp2_with fail
    refine hK.out _ _ (cz RZ4.out) (fun hS3 => ?_)
    clear hK K
    try simp only [Act.put, List.setIfInBounds_toArray, List.set_cons_zero, List.set_cons_succ]
    refine wpAnyH_take (i := 4) (oi := ⟨some 15, _, _, _, _, _⟩) (v := ?_) rfl (by kernel_rfl) (by kernel_rfl) (by kernel_rfl) (fun _ _ _ h => h) (Or.inl ⟨by rfl, ?_⟩) hS3 ?_
    rotate_left
    · (intro wS hSw; (try dsimp only at hSw); go_simp); all_goals (with_reducible rfl)
    try simp only [Act.put, List.setIfInBounds_toArray, List.set_cons_zero, List.set_cons_succ]
    refine wpAnyH_take (i := 5) (oi := ⟨some 16, _, _, _, _, _⟩) (v := ?_) rfl (by kernel_rfl) (by kernel_rfl) (by kernel_rfl) (fun _ _ _ h => h) (Or.inl ⟨by rfl, ?_⟩) hS3 ?_
    rotate_left
    · (intro wS hSw; (try dsimp only at hSw); go_simp); all_goals (with_reducible rfl)
    try simp only [Act.put, List.setIfInBounds_toArray, List.set_cons_zero, List.set_cons_succ]
    refine wpAnyH_take (i := 6) (oi := ⟨some 17, _, _, _, _, _⟩) (v := undef) rfl (by kernel_rfl) (by kernel_rfl) (by kernel_rfl) (fun _ _ _ h => h) (Or.inr ⟨by rfl, rfl⟩) hS3 ?_
    try simp only [Act.put, List.setIfInBounds_toArray, List.set_cons_zero, List.set_cons_succ]
    refine wpAnyH_take (i := 7) (oi := ⟨some 18, _, _, _, _, _⟩) (v := undef) rfl (by kernel_rfl) (by kernel_rfl) (by kernel_rfl) (fun _ _ _ h => h) (Or.inr ⟨by rfl, rfl⟩) hS3 ?_
    try simp only [Act.put, List.setIfInBounds_toArray, List.set_cons_zero, List.set_cons_succ]
    refine wpAnyH_take (i := 8) (oi := ⟨some 19, _, _, _, _, _⟩) (v := undef) rfl (by kernel_rfl) (by kernel_rfl) (by kernel_rfl) (fun _ _ _ h => h) (Or.inr ⟨by rfl, rfl⟩) hS3 ?_
    try simp only [Act.put, List.setIfInBounds_toArray, List.set_cons_zero, List.set_cons_succ]
    refine wpAnyH_take (i := 9) (oi := ⟨some 20, _, _, _, _, _⟩) (v := ?_) rfl (by kernel_rfl) (by kernel_rfl) (by kernel_rfl) (fun _ _ _ h => h) (Or.inl ⟨by rfl, ?_⟩) hS3 ?_
    rotate_left
    · (intro wS hSw; (try dsimp only at hSw); go_simp); all_goals (with_reducible rfl)
    try simp only [Act.put, List.setIfInBounds_toArray, List.set_cons_zero, List.set_cons_succ]
    refine wpAnyH_done (by kernel_rfl) ?_ _
    go_wp2_with fail
    go_ret2
    refine ⟨B4.out, .inl ⟨_, rfl, ?_⟩⟩
    unfold dataP
    rw [← HZ.out, ← HL.out, if_pos (.inl (by omega))]
  · have g1 : ¬ (z : Int) < (L : Int) := by omega
    have g1n : decide (z < L) = false := decide_eq_false hc1
    have hzL : Hid (¬ z < L) := Lib.hid hc1
    clear hc1
    by_cases hc2 : 48 < z
    · have g2 : (48 : Int) < (z : Int) := by omega
      clear hc2
      refine wp_region_held_drew (S := fun w' => w'.cell? ⟨w.heap.size, 0, none⟩ = some (.int .u64 (h.seq : Int)) ∧ w'.cell? ⟨w.heap.size, 1, none⟩ = some (.int .i64 (h.place : Int)) ∧ w'.cell? ⟨w.heap.size, 2, none⟩ = some (.int .i64 (h.count : Int)) ∧ w'.cell? ⟨w.heap.size, 3, none⟩ = some (.int .i64 (h.kind : Int)) ∧ w'.cell? ⟨w.heap.size, 4, none⟩ = some (.int .i64 (z : Int))) (by kernel_rfl) (cz RZ.out) (fun hS0 => ?_)
      refine wpAnyH_take (i := 0) (oi := ⟨some 11, _, _, _, _, _⟩) (v := ?_) rfl (by kernel_rfl) (by kernel_rfl) (by kernel_rfl) (fun _ _ _ h => h) (Or.inl ⟨by rfl, ?_⟩) hS0 ?_
      rotate_left
      · (intro wS hSw; (try dsimp only at hSw); go_simp); all_goals (with_reducible rfl)
      try simp only [Act.put, List.setIfInBounds_toArray, List.set_cons_zero, List.set_cons_succ]
      refine wpAnyH_take (i := 1) (oi := ⟨some 12, _, _, _, _, _⟩) (v := ?_) rfl (by kernel_rfl) (by kernel_rfl) (by kernel_rfl) (fun _ _ _ h => h) (Or.inl ⟨by rfl, ?_⟩) hS0 ?_
      rotate_left
      · (intro wS hSw; (try dsimp only at hSw); go_simp); all_goals (with_reducible rfl)
      try simp only [Act.put, List.setIfInBounds_toArray, List.set_cons_zero, List.set_cons_succ]
      refine wpAnyH_take (i := 2) (oi := ⟨some 13, _, _, _, _, _⟩) (v := ?_) rfl (by kernel_rfl) (by kernel_rfl) (by kernel_rfl) (fun _ _ _ h => h) (Or.inl ⟨by rfl, ?_⟩) hS0 ?_
      rotate_left
      · (intro wS hSw; (try dsimp only at hSw); go_simp); all_goals (with_reducible rfl)
      try simp only [Act.put, List.setIfInBounds_toArray, List.set_cons_zero, List.set_cons_succ]
      refine wpAnyH_ready (rs := [3]) (by kernel_rfl) (by simp) ?_
      refine AllReadyH.cons (o := ⟨some 14, _, _, _, _, _⟩) rfl (fun K hK => ?_) AllReadyH.nil
      go_simp
      refine (show Calls _ _ #[.agg #[.int .u64 (h.seq : Int), .int .i64 (h.place : Int), .int .i64 (h.count : Int), .int .i64 (h.kind : Int), .int .i64 (z : Int)]] _ _ from least_any (h.sized z) fz W3.drew).mono ?_
      rintro e w4 ⟨he, hb4⟩
      rw [HLe.out] at he
      subst he
      have B4 := Lib.hid (B3.out.drew.trans (hb4.mono B3.out.size))
      have RZ4 : Hid (Whole w4 w.heap.size 127 (hdR (h.sized z))) := Lib.hid ((hb4.block _ hl0).trans RZ.out)
      have Q4 : Hid (w4.heap[w.heap.size + 1]? = some (.cells (csF s) 41 (0, 0))) := Lib.hid ((hb4.block _ hl1).trans Q3.out)
      clear hb4
      go_wp2_with fail
      refine hK.out _ _ (cz RZ4.out) (fun hS3 => ?_)
      clear hK K
      try simp only [Act.put, List.setIfInBounds_toArray, List.set_cons_zero, List.set_cons_succ]
      refine wpAnyH_take (i := 4) (oi := ⟨some 15, _, _, _, _, _⟩) (v := ?_) rfl (by kernel_rfl) (by kernel_rfl) (by kernel_rfl) (fun _ _ _ h => h) (Or.inl ⟨by rfl, ?_⟩) hS3 ?_
      rotate_left
      · (intro wS hSw; (try dsimp only at hSw); go_simp); all_goals (with_reducible rfl)
      try simp only [Act.put, List.setIfInBounds_toArray, List.set_cons_zero, List.set_cons_succ]
      refine wpAnyH_take (i := 5) (oi := ⟨some 16, _, _, _, _, _⟩) (v := ?_) rfl (by kernel_rfl) (by kernel_rfl) (by kernel_rfl) (fun _ _ _ h => h) (Or.inl ⟨by rfl, ?_⟩) hS3 ?_
      rotate_left
      · (intro wS hSw; (try dsimp only at hSw); go_simp); all_goals (with_reducible rfl)
      try simp only [Act.put, List.setIfInBounds_toArray, List.set_cons_zero, List.set_cons_succ]
      refine wpAnyH_take (i := 6) (oi := ⟨some 17, _, _, _, _, _⟩) (v := ?_) rfl (by kernel_rfl) (by kernel_rfl) (by kernel_rfl) (fun _ _ _ h => h) (Or.inl ⟨by rfl, ?_⟩) hS3 ?_
      rotate_left
      · (intro wS hSw; (try dsimp only at hSw); go_simp); all_goals (with_reducible rfl)
      try simp only [Act.put, List.setIfInBounds_toArray, List.set_cons_zero, List.set_cons_succ]
      refine wpAnyH_take (i := 7) (oi := ⟨some 18, _, _, _, _, _⟩) (v := ?_) rfl (by kernel_rfl) (by kernel_rfl) (by kernel_rfl) (fun _ _ _ h => h) (Or.inl ⟨by rfl, ?_⟩) hS3 ?_
      rotate_left
      · (intro wS hSw; (try dsimp only at hSw); go_simp); all_goals (with_reducible rfl)
      try simp only [Act.put, List.setIfInBounds_toArray, List.set_cons_zero, List.set_cons_succ]
      refine wpAnyH_take (i := 8) (oi := ⟨some 19, _, _, _, _, _⟩) (v := ?_) rfl (by kernel_rfl) (by kernel_rfl) (by kernel_rfl) (fun _ _ _ h => h) (Or.inl ⟨by rfl, ?_⟩) hS3 ?_
      rotate_left
      · (intro wS hSw; (try dsimp only at hSw); go_simp); all_goals (with_reducible rfl)
      try simp only [Act.put, List.setIfInBounds_toArray, List.set_cons_zero, List.set_cons_succ]
      refine wpAnyH_take (i := 9) (oi := ⟨some 20, _, _, _, _, _⟩) (v := ?_) rfl (by kernel_rfl) (by kernel_rfl) (by kernel_rfl) (fun _ _ _ h => h) (Or.inl ⟨by rfl, ?_⟩) hS3 ?_
      rotate_left
      · (intro wS hSw; (try dsimp only at hSw); go_simp); all_goals (with_reducible rfl)
      try simp only [Act.put, List.setIfInBounds_toArray, List.set_cons_zero, List.set_cons_succ]
      refine wpAnyH_done (by kernel_rfl) ?_ _
      go_wp2_with fail
      go_ret2
      refine ⟨B4.out, .inl ⟨_, rfl, ?_⟩⟩
      unfold dataP
      rw [← HZ.out, ← HL.out, if_pos (.inr (by omega))]
    · have g2 : ¬ (48 : Int) < (z : Int) := by omega
      have g2n : decide ((48 : Int) < (z : Int)) = false := decide_eq_false g2
      have gz : 16 + z - 16 = z := by omega
      have g3 : (16 : Int) ≤ 16 + (z : Int) := by omega
      have g4 : (16 : Int) + (z : Int) ≤ 64 := by omega
      have g5 : IntKind.i64.wrap (16 + (z : Int)) = 16 + (z : Int) := IntWalk.i64_in _ ⟨by omega, by omega⟩
      refine wp_region_held_drew (S := fun w' => w'.cell? ⟨w.heap.size, 0, none⟩ = some (.int .u64 (h.seq : Int)) ∧ w'.cell? ⟨w.heap.size, 1, none⟩ = some (.int .i64 (h.place : Int)) ∧ w'.cell? ⟨w.heap.size, 2, none⟩ = some (.int .i64 (h.count : Int)) ∧ w'.cell? ⟨w.heap.size, 3, none⟩ = some (.int .i64 (h.kind : Int)) ∧ w'.cell? ⟨w.heap.size, 4, none⟩ = some (.int .i64 (z : Int))) (by kernel_rfl) (cz RZ.out) (fun hS0 => ?_)
      refine wpAnyH_take (i := 0) (oi := ⟨some 11, _, _, _, _, _⟩) (v := ?_) rfl (by kernel_rfl) (by kernel_rfl) (by kernel_rfl) (fun _ _ _ h => h) (Or.inl ⟨by rfl, ?_⟩) hS0 ?_
      rotate_left
      · (intro wS hSw; (try dsimp only at hSw); go_simp); all_goals (with_reducible rfl)
      try simp only [Act.put, List.setIfInBounds_toArray, List.set_cons_zero, List.set_cons_succ]
      refine wpAnyH_take (i := 1) (oi := ⟨some 12, _, _, _, _, _⟩) (v := ?_) rfl (by kernel_rfl) (by kernel_rfl) (by kernel_rfl) (fun _ _ _ h => h) (Or.inl ⟨by rfl, ?_⟩) hS0 ?_
      rotate_left
      · (intro wS hSw; (try dsimp only at hSw); go_simp); all_goals (with_reducible rfl)
      try simp only [Act.put, List.setIfInBounds_toArray, List.set_cons_zero, List.set_cons_succ]
      refine wpAnyH_take (i := 2) (oi := ⟨some 13, _, _, _, _, _⟩) (v := ?_) rfl (by kernel_rfl) (by kernel_rfl) (by kernel_rfl) (fun _ _ _ h => h) (Or.inl ⟨by rfl, ?_⟩) hS0 ?_
      rotate_left
      · (intro wS hSw; (try dsimp only at hSw); go_simp); all_goals (with_reducible rfl)
      try simp only [Act.put, List.setIfInBounds_toArray, List.set_cons_zero, List.set_cons_succ]
      refine wpAnyH_ready (rs := [3]) (by kernel_rfl) (by simp) ?_
      refine AllReadyH.cons (o := ⟨some 14, _, _, _, _, _⟩) rfl (fun K hK => ?_) AllReadyH.nil
      go_simp
      refine (show Calls _ _ #[.agg #[.int .u64 (h.seq : Int), .int .i64 (h.place : Int), .int .i64 (h.count : Int), .int .i64 (h.kind : Int), .int .i64 (z : Int)]] _ _ from least_any (h.sized z) fz W3.drew).mono ?_
      rintro e w4 ⟨he, hb4⟩
      rw [HLe.out] at he
      subst he
      have B4 := Lib.hid (B3.out.drew.trans (hb4.mono B3.out.size))
      have RZ4 : Hid (Whole w4 w.heap.size 127 (hdR (h.sized z))) := Lib.hid ((hb4.block _ hl0).trans RZ.out)
      have Q4 : Hid (w4.heap[w.heap.size + 1]? = some (.cells (csF s) 41 (0, 0))) := Lib.hid ((hb4.block _ hl1).trans Q3.out)
      clear hb4
      go_wp2_with fail
      refine hK.out _ _ (cz RZ4.out) (fun hS3 => ?_)
      clear hK K
      try simp only [Act.put, List.setIfInBounds_toArray, List.set_cons_zero, List.set_cons_succ]
      refine wpAnyH_take (i := 4) (oi := ⟨some 15, _, _, _, _, _⟩) (v := ?_) rfl (by kernel_rfl) (by kernel_rfl) (by kernel_rfl) (fun _ _ _ h => h) (Or.inl ⟨by rfl, ?_⟩) hS3 ?_
      rotate_left
      · (intro wS hSw; (try dsimp only at hSw); go_simp); all_goals (with_reducible rfl)
      try simp only [Act.put, List.setIfInBounds_toArray, List.set_cons_zero, List.set_cons_succ]
      refine wpAnyH_take (i := 5) (oi := ⟨some 16, _, _, _, _, _⟩) (v := ?_) rfl (by kernel_rfl) (by kernel_rfl) (by kernel_rfl) (fun _ _ _ h => h) (Or.inl ⟨by rfl, ?_⟩) hS3 ?_
      rotate_left
      · (intro wS hSw; (try dsimp only at hSw); go_simp); all_goals (with_reducible rfl)
      try simp only [Act.put, List.setIfInBounds_toArray, List.set_cons_zero, List.set_cons_succ]
      refine wpAnyH_take (i := 6) (oi := ⟨some 17, _, _, _, _, _⟩) (v := ?_) rfl (by kernel_rfl) (by kernel_rfl) (by kernel_rfl) (fun _ _ _ h => h) (Or.inl ⟨by rfl, ?_⟩) hS3 ?_
      rotate_left
      · (intro wS hSw; (try dsimp only at hSw); go_simp); all_goals (with_reducible rfl)
      try simp only [Act.put, List.setIfInBounds_toArray, List.set_cons_zero, List.set_cons_succ]
      refine wpAnyH_take (i := 7) (oi := ⟨some 18, _, _, _, _, _⟩) (v := ?_) rfl (by kernel_rfl) (by kernel_rfl) (by kernel_rfl) (fun _ _ _ h => h) (Or.inl ⟨by rfl, ?_⟩) hS3 ?_
      rotate_left
      · (intro wS hSw; (try dsimp only at hSw); go_simp); all_goals (with_reducible rfl)
      try simp only [Act.put, List.setIfInBounds_toArray, List.set_cons_zero, List.set_cons_succ]
      refine wpAnyH_take (i := 8) (oi := ⟨some 19, _, _, _, _, _⟩) (v := ?_) rfl (by kernel_rfl) (by kernel_rfl) (by kernel_rfl) (fun _ _ _ h => h) (Or.inl ⟨by rfl, ?_⟩) hS3 ?_
      rotate_left
      · (intro wS hSw; (try dsimp only at hSw); go_simp); all_goals (with_reducible rfl)
      try simp only [Act.put, List.setIfInBounds_toArray, List.set_cons_zero, List.set_cons_succ]
      refine wpAnyH_take (i := 9) (oi := ⟨some 20, _, _, _, _, _⟩) (v := ?_) rfl (by kernel_rfl) (by kernel_rfl) (by kernel_rfl) (fun _ _ _ h => h) (Or.inl ⟨by rfl, ?_⟩) hS3 ?_
      rotate_left
      · (intro wS hSw; (try dsimp only at hSw); go_simp); all_goals (with_reducible rfl)
      try simp only [Act.put, List.setIfInBounds_toArray, List.set_cons_zero, List.set_cons_succ]
      refine wpAnyH_done (by kernel_rfl) ?_ _
      obtain ⟨d0, d1, d2, d3, d4⟩ := cz RZ4.out
      go_upto_region 5 with fail
      obtain ⟨b, hbe⟩ : ∃ b, b = (s.1.drop 16).take z := ⟨_, rfl⟩
      have hbz : b.length = z := by rw [hbe, List.length_take, List.length_drop, hsl]; omega
      have HBE := Lib.hid hbe
      have hli : Lies w4.drew w4.drew.heap.size (some ⟨w.heap.size + 1, 16, none⟩) (B8 b) := by
        refine .inr ⟨w.heap.size + 1, 16, rfl, (Array.getElem?_eq_some_iff.1 Q4.out).1, fun i u hu => ?_⟩
        have h1 : w4.drew.heap[w.heap.size + 1]? = some (.cells (csF s) 41 (0, 0)) := Q4.out
        rw [cell_of_row _ _ _ _ _ _ h1]
        rw [hbe, show B8 ((s.1.drop 16).take z) = ((B8 s.1).drop 16).take z by simp [B8], List.getElem?_take] at hu
        split at hu
        · rw [List.getElem?_drop] at hu
          simpa [csF] using hu
        · cases hu
      have HLI := Lib.hid hli
      have HBZ := Lib.hid hbz
      have hx1 : w.heap.size < w4.drew.heap.size := Whole.lt RZ4.out
      have hx2 : w.heap.size + 1 < w4.drew.heap.size := (Array.getElem?_eq_some_iff.1 Q4.out).1
      have RZ4d : Hid (Whole w4.drew w.heap.size 127 (hdR (h.sized z))) := RZ4
      have RG4 : Hid (w4.drew.rangeAt (w.heap.size + 1) 0 (B8 s.1)) := Lib.hid (range_row (show w4.drew.heap[w.heap.size + 1]? = some (.cells (csF s) 41 (0, 0)) from Q4.out))
      have hgs := guard_sec
      have hu1 := Tryz.underlying41
      have hu2 := info_B8 s
      clear hbe hbz hli d0 d1 d2 d3 d4
      cases hv : ((secH (h.sized z) b).1 == s.1) with
      | true =>
        have hns : ∀ w' : World, (binOp .eql 41 (.agg (csF (secH (h.sized z) b))) (.agg (B8 s.1).toArray)).run Tryz.prog w' = .ok (.bool true) w' := fun w' => by rw [← hv]; exact eql_sec _ _ _
        have HVv := Lib.hid hv
        clear hv
        refine wp_region_held_drew (S := fun w' => (w'.cell? ⟨w.heap.size, 0, none⟩ = some (.int .u64 (h.seq : Int)) ∧ w'.cell? ⟨w.heap.size, 1, none⟩ = some (.int .i64 (h.place : Int)) ∧ w'.cell? ⟨w.heap.size, 2, none⟩ = some (.int .i64 (h.count : Int)) ∧ w'.cell? ⟨w.heap.size, 3, none⟩ = some (.int .i64 (h.kind : Int)) ∧ w'.cell? ⟨w.heap.size, 4, none⟩ = some (.int .i64 (z : Int))) ∧ w'.rangeAt (w.heap.size + 1) 0 (B8 s.1)) (by kernel_rfl) ⟨cz RZ4d.out, RG4.out⟩ (fun hS0 => ?_)
        refine wpAnyH_take (i := 0) (oi := ⟨some 25, _, _, _, _, _⟩) (v := ?_) rfl (by kernel_rfl) (by kernel_rfl) (by kernel_rfl) (fun _ _ _ h => h) (Or.inl ⟨by rfl, ?_⟩) hS0 ?_
        rotate_left
        · (intro wS hSw; (try dsimp only at hSw); go_simp); all_goals (with_reducible rfl)
        try simp only [Act.put, List.setIfInBounds_toArray, List.set_cons_zero, List.set_cons_succ]
        refine wpAnyH_take (i := 1) (oi := ⟨some 26, _, _, _, _, _⟩) (v := ?_) rfl (by kernel_rfl) (by kernel_rfl) (by kernel_rfl) (fun _ _ _ h => h) (Or.inl ⟨by rfl, ?_⟩) hS0 ?_
        rotate_left
        · (intro wS hSw; (try dsimp only at hSw); go_simp); all_goals (with_reducible rfl)
        try simp only [Act.put, List.setIfInBounds_toArray, List.set_cons_zero, List.set_cons_succ]
        refine wpAnyH_take (i := 2) (oi := ⟨some 27, _, _, _, _, _⟩) (v := ?_) rfl (by kernel_rfl) (by kernel_rfl) (by kernel_rfl) (fun _ _ _ h => h) (Or.inl ⟨by rfl, ?_⟩) hS0 ?_
        rotate_left
        · (intro wS hSw; (try dsimp only at hSw); go_simp); all_goals (with_reducible rfl)
        try simp only [Act.put, List.setIfInBounds_toArray, List.set_cons_zero, List.set_cons_succ]
        refine wpAnyH_take (i := 4) (oi := ⟨some 29, _, _, _, _, _⟩) (v := _) rfl (by kernel_rfl) (by kernel_rfl) (by kernel_rfl) (fun _ _ _ h => h) (yieldsIf_load_mid (by rfl) _ _ rfl _ _ rfl _ _ (fun _ hSw => hSw.2) hu1 rfl hu2) hS0 ?_
        try simp only [Act.put, List.setIfInBounds_toArray, List.set_cons_zero, List.set_cons_succ]
        refine wpAnyH_ready (rs := [3]) (by kernel_rfl) (by simp) ?_
        refine AllReadyH.cons (o := ⟨some 28, _, _, _, _, _⟩) rfl (fun K hK => ?_) AllReadyH.nil
        go_simp
        refine (show Calls _ _ #[.agg #[.int .u64 (h.seq : Int), .int .i64 (h.place : Int), .int .i64 (h.count : Int), .int .i64 (h.kind : Int), .int .i64 (z : Int)], .slice (some ⟨w.heap.size + 1, 16, none⟩) z 48] _ _ from by have hi := sectorH_any (h.sized z) fz b _ 48 w4.drew.heap.size w4.drew (by rw [HBZ.out]; omega) HLI.out (Nat.le_refl _); rw [HBZ.out] at hi; exact hi).mono ?_
        rintro e w5 ⟨rfl, hb5⟩
        have B5 := Lib.hid (B4.out.drew.trans (hb5.mono B4.out.size))
        have RZ5 : Hid (Whole w5 w.heap.size 127 (hdR (h.sized z))) := Lib.hid ((hb5.block _ hx1).trans RZ4d.out)
        have RG5 := Lib.hid (range_below RG4.out hb5 hx2)
        have LI5 := Lib.hid (lies_up (HLI.out.below hb5) hb5.size)
        clear hb5
        go_wp2_with fail
        refine hK.out _ _ ⟨cz RZ5.out, RG5.out⟩ (fun hS3 => ?_)
        clear hK K
        try simp only [Act.put, List.setIfInBounds_toArray, List.set_cons_zero, List.set_cons_succ]
        refine wpAnyH_take (i := 5) (oi := ⟨some 30, _, _, _, _, _⟩) (v := ?_) rfl (by kernel_rfl) (by kernel_rfl) (by kernel_rfl) (fun _ _ _ h => h) (Or.inl ⟨by rfl, ?_⟩) hS3 ?_
        rotate_left
        · (intro wS hSw; (try dsimp only at hSw); go_simp); all_goals (with_reducible rfl)
        try simp only [Act.put, List.setIfInBounds_toArray, List.set_cons_zero, List.set_cons_succ]
        refine wpAnyH_take (i := 6) (oi := ⟨some 4, _, _, _, _, _⟩) (v := ?_) rfl (by kernel_rfl) (by kernel_rfl) (by kernel_rfl) (fun _ _ _ h => h) (Or.inl ⟨by rfl, ?_⟩) hS3 ?_
        rotate_left
        · (intro wS hSw; (try dsimp only at hSw); go_simp); all_goals (with_reducible rfl)
        try simp only [Act.put, List.setIfInBounds_toArray, List.set_cons_zero, List.set_cons_succ]
        refine wpAnyH_take (i := 7) (oi := ⟨some 5, _, _, _, _, _⟩) (v := ?_) rfl (by kernel_rfl) (by kernel_rfl) (by kernel_rfl) (fun _ _ _ h => h) (Or.inl ⟨by rfl, ?_⟩) hS3 ?_
        rotate_left
        · (intro wS hSw; (try dsimp only at hSw); go_simp); all_goals (with_reducible rfl)
        try simp only [Act.put, List.setIfInBounds_toArray, List.set_cons_zero, List.set_cons_succ]
        refine wpAnyH_done (by kernel_rfl) ?_ _
        go_wp2_with fail
        go_ret2
        refine ⟨B5.out, .inr ⟨some ⟨w.heap.size + 1, 16, none⟩, b, 48, by rw [HBZ.out]; rfl, ?_, by rw [HBZ.out]; omega, by rw [HBZ.out]; omega, by omega, LI5.out⟩⟩
        unfold dataP
        rw [← HZ.out, ← HL.out, if_neg (by have := hzL.out; omega), ← HBE.out, if_pos (by simpa using HVv.out)]
      | false =>
        have hns : ∀ w' : World, (binOp .eql 41 (.agg (csF (secH (h.sized z) b))) (.agg (B8 s.1).toArray)).run Tryz.prog w' = .ok (.bool false) w' := fun w' => by rw [← hv]; exact eql_sec _ _ _
        have HVv := Lib.hid hv
        clear hv
        refine wp_region_held_drew (S := fun w' => (w'.cell? ⟨w.heap.size, 0, none⟩ = some (.int .u64 (h.seq : Int)) ∧ w'.cell? ⟨w.heap.size, 1, none⟩ = some (.int .i64 (h.place : Int)) ∧ w'.cell? ⟨w.heap.size, 2, none⟩ = some (.int .i64 (h.count : Int)) ∧ w'.cell? ⟨w.heap.size, 3, none⟩ = some (.int .i64 (h.kind : Int)) ∧ w'.cell? ⟨w.heap.size, 4, none⟩ = some (.int .i64 (z : Int))) ∧ w'.rangeAt (w.heap.size + 1) 0 (B8 s.1)) (by kernel_rfl) ⟨cz RZ4d.out, RG4.out⟩ (fun hS0 => ?_)
        refine wpAnyH_take (i := 0) (oi := ⟨some 25, _, _, _, _, _⟩) (v := ?_) rfl (by kernel_rfl) (by kernel_rfl) (by kernel_rfl) (fun _ _ _ h => h) (Or.inl ⟨by rfl, ?_⟩) hS0 ?_
        rotate_left
        · (intro wS hSw; (try dsimp only at hSw); go_simp); all_goals (with_reducible rfl)
        try simp only [Act.put, List.setIfInBounds_toArray, List.set_cons_zero, List.set_cons_succ]
        refine wpAnyH_take (i := 1) (oi := ⟨some 26, _, _, _, _, _⟩) (v := ?_) rfl (by kernel_rfl) (by kernel_rfl) (by kernel_rfl) (fun _ _ _ h => h) (Or.inl ⟨by rfl, ?_⟩) hS0 ?_
        rotate_left
        · (intro wS hSw; (try dsimp only at hSw); go_simp); all_goals (with_reducible rfl)
        try simp only [Act.put, List.setIfInBounds_toArray, List.set_cons_zero, List.set_cons_succ]
        refine wpAnyH_take (i := 2) (oi := ⟨some 27, _, _, _, _, _⟩) (v := ?_) rfl (by kernel_rfl) (by kernel_rfl) (by kernel_rfl) (fun _ _ _ h => h) (Or.inl ⟨by rfl, ?_⟩) hS0 ?_
        rotate_left
        · (intro wS hSw; (try dsimp only at hSw); go_simp); all_goals (with_reducible rfl)
        try simp only [Act.put, List.setIfInBounds_toArray, List.set_cons_zero, List.set_cons_succ]
        refine wpAnyH_take (i := 4) (oi := ⟨some 29, _, _, _, _, _⟩) (v := _) rfl (by kernel_rfl) (by kernel_rfl) (by kernel_rfl) (fun _ _ _ h => h) (yieldsIf_load_mid (by rfl) _ _ rfl _ _ rfl _ _ (fun _ hSw => hSw.2) hu1 rfl hu2) hS0 ?_
        try simp only [Act.put, List.setIfInBounds_toArray, List.set_cons_zero, List.set_cons_succ]
        refine wpAnyH_ready (rs := [3]) (by kernel_rfl) (by simp) ?_
        refine AllReadyH.cons (o := ⟨some 28, _, _, _, _, _⟩) rfl (fun K hK => ?_) AllReadyH.nil
        go_simp
        refine (show Calls _ _ #[.agg #[.int .u64 (h.seq : Int), .int .i64 (h.place : Int), .int .i64 (h.count : Int), .int .i64 (h.kind : Int), .int .i64 (z : Int)], .slice (some ⟨w.heap.size + 1, 16, none⟩) z 48] _ _ from by have hi := sectorH_any (h.sized z) fz b _ 48 w4.drew.heap.size w4.drew (by rw [HBZ.out]; omega) HLI.out (Nat.le_refl _); rw [HBZ.out] at hi; exact hi).mono ?_
        rintro e w5 ⟨rfl, hb5⟩
        have B5 := Lib.hid (B4.out.drew.trans (hb5.mono B4.out.size))
        have RZ5 : Hid (Whole w5 w.heap.size 127 (hdR (h.sized z))) := Lib.hid ((hb5.block _ hx1).trans RZ4d.out)
        have RG5 := Lib.hid (range_below RG4.out hb5 hx2)
        have LI5 := Lib.hid (lies_up (HLI.out.below hb5) hb5.size)
        clear hb5
        go_wp2_with fail
        refine hK.out _ _ ⟨cz RZ5.out, RG5.out⟩ (fun hS3 => ?_)
        clear hK K
        try simp only [Act.put, List.setIfInBounds_toArray, List.set_cons_zero, List.set_cons_succ]
        refine wpAnyH_take (i := 5) (oi := ⟨some 30, _, _, _, _, _⟩) (v := ?_) rfl (by kernel_rfl) (by kernel_rfl) (by kernel_rfl) (fun _ _ _ h => h) (Or.inl ⟨by rfl, ?_⟩) hS3 ?_
        rotate_left
        · (intro wS hSw; (try dsimp only at hSw); go_simp); all_goals (with_reducible rfl)
        try simp only [Act.put, List.setIfInBounds_toArray, List.set_cons_zero, List.set_cons_succ]
        refine wpAnyH_take (i := 6) (oi := ⟨some 4, _, _, _, _, _⟩) (v := ?_) rfl (by kernel_rfl) (by kernel_rfl) (by kernel_rfl) (fun _ _ _ h => h) (Or.inl ⟨by rfl, ?_⟩) hS3 ?_
        rotate_left
        · (intro wS hSw; (try dsimp only at hSw); go_simp); all_goals (with_reducible rfl)
        try simp only [Act.put, List.setIfInBounds_toArray, List.set_cons_zero, List.set_cons_succ]
        refine wpAnyH_take (i := 7) (oi := ⟨some 5, _, _, _, _, _⟩) (v := ?_) rfl (by kernel_rfl) (by kernel_rfl) (by kernel_rfl) (fun _ _ _ h => h) (Or.inl ⟨by rfl, ?_⟩) hS3 ?_
        rotate_left
        · (intro wS hSw; (try dsimp only at hSw); go_simp); all_goals (with_reducible rfl)
        try simp only [Act.put, List.setIfInBounds_toArray, List.set_cons_zero, List.set_cons_succ]
        refine wpAnyH_done (by kernel_rfl) ?_ _
        go_wp2_with fail
        go_ret2
        refine ⟨B5.out, .inl ⟨_, rfl, ?_⟩⟩
        unfold dataP
        rw [← HZ.out, ← HL.out, if_neg (by have := hzL.out; omega), ← HBE.out, if_neg (by simpa using HVv.out)]
end Go.Proofs.YtmemdkgoeldemaaGreatDoor
