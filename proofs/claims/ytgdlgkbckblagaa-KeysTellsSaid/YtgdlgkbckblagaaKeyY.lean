/- Layer 12: contracts of the document's own answer: messages. -/
import Derived.Test.YtgdlgkbckblagaaKeyV
import Derived.Test.YtgdlgkbckblagaaKeyN
import Derived.Test.YtgdlgkbckblagaaStep
namespace Go.Proofs.Ytgdlgkbckblagaa
open Go.RowKit
set_option maxRecDepth 100000
set_option linter.unusedSimpArgs false
set_option linter.unusedVariables false

set_option maxHeartbeats 1000000 in
theorem rmsgok_any (E K T : List UInt8) (m : Int) (A : Option Addr) (n c : Nat) (w : World) (hE : E.length ≤ maxLen) (hK : K.length ≤ maxLen) (hT : T.length ≤ maxLen) (hn : n ≤ maxLen) :
    Calls Try.prog 33 #[msV E K T m (.slice A n c)] w fun e w' => e = .returned (.bool (okM E.length K.length T.length m n)) ∧ Below w.heap.size w w' := by
  have D : Hid (∀ r : Bool, okM E.length K.length T.length m n = r → ∀ cs, (Ending.returned (.bool r) = .returned (.bool (okM E.length K.length T.length m n))) ∧ Below w.heap.size w (w.alloc (.cells cs 32))) := Lib.hid fun r hr cs => ⟨by rw [hr], (Below.refl _ _).alloc (Nat.le_refl _) _⟩
  have s1 := key_size E
  have s2 := key_size K
  have s3 := key_size T
  unfold maxLen at hE hK hT hn
  unfold msV
  by_cases h1 : (E.length : Int) ≤ 30
  · by_cases h2 : (K.length : Int) ≤ 60
    · by_cases h3 : (T.length : Int) ≤ 60
      · by_cases h4 : 0 ≤ m
        · by_cases h5 : m ≤ 2
          · by_cases h6 : (n : Int) ≤ 10000
            · have X := Lib.hid (D.out true (okM_is (by omega)))
              clear D
              go_enter Try.func33, Try.ntmps33
              go_wp2_with fail
              go_ret
              exact X.out _
            · have X := Lib.hid (D.out false (okM_no (by omega)))
              clear D
              go_enter Try.func33, Try.ntmps33
              go_wp2_with fail
              go_ret
              exact X.out _
          · have X := Lib.hid (D.out false (okM_no (by omega)))
            clear D
            go_enter Try.func33, Try.ntmps33
            go_wp2_with fail
            go_ret
            exact X.out _
        · have X := Lib.hid (D.out false (okM_no (by omega)))
          clear D
          go_enter Try.func33, Try.ntmps33
          go_wp2_with fail
          go_ret
          exact X.out _
      · have X := Lib.hid (D.out false (okM_no (by omega)))
        clear D
        go_enter Try.func33, Try.ntmps33
        go_wp2_with fail
        go_ret
        exact X.out _
    · have X := Lib.hid (D.out false (okM_no (by omega)))
      clear D
      go_enter Try.func33, Try.ntmps33
      go_wp2_with fail
      go_ret
      exact X.out _
  · have X := Lib.hid (D.out false (okM_no (by omega)))
    clear D
    go_enter Try.func33, Try.ntmps33
    go_wp2_with fail
    go_ret
    exact X.out _

set_option maxHeartbeats 1000000 in
theorem rmsg_any (E Q T : List UInt8) (m : Int) (A : Option Addr) (n c : Nat) (b : List UInt8) (B : Nat) (w : World) (hn : n = b.length) (hl : Lies w B A (B8 b)) (hB : B ≤ w.heap.size) (hE : E.length ≤ maxLen) (hK : Q.length ≤ maxLen) (hT : T.length ≤ maxLen) (hb : b.length ≤ maxLen) :
    Calls Try.prog 15 #[msV E Q T m (.slice A n c)] w (tellsM E Q T m b w) := by
  subst hn
  have hf := fun w => rmsgok_any E Q T m A b.length c w hE hK hT hb
  obtain ⟨f, hf'⟩ : ∃ f, f = okM E.length Q.length T.length m b.length := ⟨_, rfl⟩
  rw [← hf'] at hf
  have HF := Lib.hid hf
  have hok : f = true → E.length ≤ 30 ∧ Q.length ≤ 60 ∧ T.length ≤ 60 ∧ 0 ≤ m ∧ m ≤ 2 ∧ b.length ≤ 10000 := fun h => okM_yes (by rw [← hf']; exact h)
  have HOK := Lib.hid hok
  obtain ⟨i0, hi, hz0, hz1, hz2⟩ := info_parts u8_info
  have HI := Lib.hid hi
  have H0 := Lib.hid hz0
  have H1 := Lib.hid hz1
  have H2 := Lib.hid hz2
  obtain ⟨W0, hW0⟩ : ∃ W, W = w.alloc (.cells #[.string ⟨E.toArray⟩, .string ⟨Q.toArray⟩, .string ⟨T.toArray⟩, .int .i64 m, .slice A b.length c] 32) := ⟨_, rfl⟩
  have K0 : Hid (Whole W0 w.heap.size 32 #[.string ⟨E.toArray⟩, .string ⟨Q.toArray⟩, .string ⟨T.toArray⟩, .int .i64 m, .slice A b.length c]) := Lib.hid (by rw [hW0]; exact Whole.new _ _ _)
  have B0 : Hid (Below w.heap.size w W0) := Lib.hid (by rw [hW0]; exact (Below.refl _ _).alloc (Nat.le_refl _) _)
  have L0 : Hid (Lies W0 B A (B8 b)) := Lib.hid (hl.below (B0.out.mono hB))
  have z0 := B0.out.size
  obtain ⟨c00, c01, c02, c03, c04⟩ := five12 K0.out
  rw [hW0] at c00 c01 c02 c03 c04
  have HW0 := Lib.hid hW0
  have HF' := Lib.hid hf'
  clear hf hf' hok hi hz0 hz1 hz2 hW0 hl
  unfold msV at HF
  unfold msV
  go_enter Try.func15, Try.ntmps15
  go_wp2_with fail
  rw [← HW0.out]
  refine (HF.out _).mono ?_
  rintro e w1 ⟨rfl, hb1⟩
  have B1 := Lib.hid (B0.out.trans (hb1.mono z0))
  have K1 := Lib.hid (K0.out.below hb1 K0.out.lt)
  have L1 := Lib.hid (L0.out.below (hb1.mono (Nat.le_trans hB z0)))
  have z1 := B1.out.size
  clear c00 c01 c02 c03 c04 hb1
  cases f with
  | false =>
    go_wp2_with fail
    go_ret2
    exact .inl ⟨HF'.out.symm, rfl, B1.out⟩
  | true =>
    obtain ⟨hE30, hK60, hT60, hm0, hm2, hb4⟩ := HOK.out rfl
    obtain ⟨mn, rfl⟩ := Int.eq_ofNat_of_zero_le hm0
    have mw : IntKind.u64.wrap (mn : Int) = (mn : Int) := IntWalk.u64_in _ ⟨by omega, by omega⟩
    go_upto_region 3 with fail
    go_cut [4] (fun v wx => ∃ A5 c5, v = .slice A5 (shortB E ++ shortB Q ++ shortB T).length c5 ∧ Lies wx wx.heap.size A5 (B8 (shortB E ++ shortB Q ++ shortB T)) ∧ Below w.heap.size w wx ∧ Whole wx w.heap.size 32 #[.string ⟨E.toArray⟩, .string ⟨Q.toArray⟩, .string ⟨T.toArray⟩, .int .i64 (mn : Int), .slice A b.length c] ∧ Lies wx B A (B8 b))
    case first =>
      have KD := Lib.hid (show Whole w1.drew w.heap.size 32 #[.string ⟨E.toArray⟩, .string ⟨Q.toArray⟩, .string ⟨T.toArray⟩, .int .i64 (mn : Int), .slice A b.length c] from K1.out)
      have BD := Lib.hid B1.out.drew
      have LD := Lib.hid (show Lies w1.drew B A (B8 b) from L1.out)
      obtain ⟨g0, g1, g2, g3, g4⟩ := five12 KD.out
      refine wp_region_held_drew (S := (fun w' => w'.cell? ⟨w.heap.size, 0, none⟩ = some (.string ⟨E.toArray⟩) ∧ w'.cell? ⟨w.heap.size, 1, none⟩ = some (.string ⟨Q.toArray⟩) ∧ w'.cell? ⟨w.heap.size, 2, none⟩ = some (.string ⟨T.toArray⟩))) (by kernel_rfl) ⟨g0, g1, g2⟩ (fun hS0 => ?_)
      refine wpAnyH_take (i := 0) (oi := ⟨some 8, _, _, _, _, _⟩) (v := ?_) rfl (by kernel_rfl) (by kernel_rfl) (by kernel_rfl) (fun _ _ _ h => h) (Or.inl ⟨by rfl, ?_⟩) hS0 ?_
      rotate_left
      · (intro wS hSw; (try dsimp only at hSw); go_simp); all_goals (with_reducible rfl)
      try simp only [Act.put, List.setIfInBounds_toArray, List.set_cons_zero, List.set_cons_succ]
      refine wpAnyH_take (i := 1) (oi := ⟨some 9, _, _, _, _, _⟩) (v := ?_) rfl (by kernel_rfl) (by kernel_rfl) (by kernel_rfl) (fun _ _ _ h => h) (Or.inl ⟨by rfl, ?_⟩) hS0 ?_
      rotate_left
      · (intro wS hSw; (try dsimp only at hSw); go_simp); all_goals (with_reducible rfl)
      try simp only [Act.put, List.setIfInBounds_toArray, List.set_cons_zero, List.set_cons_succ]
      refine wpAnyH_take (i := 3) (oi := ⟨some 11, _, _, _, _, _⟩) (v := ?_) rfl (by kernel_rfl) (by kernel_rfl) (by kernel_rfl) (fun _ _ _ h => h) (Or.inl ⟨by rfl, ?_⟩) hS0 ?_
      rotate_left
      · (intro wS hSw; (try dsimp only at hSw); go_simp); all_goals (with_reducible rfl)
      try simp only [Act.put, List.setIfInBounds_toArray, List.set_cons_zero, List.set_cons_succ]
      refine wpAnyH_take (i := 4) (oi := ⟨some 12, _, _, _, _, _⟩) (v := ?_) rfl (by kernel_rfl) (by kernel_rfl) (by kernel_rfl) (fun _ _ _ h => h) (Or.inl ⟨by rfl, ?_⟩) hS0 ?_
      rotate_left
      · (intro wS hSw; (try dsimp only at hSw); go_simp); all_goals (with_reducible rfl)
      try simp only [Act.put, List.setIfInBounds_toArray, List.set_cons_zero, List.set_cons_succ]
      refine wpAnyH_take (i := 6) (oi := ⟨some 14, _, _, _, _, _⟩) (v := ?_) rfl (by kernel_rfl) (by kernel_rfl) (by kernel_rfl) (fun _ _ _ h => h) (Or.inl ⟨by rfl, ?_⟩) hS0 ?_
      rotate_left
      · (intro wS hSw; (try dsimp only at hSw); go_simp); all_goals (with_reducible rfl)
      try simp only [Act.put, List.setIfInBounds_toArray, List.set_cons_zero, List.set_cons_succ]
      refine wpAnyH_take (i := 7) (oi := ⟨some 15, _, _, _, _, _⟩) (v := ?_) rfl (by kernel_rfl) (by kernel_rfl) (by kernel_rfl) (fun _ _ _ h => h) (Or.inl ⟨by rfl, ?_⟩) hS0 ?_
      rotate_left
      · (intro wS hSw; (try dsimp only at hSw); go_simp); all_goals (with_reducible rfl)
      try simp only [Act.put, List.setIfInBounds_toArray, List.set_cons_zero, List.set_cons_succ]
      refine wpAnyH_ready (rs := [2]) (by kernel_rfl) (by simp) ?_
      refine AllReadyH.cons (o := ⟨some 10, _, _, _, _, _⟩) rfl (fun K hK => ?_) AllReadyH.nil
      go_simp
      refine (rshort_at none 0 0 [] 0 E _ rfl (Lies.empty _ _ _) (Nat.zero_le _) (by simp) (by omega)).mono ?_
      rintro e w2 ⟨v2, rfl, ho2, hb2⟩
      obtain ⟨X2, hX2⟩ : ∃ X, X = [] ++ shortB E := ⟨_, rfl⟩
      rw [← hX2] at ho2
      have HX2 := Lib.hid hX2
      have hl2 : X2.length ≤ 200 := by rw [hX2]; simp only [List.length_append, shortB_length, List.length_nil]; omega
      obtain ⟨A2, d2, rfl, _, _⟩ := own_form ho2
      have M2 := Lib.hid (Lies.own ho2 (Nat.le_refl _))
      have LD := Lib.hid (LD.out.below (hb2.mono (Nat.le_trans hB BD.out.size)))
      have BD := Lib.hid (BD.out.trans (hb2.mono BD.out.size))
      have KD := Lib.hid (KD.out.below hb2 KD.out.lt)
      clear ho2 hb2 hX2 g0 g1 g2 g3 g4
      obtain ⟨g0, g1, g2, g3, g4⟩ := five12 KD.out
      go_wp2_with fail
      refine hK.out _ _ ⟨g0, g1, g2⟩ (fun hS2 => ?_)
      clear hK K
      try simp only [Act.put, List.setIfInBounds_toArray, List.set_cons_zero, List.set_cons_succ]
      refine wpAnyH_ready (rs := [5]) (by kernel_rfl) (by simp) ?_
      refine AllReadyH.cons (o := ⟨some 13, _, _, _, _, _⟩) rfl (fun K hK => ?_) AllReadyH.nil
      go_simp
      refine (rshort_at A2 d2 _ X2 _ Q _ rfl M2.out (Nat.le_refl _) (by omega) (by omega)).mono ?_
      rintro e w3 ⟨v3, rfl, ho3, hb3⟩
      obtain ⟨X3, hX3⟩ : ∃ X, X = X2 ++ shortB Q := ⟨_, rfl⟩
      rw [← hX3] at ho3
      have HX3 := Lib.hid hX3
      have hl3 : X3.length ≤ 400 := by rw [hX3]; simp only [List.length_append, shortB_length, List.length_nil]; omega
      obtain ⟨A3, d3, rfl, _, _⟩ := own_form ho3
      have M3 := Lib.hid (Lies.own ho3 (Nat.le_refl _))
      have LD := Lib.hid (LD.out.below (hb3.mono (Nat.le_trans hB BD.out.size)))
      have BD := Lib.hid (BD.out.trans (hb3.mono BD.out.size))
      have KD := Lib.hid (KD.out.below hb3 KD.out.lt)
      clear ho3 hb3 hX3 g0 g1 g2 g3 g4
      obtain ⟨g0, g1, g2, g3, g4⟩ := five12 KD.out
      go_wp2_with fail
      refine hK.out _ _ ⟨g0, g1, g2⟩ (fun hS5 => ?_)
      clear hK K
      try simp only [Act.put, List.setIfInBounds_toArray, List.set_cons_zero, List.set_cons_succ]
      refine wpAnyH_ready (rs := [8]) (by kernel_rfl) (by simp) ?_
      refine AllReadyH.cons (o := ⟨some 16, _, _, _, _, _⟩) rfl (fun K hK => ?_) AllReadyH.nil
      go_simp
      refine (rshort_at A3 d3 _ X3 _ T _ rfl M3.out (Nat.le_refl _) (by omega) (by omega)).mono ?_
      rintro e w4 ⟨v4, rfl, ho4, hb4⟩
      obtain ⟨X4, hX4⟩ : ∃ X, X = X3 ++ shortB T := ⟨_, rfl⟩
      rw [← hX4] at ho4
      have HX4 := Lib.hid hX4
      have hl4 : X4.length ≤ 600 := by rw [hX4]; simp only [List.length_append, shortB_length, List.length_nil]; omega
      obtain ⟨A4, d4, rfl, _, _⟩ := own_form ho4
      have M4 := Lib.hid (Lies.own ho4 (Nat.le_refl _))
      have LD := Lib.hid (LD.out.below (hb4.mono (Nat.le_trans hB BD.out.size)))
      have BD := Lib.hid (BD.out.trans (hb4.mono BD.out.size))
      have KD := Lib.hid (KD.out.below hb4 KD.out.lt)
      clear ho4 hb4 hX4 g0 g1 g2 g3 g4
      obtain ⟨g0, g1, g2, g3, g4⟩ := five12 KD.out
      go_wp2_with fail
      refine hK.out _ _ ⟨g0, g1, g2⟩ (fun hS8 => ?_)
      clear hK K
      try simp only [Act.put, List.setIfInBounds_toArray, List.set_cons_zero, List.set_cons_succ]
      refine wpAnyH_take (i := 9) (oi := ⟨some 4, _, _, _, _, _⟩) (v := ?_) rfl (by kernel_rfl) (by kernel_rfl) (by kernel_rfl) (fun _ _ _ h => h) (Or.inl ⟨by rfl, ?_⟩) hS8 ?_
      rotate_left
      · (intro wS hSw; (try dsimp only at hSw); go_simp); all_goals (with_reducible rfl)
      try simp only [Act.put, List.setIfInBounds_toArray, List.set_cons_zero, List.set_cons_succ]
      refine wpAnyH_done (by kernel_rfl) ?_ _
      all_goals (go_wp2_with fail; go_meet; exact ⟨A4, d4, by rw [HX4.out, HX3.out, HX2.out, List.nil_append], by rw [← List.nil_append (shortB E), ← HX2.out, ← HX3.out, ← HX4.out]; exact M4.out, BD.out, KD.out, LD.out⟩)
    case rest =>
    obtain ⟨A5, d5, rfl, hm5, hb5, hk5, hl5⟩ := hcut
    obtain ⟨w5, hw5⟩ : ∃ w, w = wc := ⟨_, rfl⟩
    rw [← hw5] at hm5 hb5 hk5 hl5
    rw [← hw5]
    obtain ⟨X5, hX5⟩ : ∃ X, X = shortB E ++ shortB Q ++ shortB T := ⟨_, rfl⟩
    rw [← hX5] at hm5
    rw [← hX5]
    have hx5 : X5.length ≤ 400 := by rw [hX5]; simp only [List.length_append, shortB_length]; omega
    have HX5 := Lib.hid hX5
    have MD := Lib.hid (show Lies w5.drew w5.drew.heap.size A5 (B8 X5) from hm5)
    have BD := Lib.hid hb5.drew
    have KD := Lib.hid (show Whole w5.drew w.heap.size 32 #[.string ⟨E.toArray⟩, .string ⟨Q.toArray⟩, .string ⟨T.toArray⟩, .int .i64 (mn : Int), .slice A b.length c] from hk5)
    have LD := Lib.hid (show Lies w5.drew B A (B8 b) from hl5)
    obtain ⟨g0, g1, g2, g3, g4⟩ := five12 KD.out
    obtain ⟨f0, f1, f2, f3, f4⟩ := five12 hk5
    clear hm5 hb5 hk5 hl5 hw5 hX5 K1 B1 L1 K0 B0 L0
    go_upto_region 4 with fail
    refine wp_region_held_drew (S := (fun w' => w'.cell? ⟨w.heap.size, 3, none⟩ = some (.int .i64 (mn : Int)) ∧ w'.cell? ⟨w.heap.size, 4, none⟩ = some (.slice A b.length c))) (by kernel_rfl) ⟨g3, g4⟩ (fun hS0 => ?_)
    refine wpAnyH_take (i := 0) (oi := ⟨some 17, _, _, _, _, _⟩) (v := ?_) rfl (by kernel_rfl) (by kernel_rfl) (by kernel_rfl) (fun _ _ _ h => h) (Or.inl ⟨by rfl, ?_⟩) hS0 ?_
    rotate_left
    · (intro wS hSw; (try dsimp only at hSw); go_simp); all_goals (with_reducible rfl)
    try simp only [Act.put, List.setIfInBounds_toArray, List.set_cons_zero, List.set_cons_succ]
    refine wpAnyH_take (i := 1) (oi := ⟨some 18, _, _, _, _, _⟩) (v := ?_) rfl (by kernel_rfl) (by kernel_rfl) (by kernel_rfl) (fun _ _ _ h => h) (Or.inl ⟨by rfl, ?_⟩) hS0 ?_
    rotate_left
    · (intro wS hSw; (try dsimp only at hSw); go_simp); all_goals (with_reducible rfl)
    try simp only [Act.put, List.setIfInBounds_toArray, List.set_cons_zero, List.set_cons_succ]
    refine wpAnyH_take (i := 2) (oi := ⟨some 19, _, _, _, _, _⟩) (v := ?_) rfl (by kernel_rfl) (by kernel_rfl) (by kernel_rfl) (fun _ _ _ h => h) (Or.inl ⟨by rfl, ?_⟩) hS0 ?_
    rotate_left
    · (intro wS hSw; (try dsimp only at hSw); go_simp); all_goals (with_reducible rfl)
    try simp only [Act.put, List.setIfInBounds_toArray, List.set_cons_zero, List.set_cons_succ]
    refine wpAnyH_take (i := 3) (oi := ⟨some 20, _, _, _, _, _⟩) (v := ?_) rfl (by kernel_rfl) (by kernel_rfl) (by kernel_rfl) (fun _ _ _ h => h) (Or.inl ⟨by rfl, ?_⟩) hS0 ?_
    rotate_left
    · (intro wS hSw; (try dsimp only at hSw); go_simp); all_goals (with_reducible rfl)
    try simp only [Act.put, List.setIfInBounds_toArray, List.set_cons_zero, List.set_cons_succ]
    refine wpAnyH_take (i := 5) (oi := ⟨some 22, _, _, _, _, _⟩) (v := ?_) rfl (by kernel_rfl) (by kernel_rfl) (by kernel_rfl) (fun _ _ _ h => h) (Or.inl ⟨by rfl, ?_⟩) hS0 ?_
    rotate_left
    · (intro wS hSw; (try dsimp only at hSw); go_simp); all_goals (with_reducible rfl)
    try simp only [Act.put, List.setIfInBounds_toArray, List.set_cons_zero, List.set_cons_succ]
    refine wpAnyH_take (i := 6) (oi := ⟨some 23, _, _, _, _, _⟩) (v := ?_) rfl (by kernel_rfl) (by kernel_rfl) (by kernel_rfl) (fun _ _ _ h => h) (Or.inl ⟨by rfl, ?_⟩) hS0 ?_
    rotate_left
    · (intro wS hSw; (try dsimp only at hSw); go_simp); all_goals (with_reducible rfl)
    try simp only [Act.put, List.setIfInBounds_toArray, List.set_cons_zero, List.set_cons_succ]
    refine wpAnyH_ready (rs := [4]) (by kernel_rfl) (by simp) ?_
    refine AllReadyH.cons (o := ⟨some 21, _, _, _, _, _⟩) rfl (fun K hK => ?_) AllReadyH.nil
    go_simp
    refine (rput_at A5 d5 _ X5 _ 1 mn _ rfl MD.out (Nat.le_refl _) (by decide) (by decide) (by omega)).mono ?_
    rintro e w6 ⟨v6, rfl, ho6, hb6⟩
    obtain ⟨X6, hX6⟩ : ∃ X, X = X5 ++ be 1 mn := ⟨_, rfl⟩
    rw [← hX6] at ho6
    have HX6 := Lib.hid hX6
    have hl6 : X6.length + b.length ≤ 140737488355328 := by rw [hX6]; simp only [List.length_append, be_length]; omega
    have HL6 := Lib.hid hl6
    obtain ⟨A6, d6, rfl, _, _⟩ := own_form ho6
    have O6 := Lib.hid (own_less12 (base' := w.heap.size + 1) ho6 KD.out.lt)
    have LD := Lib.hid (LD.out.below (hb6.mono (Nat.le_trans hB BD.out.size)))
    have BD := Lib.hid (BD.out.trans (hb6.mono BD.out.size))
    have KD := Lib.hid (KD.out.below hb6 KD.out.lt)
    have Z6 : w.heap.size + 1 ≤ w6.heap.size := KD.out.lt
    clear ho6 hb6 hX6 hl6 g0 g1 g2 g3 g4
    obtain ⟨g0, g1, g2, g3, g4⟩ := five12 KD.out
    go_wp2_with fail
    refine hK.out _ _ ⟨g3, g4⟩ (fun hS4 => ?_)
    clear hK K
    try simp only [Act.put, List.setIfInBounds_toArray, List.set_cons_zero, List.set_cons_succ]
    refine wpAnyH_ready (rs := [7]) (by kernel_rfl) (by simp) ?_
    refine AllReadyH.cons (o := ⟨some 24, _, _, _, _, _⟩) rfl (fun K hK => ?_) AllReadyH.nil
    refine step_append_cells rfl _ _ 23 rfl (w.heap.size + 1) 5 i0 (.int .u8 0) 1 1 Try.underlying23 HI.out H0.out H1.out H2.out rfl (by omega) _ X6.length _ (by rfl) O6.out B A b.length c (B8 b) (by rfl) LD.out (B8_len1 b) (B8_one b) (room63 HL6.out) (room1 HL6.out) Z6 ?_
    intro v7 w7 hown7 hbel7
    have O7 := Lib.hid (own_less12 (base' := w.heap.size) hown7 (Nat.le_succ _))
    have B7 := Lib.hid (BD.out.trans (hbel7.mono (Nat.le_succ _)))
    have KD := Lib.hid (KD.out.below hbel7 (Nat.lt_succ_self _))
    clear hown7 hbel7 g0 g1 g2 g3 g4
    obtain ⟨g0, g1, g2, g3, g4⟩ := five12 KD.out
    refine hK.out _ _ ⟨g3, g4⟩ (fun hS7 => ?_)
    clear hK K
    try simp only [Act.put, List.setIfInBounds_toArray, List.set_cons_zero, List.set_cons_succ]
    refine wpAnyH_take (i := 8) (oi := ⟨some 2, _, _, _, _, _⟩) (v := ?_) rfl (by kernel_rfl) (by kernel_rfl) (by kernel_rfl) (fun _ _ _ h => h) (Or.inl ⟨by rfl, ?_⟩) hS7 ?_
    rotate_left
    · (intro wS hSw; (try dsimp only at hSw); go_simp); all_goals (with_reducible rfl)
    try simp only [Act.put, List.setIfInBounds_toArray, List.set_cons_zero, List.set_cons_succ]
    refine wpAnyH_take (i := 9) (oi := ⟨some 3, _, _, _, _, _⟩) (v := ?_) rfl (by kernel_rfl) (by kernel_rfl) (by kernel_rfl) (fun _ _ _ h => h) (Or.inl ⟨by rfl, ?_⟩) hS7 ?_
    rotate_left
    · (intro wS hSw; (try dsimp only at hSw); go_simp); all_goals (with_reducible rfl)
    try simp only [Act.put, List.setIfInBounds_toArray, List.set_cons_zero, List.set_cons_succ]
    refine wpAnyH_done (by kernel_rfl) ?_ _
    --FIN
    go_wp2_with fail
    go_ret2
    refine .inr ⟨HF'.out.symm, _, rfl, ?_, B7.out⟩
    have h := O7.out
    rw [← B8_append, ← List.length_append, HX6.out, HX5.out] at h
    rw [Int.toNat_natCast]
    exact h
end Go.Proofs.Ytgdlgkbckblagaa
