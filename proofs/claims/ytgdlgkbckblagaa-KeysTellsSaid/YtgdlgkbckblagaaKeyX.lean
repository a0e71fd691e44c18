/- Layer 12: contracts of the document's own answer: the text of a key. -/
import Derived.Test.YtgdlgkbckblagaaKeyV
import Derived.Test.YtgdlgkbckblagaaKeyM
namespace Go.Proofs.Ytgdlgkbckblagaa
open Go.RowKit
set_option maxRecDepth 100000
set_option linter.unusedSimpArgs false
set_option linter.unusedVariables false

theorem okK_ok {k : Int} {A B C : List UInt8} {id : Nat} (h : okK k A B C id = true) : pkOk k = true ∧ fitsB A B C id (pkA k) (pkB k) (pkB k) (pkI k) = true := by
  unfold okK at h
  rwa [Bool.and_eq_true] at h
set_option maxHeartbeats 8000000 in
theorem rkey_any (k : Int) (A B C : List UInt8) (id : Nat) (w : World) (hA : A.length ≤ maxLen) (hB : B.length ≤ maxLen) (hC : C.length ≤ maxLen) :
    Calls Try.prog 11 #[kyV k A B C id] w (tellsT k A B C id w) := by
  have hf := fun w => rkeyok_any k A B C id w hA hB hC
  obtain ⟨a, ha⟩ : ∃ a, a = pkA k := ⟨_, rfl⟩
  obtain ⟨b, hb⟩ : ∃ b, b = pkB k := ⟨_, rfl⟩
  obtain ⟨i, hi⟩ : ∃ i, i = pkI k := ⟨_, rfl⟩
  obtain ⟨f, hf'⟩ : ∃ f, f = okK k A B C id := ⟨_, rfl⟩
  have hT : txK k A B C id = be 1 k.toNat ++ (if a then shortB A else []) ++ (if b then shortB B else []) ++ (if b then shortB C else []) ++ (if i then be 8 id else []) := by unfold txK; rw [ha, hb, hi]
  obtain ⟨T, hT'⟩ : ∃ T, T = txK k A B C id := ⟨_, rfl⟩
  have hl : f = true → 1 ≤ k ∧ k ≤ 5 ∧ A.length ≤ 30 ∧ B.length ≤ 30 ∧ C.length ≤ 60 ∧ A.isEmpty = (!a) ∧ ((i = true → 0 < id) ∧ (i = false → id = 0)) ∧ ((a = true ∧ b = false ∧ i = false ∧ ¬ k = 3) ∨ (a = true ∧ b = true ∧ i = false ∧ k = 3) ∨ (a = false ∧ b = false ∧ i = true ∧ ¬ k = 3) ∨ (a = true ∧ b = false ∧ i = true ∧ ¬ k = 3)) := by
    intro h
    rw [hf'] at h
    have h2 := okK_ok h
    obtain ⟨f1, f2, f3, f4, f5, f6, f7⟩ := fits_less h2.2
    obtain ⟨_, u1, u2⟩ := u64_kind k h2.1
    refine ⟨u1, u2, f1, f2, f3, by rw [ha]; exact f4, ⟨fun e => ?_, fun e => ?_⟩, ?_⟩
    · rw [← hi, e] at f7; have := of_decide_eq_true f7; omega
    · rw [← hi, e] at f7; have := of_decide_eq_false f7; omega
    · rw [ha, hb, hi]
      rcases pk_cases k with rfl | rfl | rfl | rfl | rfl | ⟨_, _, _, _, _, e1, _⟩
      · exact .inl ⟨rfl, rfl, rfl, by decide⟩
      · exact .inl ⟨rfl, rfl, rfl, by decide⟩
      · exact .inr (.inl ⟨rfl, rfl, rfl, rfl⟩)
      · exact .inr (.inr (.inl ⟨rfl, rfl, rfl, by decide⟩))
      · exact .inr (.inr (.inr ⟨rfl, rfl, rfl, by decide⟩))
      · rw [e1] at h2; exact absurd h2.1 (by decide)
  unfold tellsT
  rw [← hf'] at hf
  rw [← hf', ← hT']
  rw [← hT'] at hT
  have HF := Lib.hid hf
  have HT := Lib.hid hT
  have HL := Lib.hid hl
  clear hf hT hT' ha hb hi hf' hl
  obtain ⟨W0, hW0⟩ : ∃ W, W = w.alloc (.cells #[.int .i64 k, .string ⟨A.toArray⟩, .string ⟨B.toArray⟩, .string ⟨C.toArray⟩, .int .u64 id] 28) := ⟨_, rfl⟩
  have K0 : Hid (Whole W0 w.heap.size 28 #[.int .i64 k, .string ⟨A.toArray⟩, .string ⟨B.toArray⟩, .string ⟨C.toArray⟩, .int .u64 id]) := Lib.hid (by rw [hW0]; exact Whole.new _ _ _)
  have B0 : Hid (Below w.heap.size w W0) := Lib.hid (by rw [hW0]; exact (Below.refl _ _).alloc (Nat.le_refl _) _)
  have z0 := B0.out.size
  obtain ⟨c00, c01, c02, c03, c04⟩ := five12 K0.out
  rw [hW0] at c00 c01 c02 c03 c04
  have HW0 := Lib.hid hW0
  clear hW0
  unfold kyV at HF
  unfold kyV
  go_enter Try.func11, Try.ntmps11
  go_wp2_with fail
  rw [← HW0.out]
  refine (HF.out _).mono ?_
  rintro e w2 ⟨rfl, hb2⟩
  have B2 := Lib.hid (B0.out.trans (hb2.mono z0))
  have K2 := Lib.hid (K0.out.below hb2 K0.out.lt)
  clear c00 c01 c02 c03 c04
  obtain ⟨c20, c21, c22, c23, c24⟩ := five12 K2.out
  have z2 := B2.out.size
  clear hb2
  cases f with
  | false =>
    go_wp2_with fail
    go_ret2
    exact ⟨rfl, B2.out⟩
  | true =>
    obtain ⟨h1, h5, hA30, hB30, hC60, hAe, hId, hw⟩ := HL.out rfl
    obtain ⟨kn, rfl⟩ := Int.eq_ofNat_of_zero_le (show 0 ≤ k by omega)
    have e0 : IntKind.u64.wrap (kn : Int) = (kn : Int) := IntWalk.u64_in _ ⟨by omega, by omega⟩
    have ht := HT.out
    clear HT HL
    rw [Int.toNat_natCast] at ht
    have HT := Lib.hid ht
    clear ht
    rcases hw with ⟨rfl, rfl, rfl, k3⟩ | ⟨rfl, rfl, rfl, k3⟩ | ⟨rfl, rfl, rfl, k3⟩ | ⟨rfl, rfl, rfl, k3⟩
    · have k3b : ((kn : Int) == 3) = false := by exact beq_false_of_ne k3
      have neA : ¬ A = [] := by intro h; rw [h] at hAe; cases hAe
      have neA2 : A.isEmpty = false := hAe
      obtain rfl : id = 0 := hId.2 rfl
      clear hAe hId k3
      go_wp2_with fail
      refine (rput_at none 0 0 [] 0 1 kn _ rfl (Lies.empty _ _ _) (Nat.zero_le _) (by decide) (by decide) (by simp)).mono ?_
      rintro e w3 ⟨v3, rfl, ho3, hb3⟩
      obtain ⟨X3, hX3⟩ : ∃ X, X = [] ++ be 1 kn := ⟨_, rfl⟩
      rw [← hX3] at ho3
      have HX3 := Lib.hid hX3
      have hl3 : X3.length ≤ 600 := by rw [hX3]; simp only [List.length_append, be_length, shortB_length, List.length_nil]; omega
      obtain ⟨A3, d3, rfl, _, _⟩ := own_form ho3
      have M3 := Lib.hid (Lies.own ho3 (Nat.le_refl _))
      have B3 := Lib.hid (B2.out.trans (hb3.mono z2))
      have K3 := Lib.hid (K2.out.below hb3 K2.out.lt)
      obtain ⟨c30, c31, c32, c33, c34⟩ := five12 K3.out
      have z3 := B3.out.size
      clear ho3 hb3 hX3
      go_wp2_with fail
      refine (rshort_at A3 d3 _ X3 _ A _ rfl M3.out (Nat.le_refl _) (by omega) (by omega)).mono ?_
      rintro e w4 ⟨v4, rfl, ho4, hb4⟩
      obtain ⟨X4, hX4⟩ : ∃ X, X = X3 ++ shortB A := ⟨_, rfl⟩
      rw [← hX4] at ho4
      have HX4 := Lib.hid hX4
      have hl4 : X4.length ≤ 800 := by rw [hX4]; simp only [List.length_append, be_length, shortB_length, List.length_nil]; omega
      obtain ⟨A4, d4, rfl, _, _⟩ := own_form ho4
      have M4 := Lib.hid (Lies.own ho4 (Nat.le_refl _))
      have B4 := Lib.hid (B3.out.trans (hb4.mono z3))
      have K4 := Lib.hid (K3.out.below hb4 K3.out.lt)
      obtain ⟨c40, c41, c42, c43, c44⟩ := five12 K4.out
      have z4 := B4.out.size
      clear ho4 hb4 hX4
      have cv4 := run_octets_string (P := Try.prog) 23 9 5 Try.underlying23 Try.underlying5 Try.underlying9 M4.out d4
      have R : Hid (X4 = T) := Lib.hid (by rw [HT.out, HX4.out, HX3.out]; simp)
      go_wp2_with fail
      go_ret2
      refine ⟨?_, B4.out⟩
      rw [R.out]
      rfl
    · have k3b : ((kn : Int) == 3) = true := by rw [k3]; rfl
      have neA : ¬ A = [] := by intro h; rw [h] at hAe; cases hAe
      have neA2 : A.isEmpty = false := hAe
      obtain rfl : id = 0 := hId.2 rfl
      clear hAe hId k3
      go_wp2_with fail
      refine (rput_at none 0 0 [] 0 1 kn _ rfl (Lies.empty _ _ _) (Nat.zero_le _) (by decide) (by decide) (by simp)).mono ?_
      rintro e w3 ⟨v3, rfl, ho3, hb3⟩
      obtain ⟨X3, hX3⟩ : ∃ X, X = [] ++ be 1 kn := ⟨_, rfl⟩
      rw [← hX3] at ho3
      have HX3 := Lib.hid hX3
      have hl3 : X3.length ≤ 600 := by rw [hX3]; simp only [List.length_append, be_length, shortB_length, List.length_nil]; omega
      obtain ⟨A3, d3, rfl, _, _⟩ := own_form ho3
      have M3 := Lib.hid (Lies.own ho3 (Nat.le_refl _))
      have B3 := Lib.hid (B2.out.trans (hb3.mono z2))
      have K3 := Lib.hid (K2.out.below hb3 K2.out.lt)
      obtain ⟨c30, c31, c32, c33, c34⟩ := five12 K3.out
      have z3 := B3.out.size
      clear ho3 hb3 hX3
      go_wp2_with fail
      refine (rshort_at A3 d3 _ X3 _ A _ rfl M3.out (Nat.le_refl _) (by omega) (by omega)).mono ?_
      rintro e w4 ⟨v4, rfl, ho4, hb4⟩
      obtain ⟨X4, hX4⟩ : ∃ X, X = X3 ++ shortB A := ⟨_, rfl⟩
      rw [← hX4] at ho4
      have HX4 := Lib.hid hX4
      have hl4 : X4.length ≤ 800 := by rw [hX4]; simp only [List.length_append, be_length, shortB_length, List.length_nil]; omega
      obtain ⟨A4, d4, rfl, _, _⟩ := own_form ho4
      have M4 := Lib.hid (Lies.own ho4 (Nat.le_refl _))
      have B4 := Lib.hid (B3.out.trans (hb4.mono z3))
      have K4 := Lib.hid (K3.out.below hb4 K3.out.lt)
      obtain ⟨c40, c41, c42, c43, c44⟩ := five12 K4.out
      have z4 := B4.out.size
      clear ho4 hb4 hX4
      obtain ⟨Y4, hY4⟩ : ∃ Y, Y = w4.drew := ⟨_, rfl⟩
      go_upto_region 7 with fail
      have KD := Lib.hid (show Whole w4.drew w.heap.size 28 #[.int .i64 (kn : Int), .string ⟨A.toArray⟩, .string ⟨B.toArray⟩, .string ⟨C.toArray⟩, .int .u64 ((0 : Nat) : Int)] from K4.out)
      have BD := Lib.hid B4.out.drew
      have MD := Lib.hid (show Lies w4.drew w4.drew.heap.size A4 (B8 X4) from M4.out)
      obtain ⟨g0, g1, g2, g3, g4⟩ := five12 KD.out
      clear hY4 Y4
      go_cut [4] (fun v wx => ∃ A5 c5, v = .slice A5 (X4 ++ shortB B ++ shortB C).length c5 ∧ Lies wx wx.heap.size A5 (B8 (X4 ++ shortB B ++ shortB C)) ∧ Below w.heap.size w wx ∧ Whole wx w.heap.size 28 #[.int .i64 (kn : Int), .string ⟨A.toArray⟩, .string ⟨B.toArray⟩, .string ⟨C.toArray⟩, .int .u64 ((0 : Nat) : Int)])
      case first =>
        go_region_with (first
          | (go_at_call_of 26 (Value.string ⟨B.toArray⟩); go_must (refine (rshort_at A4 d4 _ X4 _ B _ rfl MD.out (Nat.le_refl _) (by omega) (by omega)).mono ?_); rintro e w5 ⟨v5, rfl, ho5, hb5⟩; obtain ⟨X5, hX5⟩ : ∃ X, X = X4 ++ shortB B := ⟨_, rfl⟩; rw [← hX5] at ho5; have HX5 := Lib.hid hX5; have hl5 : X5.length ≤ 2000 := (by rw [hX5]; simp only [List.length_append, be_length, shortB_length, List.length_nil]; omega); obtain ⟨A5, d5, rfl, _, _⟩ := own_form ho5; have MD := Lib.hid (Lies.own ho5 (Nat.le_refl _)); have BD := Lib.hid (BD.out.trans (hb5.mono BD.out.size)); have KD := Lib.hid (KD.out.below hb5 KD.out.lt); clear ho5 hb5 hX5; obtain ⟨g0, g1, g2, g3, g4⟩ := five12 KD.out)
          | (go_at_call_of 26 (Value.string ⟨C.toArray⟩); go_must (refine (rshort_at A5 d5 _ X5 _ C _ rfl MD.out (Nat.le_refl _) (by omega) (by omega)).mono ?_); rintro e w6 ⟨v6, rfl, ho6, hb6⟩; obtain ⟨X6, hX6⟩ : ∃ X, X = X5 ++ shortB C := ⟨_, rfl⟩; rw [← hX6] at ho6; have HX6 := Lib.hid hX6; obtain ⟨A6, d6, rfl, _, _⟩ := own_form ho6; have MD := Lib.hid (Lies.own ho6 (Nat.le_refl _)); have BD := Lib.hid (BD.out.trans (hb6.mono BD.out.size)); have KD := Lib.hid (KD.out.below hb6 KD.out.lt); clear ho6 hb6 hX6; obtain ⟨g0, g1, g2, g3, g4⟩ := five12 KD.out))
        all_goals (go_wp2_with fail; go_meet; exact ⟨A6, d6, by rw [HX6.out, HX5.out], by rw [← HX5.out, ← HX6.out]; exact MD.out, BD.out, KD.out⟩)
      case rest =>
      obtain ⟨A6, d6, rfl, hm, hbb, hkk⟩ := hcut
      obtain ⟨w6, hw6⟩ : ∃ w, w = wc := ⟨_, rfl⟩
      rw [← hw6] at hm hbb hkk
      rw [← hw6]
      obtain ⟨X6, hX6⟩ : ∃ X, X = X4 ++ shortB B ++ shortB C := ⟨_, rfl⟩
      rw [← hX6] at hm
      rw [← hX6]
      have HX6 := Lib.hid hX6
      have M6 := Lib.hid hm
      have B6 := Lib.hid hbb
      obtain ⟨c60, c61, c62, c63, c64⟩ := five12 hkk
      clear hm hbb hw6 hX6 KD BD MD g0 g1 g2 g3 g4
      have cv6 := run_octets_string (P := Try.prog) 23 9 5 Try.underlying23 Try.underlying5 Try.underlying9 M6.out d6
      have R : Hid (X6 = T) := Lib.hid (by rw [HT.out, HX6.out, HX4.out, HX3.out]; simp)
      go_wp2_with fail
      go_ret2
      refine ⟨?_, B6.out⟩
      rw [R.out]
      rfl
    · have k3b : ((kn : Int) == 3) = false := by exact beq_false_of_ne k3
      obtain rfl : A = [] := by simpa using hAe
      have id0 : (0 : Int) < (id : Int) := by have := hId.1 rfl; omega
      have id0' : 0 < id := hId.1 rfl
      clear hAe hId k3
      go_wp2_with fail
      refine (rput_at none 0 0 [] 0 1 kn _ rfl (Lies.empty _ _ _) (Nat.zero_le _) (by decide) (by decide) (by simp)).mono ?_
      rintro e w3 ⟨v3, rfl, ho3, hb3⟩
      obtain ⟨X3, hX3⟩ : ∃ X, X = [] ++ be 1 kn := ⟨_, rfl⟩
      rw [← hX3] at ho3
      have HX3 := Lib.hid hX3
      have hl3 : X3.length ≤ 600 := by rw [hX3]; simp only [List.length_append, be_length, shortB_length, List.length_nil]; omega
      obtain ⟨A3, d3, rfl, _, _⟩ := own_form ho3
      have M3 := Lib.hid (Lies.own ho3 (Nat.le_refl _))
      have B3 := Lib.hid (B2.out.trans (hb3.mono z2))
      have K3 := Lib.hid (K2.out.below hb3 K2.out.lt)
      obtain ⟨c30, c31, c32, c33, c34⟩ := five12 K3.out
      have z3 := B3.out.size
      clear ho3 hb3 hX3
      go_wp2_with fail
      refine (rput_at A3 d3 _ X3 _ 8 id _ rfl M3.out (Nat.le_refl _) (by decide) (by decide) (by omega)).mono ?_
      rintro e w4 ⟨v4, rfl, ho4, hb4⟩
      obtain ⟨X4, hX4⟩ : ∃ X, X = X3 ++ be 8 id := ⟨_, rfl⟩
      rw [← hX4] at ho4
      have HX4 := Lib.hid hX4
      have hl4 : X4.length ≤ 800 := by rw [hX4]; simp only [List.length_append, be_length, shortB_length, List.length_nil]; omega
      obtain ⟨A4, d4, rfl, _, _⟩ := own_form ho4
      have M4 := Lib.hid (Lies.own ho4 (Nat.le_refl _))
      have B4 := Lib.hid (B3.out.trans (hb4.mono z3))
      have K4 := Lib.hid (K3.out.below hb4 K3.out.lt)
      obtain ⟨c40, c41, c42, c43, c44⟩ := five12 K4.out
      have z4 := B4.out.size
      clear ho4 hb4 hX4
      have cv4 := run_octets_string (P := Try.prog) 23 9 5 Try.underlying23 Try.underlying5 Try.underlying9 M4.out d4
      have R : Hid (X4 = T) := Lib.hid (by rw [HT.out, HX4.out, HX3.out]; simp)
      go_wp2_with fail
      go_ret2
      refine ⟨?_, B4.out⟩
      rw [R.out]
      rfl
    · have k3b : ((kn : Int) == 3) = false := by exact beq_false_of_ne k3
      have neA : ¬ A = [] := by intro h; rw [h] at hAe; cases hAe
      have neA2 : A.isEmpty = false := hAe
      have id0 : (0 : Int) < (id : Int) := by have := hId.1 rfl; omega
      have id0' : 0 < id := hId.1 rfl
      clear hAe hId k3
      go_wp2_with fail
      refine (rput_at none 0 0 [] 0 1 kn _ rfl (Lies.empty _ _ _) (Nat.zero_le _) (by decide) (by decide) (by simp)).mono ?_
      rintro e w3 ⟨v3, rfl, ho3, hb3⟩
      obtain ⟨X3, hX3⟩ : ∃ X, X = [] ++ be 1 kn := ⟨_, rfl⟩
      rw [← hX3] at ho3
      have HX3 := Lib.hid hX3
      have hl3 : X3.length ≤ 600 := by rw [hX3]; simp only [List.length_append, be_length, shortB_length, List.length_nil]; omega
      obtain ⟨A3, d3, rfl, _, _⟩ := own_form ho3
      have M3 := Lib.hid (Lies.own ho3 (Nat.le_refl _))
      have B3 := Lib.hid (B2.out.trans (hb3.mono z2))
      have K3 := Lib.hid (K2.out.below hb3 K2.out.lt)
      obtain ⟨c30, c31, c32, c33, c34⟩ := five12 K3.out
      have z3 := B3.out.size
      clear ho3 hb3 hX3
      go_wp2_with fail
      refine (rshort_at A3 d3 _ X3 _ A _ rfl M3.out (Nat.le_refl _) (by omega) (by omega)).mono ?_
      rintro e w4 ⟨v4, rfl, ho4, hb4⟩
      obtain ⟨X4, hX4⟩ : ∃ X, X = X3 ++ shortB A := ⟨_, rfl⟩
      rw [← hX4] at ho4
      have HX4 := Lib.hid hX4
      have hl4 : X4.length ≤ 800 := by rw [hX4]; simp only [List.length_append, be_length, shortB_length, List.length_nil]; omega
      obtain ⟨A4, d4, rfl, _, _⟩ := own_form ho4
      have M4 := Lib.hid (Lies.own ho4 (Nat.le_refl _))
      have B4 := Lib.hid (B3.out.trans (hb4.mono z3))
      have K4 := Lib.hid (K3.out.below hb4 K3.out.lt)
      obtain ⟨c40, c41, c42, c43, c44⟩ := five12 K4.out
      have z4 := B4.out.size
      clear ho4 hb4 hX4
      go_wp2_with fail
      refine (rput_at A4 d4 _ X4 _ 8 id _ rfl M4.out (Nat.le_refl _) (by decide) (by decide) (by omega)).mono ?_
      rintro e w5 ⟨v5, rfl, ho5, hb5⟩
      obtain ⟨X5, hX5⟩ : ∃ X, X = X4 ++ be 8 id := ⟨_, rfl⟩
      rw [← hX5] at ho5
      have HX5 := Lib.hid hX5
      have hl5 : X5.length ≤ 1000 := by rw [hX5]; simp only [List.length_append, be_length, shortB_length, List.length_nil]; omega
      obtain ⟨A5, d5, rfl, _, _⟩ := own_form ho5
      have M5 := Lib.hid (Lies.own ho5 (Nat.le_refl _))
      have B5 := Lib.hid (B4.out.trans (hb5.mono z4))
      have K5 := Lib.hid (K4.out.below hb5 K4.out.lt)
      obtain ⟨c50, c51, c52, c53, c54⟩ := five12 K5.out
      have z5 := B5.out.size
      clear ho5 hb5 hX5
      have cv5 := run_octets_string (P := Try.prog) 23 9 5 Try.underlying23 Try.underlying5 Try.underlying9 M5.out d5
      have R : Hid (X5 = T) := Lib.hid (by rw [HT.out, HX5.out, HX4.out, HX3.out]; simp)
      go_wp2_with fail
      go_ret2
      refine ⟨?_, B5.out⟩
      rw [R.out]
      rfl
end Go.Proofs.Ytgdlgkbckblagaa
