/- Layer 7: the law of what is synced. -/
import Derived.Test.YtloomcompnopkaaSectYs
import Derived.Test.YtloomcompnopkaaSectY
import Derived.Deep.RegionHeld
import Derived.Deep.OwnRows
namespace Go.Proofs.Ytloomcompnopkaa
open Go.RowKit Go.Maps
set_option maxRecDepth 100000
set_option linter.unusedSimpArgs false
set_option linter.unusedVariables false
def ovR (ov : Nat → Bool) (m : Nat) : Array Value := ((List.range m).map fun k => Value.bool (ov k)).toArray
theorem ovR_size (ov : Nat → Bool) (m : Nat) : (ovR ov m).size = m := by simp [ovR]
theorem ovR_made (m : Nat) : madeCells #[.bool false] m = ovR (fun _ => false) m := by
  apply Array.ext
  · simp [madeCells, ovR]
  · intro i h1 h2
    simp [madeCells, ovR, Nat.mod_one]
theorem ovR_set (ov : Nat → Bool) (m k : Nat) : (ovR ov m).setIfInBounds k (.bool true) = ovR (fun j => if j = k then true else ov j) m := by
  unfold ovR
  rw [List.setIfInBounds_toArray]
  congr 1
  apply List.ext_getElem?
  intro i
  rw [List.getElem?_set, List.getElem?_map, List.getElem?_map]
  by_cases e : k = i
  · subst e
    rcases Nat.lt_or_ge k m with h | h
    · simp [h]
    · simp [List.getElem?_eq_none, h]
  · rw [if_neg e]
    rcases Nat.lt_or_ge i m with h | h
    · simp [h, Ne.symm e]
    · simp [List.getElem?_eq_none, h]
theorem Whole.ov {w : World} {g m : Nat} {ov : Nat → Bool} (h : Whole w g 4 (ovR ov m)) (k : Nat) (hk : k < m) : w.cell? ⟨g, k, none⟩ = some (.bool (ov k)) := by
  rw [h.cell]; simp [ovR, hk]
theorem sy_info : (Try.prog.info? 4).map (fun i => (i.zero, i.size, i.bytes)) = some (some (.bool false), 1, 1) := by kernel_rfl
theorem make_ov (N : Nat) (hn : N ≤ 1000) (w : World) : (Instr.makeSlice 54 (.int .i64 ((N : Int) + 1 + 30)) (.int .i64 ((N : Int) + 1 + 30))).run Try.prog w = .ok (.slice (some ⟨w.heap.size, 0, none⟩) (N + 31) (N + 31)) (w.alloc (.cells (ovR (fun _ => false) (N + 31)) 4)) := by
  have h := run_make_row' (P := Try.prog) 54 4 (.bool false) 1 Try.underlying54 sy_info rfl .i64 .i64 (N + 31) (by omega) (by omega) w
  rw [show (((N + 31 : Nat)) : Int) = (N : Int) + 1 + 30 by omega, ovR_made] at h
  exact h
theorem sy0 : pMake (newDv 100) [97] = (0, one 100 (-1) [97] newF) := by rfl
set_option maxHeartbeats 4000000 in
theorem syncs_law (n : Int) (l1 l2 : List Int) (A1 A2 : Option Addr) (cap1 cap2 : Nat) (w : World) (c1 : l1.length ≤ cap1) (m1 : cap1 ≤ maxLen) (hl1 : Lies w w.heap.size A1 (cellsZ l1)) (h641 : In64 l1)
    (c2 : l2.length ≤ cap2) (m2 : cap2 ≤ maxLen) (hl2 : Lies w w.heap.size A2 (cellsZ l2)) (h642 : In64 l2) :
    Calls Try.prog 6 #[.int .i64 n, .slice A1 l1.length cap1, .slice A2 l2.length cap2] w fun e w' => e = .returned (.bool true) ∧ Below w.heap.size w w' := by
  obtain ⟨N, N1, _, N3⟩ := mask_is n 15 4 (by omega) rfl
  have N2 : N < 16 := N1
  clear N1
  have ml : ([97] : Nm).length ≤ maxLen := by show 1 ≤ maxLen; unfold maxLen; omega
  have ML := Lib.hid ml
  have HL1 := Lib.hid hl1
  have HL2 := Lib.hid hl2
  have H1 := Lib.hid h641
  have H2 := Lib.hid h642
  have lc : l1.length ≤ 9223372036854775807 := by unfold maxLen at m1; omega
  have mk := make_ov N (by omega)
  clear ml hl1 hl2 h641 h642
  go_enter Try.func6, Try.ntmps6
  go_upto_region 5 with (first
    | (go_at_call 9; go_must (refine (at_new 100 _ (by omega)).mono ?_); rintro e w1 ⟨g, rfl, h1⟩; have D1 := Lib.hid h1; clear h1)
    | (go_at_call 11; go_must (refine (at_make D1.out [97] ML.out (by show 0 < 1000000; omega) 0 sy0).mono ?_); rintro e w2 ⟨rfl, h2, k2⟩; have D2 := Lib.hid h2; clear h2 k2))
  go_wp2_with (fail)
  go_loopw [8] (fun vi W => ∃ i : Nat, i ≤ N + 1 ∧ vi = .int .i64 (i : Int) ∧ At w.heap.size (fun _ => False) w g (one 100 (-1) [97] (endF i)) W) (fun vi _ => N + 1 - (intOf vi).toNat)
  case atStart => exact ⟨0, Nat.zero_le _, rfl, D2.out⟩
  case round =>
    obtain ⟨i, hi, rfl, h3⟩ := hrel
    have D3 := Lib.hid h3
    clear h3
    by_cases hlt : i < N + 1
    · have hlt2 : (i : Int) < (N : Int) + 1 := by omega
      go_wp2_with (first
        | (go_at_call 18; go_must (refine (at_sector D3.out i (by omega)).mono ?_); rintro e w5 ⟨rfl, h5, k5⟩; have H5 := Lib.hid h5; clear h5 k5)
        | (go_at_call 17; go_must (refine (at_write H5.out [97] ML.out (i : Int) (secI i) 0 (one_write (by omega) i (by rw [endF_len]; omega) (by rw [endF_len]; omega) _)).mono ?_); rintro e w6 ⟨rfl, h6, k6⟩; rw [endF_succ] at h6; have H6 := Lib.hid h6; clear h6 k6))
      go_roundw
      case rel => exact ⟨i + 1, by omega, by go_num, H6.out⟩
      case measure => simp [intOf]; omega
    · obtain rfl : i = N + 1 := by omega
      have hlt2 : ¬ ((N : Int) + 1 < (N : Int) + 1) := by omega
      clear hlt hi
      go_upto_region 12 with (go_at_call 25; go_must (refine (at_sync D3.out [97] ML.out 0 (one_sync (by omega))).mono ?_); rintro e w4 ⟨rfl, h4, k4⟩; have D4 := Lib.hid h4; clear h4 k4)
      go_upto_region 13 with fail
      refine wp_rename (fun W => At w.heap.size (fun i => False ∨ i = w4.heap.size) w g (one 100 (-1) [97] (syF (endF (N + 1)))) W ∧ Whole W w4.heap.size 4 (ovR (fun _ => false) (N + 31))) ⟨D4.out.own _, Whole.new _ _ _⟩ ?_
      rintro W5 ⟨h5, h5b⟩
      have D5 := Lib.hid h5
      have P5 := Lib.hid h5b
      have hb4 : w4.heap.size < W5.heap.size := h5b.lt
      clear h5 h5b mk
      go_wp2_with fail
      go_loopw [10, 11] (fun vl vi W => ∃ (i long : Nat) (ov : Nat → Bool) (F : Fil), i ≤ l1.length ∧ i ≤ 20 ∧ vi = .int .i64 (i : Int) ∧ vl = .int .i64 (long : Int) ∧ long ≤ N + 1 + i ∧ N + 1 ≤ long ∧ AgF (N + 1) long ov F ∧ At w.heap.size (fun i => False ∨ i = w4.heap.size) w g (one 100 (-1) [97] F) W ∧ Whole W w4.heap.size 4 (ovR ov (N + 31))) (fun _ vi _ => 20 - (intOf vi).toNat)
      case atStart => exact ⟨0, N + 1, _, _, Nat.zero_le _, Nat.zero_le _, rfl, by go_num, by omega, Nat.le_refl _, agF_sync (N + 1), D5.out, P5.out⟩
      case round =>
        obtain ⟨i, long, ov, F, hi1, hi2, rfl, rfl, hlo, hlo1, hA, h6, h6b⟩ := hrel
        have AG := Lib.hid hA
        have D6 := Lib.hid h6
        have P6 := Lib.hid h6b
        have FL := Lib.hid hA.1
        clear hA h6 h6b
        by_cases hlt : i < l1.length ∧ i < 20
        · obtain ⟨hlt1, hlt2⟩ := hlt
          obtain ⟨b, o, rfl, hc⟩ := lies_get HL1.out D6.out.bel i hlt1
          obtain ⟨p, hp⟩ : ∃ p, p = l1.getD i 0 := ⟨_, rfl⟩
          rw [← hp] at hc
          obtain ⟨P, P1, _, P3⟩ := mask_is p 255 8 (by omega) rfl
          have P2 : P < 256 := P1
          obtain ⟨k, hk⟩ : ∃ k, k = P % (long + 1) := ⟨_, rfl⟩
          have hkl : k < long + 1 := by rw [hk]; exact Nat.mod_lt _ (by omega)
          have htm : (P : Int).tmod ((long : Int) + 1) = (k : Int) := by
            rw [hk, show ((long : Int) + 1) = ((long + 1 : Nat) : Int) by omega]
            exact (Int.ofNat_tmod P (long + 1)).symm
          clear P1 hk hp
          have hW : Hid (pWrite (one 100 (-1) [97] F) [97] (k : Int) (secI (100 + (k : Int))) = (0, one 100 (-1) [97] (wrF F k (secI (100 + (k : Int)))))) := Lib.hid (one_write (by omega) k (by rw [FL.out]; omega) (by rw [FL.out]; omega) _)
          go_upto_region 18 with fail
          go_upto_region 20 with (first
            | (go_at_call 18; go_must (refine (at_sector D6.out (100 + (k : Int)) (by omega)).mono ?_); rintro e w7 ⟨rfl, h7, k7⟩; have D7 := Lib.hid h7; have K7 := Lib.hid (k7.1 w4.heap.size (.inr rfl)); clear h7 k7)
            | (go_at_call 17; go_must (refine (at_write D7.out [97] ML.out (k : Int) (secI (100 + (k : Int))) 0 hW.out).mono ?_); rintro e w8 ⟨rfl, h8, k8⟩; have D8 := Lib.hid h8; have K8 := Lib.hid (k8.1 w4.heap.size (.inr rfl)); clear h8 k8))
          have h9 : Whole w8 w4.heap.size 4 (ovR ov (N + 31)) := K8.out.trans (K7.out.trans P6.out)
          have P9 := Lib.hid h9
          have hov := h9.ov k (by omega)
          have hfr := h9.frozen k
          clear h9
          have hmx : max (long : Int) ((k : Int) + 1) = ((max long (k + 1) : Nat) : Int) := by omega
          go_wp2_with fail
          go_roundw
          case rel => exact ⟨i + 1, max long (k + 1), fun j => if j = k then true else ov j, wrF F k (secI (100 + (k : Int))), by omega, by omega, by go_num, by first | rfl | (rw [hmx]) | go_num, by omega, by omega, agF_write AG.out k (by omega), D8.out.cell w4.heap.size k (.inr rfl) _, by rw [← ovR_set]; exact P9.out.put k _⟩
          case measure => simp [intOf]; omega
        · obtain ⟨F', hcr, hz1, hz2, hzg⟩ := crash_ag (mo := 100) (le := -1) (nm := [97]) D6.out.dev.1 AG.out l2
          obtain ⟨Z, hZ⟩ : ∃ Z, Z = F'.l.length := ⟨_, rfl⟩
          rw [← hZ] at hz1 hz2 hzg
          have HCR := Lib.hid hcr
          have HG := Lib.hid hzg
          have HZ : Hid ((one 100 (-1) [97] F').len [97] = Z) := Lib.hid (by rw [one_len, hZ])
          have hpk : Hid (PickAt (fun i => w.heap.size ≤ i ∧ ¬ (False ∨ i = w4.heap.size)) wr A2 l2) := Lib.hid (by
            have := pick_lies HL2.out D6.out.bel (Nat.le_refl _) (K := fun i => w.heap.size ≤ i ∧ ¬ (False ∨ i = w4.heap.size)) (fun j hj hk => absurd hk.1 (by omega)) l2.length
            rwa [List.take_length] at this)
          clear hcr hzg hZ
          have f1 : ¬ ((Z : Int) < (N : Int) + 1) := by omega
          have f2 : ¬ ((long : Int) < (Z : Int)) := by omega
          have f3 : ¬ (i < l1.length ∧ i < 20) := hlt
          go_upto_region 23 with (go_at_call 13; go_must (refine (at_crashN D6.out _ l2 l2.length cap2 rfl c2 m2 hpk.out H2.out HCR.out).mono ?_); rintro e w7 ⟨rfl, h7, k7⟩; have D7 := Lib.hid h7; have P7 : Hid (Whole w7 w4.heap.size 4 (ovR ov (N + 31))) := Lib.hid ((k7.1 w4.heap.size (.inr rfl)).trans P6.out); clear h7 k7)
          all_goals
            go_upto_region 25 with (go_at_call 15; go_must (refine (at_len D7.out [97] ML.out Z HZ.out).mono ?_); rintro e w8 ⟨rfl, rfl⟩)
          all_goals
            go_wp2_with fail
            have d1 : decide ((Z : Int) < (N : Int) + 1) = false := decide_eq_false (by omega)
            have d2 : decide (long < Z) = false := decide_eq_false (by omega)
            try simp only [d1, d2, Bool.or_false]
            clear d1 d2
            go_loopw [13] (fun vk W => ∃ k : Nat, k ≤ Z ∧ vk = .int .i64 (k : Int) ∧ At w.heap.size (fun i => False ∨ i = w4.heap.size) w g (one 100 (-1) [97] F') W ∧ Whole W w4.heap.size 4 (ovR ov (N + 31))) (fun vk _ => Z - (intOf vk).toNat)
            case atStart => exact ⟨0, Nat.zero_le _, rfl, D7.out, P7.out⟩
            case round =>
              obtain ⟨k, hk, rfl, h9, h9b⟩ := hrel
              have D9 := Lib.hid h9
              have P9 := Lib.hid h9b
              clear h9 h9b
              by_cases hlt3 : k < Z
              · obtain ⟨y, hy, hs⟩ := HG.out k hlt3
                obtain ⟨sO, hsO⟩ : ∃ sO, sO = secI (k : Int) := ⟨_, rfl⟩
                obtain ⟨sN, hsN⟩ : ∃ sN, sN = secI (100 + (k : Int)) := ⟨_, rfl⟩
                have HSO : Hid (secI (k : Int) = sO) := Lib.hid hsO.symm
                have HSN : Hid (secI (100 + (k : Int)) = sN) := Lib.hid hsN.symm
                clear hsO hsN
                have HW : Hid (IntKind.i64.wrap (100 + (k : Int)) = 100 + (k : Int)) := Lib.hid (IntWalk.i64_in _ ⟨by omega, by omega⟩)
                rcases hy with ⟨hov, hkn, rfl⟩ | ⟨hov, hy⟩
                · rw [HSO.out] at hs
                  have hkn2 : (k : Int) < (N : Int) + 1 := by omega
                  have hrd : Hid (pRead (one 100 (-1) [97] F') [97] (k : Int) = (sO, 0)) := Lib.hid (one_read k _ hs)
                  clear hs
                  go_upto_region 29 with (first
                    | (go_at_call 15; go_must (refine (at_len D9.out [97] ML.out Z HZ.out).mono ?_); rintro e w10 ⟨rfl, rfl⟩)
                    | (go_at_call 19; go_must (refine (at_read D9.out [97] ML.out (k : Int) sO 0 hrd.out).mono ?_); rintro e w11 ⟨rfl, h11, k11⟩; have D11 := Lib.hid h11; have P11 : Hid (Whole w11 w4.heap.size 4 (ovR ov (N + 31))) := Lib.hid ((k11.1 w4.heap.size (.inr rfl)).trans P9.out); clear h11 k11)
                    | (with_reducible refine at_store36 ?_; go_must (refine wpList_store64 rfl (.tmp 14) (.tmp 102) rfl w11.heap.size sO rfl rfl _ (heap_alloc_new w11 _) rfl ?_)))
                  refine wp_rename (fun W => At w.heap.size (fun i => (False ∨ i = w4.heap.size) ∨ i = w11.heap.size) w g (one 100 (-1) [97] F') W ∧ W.heap[w11.heap.size]? = some (.cells (csF sO) 36 (0, 0)) ∧ w11.heap.size < W.heap.size ∧ Whole W w4.heap.size 4 (ovR ov (N + 31))) ⟨D11.out.ownB (below_setRow ((Below.refl _ _).alloc (Nat.le_refl _) _) (Nat.le_refl _) _) (by simp [World.setRow]), setRow_heap _ _ _ _ _ _ (heap_alloc_new w11 _), by simp [World.setRow], P11.out.below (below_setRow ((Below.refl _ _).alloc (Nat.le_refl _) _) (Nat.le_refl _) _) P11.out.lt⟩ ?_
                  rintro W12 ⟨h12, h12b, h12c, h12d⟩
                  have D12 := Lib.hid h12
                  have RR := Lib.hid (range_row h12b)
                  have LT := Lib.hid h12c
                  have P12 := Lib.hid h12d
                  have OO := Lib.hid (h12d.ov k (by omega))
                  have L4 := Lib.hid h12d.lt
                  have BB : Hid (Below W12.heap.size W12 W12.drew) := Lib.hid (Below.refl _ _).drew
                  rw [hov] at OO
                  have ho := OO.out
                  have hk31 : (k : Int) < (N : Int) + 31 := by omega
                  clear h12 h12b h12c h12d
                  have RR : Hid (W12.drew.rangeAt w11.heap.size 0 (B8 (sO).1)) := RR
                  have LT : Hid (w11.heap.size < W12.drew.heap.size) := LT
                  have L4 : Hid (w4.heap.size < W12.drew.heap.size) := L4
                  have OO : Hid (W12.drew.cell? ⟨w4.heap.size, k, none⟩ = some (.bool false)) := OO
                  have hgs := guard_sec
                  have hns1 := eql_2 sO sO true (by simp)
                  have hns2 := eql_2 sO sO true (by simp)
                  have hu1 := Try.underlying36
                  have hu2 := info_B8 sO
                  have hu3 := len_B8 sO
                  have hu4 := one_B8 (sO).1
                  refine wp_region_held_drew (S := fun w' => w'.rangeAt w11.heap.size 0 (B8 (sO).1) ∧ w'.cell? ⟨w4.heap.size, k, none⟩ = some (.bool false)) (by kernel_rfl) ⟨RR.out, OO.out⟩ (fun hS0 => ?_)
                  refine wpAnyH_take (i := 0) (oi := ⟨some 104, _, _, _, _, _⟩) (v := ?_) rfl (by kernel_rfl) (by kernel_rfl) (by kernel_rfl) (fun _ _ _ h => h) (Or.inl ⟨by rfl, ?_⟩) hS0 ?_
                  rotate_left
                  · (intro wS hSw; (try dsimp only at hSw); go_simp); all_goals (with_reducible rfl)
                  try simp only [Act.put, List.setIfInBounds_toArray, List.set_cons_zero, List.set_cons_succ]
                  refine wpAnyH_take (i := 1) (oi := ⟨some 105, _, _, _, _, _⟩) (v := ?_) rfl (by kernel_rfl) (by kernel_rfl) (by kernel_rfl) (fun _ _ _ h => h) (Or.inl ⟨by rfl, ?_⟩) hS0 ?_
                  rotate_left
                  · (intro wS hSw; (try dsimp only at hSw); go_simp); all_goals (with_reducible rfl)
                  try simp only [Act.put, List.setIfInBounds_toArray, List.set_cons_zero, List.set_cons_succ]
                  refine wpAnyH_take (i := 2) (oi := ⟨some 106, _, _, _, _, _⟩) (v := ?_) rfl (by kernel_rfl) (by kernel_rfl) (by kernel_rfl) (fun _ _ _ h => h) (Or.inl ⟨by rfl, ?_⟩) hS0 ?_
                  rotate_left
                  · (intro wS hSw; (try dsimp only at hSw); go_simp); all_goals (with_reducible rfl)
                  try simp only [Act.put, List.setIfInBounds_toArray, List.set_cons_zero, List.set_cons_succ]
                  refine wpAnyH_take (i := 3) (oi := ⟨some 107, _, _, _, _, _⟩) (v := ?_) rfl (by kernel_rfl) (by kernel_rfl) (by kernel_rfl) (fun _ _ _ h => h) (Or.inl ⟨by rfl, ?_⟩) hS0 ?_
                  rotate_left
                  · (intro wS hSw; (try dsimp only at hSw); go_simp); all_goals (with_reducible rfl)
                  try simp only [Act.put, List.setIfInBounds_toArray, List.set_cons_zero, List.set_cons_succ]
                  refine wpAnyH_take (i := 4) (oi := ⟨some 108, _, _, _, _, _⟩) (v := ?_) rfl (by kernel_rfl) (by kernel_rfl) (by kernel_rfl) (fun _ _ _ h => h) (Or.inl ⟨by rfl, ?_⟩) hS0 ?_
                  rotate_left
                  · (intro wS hSw; (try dsimp only at hSw); go_simp); all_goals (with_reducible rfl)
                  try simp only [Act.put, List.setIfInBounds_toArray, List.set_cons_zero, List.set_cons_succ]
                  refine wpAnyH_take (i := 5) (oi := ⟨some 109, _, _, _, _, _⟩) (v := ?_) rfl (by kernel_rfl) (by kernel_rfl) (by kernel_rfl) (fun _ _ _ h => h) (Or.inl ⟨by rfl, ?_⟩) hS0 ?_
                  rotate_left
                  · (intro wS hSw; (try dsimp only at hSw); go_simp); all_goals (with_reducible rfl)
                  try simp only [Act.put, List.setIfInBounds_toArray, List.set_cons_zero, List.set_cons_succ]
                  refine wpAnyH_take (i := 6) (oi := ⟨some 110, _, _, _, _, _⟩) (v := ?_) rfl (by kernel_rfl) (by kernel_rfl) (by kernel_rfl) (fun _ _ _ h => h) (Or.inl ⟨by rfl, ?_⟩) hS0 ?_
                  rotate_left
                  · (intro wS hSw; (try dsimp only at hSw); go_simp); all_goals (with_reducible rfl)
                  try simp only [Act.put, List.setIfInBounds_toArray, List.set_cons_zero, List.set_cons_succ]
                  refine wpAnyH_take (i := 7) (oi := ⟨some 111, _, _, _, _, _⟩) (v := ?_) rfl (by kernel_rfl) (by kernel_rfl) (by kernel_rfl) (fun _ _ _ h => h) (Or.inl ⟨by rfl, ?_⟩) hS0 ?_
                  rotate_left
                  · (intro wS hSw; (try dsimp only at hSw); go_simp); all_goals (with_reducible rfl)
                  try simp only [Act.put, List.setIfInBounds_toArray, List.set_cons_zero, List.set_cons_succ]
                  refine wpAnyH_take (i := 8) (oi := ⟨some 112, _, _, _, _, _⟩) (v := _) rfl (by kernel_rfl) (by kernel_rfl) (by kernel_rfl) (fun _ _ _ h => h) (yieldsIf_load_mid (by rfl) _ _ rfl _ _ rfl _ _ (fun _ hSw => hSw.1) hu1 rfl hu2) hS0 ?_
                  try simp only [Act.put, List.setIfInBounds_toArray, List.set_cons_zero, List.set_cons_succ]
                  refine wpAnyH_take (i := 9) (oi := ⟨some 113, _, _, _, _, _⟩) (v := ?_) rfl (by kernel_rfl) (by kernel_rfl) (by kernel_rfl) (fun _ _ _ h => h) (Or.inl ⟨by rfl, ?_⟩) hS0 ?_
                  rotate_left
                  · (intro wS hSw; (try dsimp only at hSw); go_simp); all_goals (with_reducible rfl)
                  try simp only [Act.put, List.setIfInBounds_toArray, List.set_cons_zero, List.set_cons_succ]
                  refine wpAnyH_take (i := 13) (oi := ⟨some 117, _, _, _, _, _⟩) (v := ?_) rfl (by kernel_rfl) (by kernel_rfl) (by kernel_rfl) (fun _ _ _ h => h) (Or.inl ⟨by rfl, ?_⟩) hS0 ?_
                  rotate_left
                  · (intro wS hSw; (try dsimp only at hSw); go_simp); all_goals (with_reducible rfl)
                  try simp only [Act.put, List.setIfInBounds_toArray, List.set_cons_zero, List.set_cons_succ]
                  refine wpAnyH_take (i := 14) (oi := ⟨some 118, _, _, _, _, _⟩) (v := ?_) rfl (by kernel_rfl) (by kernel_rfl) (by kernel_rfl) (fun _ _ _ h => h) (Or.inl ⟨by rfl, ?_⟩) hS0 ?_
                  rotate_left
                  · (intro wS hSw; (try dsimp only at hSw); go_simp); all_goals (with_reducible rfl)
                  try simp only [Act.put, List.setIfInBounds_toArray, List.set_cons_zero, List.set_cons_succ]
                  refine wpAnyH_ready (rs := [10]) (by kernel_rfl) (by simp) ?_
                  refine AllReadyH.cons (o := ⟨some 114, _, _, _, _, _⟩) rfl (fun K hK => ?_) AllReadyH.nil
                  go_simp
                  refine (sector_any _ _ (by first | omega | (rw [HW.out]; omega))).mono ?_
                  rintro e w13 ⟨he, h13⟩
                  rw [HSO.out] at he
                  subst he
                  have RR := Lib.hid (range_below RR.out h13 LT.out)
                  have OO := Lib.hid ((World.cell?_of_block (h13.block w4.heap.size L4.out)).trans OO.out)
                  have BB := Lib.hid (BB.out.trans (h13.mono BB.out.size))
                  have LT := Lib.hid (Nat.lt_of_lt_of_le LT.out h13.size)
                  have L4 := Lib.hid (Nat.lt_of_lt_of_le L4.out h13.size)
                  clear h13
                  go_wp2_with fail
                  refine hK.out _ _ ⟨RR.out, OO.out⟩ (fun hS10 => ?_)
                  clear hK K
                  try simp only [Act.put, List.setIfInBounds_toArray, List.set_cons_zero, List.set_cons_succ]
                  refine wpAnyH_take (i := 11) (oi := ⟨some 115, _, _, _, _, _⟩) (v := ?_) rfl (by kernel_rfl) (by kernel_rfl) (by kernel_rfl) (fun _ _ _ h => h) (Or.inl ⟨by rfl, ?_⟩) hS10 ?_
                  rotate_left
                  · (intro wS hSw; (try dsimp only at hSw); go_simp); all_goals (with_reducible rfl)
                  try simp only [Act.put, List.setIfInBounds_toArray, List.set_cons_zero, List.set_cons_succ]
                  refine wpAnyH_take (i := 12) (oi := ⟨some 116, _, _, _, _, _⟩) (v := ?_) rfl (by kernel_rfl) (by kernel_rfl) (by kernel_rfl) (fun _ _ _ h => h) (Or.inl ⟨by rfl, ?_⟩) hS10 ?_
                  rotate_left
                  · (intro wS hSw; (try dsimp only at hSw); go_simp); all_goals (with_reducible rfl)
                  try simp only [Act.put, List.setIfInBounds_toArray, List.set_cons_zero, List.set_cons_succ]
                  refine wpAnyH_take (i := 15) (oi := ⟨some 119, _, _, _, _, _⟩) (v := ?_) rfl (by kernel_rfl) (by kernel_rfl) (by kernel_rfl) (fun _ _ _ h => h) (Or.inl ⟨by rfl, ?_⟩) hS10 ?_
                  rotate_left
                  · (intro wS hSw; (try dsimp only at hSw); go_simp); all_goals (with_reducible rfl)
                  try simp only [Act.put, List.setIfInBounds_toArray, List.set_cons_zero, List.set_cons_succ]
                  refine wpAnyH_take (i := 16) (oi := ⟨some 120, _, _, _, _, _⟩) (v := ?_) rfl (by kernel_rfl) (by kernel_rfl) (by kernel_rfl) (fun _ _ _ h => h) (Or.inl ⟨by rfl, ?_⟩) hS10 ?_
                  rotate_left
                  · (intro wS hSw; (try dsimp only at hSw); go_simp); all_goals (with_reducible rfl)
                  try simp only [Act.put, List.setIfInBounds_toArray, List.set_cons_zero, List.set_cons_succ]
                  refine wpAnyH_take (i := 17) (oi := ⟨some 121, _, _, _, _, _⟩) (v := ?_) rfl (by kernel_rfl) (by kernel_rfl) (by kernel_rfl) (fun _ _ _ h => h) (Or.inl ⟨by rfl, ?_⟩) hS10 ?_
                  rotate_left
                  · (intro wS hSw; (try dsimp only at hSw); go_simp); all_goals (with_reducible rfl)
                  try simp only [Act.put, List.setIfInBounds_toArray, List.set_cons_zero, List.set_cons_succ]
                  refine wpAnyH_take (i := 18) (oi := ⟨some 122, _, _, _, _, _⟩) (v := ?_) rfl (by kernel_rfl) (by kernel_rfl) (by kernel_rfl) (fun _ _ _ h => h) (Or.inl ⟨by rfl, ?_⟩) hS10 ?_
                  rotate_left
                  · (intro wS hSw; (try dsimp only at hSw); go_simp); all_goals (with_reducible rfl)
                  try simp only [Act.put, List.setIfInBounds_toArray, List.set_cons_zero, List.set_cons_succ]
                  refine wpAnyH_take (i := 19) (oi := ⟨some 123, _, _, _, _, _⟩) (v := ?_) rfl (by kernel_rfl) (by kernel_rfl) (by kernel_rfl) (fun _ _ _ h => h) (Or.inl ⟨by rfl, ?_⟩) hS10 ?_
                  rotate_left
                  · (intro wS hSw; (try dsimp only at hSw); go_simp); all_goals (with_reducible rfl)
                  try simp only [Act.put, List.setIfInBounds_toArray, List.set_cons_zero, List.set_cons_succ]
                  refine wpAnyH_take (i := 20) (oi := ⟨some 124, _, _, _, _, _⟩) (v := ?_) rfl (by kernel_rfl) (by kernel_rfl) (by kernel_rfl) (fun _ _ _ h => h) (Or.inl ⟨by rfl, ?_⟩) hS10 ?_
                  rotate_left
                  · (intro wS hSw; (try dsimp only at hSw); go_simp); all_goals (with_reducible rfl)
                  try simp only [Act.put, List.setIfInBounds_toArray, List.set_cons_zero, List.set_cons_succ]
                  refine wpAnyH_take (i := 21) (oi := ⟨some 125, _, _, _, _, _⟩) (v := ?_) rfl (by kernel_rfl) (by kernel_rfl) (by kernel_rfl) (fun _ _ _ h => h) (Or.inl ⟨by rfl, ?_⟩) hS10 ?_
                  rotate_left
                  · (intro wS hSw; (try dsimp only at hSw); go_simp); all_goals (with_reducible rfl)
                  try simp only [Act.put, List.setIfInBounds_toArray, List.set_cons_zero, List.set_cons_succ]
                  refine wpAnyH_take (i := 22) (oi := ⟨some 126, _, _, _, _, _⟩) (v := undef) rfl (by kernel_rfl) (by kernel_rfl) (by kernel_rfl) (fun _ _ _ h => h) (Or.inr ⟨by rfl, rfl⟩) hS10 ?_
                  try simp only [Act.put, List.setIfInBounds_toArray, List.set_cons_zero, List.set_cons_succ]
                  refine wpAnyH_take (i := 23) (oi := ⟨some 127, _, _, _, _, _⟩) (v := undef) rfl (by kernel_rfl) (by kernel_rfl) (by kernel_rfl) (fun _ _ _ h => h) (Or.inr ⟨by rfl, rfl⟩) hS10 ?_
                  try simp only [Act.put, List.setIfInBounds_toArray, List.set_cons_zero, List.set_cons_succ]
                  refine wpAnyH_take (i := 24) (oi := ⟨some 128, _, _, _, _, _⟩) (v := undef) rfl (by kernel_rfl) (by kernel_rfl) (by kernel_rfl) (fun _ _ _ h => h) (Or.inr ⟨by rfl, rfl⟩) hS10 ?_
                  try simp only [Act.put, List.setIfInBounds_toArray, List.set_cons_zero, List.set_cons_succ]
                  refine wpAnyH_take (i := 25) (oi := ⟨some 129, _, _, _, _, _⟩) (v := undef) rfl (by kernel_rfl) (by kernel_rfl) (by kernel_rfl) (fun _ _ _ h => h) (Or.inr ⟨by rfl, rfl⟩) hS10 ?_
                  try simp only [Act.put, List.setIfInBounds_toArray, List.set_cons_zero, List.set_cons_succ]
                  refine wpAnyH_take (i := 26) (oi := ⟨some 130, _, _, _, _, _⟩) (v := undef) rfl (by kernel_rfl) (by kernel_rfl) (by kernel_rfl) (fun _ _ _ h => h) (Or.inr ⟨by rfl, rfl⟩) hS10 ?_
                  try simp only [Act.put, List.setIfInBounds_toArray, List.set_cons_zero, List.set_cons_succ]
                  refine wpAnyH_take (i := 27) (oi := ⟨some 131, _, _, _, _, _⟩) (v := ?_) rfl (by kernel_rfl) (by kernel_rfl) (by kernel_rfl) (fun _ _ _ h => h) (Or.inl ⟨by rfl, ?_⟩) hS10 ?_
                  rotate_left
                  · (intro wS hSw; (try dsimp only at hSw); go_simp); all_goals (with_reducible rfl)
                  try simp only [Act.put, List.setIfInBounds_toArray, List.set_cons_zero, List.set_cons_succ]
                  refine wpAnyH_take (i := 28) (oi := ⟨some 16, _, _, _, _, _⟩) (v := ?_) rfl (by kernel_rfl) (by kernel_rfl) (by kernel_rfl) (fun _ _ _ h => h) (Or.inl ⟨by rfl, ?_⟩) hS10 ?_
                  rotate_left
                  · (intro wS hSw; (try dsimp only at hSw); go_simp); all_goals (with_reducible rfl)
                  try simp only [Act.put, List.setIfInBounds_toArray, List.set_cons_zero, List.set_cons_succ]
                  refine wpAnyH_take (i := 29) (oi := ⟨some 17, _, _, _, _, _⟩) (v := ?_) rfl (by kernel_rfl) (by kernel_rfl) (by kernel_rfl) (fun _ _ _ h => h) (Or.inl ⟨by rfl, ?_⟩) hS10 ?_
                  rotate_left
                  · (intro wS hSw; (try dsimp only at hSw); go_simp); all_goals (with_reducible rfl)
                  try simp only [Act.put, List.setIfInBounds_toArray, List.set_cons_zero, List.set_cons_succ]
                  refine wpAnyH_done (by kernel_rfl) ?_ _
                  clear hu1 hu2 hu3 hu4 hns1 hns2 hgs
                  have ho := OO.out
                  go_wp2_with fail
                  go_roundw
                  case rel => exact ⟨k + 1, by omega, by go_num, (D12.out.below BB.out).1.less (fun i h => .inl h), P12.out.below BB.out P12.out.lt⟩
                  case measure => simp [intOf]; omega
                · rcases hy with rfl | rfl | ⟨hkn, rfl⟩
                  · have hrd : Hid (pRead (one 100 (-1) [97] F') [97] (k : Int) = (zSec, 7)) := Lib.hid (one_read k _ hs)
                    clear hs
                    go_upto_region 29 with (first
                      | (go_at_call 15; go_must (refine (at_len D9.out [97] ML.out Z HZ.out).mono ?_); rintro e w10 ⟨rfl, rfl⟩)
                      | (go_at_call 19; go_must (refine (at_read D9.out [97] ML.out (k : Int) zSec 7 hrd.out).mono ?_); rintro e w11 ⟨rfl, h11, k11⟩; have D11 := Lib.hid h11; have P11 : Hid (Whole w11 w4.heap.size 4 (ovR ov (N + 31))) := Lib.hid ((k11.1 w4.heap.size (.inr rfl)).trans P9.out); clear h11 k11)
                      | (with_reducible refine at_store36 ?_; go_must (refine wpList_store64 rfl (.tmp 14) (.tmp 102) rfl w11.heap.size zSec rfl rfl _ (heap_alloc_new w11 _) rfl ?_)))
                    refine wp_rename (fun W => At w.heap.size (fun i => (False ∨ i = w4.heap.size) ∨ i = w11.heap.size) w g (one 100 (-1) [97] F') W ∧ W.heap[w11.heap.size]? = some (.cells (csF zSec) 36 (0, 0)) ∧ w11.heap.size < W.heap.size ∧ Whole W w4.heap.size 4 (ovR ov (N + 31))) ⟨D11.out.ownB (below_setRow ((Below.refl _ _).alloc (Nat.le_refl _) _) (Nat.le_refl _) _) (by simp [World.setRow]), setRow_heap _ _ _ _ _ _ (heap_alloc_new w11 _), by simp [World.setRow], P11.out.below (below_setRow ((Below.refl _ _).alloc (Nat.le_refl _) _) (Nat.le_refl _) _) P11.out.lt⟩ ?_
                    rintro W12 ⟨h12, h12b, h12c, h12d⟩
                    have D12 := Lib.hid h12
                    have RR := Lib.hid (range_row h12b)
                    have LT := Lib.hid h12c
                    have P12 := Lib.hid h12d
                    have OO := Lib.hid (h12d.ov k (by omega))
                    have L4 := Lib.hid h12d.lt
                    have BB : Hid (Below W12.heap.size W12 W12.drew) := Lib.hid (Below.refl _ _).drew
                    rw [hov] at OO
                    have ho := OO.out
                    have hk31 : (k : Int) < (N : Int) + 31 := by omega
                    clear h12 h12b h12c h12d
                    have RR : Hid (W12.drew.rangeAt w11.heap.size 0 (B8 (zSec).1)) := RR
                    have LT : Hid (w11.heap.size < W12.drew.heap.size) := LT
                    have L4 : Hid (w4.heap.size < W12.drew.heap.size) := L4
                    have OO : Hid (W12.drew.cell? ⟨w4.heap.size, k, none⟩ = some (.bool true)) := OO
                    have hgs := guard_sec
                    have hns1 := eql_2 zSec zSec true (by simp)
                    have hns2 := eql_2 zSec zSec true (by simp)
                    have hu1 := Try.underlying36
                    have hu2 := info_B8 zSec
                    have hu3 := len_B8 zSec
                    have hu4 := one_B8 (zSec).1
                    refine wp_region_held_drew (S := fun w' => w'.rangeAt w11.heap.size 0 (B8 (zSec).1) ∧ w'.cell? ⟨w4.heap.size, k, none⟩ = some (.bool true)) (by kernel_rfl) ⟨RR.out, OO.out⟩ (fun hS0 => ?_)
                    refine wpAnyH_take (i := 0) (oi := ⟨some 104, _, _, _, _, _⟩) (v := ?_) rfl (by kernel_rfl) (by kernel_rfl) (by kernel_rfl) (fun _ _ _ h => h) (Or.inl ⟨by rfl, ?_⟩) hS0 ?_
                    rotate_left
                    · (intro wS hSw; (try dsimp only at hSw); go_simp); all_goals (with_reducible rfl)
                    try simp only [Act.put, List.setIfInBounds_toArray, List.set_cons_zero, List.set_cons_succ]
                    refine wpAnyH_take (i := 1) (oi := ⟨some 105, _, _, _, _, _⟩) (v := ?_) rfl (by kernel_rfl) (by kernel_rfl) (by kernel_rfl) (fun _ _ _ h => h) (Or.inl ⟨by rfl, ?_⟩) hS0 ?_
                    rotate_left
                    · (intro wS hSw; (try dsimp only at hSw); go_simp); all_goals (with_reducible rfl)
                    try simp only [Act.put, List.setIfInBounds_toArray, List.set_cons_zero, List.set_cons_succ]
                    refine wpAnyH_take (i := 2) (oi := ⟨some 106, _, _, _, _, _⟩) (v := ?_) rfl (by kernel_rfl) (by kernel_rfl) (by kernel_rfl) (fun _ _ _ h => h) (Or.inl ⟨by rfl, ?_⟩) hS0 ?_
                    rotate_left
                    · (intro wS hSw; (try dsimp only at hSw); go_simp); all_goals (with_reducible rfl)
                    try simp only [Act.put, List.setIfInBounds_toArray, List.set_cons_zero, List.set_cons_succ]
                    refine wpAnyH_take (i := 3) (oi := ⟨some 107, _, _, _, _, _⟩) (v := undef) rfl (by kernel_rfl) (by kernel_rfl) (by kernel_rfl) (fun _ _ _ h => h) (Or.inr ⟨by rfl, rfl⟩) hS0 ?_
                    try simp only [Act.put, List.setIfInBounds_toArray, List.set_cons_zero, List.set_cons_succ]
                    refine wpAnyH_take (i := 4) (oi := ⟨some 108, _, _, _, _, _⟩) (v := undef) rfl (by kernel_rfl) (by kernel_rfl) (by kernel_rfl) (fun _ _ _ h => h) (Or.inr ⟨by rfl, rfl⟩) hS0 ?_
                    try simp only [Act.put, List.setIfInBounds_toArray, List.set_cons_zero, List.set_cons_succ]
                    refine wpAnyH_take (i := 5) (oi := ⟨some 109, _, _, _, _, _⟩) (v := undef) rfl (by kernel_rfl) (by kernel_rfl) (by kernel_rfl) (fun _ _ _ h => h) (Or.inr ⟨by rfl, rfl⟩) hS0 ?_
                    try simp only [Act.put, List.setIfInBounds_toArray, List.set_cons_zero, List.set_cons_succ]
                    refine wpAnyH_take (i := 6) (oi := ⟨some 110, _, _, _, _, _⟩) (v := ?_) rfl (by kernel_rfl) (by kernel_rfl) (by kernel_rfl) (fun _ _ _ h => h) (Or.inl ⟨by rfl, ?_⟩) hS0 ?_
                    rotate_left
                    · (intro wS hSw; (try dsimp only at hSw); go_simp); all_goals (with_reducible rfl)
                    try simp only [Act.put, List.setIfInBounds_toArray, List.set_cons_zero, List.set_cons_succ]
                    refine wpAnyH_take (i := 7) (oi := ⟨some 111, _, _, _, _, _⟩) (v := ?_) rfl (by kernel_rfl) (by kernel_rfl) (by kernel_rfl) (fun _ _ _ h => h) (Or.inl ⟨by rfl, ?_⟩) hS0 ?_
                    rotate_left
                    · (intro wS hSw; (try dsimp only at hSw); go_simp); all_goals (with_reducible rfl)
                    try simp only [Act.put, List.setIfInBounds_toArray, List.set_cons_zero, List.set_cons_succ]
                    refine wpAnyH_take (i := 8) (oi := ⟨some 112, _, _, _, _, _⟩) (v := undef) rfl (by kernel_rfl) (by kernel_rfl) (by kernel_rfl) (fun _ _ _ h => h) (Or.inr ⟨by rfl, rfl⟩) hS0 ?_
                    try simp only [Act.put, List.setIfInBounds_toArray, List.set_cons_zero, List.set_cons_succ]
                    refine wpAnyH_take (i := 9) (oi := ⟨some 113, _, _, _, _, _⟩) (v := undef) rfl (by kernel_rfl) (by kernel_rfl) (by kernel_rfl) (fun _ _ _ h => h) (Or.inr ⟨by rfl, rfl⟩) hS0 ?_
                    try simp only [Act.put, List.setIfInBounds_toArray, List.set_cons_zero, List.set_cons_succ]
                    refine wpAnyH_take (i := 13) (oi := ⟨some 117, _, _, _, _, _⟩) (v := ?_) rfl (by kernel_rfl) (by kernel_rfl) (by kernel_rfl) (fun _ _ _ h => h) (Or.inl ⟨by rfl, ?_⟩) hS0 ?_
                    rotate_left
                    · (intro wS hSw; (try dsimp only at hSw); go_simp); all_goals (with_reducible rfl)
                    try simp only [Act.put, List.setIfInBounds_toArray, List.set_cons_zero, List.set_cons_succ]
                    refine wpAnyH_take (i := 14) (oi := ⟨some 118, _, _, _, _, _⟩) (v := ?_) rfl (by kernel_rfl) (by kernel_rfl) (by kernel_rfl) (fun _ _ _ h => h) (Or.inl ⟨by rfl, ?_⟩) hS0 ?_
                    rotate_left
                    · (intro wS hSw; (try dsimp only at hSw); go_simp); all_goals (with_reducible rfl)
                    try simp only [Act.put, List.setIfInBounds_toArray, List.set_cons_zero, List.set_cons_succ]
                    refine wpAnyH_take (i := 10) (oi := ⟨some 114, _, _, _, _, _⟩) (v := undef) rfl (by kernel_rfl) (by kernel_rfl) (by kernel_rfl) (fun _ _ _ h => h) (Or.inr ⟨by rfl, rfl⟩) hS0 ?_
                    try simp only [Act.put, List.setIfInBounds_toArray, List.set_cons_zero, List.set_cons_succ]
                    refine wpAnyH_take (i := 11) (oi := ⟨some 115, _, _, _, _, _⟩) (v := undef) rfl (by kernel_rfl) (by kernel_rfl) (by kernel_rfl) (fun _ _ _ h => h) (Or.inr ⟨by rfl, rfl⟩) hS0 ?_
                    try simp only [Act.put, List.setIfInBounds_toArray, List.set_cons_zero, List.set_cons_succ]
                    refine wpAnyH_take (i := 12) (oi := ⟨some 116, _, _, _, _, _⟩) (v := ?_) rfl (by kernel_rfl) (by kernel_rfl) (by kernel_rfl) (fun _ _ _ h => h) (Or.inl ⟨by rfl, ?_⟩) hS0 ?_
                    rotate_left
                    · (intro wS hSw; (try dsimp only at hSw); go_simp); all_goals (with_reducible rfl)
                    try simp only [Act.put, List.setIfInBounds_toArray, List.set_cons_zero, List.set_cons_succ]
                    refine wpAnyH_take (i := 15) (oi := ⟨some 119, _, _, _, _, _⟩) (v := ?_) rfl (by kernel_rfl) (by kernel_rfl) (by kernel_rfl) (fun _ _ _ h => h) (Or.inl ⟨by rfl, ?_⟩) hS0 ?_
                    rotate_left
                    · (intro wS hSw; (try dsimp only at hSw); go_simp); all_goals (with_reducible rfl)
                    try simp only [Act.put, List.setIfInBounds_toArray, List.set_cons_zero, List.set_cons_succ]
                    refine wpAnyH_take (i := 16) (oi := ⟨some 120, _, _, _, _, _⟩) (v := undef) rfl (by kernel_rfl) (by kernel_rfl) (by kernel_rfl) (fun _ _ _ h => h) (Or.inr ⟨by rfl, rfl⟩) hS0 ?_
                    try simp only [Act.put, List.setIfInBounds_toArray, List.set_cons_zero, List.set_cons_succ]
                    refine wpAnyH_take (i := 17) (oi := ⟨some 121, _, _, _, _, _⟩) (v := undef) rfl (by kernel_rfl) (by kernel_rfl) (by kernel_rfl) (fun _ _ _ h => h) (Or.inr ⟨by rfl, rfl⟩) hS0 ?_
                    try simp only [Act.put, List.setIfInBounds_toArray, List.set_cons_zero, List.set_cons_succ]
                    refine wpAnyH_take (i := 18) (oi := ⟨some 122, _, _, _, _, _⟩) (v := undef) rfl (by kernel_rfl) (by kernel_rfl) (by kernel_rfl) (fun _ _ _ h => h) (Or.inr ⟨by rfl, rfl⟩) hS0 ?_
                    try simp only [Act.put, List.setIfInBounds_toArray, List.set_cons_zero, List.set_cons_succ]
                    refine wpAnyH_take (i := 19) (oi := ⟨some 123, _, _, _, _, _⟩) (v := undef) rfl (by kernel_rfl) (by kernel_rfl) (by kernel_rfl) (fun _ _ _ h => h) (Or.inr ⟨by rfl, rfl⟩) hS0 ?_
                    try simp only [Act.put, List.setIfInBounds_toArray, List.set_cons_zero, List.set_cons_succ]
                    refine wpAnyH_take (i := 20) (oi := ⟨some 124, _, _, _, _, _⟩) (v := ?_) rfl (by kernel_rfl) (by kernel_rfl) (by kernel_rfl) (fun _ _ _ h => h) (Or.inl ⟨by rfl, ?_⟩) hS0 ?_
                    rotate_left
                    · (intro wS hSw; (try dsimp only at hSw); go_simp); all_goals (with_reducible rfl)
                    try simp only [Act.put, List.setIfInBounds_toArray, List.set_cons_zero, List.set_cons_succ]
                    refine wpAnyH_take (i := 21) (oi := ⟨some 125, _, _, _, _, _⟩) (v := ?_) rfl (by kernel_rfl) (by kernel_rfl) (by kernel_rfl) (fun _ _ _ h => h) (Or.inl ⟨by rfl, ?_⟩) hS0 ?_
                    rotate_left
                    · (intro wS hSw; (try dsimp only at hSw); go_simp); all_goals (with_reducible rfl)
                    try simp only [Act.put, List.setIfInBounds_toArray, List.set_cons_zero, List.set_cons_succ]
                    refine wpAnyH_take (i := 22) (oi := ⟨some 126, _, _, _, _, _⟩) (v := undef) rfl (by kernel_rfl) (by kernel_rfl) (by kernel_rfl) (fun _ _ _ h => h) (Or.inr ⟨by rfl, rfl⟩) hS0 ?_
                    try simp only [Act.put, List.setIfInBounds_toArray, List.set_cons_zero, List.set_cons_succ]
                    refine wpAnyH_take (i := 23) (oi := ⟨some 127, _, _, _, _, _⟩) (v := undef) rfl (by kernel_rfl) (by kernel_rfl) (by kernel_rfl) (fun _ _ _ h => h) (Or.inr ⟨by rfl, rfl⟩) hS0 ?_
                    try simp only [Act.put, List.setIfInBounds_toArray, List.set_cons_zero, List.set_cons_succ]
                    refine wpAnyH_take (i := 24) (oi := ⟨some 128, _, _, _, _, _⟩) (v := undef) rfl (by kernel_rfl) (by kernel_rfl) (by kernel_rfl) (fun _ _ _ h => h) (Or.inr ⟨by rfl, rfl⟩) hS0 ?_
                    try simp only [Act.put, List.setIfInBounds_toArray, List.set_cons_zero, List.set_cons_succ]
                    refine wpAnyH_take (i := 25) (oi := ⟨some 129, _, _, _, _, _⟩) (v := undef) rfl (by kernel_rfl) (by kernel_rfl) (by kernel_rfl) (fun _ _ _ h => h) (Or.inr ⟨by rfl, rfl⟩) hS0 ?_
                    try simp only [Act.put, List.setIfInBounds_toArray, List.set_cons_zero, List.set_cons_succ]
                    refine wpAnyH_take (i := 26) (oi := ⟨some 130, _, _, _, _, _⟩) (v := undef) rfl (by kernel_rfl) (by kernel_rfl) (by kernel_rfl) (fun _ _ _ h => h) (Or.inr ⟨by rfl, rfl⟩) hS0 ?_
                    try simp only [Act.put, List.setIfInBounds_toArray, List.set_cons_zero, List.set_cons_succ]
                    refine wpAnyH_take (i := 27) (oi := ⟨some 131, _, _, _, _, _⟩) (v := ?_) rfl (by kernel_rfl) (by kernel_rfl) (by kernel_rfl) (fun _ _ _ h => h) (Or.inl ⟨by rfl, ?_⟩) hS0 ?_
                    rotate_left
                    · (intro wS hSw; (try dsimp only at hSw); go_simp); all_goals (with_reducible rfl)
                    try simp only [Act.put, List.setIfInBounds_toArray, List.set_cons_zero, List.set_cons_succ]
                    refine wpAnyH_take (i := 28) (oi := ⟨some 16, _, _, _, _, _⟩) (v := ?_) rfl (by kernel_rfl) (by kernel_rfl) (by kernel_rfl) (fun _ _ _ h => h) (Or.inl ⟨by rfl, ?_⟩) hS0 ?_
                    rotate_left
                    · (intro wS hSw; (try dsimp only at hSw); go_simp); all_goals (with_reducible rfl)
                    try simp only [Act.put, List.setIfInBounds_toArray, List.set_cons_zero, List.set_cons_succ]
                    refine wpAnyH_take (i := 29) (oi := ⟨some 17, _, _, _, _, _⟩) (v := ?_) rfl (by kernel_rfl) (by kernel_rfl) (by kernel_rfl) (fun _ _ _ h => h) (Or.inl ⟨by rfl, ?_⟩) hS0 ?_
                    rotate_left
                    · (intro wS hSw; (try dsimp only at hSw); go_simp); all_goals (with_reducible rfl)
                    try simp only [Act.put, List.setIfInBounds_toArray, List.set_cons_zero, List.set_cons_succ]
                    refine wpAnyH_done (by kernel_rfl) ?_ _
                    clear hu1 hu2 hu3 hu4 hns1 hns2 hgs
                    have ho := OO.out
                    go_wp2_with fail
                    go_roundw
                    case rel => exact ⟨k + 1, by omega, by go_num, (D12.out.below BB.out).1.less (fun i h => .inl h), P12.out.below BB.out P12.out.lt⟩
                    case measure => simp [intOf]; omega
                  · rw [HSN.out] at hs
                    by_cases hkn : k < N + 1
                    · have hkn2 : (k : Int) < (N : Int) + 1 := by omega
                      cases hb : (sN.1 == sO.1) with
                      | true =>
                        have hrd : Hid (pRead (one 100 (-1) [97] F') [97] (k : Int) = (sN, 0)) := Lib.hid (one_read k _ hs)
                        clear hs
                        go_upto_region 29 with (first
                          | (go_at_call 15; go_must (refine (at_len D9.out [97] ML.out Z HZ.out).mono ?_); rintro e w10 ⟨rfl, rfl⟩)
                          | (go_at_call 19; go_must (refine (at_read D9.out [97] ML.out (k : Int) sN 0 hrd.out).mono ?_); rintro e w11 ⟨rfl, h11, k11⟩; have D11 := Lib.hid h11; have P11 : Hid (Whole w11 w4.heap.size 4 (ovR ov (N + 31))) := Lib.hid ((k11.1 w4.heap.size (.inr rfl)).trans P9.out); clear h11 k11)
                          | (with_reducible refine at_store36 ?_; go_must (refine wpList_store64 rfl (.tmp 14) (.tmp 102) rfl w11.heap.size sN rfl rfl _ (heap_alloc_new w11 _) rfl ?_)))
                        refine wp_rename (fun W => At w.heap.size (fun i => (False ∨ i = w4.heap.size) ∨ i = w11.heap.size) w g (one 100 (-1) [97] F') W ∧ W.heap[w11.heap.size]? = some (.cells (csF sN) 36 (0, 0)) ∧ w11.heap.size < W.heap.size ∧ Whole W w4.heap.size 4 (ovR ov (N + 31))) ⟨D11.out.ownB (below_setRow ((Below.refl _ _).alloc (Nat.le_refl _) _) (Nat.le_refl _) _) (by simp [World.setRow]), setRow_heap _ _ _ _ _ _ (heap_alloc_new w11 _), by simp [World.setRow], P11.out.below (below_setRow ((Below.refl _ _).alloc (Nat.le_refl _) _) (Nat.le_refl _) _) P11.out.lt⟩ ?_
                        rintro W12 ⟨h12, h12b, h12c, h12d⟩
                        have D12 := Lib.hid h12
                        have RR := Lib.hid (range_row h12b)
                        have LT := Lib.hid h12c
                        have P12 := Lib.hid h12d
                        have OO := Lib.hid (h12d.ov k (by omega))
                        have L4 := Lib.hid h12d.lt
                        have BB : Hid (Below W12.heap.size W12 W12.drew) := Lib.hid (Below.refl _ _).drew
                        rw [hov] at OO
                        have ho := OO.out
                        have hk31 : (k : Int) < (N : Int) + 31 := by omega
                        clear h12 h12b h12c h12d
                        have RR : Hid (W12.drew.rangeAt w11.heap.size 0 (B8 (sN).1)) := RR
                        have LT : Hid (w11.heap.size < W12.drew.heap.size) := LT
                        have L4 : Hid (w4.heap.size < W12.drew.heap.size) := L4
                        have OO : Hid (W12.drew.cell? ⟨w4.heap.size, k, none⟩ = some (.bool true)) := OO
                        have hgs := guard_sec
                        have hns1 := eql_2 sN sO true hb
                        have hns2 := eql_2 sN sN true (by simp)
                        have hu1 := Try.underlying36
                        have hu2 := info_B8 sN
                        have hu3 := len_B8 sN
                        have hu4 := one_B8 (sN).1
                        refine wp_region_held_drew (S := fun w' => w'.rangeAt w11.heap.size 0 (B8 (sN).1) ∧ w'.cell? ⟨w4.heap.size, k, none⟩ = some (.bool true)) (by kernel_rfl) ⟨RR.out, OO.out⟩ (fun hS0 => ?_)
                        refine wpAnyH_take (i := 0) (oi := ⟨some 104, _, _, _, _, _⟩) (v := ?_) rfl (by kernel_rfl) (by kernel_rfl) (by kernel_rfl) (fun _ _ _ h => h) (Or.inl ⟨by rfl, ?_⟩) hS0 ?_
                        rotate_left
                        · (intro wS hSw; (try dsimp only at hSw); go_simp); all_goals (with_reducible rfl)
                        try simp only [Act.put, List.setIfInBounds_toArray, List.set_cons_zero, List.set_cons_succ]
                        refine wpAnyH_take (i := 1) (oi := ⟨some 105, _, _, _, _, _⟩) (v := ?_) rfl (by kernel_rfl) (by kernel_rfl) (by kernel_rfl) (fun _ _ _ h => h) (Or.inl ⟨by rfl, ?_⟩) hS0 ?_
                        rotate_left
                        · (intro wS hSw; (try dsimp only at hSw); go_simp); all_goals (with_reducible rfl)
                        try simp only [Act.put, List.setIfInBounds_toArray, List.set_cons_zero, List.set_cons_succ]
                        refine wpAnyH_take (i := 2) (oi := ⟨some 106, _, _, _, _, _⟩) (v := ?_) rfl (by kernel_rfl) (by kernel_rfl) (by kernel_rfl) (fun _ _ _ h => h) (Or.inl ⟨by rfl, ?_⟩) hS0 ?_
                        rotate_left
                        · (intro wS hSw; (try dsimp only at hSw); go_simp); all_goals (with_reducible rfl)
                        try simp only [Act.put, List.setIfInBounds_toArray, List.set_cons_zero, List.set_cons_succ]
                        refine wpAnyH_take (i := 3) (oi := ⟨some 107, _, _, _, _, _⟩) (v := ?_) rfl (by kernel_rfl) (by kernel_rfl) (by kernel_rfl) (fun _ _ _ h => h) (Or.inl ⟨by rfl, ?_⟩) hS0 ?_
                        rotate_left
                        · (intro wS hSw; (try dsimp only at hSw); go_simp); all_goals (with_reducible rfl)
                        try simp only [Act.put, List.setIfInBounds_toArray, List.set_cons_zero, List.set_cons_succ]
                        refine wpAnyH_take (i := 4) (oi := ⟨some 108, _, _, _, _, _⟩) (v := ?_) rfl (by kernel_rfl) (by kernel_rfl) (by kernel_rfl) (fun _ _ _ h => h) (Or.inl ⟨by rfl, ?_⟩) hS0 ?_
                        rotate_left
                        · (intro wS hSw; (try dsimp only at hSw); go_simp); all_goals (with_reducible rfl)
                        try simp only [Act.put, List.setIfInBounds_toArray, List.set_cons_zero, List.set_cons_succ]
                        refine wpAnyH_take (i := 5) (oi := ⟨some 109, _, _, _, _, _⟩) (v := ?_) rfl (by kernel_rfl) (by kernel_rfl) (by kernel_rfl) (fun _ _ _ h => h) (Or.inl ⟨by rfl, ?_⟩) hS0 ?_
                        rotate_left
                        · (intro wS hSw; (try dsimp only at hSw); go_simp); all_goals (with_reducible rfl)
                        try simp only [Act.put, List.setIfInBounds_toArray, List.set_cons_zero, List.set_cons_succ]
                        refine wpAnyH_take (i := 6) (oi := ⟨some 110, _, _, _, _, _⟩) (v := ?_) rfl (by kernel_rfl) (by kernel_rfl) (by kernel_rfl) (fun _ _ _ h => h) (Or.inl ⟨by rfl, ?_⟩) hS0 ?_
                        rotate_left
                        · (intro wS hSw; (try dsimp only at hSw); go_simp); all_goals (with_reducible rfl)
                        try simp only [Act.put, List.setIfInBounds_toArray, List.set_cons_zero, List.set_cons_succ]
                        refine wpAnyH_take (i := 7) (oi := ⟨some 111, _, _, _, _, _⟩) (v := ?_) rfl (by kernel_rfl) (by kernel_rfl) (by kernel_rfl) (fun _ _ _ h => h) (Or.inl ⟨by rfl, ?_⟩) hS0 ?_
                        rotate_left
                        · (intro wS hSw; (try dsimp only at hSw); go_simp); all_goals (with_reducible rfl)
                        try simp only [Act.put, List.setIfInBounds_toArray, List.set_cons_zero, List.set_cons_succ]
                        refine wpAnyH_take (i := 8) (oi := ⟨some 112, _, _, _, _, _⟩) (v := _) rfl (by kernel_rfl) (by kernel_rfl) (by kernel_rfl) (fun _ _ _ h => h) (yieldsIf_load_mid (by rfl) _ _ rfl _ _ rfl _ _ (fun _ hSw => hSw.1) hu1 rfl hu2) hS0 ?_
                        try simp only [Act.put, List.setIfInBounds_toArray, List.set_cons_zero, List.set_cons_succ]
                        refine wpAnyH_take (i := 9) (oi := ⟨some 113, _, _, _, _, _⟩) (v := ?_) rfl (by kernel_rfl) (by kernel_rfl) (by kernel_rfl) (fun _ _ _ h => h) (Or.inl ⟨by rfl, ?_⟩) hS0 ?_
                        rotate_left
                        · (intro wS hSw; (try dsimp only at hSw); go_simp); all_goals (with_reducible rfl)
                        try simp only [Act.put, List.setIfInBounds_toArray, List.set_cons_zero, List.set_cons_succ]
                        refine wpAnyH_take (i := 13) (oi := ⟨some 117, _, _, _, _, _⟩) (v := ?_) rfl (by kernel_rfl) (by kernel_rfl) (by kernel_rfl) (fun _ _ _ h => h) (Or.inl ⟨by rfl, ?_⟩) hS0 ?_
                        rotate_left
                        · (intro wS hSw; (try dsimp only at hSw); go_simp); all_goals (with_reducible rfl)
                        try simp only [Act.put, List.setIfInBounds_toArray, List.set_cons_zero, List.set_cons_succ]
                        refine wpAnyH_take (i := 14) (oi := ⟨some 118, _, _, _, _, _⟩) (v := ?_) rfl (by kernel_rfl) (by kernel_rfl) (by kernel_rfl) (fun _ _ _ h => h) (Or.inl ⟨by rfl, ?_⟩) hS0 ?_
                        rotate_left
                        · (intro wS hSw; (try dsimp only at hSw); go_simp); all_goals (with_reducible rfl)
                        try simp only [Act.put, List.setIfInBounds_toArray, List.set_cons_zero, List.set_cons_succ]
                        refine wpAnyH_ready (rs := [10]) (by kernel_rfl) (by simp) ?_
                        refine AllReadyH.cons (o := ⟨some 114, _, _, _, _, _⟩) rfl (fun K hK => ?_) AllReadyH.nil
                        go_simp
                        refine (sector_any _ _ (by first | omega | (rw [HW.out]; omega))).mono ?_
                        rintro e w13 ⟨he, h13⟩
                        rw [HSO.out] at he
                        subst he
                        have RR := Lib.hid (range_below RR.out h13 LT.out)
                        have OO := Lib.hid ((World.cell?_of_block (h13.block w4.heap.size L4.out)).trans OO.out)
                        have BB := Lib.hid (BB.out.trans (h13.mono BB.out.size))
                        have LT := Lib.hid (Nat.lt_of_lt_of_le LT.out h13.size)
                        have L4 := Lib.hid (Nat.lt_of_lt_of_le L4.out h13.size)
                        clear h13
                        go_wp2_with fail
                        refine hK.out _ _ ⟨RR.out, OO.out⟩ (fun hS10 => ?_)
                        clear hK K
                        try simp only [Act.put, List.setIfInBounds_toArray, List.set_cons_zero, List.set_cons_succ]
                        refine wpAnyH_take (i := 11) (oi := ⟨some 115, _, _, _, _, _⟩) (v := ?_) rfl (by kernel_rfl) (by kernel_rfl) (by kernel_rfl) (fun _ _ _ h => h) (Or.inl ⟨by rfl, ?_⟩) hS10 ?_
                        rotate_left
                        · (intro wS hSw; (try dsimp only at hSw); go_simp); all_goals (with_reducible rfl)
                        try simp only [Act.put, List.setIfInBounds_toArray, List.set_cons_zero, List.set_cons_succ]
                        refine wpAnyH_take (i := 12) (oi := ⟨some 116, _, _, _, _, _⟩) (v := ?_) rfl (by kernel_rfl) (by kernel_rfl) (by kernel_rfl) (fun _ _ _ h => h) (Or.inl ⟨by rfl, ?_⟩) hS10 ?_
                        rotate_left
                        · (intro wS hSw; (try dsimp only at hSw); go_simp); all_goals (with_reducible rfl)
                        try simp only [Act.put, List.setIfInBounds_toArray, List.set_cons_zero, List.set_cons_succ]
                        refine wpAnyH_take (i := 15) (oi := ⟨some 119, _, _, _, _, _⟩) (v := ?_) rfl (by kernel_rfl) (by kernel_rfl) (by kernel_rfl) (fun _ _ _ h => h) (Or.inl ⟨by rfl, ?_⟩) hS10 ?_
                        rotate_left
                        · (intro wS hSw; (try dsimp only at hSw); go_simp); all_goals (with_reducible rfl)
                        try simp only [Act.put, List.setIfInBounds_toArray, List.set_cons_zero, List.set_cons_succ]
                        refine wpAnyH_take (i := 16) (oi := ⟨some 120, _, _, _, _, _⟩) (v := ?_) rfl (by kernel_rfl) (by kernel_rfl) (by kernel_rfl) (fun _ _ _ h => h) (Or.inl ⟨by rfl, ?_⟩) hS10 ?_
                        rotate_left
                        · (intro wS hSw; (try dsimp only at hSw); go_simp); all_goals (with_reducible rfl)
                        try simp only [Act.put, List.setIfInBounds_toArray, List.set_cons_zero, List.set_cons_succ]
                        refine wpAnyH_take (i := 17) (oi := ⟨some 121, _, _, _, _, _⟩) (v := ?_) rfl (by kernel_rfl) (by kernel_rfl) (by kernel_rfl) (fun _ _ _ h => h) (Or.inl ⟨by rfl, ?_⟩) hS10 ?_
                        rotate_left
                        · (intro wS hSw; (try dsimp only at hSw); go_simp); all_goals (with_reducible rfl)
                        try simp only [Act.put, List.setIfInBounds_toArray, List.set_cons_zero, List.set_cons_succ]
                        refine wpAnyH_take (i := 18) (oi := ⟨some 122, _, _, _, _, _⟩) (v := ?_) rfl (by kernel_rfl) (by kernel_rfl) (by kernel_rfl) (fun _ _ _ h => h) (Or.inl ⟨by rfl, ?_⟩) hS10 ?_
                        rotate_left
                        · (intro wS hSw; (try dsimp only at hSw); go_simp); all_goals (with_reducible rfl)
                        try simp only [Act.put, List.setIfInBounds_toArray, List.set_cons_zero, List.set_cons_succ]
                        refine wpAnyH_take (i := 19) (oi := ⟨some 123, _, _, _, _, _⟩) (v := ?_) rfl (by kernel_rfl) (by kernel_rfl) (by kernel_rfl) (fun _ _ _ h => h) (Or.inl ⟨by rfl, ?_⟩) hS10 ?_
                        rotate_left
                        · (intro wS hSw; (try dsimp only at hSw); go_simp); all_goals (with_reducible rfl)
                        try simp only [Act.put, List.setIfInBounds_toArray, List.set_cons_zero, List.set_cons_succ]
                        refine wpAnyH_take (i := 20) (oi := ⟨some 124, _, _, _, _, _⟩) (v := ?_) rfl (by kernel_rfl) (by kernel_rfl) (by kernel_rfl) (fun _ _ _ h => h) (Or.inl ⟨by rfl, ?_⟩) hS10 ?_
                        rotate_left
                        · (intro wS hSw; (try dsimp only at hSw); go_simp); all_goals (with_reducible rfl)
                        try simp only [Act.put, List.setIfInBounds_toArray, List.set_cons_zero, List.set_cons_succ]
                        refine wpAnyH_take (i := 21) (oi := ⟨some 125, _, _, _, _, _⟩) (v := ?_) rfl (by kernel_rfl) (by kernel_rfl) (by kernel_rfl) (fun _ _ _ h => h) (Or.inl ⟨by rfl, ?_⟩) hS10 ?_
                        rotate_left
                        · (intro wS hSw; (try dsimp only at hSw); go_simp); all_goals (with_reducible rfl)
                        try simp only [Act.put, List.setIfInBounds_toArray, List.set_cons_zero, List.set_cons_succ]
                        refine wpAnyH_take (i := 22) (oi := ⟨some 126, _, _, _, _, _⟩) (v := _) rfl (by kernel_rfl) (by kernel_rfl) (by kernel_rfl) (fun _ _ _ h => h) (yieldsIf_load_mid (by rfl) _ _ rfl _ _ rfl _ _ (fun _ hSw => hSw.1) hu1 rfl hu2) hS10 ?_
                        try simp only [Act.put, List.setIfInBounds_toArray, List.set_cons_zero, List.set_cons_succ]
                        refine wpAnyH_take (i := 23) (oi := ⟨some 127, _, _, _, _, _⟩) (v := ?_) rfl (by kernel_rfl) (by kernel_rfl) (by kernel_rfl) (fun _ _ _ h => h) (Or.inl ⟨by rfl, ?_⟩) hS10 ?_
                        rotate_left
                        · (intro wS hSw; (try dsimp only at hSw); go_simp); all_goals (with_reducible rfl)
                        try simp only [Act.put, List.setIfInBounds_toArray, List.set_cons_zero, List.set_cons_succ]
                        refine wpAnyH_take (i := 24) (oi := ⟨some 128, _, _, _, _, _⟩) (v := ?_) rfl (by kernel_rfl) (by kernel_rfl) (by kernel_rfl) (fun _ _ _ h => h) (Or.inl ⟨by rfl, ?_⟩) hS10 ?_
                        rotate_left
                        · (intro wS hSw; (try dsimp only at hSw); go_simp); all_goals (with_reducible rfl)
                        try simp only [Act.put, List.setIfInBounds_toArray, List.set_cons_zero, List.set_cons_succ]
                        refine wpAnyH_ready (rs := [25]) (by kernel_rfl) (by simp) ?_
                        refine AllReadyH.cons (o := ⟨some 129, _, _, _, _, _⟩) rfl (fun K hK => ?_) AllReadyH.nil
                        go_simp
                        refine (sector_any _ _ (by first | omega | (rw [HW.out]; omega))).mono ?_
                        rintro e w28 ⟨he, h13⟩
                        rw [HW.out, HSN.out] at he
                        subst he
                        have RR := Lib.hid (range_below RR.out h13 LT.out)
                        have OO := Lib.hid ((World.cell?_of_block (h13.block w4.heap.size L4.out)).trans OO.out)
                        have BB := Lib.hid (BB.out.trans (h13.mono BB.out.size))
                        have LT := Lib.hid (Nat.lt_of_lt_of_le LT.out h13.size)
                        have L4 := Lib.hid (Nat.lt_of_lt_of_le L4.out h13.size)
                        clear h13
                        go_wp2_with fail
                        refine hK.out _ _ ⟨RR.out, OO.out⟩ (fun hS25 => ?_)
                        clear hK K
                        try simp only [Act.put, List.setIfInBounds_toArray, List.set_cons_zero, List.set_cons_succ]
                        refine wpAnyH_take (i := 26) (oi := ⟨some 130, _, _, _, _, _⟩) (v := ?_) rfl (by kernel_rfl) (by kernel_rfl) (by kernel_rfl) (fun _ _ _ h => h) (Or.inl ⟨by rfl, ?_⟩) hS25 ?_
                        rotate_left
                        · (intro wS hSw; (try dsimp only at hSw); go_simp); all_goals (with_reducible rfl)
                        try simp only [Act.put, List.setIfInBounds_toArray, List.set_cons_zero, List.set_cons_succ]
                        refine wpAnyH_take (i := 27) (oi := ⟨some 131, _, _, _, _, _⟩) (v := ?_) rfl (by kernel_rfl) (by kernel_rfl) (by kernel_rfl) (fun _ _ _ h => h) (Or.inl ⟨by rfl, ?_⟩) hS25 ?_
                        rotate_left
                        · (intro wS hSw; (try dsimp only at hSw); go_simp); all_goals (with_reducible rfl)
                        try simp only [Act.put, List.setIfInBounds_toArray, List.set_cons_zero, List.set_cons_succ]
                        refine wpAnyH_take (i := 28) (oi := ⟨some 16, _, _, _, _, _⟩) (v := ?_) rfl (by kernel_rfl) (by kernel_rfl) (by kernel_rfl) (fun _ _ _ h => h) (Or.inl ⟨by rfl, ?_⟩) hS25 ?_
                        rotate_left
                        · (intro wS hSw; (try dsimp only at hSw); go_simp); all_goals (with_reducible rfl)
                        try simp only [Act.put, List.setIfInBounds_toArray, List.set_cons_zero, List.set_cons_succ]
                        refine wpAnyH_take (i := 29) (oi := ⟨some 17, _, _, _, _, _⟩) (v := ?_) rfl (by kernel_rfl) (by kernel_rfl) (by kernel_rfl) (fun _ _ _ h => h) (Or.inl ⟨by rfl, ?_⟩) hS25 ?_
                        rotate_left
                        · (intro wS hSw; (try dsimp only at hSw); go_simp); all_goals (with_reducible rfl)
                        try simp only [Act.put, List.setIfInBounds_toArray, List.set_cons_zero, List.set_cons_succ]
                        refine wpAnyH_done (by kernel_rfl) ?_ _
                        clear hu1 hu2 hu3 hu4 hns1 hns2 hgs
                        have ho := OO.out
                        go_wp2_with fail
                        go_roundw
                        case rel => exact ⟨k + 1, by omega, by go_num, (D12.out.below BB.out).1.less (fun i h => .inl h), P12.out.below BB.out P12.out.lt⟩
                        case measure => simp [intOf]; omega
                      | false =>
                        have hrd : Hid (pRead (one 100 (-1) [97] F') [97] (k : Int) = (sN, 0)) := Lib.hid (one_read k _ hs)
                        clear hs
                        go_upto_region 29 with (first
                          | (go_at_call 15; go_must (refine (at_len D9.out [97] ML.out Z HZ.out).mono ?_); rintro e w10 ⟨rfl, rfl⟩)
                          | (go_at_call 19; go_must (refine (at_read D9.out [97] ML.out (k : Int) sN 0 hrd.out).mono ?_); rintro e w11 ⟨rfl, h11, k11⟩; have D11 := Lib.hid h11; have P11 : Hid (Whole w11 w4.heap.size 4 (ovR ov (N + 31))) := Lib.hid ((k11.1 w4.heap.size (.inr rfl)).trans P9.out); clear h11 k11)
                          | (with_reducible refine at_store36 ?_; go_must (refine wpList_store64 rfl (.tmp 14) (.tmp 102) rfl w11.heap.size sN rfl rfl _ (heap_alloc_new w11 _) rfl ?_)))
                        refine wp_rename (fun W => At w.heap.size (fun i => (False ∨ i = w4.heap.size) ∨ i = w11.heap.size) w g (one 100 (-1) [97] F') W ∧ W.heap[w11.heap.size]? = some (.cells (csF sN) 36 (0, 0)) ∧ w11.heap.size < W.heap.size ∧ Whole W w4.heap.size 4 (ovR ov (N + 31))) ⟨D11.out.ownB (below_setRow ((Below.refl _ _).alloc (Nat.le_refl _) _) (Nat.le_refl _) _) (by simp [World.setRow]), setRow_heap _ _ _ _ _ _ (heap_alloc_new w11 _), by simp [World.setRow], P11.out.below (below_setRow ((Below.refl _ _).alloc (Nat.le_refl _) _) (Nat.le_refl _) _) P11.out.lt⟩ ?_
                        rintro W12 ⟨h12, h12b, h12c, h12d⟩
                        have D12 := Lib.hid h12
                        have RR := Lib.hid (range_row h12b)
                        have LT := Lib.hid h12c
                        have P12 := Lib.hid h12d
                        have OO := Lib.hid (h12d.ov k (by omega))
                        have L4 := Lib.hid h12d.lt
                        have BB : Hid (Below W12.heap.size W12 W12.drew) := Lib.hid (Below.refl _ _).drew
                        rw [hov] at OO
                        have ho := OO.out
                        have hk31 : (k : Int) < (N : Int) + 31 := by omega
                        clear h12 h12b h12c h12d
                        have RR : Hid (W12.drew.rangeAt w11.heap.size 0 (B8 (sN).1)) := RR
                        have LT : Hid (w11.heap.size < W12.drew.heap.size) := LT
                        have L4 : Hid (w4.heap.size < W12.drew.heap.size) := L4
                        have OO : Hid (W12.drew.cell? ⟨w4.heap.size, k, none⟩ = some (.bool true)) := OO
                        have hgs := guard_sec
                        have hns1 := eql_2 sN sO false hb
                        have hns2 := eql_2 sN sN true (by simp)
                        have hu1 := Try.underlying36
                        have hu2 := info_B8 sN
                        have hu3 := len_B8 sN
                        have hu4 := one_B8 (sN).1
                        refine wp_region_held_drew (S := fun w' => w'.rangeAt w11.heap.size 0 (B8 (sN).1) ∧ w'.cell? ⟨w4.heap.size, k, none⟩ = some (.bool true)) (by kernel_rfl) ⟨RR.out, OO.out⟩ (fun hS0 => ?_)
                        refine wpAnyH_take (i := 0) (oi := ⟨some 104, _, _, _, _, _⟩) (v := ?_) rfl (by kernel_rfl) (by kernel_rfl) (by kernel_rfl) (fun _ _ _ h => h) (Or.inl ⟨by rfl, ?_⟩) hS0 ?_
                        rotate_left
                        · (intro wS hSw; (try dsimp only at hSw); go_simp); all_goals (with_reducible rfl)
                        try simp only [Act.put, List.setIfInBounds_toArray, List.set_cons_zero, List.set_cons_succ]
                        refine wpAnyH_take (i := 1) (oi := ⟨some 105, _, _, _, _, _⟩) (v := ?_) rfl (by kernel_rfl) (by kernel_rfl) (by kernel_rfl) (fun _ _ _ h => h) (Or.inl ⟨by rfl, ?_⟩) hS0 ?_
                        rotate_left
                        · (intro wS hSw; (try dsimp only at hSw); go_simp); all_goals (with_reducible rfl)
                        try simp only [Act.put, List.setIfInBounds_toArray, List.set_cons_zero, List.set_cons_succ]
                        refine wpAnyH_take (i := 2) (oi := ⟨some 106, _, _, _, _, _⟩) (v := ?_) rfl (by kernel_rfl) (by kernel_rfl) (by kernel_rfl) (fun _ _ _ h => h) (Or.inl ⟨by rfl, ?_⟩) hS0 ?_
                        rotate_left
                        · (intro wS hSw; (try dsimp only at hSw); go_simp); all_goals (with_reducible rfl)
                        try simp only [Act.put, List.setIfInBounds_toArray, List.set_cons_zero, List.set_cons_succ]
                        refine wpAnyH_take (i := 3) (oi := ⟨some 107, _, _, _, _, _⟩) (v := ?_) rfl (by kernel_rfl) (by kernel_rfl) (by kernel_rfl) (fun _ _ _ h => h) (Or.inl ⟨by rfl, ?_⟩) hS0 ?_
                        rotate_left
                        · (intro wS hSw; (try dsimp only at hSw); go_simp); all_goals (with_reducible rfl)
                        try simp only [Act.put, List.setIfInBounds_toArray, List.set_cons_zero, List.set_cons_succ]
                        refine wpAnyH_take (i := 4) (oi := ⟨some 108, _, _, _, _, _⟩) (v := ?_) rfl (by kernel_rfl) (by kernel_rfl) (by kernel_rfl) (fun _ _ _ h => h) (Or.inl ⟨by rfl, ?_⟩) hS0 ?_
                        rotate_left
                        · (intro wS hSw; (try dsimp only at hSw); go_simp); all_goals (with_reducible rfl)
                        try simp only [Act.put, List.setIfInBounds_toArray, List.set_cons_zero, List.set_cons_succ]
                        refine wpAnyH_take (i := 5) (oi := ⟨some 109, _, _, _, _, _⟩) (v := ?_) rfl (by kernel_rfl) (by kernel_rfl) (by kernel_rfl) (fun _ _ _ h => h) (Or.inl ⟨by rfl, ?_⟩) hS0 ?_
                        rotate_left
                        · (intro wS hSw; (try dsimp only at hSw); go_simp); all_goals (with_reducible rfl)
                        try simp only [Act.put, List.setIfInBounds_toArray, List.set_cons_zero, List.set_cons_succ]
                        refine wpAnyH_take (i := 6) (oi := ⟨some 110, _, _, _, _, _⟩) (v := ?_) rfl (by kernel_rfl) (by kernel_rfl) (by kernel_rfl) (fun _ _ _ h => h) (Or.inl ⟨by rfl, ?_⟩) hS0 ?_
                        rotate_left
                        · (intro wS hSw; (try dsimp only at hSw); go_simp); all_goals (with_reducible rfl)
                        try simp only [Act.put, List.setIfInBounds_toArray, List.set_cons_zero, List.set_cons_succ]
                        refine wpAnyH_take (i := 7) (oi := ⟨some 111, _, _, _, _, _⟩) (v := ?_) rfl (by kernel_rfl) (by kernel_rfl) (by kernel_rfl) (fun _ _ _ h => h) (Or.inl ⟨by rfl, ?_⟩) hS0 ?_
                        rotate_left
                        · (intro wS hSw; (try dsimp only at hSw); go_simp); all_goals (with_reducible rfl)
                        try simp only [Act.put, List.setIfInBounds_toArray, List.set_cons_zero, List.set_cons_succ]
                        refine wpAnyH_take (i := 8) (oi := ⟨some 112, _, _, _, _, _⟩) (v := _) rfl (by kernel_rfl) (by kernel_rfl) (by kernel_rfl) (fun _ _ _ h => h) (yieldsIf_load_mid (by rfl) _ _ rfl _ _ rfl _ _ (fun _ hSw => hSw.1) hu1 rfl hu2) hS0 ?_
                        try simp only [Act.put, List.setIfInBounds_toArray, List.set_cons_zero, List.set_cons_succ]
                        refine wpAnyH_take (i := 9) (oi := ⟨some 113, _, _, _, _, _⟩) (v := ?_) rfl (by kernel_rfl) (by kernel_rfl) (by kernel_rfl) (fun _ _ _ h => h) (Or.inl ⟨by rfl, ?_⟩) hS0 ?_
                        rotate_left
                        · (intro wS hSw; (try dsimp only at hSw); go_simp); all_goals (with_reducible rfl)
                        try simp only [Act.put, List.setIfInBounds_toArray, List.set_cons_zero, List.set_cons_succ]
                        refine wpAnyH_take (i := 13) (oi := ⟨some 117, _, _, _, _, _⟩) (v := ?_) rfl (by kernel_rfl) (by kernel_rfl) (by kernel_rfl) (fun _ _ _ h => h) (Or.inl ⟨by rfl, ?_⟩) hS0 ?_
                        rotate_left
                        · (intro wS hSw; (try dsimp only at hSw); go_simp); all_goals (with_reducible rfl)
                        try simp only [Act.put, List.setIfInBounds_toArray, List.set_cons_zero, List.set_cons_succ]
                        refine wpAnyH_take (i := 14) (oi := ⟨some 118, _, _, _, _, _⟩) (v := ?_) rfl (by kernel_rfl) (by kernel_rfl) (by kernel_rfl) (fun _ _ _ h => h) (Or.inl ⟨by rfl, ?_⟩) hS0 ?_
                        rotate_left
                        · (intro wS hSw; (try dsimp only at hSw); go_simp); all_goals (with_reducible rfl)
                        try simp only [Act.put, List.setIfInBounds_toArray, List.set_cons_zero, List.set_cons_succ]
                        refine wpAnyH_ready (rs := [10]) (by kernel_rfl) (by simp) ?_
                        refine AllReadyH.cons (o := ⟨some 114, _, _, _, _, _⟩) rfl (fun K hK => ?_) AllReadyH.nil
                        go_simp
                        refine (sector_any _ _ (by first | omega | (rw [HW.out]; omega))).mono ?_
                        rintro e w13 ⟨he, h13⟩
                        rw [HSO.out] at he
                        subst he
                        have RR := Lib.hid (range_below RR.out h13 LT.out)
                        have OO := Lib.hid ((World.cell?_of_block (h13.block w4.heap.size L4.out)).trans OO.out)
                        have BB := Lib.hid (BB.out.trans (h13.mono BB.out.size))
                        have LT := Lib.hid (Nat.lt_of_lt_of_le LT.out h13.size)
                        have L4 := Lib.hid (Nat.lt_of_lt_of_le L4.out h13.size)
                        clear h13
                        go_wp2_with fail
                        refine hK.out _ _ ⟨RR.out, OO.out⟩ (fun hS10 => ?_)
                        clear hK K
                        try simp only [Act.put, List.setIfInBounds_toArray, List.set_cons_zero, List.set_cons_succ]
                        refine wpAnyH_take (i := 11) (oi := ⟨some 115, _, _, _, _, _⟩) (v := ?_) rfl (by kernel_rfl) (by kernel_rfl) (by kernel_rfl) (fun _ _ _ h => h) (Or.inl ⟨by rfl, ?_⟩) hS10 ?_
                        rotate_left
                        · (intro wS hSw; (try dsimp only at hSw); go_simp); all_goals (with_reducible rfl)
                        try simp only [Act.put, List.setIfInBounds_toArray, List.set_cons_zero, List.set_cons_succ]
                        refine wpAnyH_take (i := 12) (oi := ⟨some 116, _, _, _, _, _⟩) (v := ?_) rfl (by kernel_rfl) (by kernel_rfl) (by kernel_rfl) (fun _ _ _ h => h) (Or.inl ⟨by rfl, ?_⟩) hS10 ?_
                        rotate_left
                        · (intro wS hSw; (try dsimp only at hSw); go_simp); all_goals (with_reducible rfl)
                        try simp only [Act.put, List.setIfInBounds_toArray, List.set_cons_zero, List.set_cons_succ]
                        refine wpAnyH_take (i := 15) (oi := ⟨some 119, _, _, _, _, _⟩) (v := ?_) rfl (by kernel_rfl) (by kernel_rfl) (by kernel_rfl) (fun _ _ _ h => h) (Or.inl ⟨by rfl, ?_⟩) hS10 ?_
                        rotate_left
                        · (intro wS hSw; (try dsimp only at hSw); go_simp); all_goals (with_reducible rfl)
                        try simp only [Act.put, List.setIfInBounds_toArray, List.set_cons_zero, List.set_cons_succ]
                        refine wpAnyH_take (i := 16) (oi := ⟨some 120, _, _, _, _, _⟩) (v := ?_) rfl (by kernel_rfl) (by kernel_rfl) (by kernel_rfl) (fun _ _ _ h => h) (Or.inl ⟨by rfl, ?_⟩) hS10 ?_
                        rotate_left
                        · (intro wS hSw; (try dsimp only at hSw); go_simp); all_goals (with_reducible rfl)
                        try simp only [Act.put, List.setIfInBounds_toArray, List.set_cons_zero, List.set_cons_succ]
                        refine wpAnyH_take (i := 17) (oi := ⟨some 121, _, _, _, _, _⟩) (v := ?_) rfl (by kernel_rfl) (by kernel_rfl) (by kernel_rfl) (fun _ _ _ h => h) (Or.inl ⟨by rfl, ?_⟩) hS10 ?_
                        rotate_left
                        · (intro wS hSw; (try dsimp only at hSw); go_simp); all_goals (with_reducible rfl)
                        try simp only [Act.put, List.setIfInBounds_toArray, List.set_cons_zero, List.set_cons_succ]
                        refine wpAnyH_take (i := 18) (oi := ⟨some 122, _, _, _, _, _⟩) (v := ?_) rfl (by kernel_rfl) (by kernel_rfl) (by kernel_rfl) (fun _ _ _ h => h) (Or.inl ⟨by rfl, ?_⟩) hS10 ?_
                        rotate_left
                        · (intro wS hSw; (try dsimp only at hSw); go_simp); all_goals (with_reducible rfl)
                        try simp only [Act.put, List.setIfInBounds_toArray, List.set_cons_zero, List.set_cons_succ]
                        refine wpAnyH_take (i := 19) (oi := ⟨some 123, _, _, _, _, _⟩) (v := ?_) rfl (by kernel_rfl) (by kernel_rfl) (by kernel_rfl) (fun _ _ _ h => h) (Or.inl ⟨by rfl, ?_⟩) hS10 ?_
                        rotate_left
                        · (intro wS hSw; (try dsimp only at hSw); go_simp); all_goals (with_reducible rfl)
                        try simp only [Act.put, List.setIfInBounds_toArray, List.set_cons_zero, List.set_cons_succ]
                        refine wpAnyH_take (i := 20) (oi := ⟨some 124, _, _, _, _, _⟩) (v := ?_) rfl (by kernel_rfl) (by kernel_rfl) (by kernel_rfl) (fun _ _ _ h => h) (Or.inl ⟨by rfl, ?_⟩) hS10 ?_
                        rotate_left
                        · (intro wS hSw; (try dsimp only at hSw); go_simp); all_goals (with_reducible rfl)
                        try simp only [Act.put, List.setIfInBounds_toArray, List.set_cons_zero, List.set_cons_succ]
                        refine wpAnyH_take (i := 21) (oi := ⟨some 125, _, _, _, _, _⟩) (v := ?_) rfl (by kernel_rfl) (by kernel_rfl) (by kernel_rfl) (fun _ _ _ h => h) (Or.inl ⟨by rfl, ?_⟩) hS10 ?_
                        rotate_left
                        · (intro wS hSw; (try dsimp only at hSw); go_simp); all_goals (with_reducible rfl)
                        try simp only [Act.put, List.setIfInBounds_toArray, List.set_cons_zero, List.set_cons_succ]
                        refine wpAnyH_take (i := 22) (oi := ⟨some 126, _, _, _, _, _⟩) (v := _) rfl (by kernel_rfl) (by kernel_rfl) (by kernel_rfl) (fun _ _ _ h => h) (yieldsIf_load_mid (by rfl) _ _ rfl _ _ rfl _ _ (fun _ hSw => hSw.1) hu1 rfl hu2) hS10 ?_
                        try simp only [Act.put, List.setIfInBounds_toArray, List.set_cons_zero, List.set_cons_succ]
                        refine wpAnyH_take (i := 23) (oi := ⟨some 127, _, _, _, _, _⟩) (v := ?_) rfl (by kernel_rfl) (by kernel_rfl) (by kernel_rfl) (fun _ _ _ h => h) (Or.inl ⟨by rfl, ?_⟩) hS10 ?_
                        rotate_left
                        · (intro wS hSw; (try dsimp only at hSw); go_simp); all_goals (with_reducible rfl)
                        try simp only [Act.put, List.setIfInBounds_toArray, List.set_cons_zero, List.set_cons_succ]
                        refine wpAnyH_take (i := 24) (oi := ⟨some 128, _, _, _, _, _⟩) (v := ?_) rfl (by kernel_rfl) (by kernel_rfl) (by kernel_rfl) (fun _ _ _ h => h) (Or.inl ⟨by rfl, ?_⟩) hS10 ?_
                        rotate_left
                        · (intro wS hSw; (try dsimp only at hSw); go_simp); all_goals (with_reducible rfl)
                        try simp only [Act.put, List.setIfInBounds_toArray, List.set_cons_zero, List.set_cons_succ]
                        refine wpAnyH_ready (rs := [25]) (by kernel_rfl) (by simp) ?_
                        refine AllReadyH.cons (o := ⟨some 129, _, _, _, _, _⟩) rfl (fun K hK => ?_) AllReadyH.nil
                        go_simp
                        refine (sector_any _ _ (by first | omega | (rw [HW.out]; omega))).mono ?_
                        rintro e w28 ⟨he, h13⟩
                        rw [HW.out, HSN.out] at he
                        subst he
                        have RR := Lib.hid (range_below RR.out h13 LT.out)
                        have OO := Lib.hid ((World.cell?_of_block (h13.block w4.heap.size L4.out)).trans OO.out)
                        have BB := Lib.hid (BB.out.trans (h13.mono BB.out.size))
                        have LT := Lib.hid (Nat.lt_of_lt_of_le LT.out h13.size)
                        have L4 := Lib.hid (Nat.lt_of_lt_of_le L4.out h13.size)
                        clear h13
                        go_wp2_with fail
                        refine hK.out _ _ ⟨RR.out, OO.out⟩ (fun hS25 => ?_)
                        clear hK K
                        try simp only [Act.put, List.setIfInBounds_toArray, List.set_cons_zero, List.set_cons_succ]
                        refine wpAnyH_take (i := 26) (oi := ⟨some 130, _, _, _, _, _⟩) (v := ?_) rfl (by kernel_rfl) (by kernel_rfl) (by kernel_rfl) (fun _ _ _ h => h) (Or.inl ⟨by rfl, ?_⟩) hS25 ?_
                        rotate_left
                        · (intro wS hSw; (try dsimp only at hSw); go_simp); all_goals (with_reducible rfl)
                        try simp only [Act.put, List.setIfInBounds_toArray, List.set_cons_zero, List.set_cons_succ]
                        refine wpAnyH_take (i := 27) (oi := ⟨some 131, _, _, _, _, _⟩) (v := ?_) rfl (by kernel_rfl) (by kernel_rfl) (by kernel_rfl) (fun _ _ _ h => h) (Or.inl ⟨by rfl, ?_⟩) hS25 ?_
                        rotate_left
                        · (intro wS hSw; (try dsimp only at hSw); go_simp); all_goals (with_reducible rfl)
                        try simp only [Act.put, List.setIfInBounds_toArray, List.set_cons_zero, List.set_cons_succ]
                        refine wpAnyH_take (i := 28) (oi := ⟨some 16, _, _, _, _, _⟩) (v := ?_) rfl (by kernel_rfl) (by kernel_rfl) (by kernel_rfl) (fun _ _ _ h => h) (Or.inl ⟨by rfl, ?_⟩) hS25 ?_
                        rotate_left
                        · (intro wS hSw; (try dsimp only at hSw); go_simp); all_goals (with_reducible rfl)
                        try simp only [Act.put, List.setIfInBounds_toArray, List.set_cons_zero, List.set_cons_succ]
                        refine wpAnyH_take (i := 29) (oi := ⟨some 17, _, _, _, _, _⟩) (v := ?_) rfl (by kernel_rfl) (by kernel_rfl) (by kernel_rfl) (fun _ _ _ h => h) (Or.inl ⟨by rfl, ?_⟩) hS25 ?_
                        rotate_left
                        · (intro wS hSw; (try dsimp only at hSw); go_simp); all_goals (with_reducible rfl)
                        try simp only [Act.put, List.setIfInBounds_toArray, List.set_cons_zero, List.set_cons_succ]
                        refine wpAnyH_done (by kernel_rfl) ?_ _
                        clear hu1 hu2 hu3 hu4 hns1 hns2 hgs
                        have ho := OO.out
                        go_wp2_with fail
                        go_roundw
                        case rel => exact ⟨k + 1, by omega, by go_num, (D12.out.below BB.out).1.less (fun i h => .inl h), P12.out.below BB.out P12.out.lt⟩
                        case measure => simp [intOf]; omega
                    · have hkn2 : decide ((k : Int) < (N : Int) + 1) = false := decide_eq_false (by omega)
                      have hrd : Hid (pRead (one 100 (-1) [97] F') [97] (k : Int) = (sN, 0)) := Lib.hid (one_read k _ hs)
                      clear hs
                      go_upto_region 29 with (first
                        | (go_at_call 15; go_must (refine (at_len D9.out [97] ML.out Z HZ.out).mono ?_); rintro e w10 ⟨rfl, rfl⟩)
                        | (go_at_call 19; go_must (refine (at_read D9.out [97] ML.out (k : Int) sN 0 hrd.out).mono ?_); rintro e w11 ⟨rfl, h11, k11⟩; have D11 := Lib.hid h11; have P11 : Hid (Whole w11 w4.heap.size 4 (ovR ov (N + 31))) := Lib.hid ((k11.1 w4.heap.size (.inr rfl)).trans P9.out); clear h11 k11)
                        | (with_reducible refine at_store36 ?_; go_must (refine wpList_store64 rfl (.tmp 14) (.tmp 102) rfl w11.heap.size sN rfl rfl _ (heap_alloc_new w11 _) rfl ?_)))
                      refine wp_rename (fun W => At w.heap.size (fun i => (False ∨ i = w4.heap.size) ∨ i = w11.heap.size) w g (one 100 (-1) [97] F') W ∧ W.heap[w11.heap.size]? = some (.cells (csF sN) 36 (0, 0)) ∧ w11.heap.size < W.heap.size ∧ Whole W w4.heap.size 4 (ovR ov (N + 31))) ⟨D11.out.ownB (below_setRow ((Below.refl _ _).alloc (Nat.le_refl _) _) (Nat.le_refl _) _) (by simp [World.setRow]), setRow_heap _ _ _ _ _ _ (heap_alloc_new w11 _), by simp [World.setRow], P11.out.below (below_setRow ((Below.refl _ _).alloc (Nat.le_refl _) _) (Nat.le_refl _) _) P11.out.lt⟩ ?_
                      rintro W12 ⟨h12, h12b, h12c, h12d⟩
                      have D12 := Lib.hid h12
                      have RR := Lib.hid (range_row h12b)
                      have LT := Lib.hid h12c
                      have P12 := Lib.hid h12d
                      have OO := Lib.hid (h12d.ov k (by omega))
                      have L4 := Lib.hid h12d.lt
                      have BB : Hid (Below W12.heap.size W12 W12.drew) := Lib.hid (Below.refl _ _).drew
                      rw [hov] at OO
                      have ho := OO.out
                      have hk31 : (k : Int) < (N : Int) + 31 := by omega
                      clear h12 h12b h12c h12d
                      have RR : Hid (W12.drew.rangeAt w11.heap.size 0 (B8 (sN).1)) := RR
                      have LT : Hid (w11.heap.size < W12.drew.heap.size) := LT
                      have L4 : Hid (w4.heap.size < W12.drew.heap.size) := L4
                      have OO : Hid (W12.drew.cell? ⟨w4.heap.size, k, none⟩ = some (.bool true)) := OO
                      have hgs := guard_sec
                      have hns1 := eql_2 sN sN true (by simp)
                      have hns2 := eql_2 sN sN true (by simp)
                      have hu1 := Try.underlying36
                      have hu2 := info_B8 sN
                      have hu3 := len_B8 sN
                      have hu4 := one_B8 (sN).1
                      refine wp_region_held_drew (S := fun w' => w'.rangeAt w11.heap.size 0 (B8 (sN).1) ∧ w'.cell? ⟨w4.heap.size, k, none⟩ = some (.bool true)) (by kernel_rfl) ⟨RR.out, OO.out⟩ (fun hS0 => ?_)
                      refine wpAnyH_take (i := 0) (oi := ⟨some 104, _, _, _, _, _⟩) (v := ?_) rfl (by kernel_rfl) (by kernel_rfl) (by kernel_rfl) (fun _ _ _ h => h) (Or.inl ⟨by rfl, ?_⟩) hS0 ?_
                      rotate_left
                      · (intro wS hSw; (try dsimp only at hSw); go_simp); all_goals (with_reducible rfl)
                      try simp only [Act.put, List.setIfInBounds_toArray, List.set_cons_zero, List.set_cons_succ]
                      refine wpAnyH_take (i := 1) (oi := ⟨some 105, _, _, _, _, _⟩) (v := ?_) rfl (by kernel_rfl) (by kernel_rfl) (by kernel_rfl) (fun _ _ _ h => h) (Or.inl ⟨by rfl, ?_⟩) hS0 ?_
                      rotate_left
                      · (intro wS hSw; (try dsimp only at hSw); go_simp); all_goals (with_reducible rfl)
                      try simp only [Act.put, List.setIfInBounds_toArray, List.set_cons_zero, List.set_cons_succ]
                      refine wpAnyH_take (i := 2) (oi := ⟨some 106, _, _, _, _, _⟩) (v := ?_) rfl (by kernel_rfl) (by kernel_rfl) (by kernel_rfl) (fun _ _ _ h => h) (Or.inl ⟨by rfl, ?_⟩) hS0 ?_
                      rotate_left
                      · (intro wS hSw; (try dsimp only at hSw); go_simp); all_goals (with_reducible rfl)
                      try simp only [Act.put, List.setIfInBounds_toArray, List.set_cons_zero, List.set_cons_succ]
                      refine wpAnyH_take (i := 3) (oi := ⟨some 107, _, _, _, _, _⟩) (v := ?_) rfl (by kernel_rfl) (by kernel_rfl) (by kernel_rfl) (fun _ _ _ h => h) (Or.inl ⟨by rfl, ?_⟩) hS0 ?_
                      rotate_left
                      · (intro wS hSw; (try dsimp only at hSw); go_simp); all_goals (with_reducible rfl)
                      try simp only [Act.put, List.setIfInBounds_toArray, List.set_cons_zero, List.set_cons_succ]
                      refine wpAnyH_take (i := 4) (oi := ⟨some 108, _, _, _, _, _⟩) (v := ?_) rfl (by kernel_rfl) (by kernel_rfl) (by kernel_rfl) (fun _ _ _ h => h) (Or.inl ⟨by rfl, ?_⟩) hS0 ?_
                      rotate_left
                      · (intro wS hSw; (try dsimp only at hSw); go_simp); all_goals (with_reducible rfl)
                      try simp only [Act.put, List.setIfInBounds_toArray, List.set_cons_zero, List.set_cons_succ]
                      refine wpAnyH_take (i := 5) (oi := ⟨some 109, _, _, _, _, _⟩) (v := ?_) rfl (by kernel_rfl) (by kernel_rfl) (by kernel_rfl) (fun _ _ _ h => h) (Or.inl ⟨by rfl, ?_⟩) hS0 ?_
                      rotate_left
                      · (intro wS hSw; (try dsimp only at hSw); go_simp); all_goals (with_reducible rfl)
                      try simp only [Act.put, List.setIfInBounds_toArray, List.set_cons_zero, List.set_cons_succ]
                      refine wpAnyH_take (i := 6) (oi := ⟨some 110, _, _, _, _, _⟩) (v := ?_) rfl (by kernel_rfl) (by kernel_rfl) (by kernel_rfl) (fun _ _ _ h => h) (Or.inl ⟨by rfl, ?_⟩) hS0 ?_
                      rotate_left
                      · (intro wS hSw; (try dsimp only at hSw); go_simp); all_goals (with_reducible rfl)
                      try simp only [Act.put, List.setIfInBounds_toArray, List.set_cons_zero, List.set_cons_succ]
                      refine wpAnyH_take (i := 7) (oi := ⟨some 111, _, _, _, _, _⟩) (v := ?_) rfl (by kernel_rfl) (by kernel_rfl) (by kernel_rfl) (fun _ _ _ h => h) (Or.inl ⟨by rfl, ?_⟩) hS0 ?_
                      rotate_left
                      · (intro wS hSw; (try dsimp only at hSw); go_simp); all_goals (with_reducible rfl)
                      try simp only [Act.put, List.setIfInBounds_toArray, List.set_cons_zero, List.set_cons_succ]
                      refine wpAnyH_take (i := 8) (oi := ⟨some 112, _, _, _, _, _⟩) (v := undef) rfl (by kernel_rfl) (by kernel_rfl) (by kernel_rfl) (fun _ _ _ h => h) (Or.inr ⟨by rfl, rfl⟩) hS0 ?_
                      try simp only [Act.put, List.setIfInBounds_toArray, List.set_cons_zero, List.set_cons_succ]
                      refine wpAnyH_take (i := 9) (oi := ⟨some 113, _, _, _, _, _⟩) (v := undef) rfl (by kernel_rfl) (by kernel_rfl) (by kernel_rfl) (fun _ _ _ h => h) (Or.inr ⟨by rfl, rfl⟩) hS0 ?_
                      try simp only [Act.put, List.setIfInBounds_toArray, List.set_cons_zero, List.set_cons_succ]
                      refine wpAnyH_take (i := 13) (oi := ⟨some 117, _, _, _, _, _⟩) (v := ?_) rfl (by kernel_rfl) (by kernel_rfl) (by kernel_rfl) (fun _ _ _ h => h) (Or.inl ⟨by rfl, ?_⟩) hS0 ?_
                      rotate_left
                      · (intro wS hSw; (try dsimp only at hSw); go_simp); all_goals (with_reducible rfl)
                      try simp only [Act.put, List.setIfInBounds_toArray, List.set_cons_zero, List.set_cons_succ]
                      refine wpAnyH_take (i := 14) (oi := ⟨some 118, _, _, _, _, _⟩) (v := ?_) rfl (by kernel_rfl) (by kernel_rfl) (by kernel_rfl) (fun _ _ _ h => h) (Or.inl ⟨by rfl, ?_⟩) hS0 ?_
                      rotate_left
                      · (intro wS hSw; (try dsimp only at hSw); go_simp); all_goals (with_reducible rfl)
                      try simp only [Act.put, List.setIfInBounds_toArray, List.set_cons_zero, List.set_cons_succ]
                      refine wpAnyH_take (i := 10) (oi := ⟨some 114, _, _, _, _, _⟩) (v := undef) rfl (by kernel_rfl) (by kernel_rfl) (by kernel_rfl) (fun _ _ _ h => h) (Or.inr ⟨by rfl, rfl⟩) hS0 ?_
                      try simp only [Act.put, List.setIfInBounds_toArray, List.set_cons_zero, List.set_cons_succ]
                      refine wpAnyH_take (i := 11) (oi := ⟨some 115, _, _, _, _, _⟩) (v := undef) rfl (by kernel_rfl) (by kernel_rfl) (by kernel_rfl) (fun _ _ _ h => h) (Or.inr ⟨by rfl, rfl⟩) hS0 ?_
                      try simp only [Act.put, List.setIfInBounds_toArray, List.set_cons_zero, List.set_cons_succ]
                      refine wpAnyH_take (i := 12) (oi := ⟨some 116, _, _, _, _, _⟩) (v := ?_) rfl (by kernel_rfl) (by kernel_rfl) (by kernel_rfl) (fun _ _ _ h => h) (Or.inl ⟨by rfl, ?_⟩) hS0 ?_
                      rotate_left
                      · (intro wS hSw; (try dsimp only at hSw); go_simp); all_goals (with_reducible rfl)
                      try simp only [Act.put, List.setIfInBounds_toArray, List.set_cons_zero, List.set_cons_succ]
                      refine wpAnyH_take (i := 15) (oi := ⟨some 119, _, _, _, _, _⟩) (v := ?_) rfl (by kernel_rfl) (by kernel_rfl) (by kernel_rfl) (fun _ _ _ h => h) (Or.inl ⟨by rfl, ?_⟩) hS0 ?_
                      rotate_left
                      · (intro wS hSw; (try dsimp only at hSw); go_simp); all_goals (with_reducible rfl)
                      try simp only [Act.put, List.setIfInBounds_toArray, List.set_cons_zero, List.set_cons_succ]
                      refine wpAnyH_take (i := 16) (oi := ⟨some 120, _, _, _, _, _⟩) (v := ?_) rfl (by kernel_rfl) (by kernel_rfl) (by kernel_rfl) (fun _ _ _ h => h) (Or.inl ⟨by rfl, ?_⟩) hS0 ?_
                      rotate_left
                      · (intro wS hSw; (try dsimp only at hSw); go_simp); all_goals (with_reducible rfl)
                      try simp only [Act.put, List.setIfInBounds_toArray, List.set_cons_zero, List.set_cons_succ]
                      refine wpAnyH_take (i := 17) (oi := ⟨some 121, _, _, _, _, _⟩) (v := ?_) rfl (by kernel_rfl) (by kernel_rfl) (by kernel_rfl) (fun _ _ _ h => h) (Or.inl ⟨by rfl, ?_⟩) hS0 ?_
                      rotate_left
                      · (intro wS hSw; (try dsimp only at hSw); go_simp); all_goals (with_reducible rfl)
                      try simp only [Act.put, List.setIfInBounds_toArray, List.set_cons_zero, List.set_cons_succ]
                      refine wpAnyH_take (i := 18) (oi := ⟨some 122, _, _, _, _, _⟩) (v := ?_) rfl (by kernel_rfl) (by kernel_rfl) (by kernel_rfl) (fun _ _ _ h => h) (Or.inl ⟨by rfl, ?_⟩) hS0 ?_
                      rotate_left
                      · (intro wS hSw; (try dsimp only at hSw); go_simp); all_goals (with_reducible rfl)
                      try simp only [Act.put, List.setIfInBounds_toArray, List.set_cons_zero, List.set_cons_succ]
                      refine wpAnyH_take (i := 19) (oi := ⟨some 123, _, _, _, _, _⟩) (v := ?_) rfl (by kernel_rfl) (by kernel_rfl) (by kernel_rfl) (fun _ _ _ h => h) (Or.inl ⟨by rfl, ?_⟩) hS0 ?_
                      rotate_left
                      · (intro wS hSw; (try dsimp only at hSw); go_simp); all_goals (with_reducible rfl)
                      try simp only [Act.put, List.setIfInBounds_toArray, List.set_cons_zero, List.set_cons_succ]
                      refine wpAnyH_take (i := 20) (oi := ⟨some 124, _, _, _, _, _⟩) (v := ?_) rfl (by kernel_rfl) (by kernel_rfl) (by kernel_rfl) (fun _ _ _ h => h) (Or.inl ⟨by rfl, ?_⟩) hS0 ?_
                      rotate_left
                      · (intro wS hSw; (try dsimp only at hSw); go_simp); all_goals (with_reducible rfl)
                      try simp only [Act.put, List.setIfInBounds_toArray, List.set_cons_zero, List.set_cons_succ]
                      refine wpAnyH_take (i := 21) (oi := ⟨some 125, _, _, _, _, _⟩) (v := ?_) rfl (by kernel_rfl) (by kernel_rfl) (by kernel_rfl) (fun _ _ _ h => h) (Or.inl ⟨by rfl, ?_⟩) hS0 ?_
                      rotate_left
                      · (intro wS hSw; (try dsimp only at hSw); go_simp); all_goals (with_reducible rfl)
                      try simp only [Act.put, List.setIfInBounds_toArray, List.set_cons_zero, List.set_cons_succ]
                      refine wpAnyH_take (i := 22) (oi := ⟨some 126, _, _, _, _, _⟩) (v := _) rfl (by kernel_rfl) (by kernel_rfl) (by kernel_rfl) (fun _ _ _ h => h) (yieldsIf_load_mid (by rfl) _ _ rfl _ _ rfl _ _ (fun _ hSw => hSw.1) hu1 rfl hu2) hS0 ?_
                      try simp only [Act.put, List.setIfInBounds_toArray, List.set_cons_zero, List.set_cons_succ]
                      refine wpAnyH_take (i := 23) (oi := ⟨some 127, _, _, _, _, _⟩) (v := ?_) rfl (by kernel_rfl) (by kernel_rfl) (by kernel_rfl) (fun _ _ _ h => h) (Or.inl ⟨by rfl, ?_⟩) hS0 ?_
                      rotate_left
                      · (intro wS hSw; (try dsimp only at hSw); go_simp); all_goals (with_reducible rfl)
                      try simp only [Act.put, List.setIfInBounds_toArray, List.set_cons_zero, List.set_cons_succ]
                      refine wpAnyH_take (i := 24) (oi := ⟨some 128, _, _, _, _, _⟩) (v := ?_) rfl (by kernel_rfl) (by kernel_rfl) (by kernel_rfl) (fun _ _ _ h => h) (Or.inl ⟨by rfl, ?_⟩) hS0 ?_
                      rotate_left
                      · (intro wS hSw; (try dsimp only at hSw); go_simp); all_goals (with_reducible rfl)
                      try simp only [Act.put, List.setIfInBounds_toArray, List.set_cons_zero, List.set_cons_succ]
                      refine wpAnyH_ready (rs := [25]) (by kernel_rfl) (by simp) ?_
                      refine AllReadyH.cons (o := ⟨some 129, _, _, _, _, _⟩) rfl (fun K hK => ?_) AllReadyH.nil
                      go_simp
                      refine (sector_any _ _ (by first | omega | (rw [HW.out]; omega))).mono ?_
                      rintro e w28 ⟨he, h13⟩
                      rw [HW.out, HSN.out] at he
                      subst he
                      have RR := Lib.hid (range_below RR.out h13 LT.out)
                      have OO := Lib.hid ((World.cell?_of_block (h13.block w4.heap.size L4.out)).trans OO.out)
                      have BB := Lib.hid (BB.out.trans (h13.mono BB.out.size))
                      have LT := Lib.hid (Nat.lt_of_lt_of_le LT.out h13.size)
                      have L4 := Lib.hid (Nat.lt_of_lt_of_le L4.out h13.size)
                      clear h13
                      go_wp2_with fail
                      refine hK.out _ _ ⟨RR.out, OO.out⟩ (fun hS25 => ?_)
                      clear hK K
                      try simp only [Act.put, List.setIfInBounds_toArray, List.set_cons_zero, List.set_cons_succ]
                      refine wpAnyH_take (i := 26) (oi := ⟨some 130, _, _, _, _, _⟩) (v := ?_) rfl (by kernel_rfl) (by kernel_rfl) (by kernel_rfl) (fun _ _ _ h => h) (Or.inl ⟨by rfl, ?_⟩) hS25 ?_
                      rotate_left
                      · (intro wS hSw; (try dsimp only at hSw); go_simp); all_goals (with_reducible rfl)
                      try simp only [Act.put, List.setIfInBounds_toArray, List.set_cons_zero, List.set_cons_succ]
                      refine wpAnyH_take (i := 27) (oi := ⟨some 131, _, _, _, _, _⟩) (v := ?_) rfl (by kernel_rfl) (by kernel_rfl) (by kernel_rfl) (fun _ _ _ h => h) (Or.inl ⟨by rfl, ?_⟩) hS25 ?_
                      rotate_left
                      · (intro wS hSw; (try dsimp only at hSw); go_simp); all_goals (with_reducible rfl)
                      try simp only [Act.put, List.setIfInBounds_toArray, List.set_cons_zero, List.set_cons_succ]
                      refine wpAnyH_take (i := 28) (oi := ⟨some 16, _, _, _, _, _⟩) (v := ?_) rfl (by kernel_rfl) (by kernel_rfl) (by kernel_rfl) (fun _ _ _ h => h) (Or.inl ⟨by rfl, ?_⟩) hS25 ?_
                      rotate_left
                      · (intro wS hSw; (try dsimp only at hSw); go_simp); all_goals (with_reducible rfl)
                      try simp only [Act.put, List.setIfInBounds_toArray, List.set_cons_zero, List.set_cons_succ]
                      refine wpAnyH_take (i := 29) (oi := ⟨some 17, _, _, _, _, _⟩) (v := ?_) rfl (by kernel_rfl) (by kernel_rfl) (by kernel_rfl) (fun _ _ _ h => h) (Or.inl ⟨by rfl, ?_⟩) hS25 ?_
                      rotate_left
                      · (intro wS hSw; (try dsimp only at hSw); go_simp); all_goals (with_reducible rfl)
                      try simp only [Act.put, List.setIfInBounds_toArray, List.set_cons_zero, List.set_cons_succ]
                      refine wpAnyH_done (by kernel_rfl) ?_ _
                      clear hu1 hu2 hu3 hu4 hns1 hns2 hgs
                      have ho := OO.out
                      go_wp2_with fail
                      go_roundw
                      case rel => exact ⟨k + 1, by omega, by go_num, (D12.out.below BB.out).1.less (fun i h => .inl h), P12.out.below BB.out P12.out.lt⟩
                      case measure => simp [intOf]; omega
                  · rw [HSO.out] at hs
                    have hkn2 : (k : Int) < (N : Int) + 1 := by omega
                    cases hb : (sO.1 == sN.1) with
                    | true =>
                      have hrd : Hid (pRead (one 100 (-1) [97] F') [97] (k : Int) = (sO, 0)) := Lib.hid (one_read k _ hs)
                      clear hs
                      go_upto_region 29 with (first
                        | (go_at_call 15; go_must (refine (at_len D9.out [97] ML.out Z HZ.out).mono ?_); rintro e w10 ⟨rfl, rfl⟩)
                        | (go_at_call 19; go_must (refine (at_read D9.out [97] ML.out (k : Int) sO 0 hrd.out).mono ?_); rintro e w11 ⟨rfl, h11, k11⟩; have D11 := Lib.hid h11; have P11 : Hid (Whole w11 w4.heap.size 4 (ovR ov (N + 31))) := Lib.hid ((k11.1 w4.heap.size (.inr rfl)).trans P9.out); clear h11 k11)
                        | (with_reducible refine at_store36 ?_; go_must (refine wpList_store64 rfl (.tmp 14) (.tmp 102) rfl w11.heap.size sO rfl rfl _ (heap_alloc_new w11 _) rfl ?_)))
                      refine wp_rename (fun W => At w.heap.size (fun i => (False ∨ i = w4.heap.size) ∨ i = w11.heap.size) w g (one 100 (-1) [97] F') W ∧ W.heap[w11.heap.size]? = some (.cells (csF sO) 36 (0, 0)) ∧ w11.heap.size < W.heap.size ∧ Whole W w4.heap.size 4 (ovR ov (N + 31))) ⟨D11.out.ownB (below_setRow ((Below.refl _ _).alloc (Nat.le_refl _) _) (Nat.le_refl _) _) (by simp [World.setRow]), setRow_heap _ _ _ _ _ _ (heap_alloc_new w11 _), by simp [World.setRow], P11.out.below (below_setRow ((Below.refl _ _).alloc (Nat.le_refl _) _) (Nat.le_refl _) _) P11.out.lt⟩ ?_
                      rintro W12 ⟨h12, h12b, h12c, h12d⟩
                      have D12 := Lib.hid h12
                      have RR := Lib.hid (range_row h12b)
                      have LT := Lib.hid h12c
                      have P12 := Lib.hid h12d
                      have OO := Lib.hid (h12d.ov k (by omega))
                      have L4 := Lib.hid h12d.lt
                      have BB : Hid (Below W12.heap.size W12 W12.drew) := Lib.hid (Below.refl _ _).drew
                      rw [hov] at OO
                      have ho := OO.out
                      have hk31 : (k : Int) < (N : Int) + 31 := by omega
                      clear h12 h12b h12c h12d
                      have RR : Hid (W12.drew.rangeAt w11.heap.size 0 (B8 (sO).1)) := RR
                      have LT : Hid (w11.heap.size < W12.drew.heap.size) := LT
                      have L4 : Hid (w4.heap.size < W12.drew.heap.size) := L4
                      have OO : Hid (W12.drew.cell? ⟨w4.heap.size, k, none⟩ = some (.bool true)) := OO
                      have hgs := guard_sec
                      have hns1 := eql_2 sO sO true (by simp)
                      have hns2 := eql_2 sO sN true hb
                      have hu1 := Try.underlying36
                      have hu2 := info_B8 sO
                      have hu3 := len_B8 sO
                      have hu4 := one_B8 (sO).1
                      refine wp_region_held_drew (S := fun w' => w'.rangeAt w11.heap.size 0 (B8 (sO).1) ∧ w'.cell? ⟨w4.heap.size, k, none⟩ = some (.bool true)) (by kernel_rfl) ⟨RR.out, OO.out⟩ (fun hS0 => ?_)
                      refine wpAnyH_take (i := 0) (oi := ⟨some 104, _, _, _, _, _⟩) (v := ?_) rfl (by kernel_rfl) (by kernel_rfl) (by kernel_rfl) (fun _ _ _ h => h) (Or.inl ⟨by rfl, ?_⟩) hS0 ?_
                      rotate_left
                      · (intro wS hSw; (try dsimp only at hSw); go_simp); all_goals (with_reducible rfl)
                      try simp only [Act.put, List.setIfInBounds_toArray, List.set_cons_zero, List.set_cons_succ]
                      refine wpAnyH_take (i := 1) (oi := ⟨some 105, _, _, _, _, _⟩) (v := ?_) rfl (by kernel_rfl) (by kernel_rfl) (by kernel_rfl) (fun _ _ _ h => h) (Or.inl ⟨by rfl, ?_⟩) hS0 ?_
                      rotate_left
                      · (intro wS hSw; (try dsimp only at hSw); go_simp); all_goals (with_reducible rfl)
                      try simp only [Act.put, List.setIfInBounds_toArray, List.set_cons_zero, List.set_cons_succ]
                      refine wpAnyH_take (i := 2) (oi := ⟨some 106, _, _, _, _, _⟩) (v := ?_) rfl (by kernel_rfl) (by kernel_rfl) (by kernel_rfl) (fun _ _ _ h => h) (Or.inl ⟨by rfl, ?_⟩) hS0 ?_
                      rotate_left
                      · (intro wS hSw; (try dsimp only at hSw); go_simp); all_goals (with_reducible rfl)
                      try simp only [Act.put, List.setIfInBounds_toArray, List.set_cons_zero, List.set_cons_succ]
                      refine wpAnyH_take (i := 3) (oi := ⟨some 107, _, _, _, _, _⟩) (v := ?_) rfl (by kernel_rfl) (by kernel_rfl) (by kernel_rfl) (fun _ _ _ h => h) (Or.inl ⟨by rfl, ?_⟩) hS0 ?_
                      rotate_left
                      · (intro wS hSw; (try dsimp only at hSw); go_simp); all_goals (with_reducible rfl)
                      try simp only [Act.put, List.setIfInBounds_toArray, List.set_cons_zero, List.set_cons_succ]
                      refine wpAnyH_take (i := 4) (oi := ⟨some 108, _, _, _, _, _⟩) (v := ?_) rfl (by kernel_rfl) (by kernel_rfl) (by kernel_rfl) (fun _ _ _ h => h) (Or.inl ⟨by rfl, ?_⟩) hS0 ?_
                      rotate_left
                      · (intro wS hSw; (try dsimp only at hSw); go_simp); all_goals (with_reducible rfl)
                      try simp only [Act.put, List.setIfInBounds_toArray, List.set_cons_zero, List.set_cons_succ]
                      refine wpAnyH_take (i := 5) (oi := ⟨some 109, _, _, _, _, _⟩) (v := ?_) rfl (by kernel_rfl) (by kernel_rfl) (by kernel_rfl) (fun _ _ _ h => h) (Or.inl ⟨by rfl, ?_⟩) hS0 ?_
                      rotate_left
                      · (intro wS hSw; (try dsimp only at hSw); go_simp); all_goals (with_reducible rfl)
                      try simp only [Act.put, List.setIfInBounds_toArray, List.set_cons_zero, List.set_cons_succ]
                      refine wpAnyH_take (i := 6) (oi := ⟨some 110, _, _, _, _, _⟩) (v := ?_) rfl (by kernel_rfl) (by kernel_rfl) (by kernel_rfl) (fun _ _ _ h => h) (Or.inl ⟨by rfl, ?_⟩) hS0 ?_
                      rotate_left
                      · (intro wS hSw; (try dsimp only at hSw); go_simp); all_goals (with_reducible rfl)
                      try simp only [Act.put, List.setIfInBounds_toArray, List.set_cons_zero, List.set_cons_succ]
                      refine wpAnyH_take (i := 7) (oi := ⟨some 111, _, _, _, _, _⟩) (v := ?_) rfl (by kernel_rfl) (by kernel_rfl) (by kernel_rfl) (fun _ _ _ h => h) (Or.inl ⟨by rfl, ?_⟩) hS0 ?_
                      rotate_left
                      · (intro wS hSw; (try dsimp only at hSw); go_simp); all_goals (with_reducible rfl)
                      try simp only [Act.put, List.setIfInBounds_toArray, List.set_cons_zero, List.set_cons_succ]
                      refine wpAnyH_take (i := 8) (oi := ⟨some 112, _, _, _, _, _⟩) (v := _) rfl (by kernel_rfl) (by kernel_rfl) (by kernel_rfl) (fun _ _ _ h => h) (yieldsIf_load_mid (by rfl) _ _ rfl _ _ rfl _ _ (fun _ hSw => hSw.1) hu1 rfl hu2) hS0 ?_
                      try simp only [Act.put, List.setIfInBounds_toArray, List.set_cons_zero, List.set_cons_succ]
                      refine wpAnyH_take (i := 9) (oi := ⟨some 113, _, _, _, _, _⟩) (v := ?_) rfl (by kernel_rfl) (by kernel_rfl) (by kernel_rfl) (fun _ _ _ h => h) (Or.inl ⟨by rfl, ?_⟩) hS0 ?_
                      rotate_left
                      · (intro wS hSw; (try dsimp only at hSw); go_simp); all_goals (with_reducible rfl)
                      try simp only [Act.put, List.setIfInBounds_toArray, List.set_cons_zero, List.set_cons_succ]
                      refine wpAnyH_take (i := 13) (oi := ⟨some 117, _, _, _, _, _⟩) (v := ?_) rfl (by kernel_rfl) (by kernel_rfl) (by kernel_rfl) (fun _ _ _ h => h) (Or.inl ⟨by rfl, ?_⟩) hS0 ?_
                      rotate_left
                      · (intro wS hSw; (try dsimp only at hSw); go_simp); all_goals (with_reducible rfl)
                      try simp only [Act.put, List.setIfInBounds_toArray, List.set_cons_zero, List.set_cons_succ]
                      refine wpAnyH_take (i := 14) (oi := ⟨some 118, _, _, _, _, _⟩) (v := ?_) rfl (by kernel_rfl) (by kernel_rfl) (by kernel_rfl) (fun _ _ _ h => h) (Or.inl ⟨by rfl, ?_⟩) hS0 ?_
                      rotate_left
                      · (intro wS hSw; (try dsimp only at hSw); go_simp); all_goals (with_reducible rfl)
                      try simp only [Act.put, List.setIfInBounds_toArray, List.set_cons_zero, List.set_cons_succ]
                      refine wpAnyH_ready (rs := [10]) (by kernel_rfl) (by simp) ?_
                      refine AllReadyH.cons (o := ⟨some 114, _, _, _, _, _⟩) rfl (fun K hK => ?_) AllReadyH.nil
                      go_simp
                      refine (sector_any _ _ (by first | omega | (rw [HW.out]; omega))).mono ?_
                      rintro e w13 ⟨he, h13⟩
                      rw [HSO.out] at he
                      subst he
                      have RR := Lib.hid (range_below RR.out h13 LT.out)
                      have OO := Lib.hid ((World.cell?_of_block (h13.block w4.heap.size L4.out)).trans OO.out)
                      have BB := Lib.hid (BB.out.trans (h13.mono BB.out.size))
                      have LT := Lib.hid (Nat.lt_of_lt_of_le LT.out h13.size)
                      have L4 := Lib.hid (Nat.lt_of_lt_of_le L4.out h13.size)
                      clear h13
                      go_wp2_with fail
                      refine hK.out _ _ ⟨RR.out, OO.out⟩ (fun hS10 => ?_)
                      clear hK K
                      try simp only [Act.put, List.setIfInBounds_toArray, List.set_cons_zero, List.set_cons_succ]
                      refine wpAnyH_take (i := 11) (oi := ⟨some 115, _, _, _, _, _⟩) (v := ?_) rfl (by kernel_rfl) (by kernel_rfl) (by kernel_rfl) (fun _ _ _ h => h) (Or.inl ⟨by rfl, ?_⟩) hS10 ?_
                      rotate_left
                      · (intro wS hSw; (try dsimp only at hSw); go_simp); all_goals (with_reducible rfl)
                      try simp only [Act.put, List.setIfInBounds_toArray, List.set_cons_zero, List.set_cons_succ]
                      refine wpAnyH_take (i := 12) (oi := ⟨some 116, _, _, _, _, _⟩) (v := ?_) rfl (by kernel_rfl) (by kernel_rfl) (by kernel_rfl) (fun _ _ _ h => h) (Or.inl ⟨by rfl, ?_⟩) hS10 ?_
                      rotate_left
                      · (intro wS hSw; (try dsimp only at hSw); go_simp); all_goals (with_reducible rfl)
                      try simp only [Act.put, List.setIfInBounds_toArray, List.set_cons_zero, List.set_cons_succ]
                      refine wpAnyH_take (i := 15) (oi := ⟨some 119, _, _, _, _, _⟩) (v := ?_) rfl (by kernel_rfl) (by kernel_rfl) (by kernel_rfl) (fun _ _ _ h => h) (Or.inl ⟨by rfl, ?_⟩) hS10 ?_
                      rotate_left
                      · (intro wS hSw; (try dsimp only at hSw); go_simp); all_goals (with_reducible rfl)
                      try simp only [Act.put, List.setIfInBounds_toArray, List.set_cons_zero, List.set_cons_succ]
                      refine wpAnyH_take (i := 16) (oi := ⟨some 120, _, _, _, _, _⟩) (v := ?_) rfl (by kernel_rfl) (by kernel_rfl) (by kernel_rfl) (fun _ _ _ h => h) (Or.inl ⟨by rfl, ?_⟩) hS10 ?_
                      rotate_left
                      · (intro wS hSw; (try dsimp only at hSw); go_simp); all_goals (with_reducible rfl)
                      try simp only [Act.put, List.setIfInBounds_toArray, List.set_cons_zero, List.set_cons_succ]
                      refine wpAnyH_take (i := 17) (oi := ⟨some 121, _, _, _, _, _⟩) (v := ?_) rfl (by kernel_rfl) (by kernel_rfl) (by kernel_rfl) (fun _ _ _ h => h) (Or.inl ⟨by rfl, ?_⟩) hS10 ?_
                      rotate_left
                      · (intro wS hSw; (try dsimp only at hSw); go_simp); all_goals (with_reducible rfl)
                      try simp only [Act.put, List.setIfInBounds_toArray, List.set_cons_zero, List.set_cons_succ]
                      refine wpAnyH_take (i := 18) (oi := ⟨some 122, _, _, _, _, _⟩) (v := ?_) rfl (by kernel_rfl) (by kernel_rfl) (by kernel_rfl) (fun _ _ _ h => h) (Or.inl ⟨by rfl, ?_⟩) hS10 ?_
                      rotate_left
                      · (intro wS hSw; (try dsimp only at hSw); go_simp); all_goals (with_reducible rfl)
                      try simp only [Act.put, List.setIfInBounds_toArray, List.set_cons_zero, List.set_cons_succ]
                      refine wpAnyH_take (i := 19) (oi := ⟨some 123, _, _, _, _, _⟩) (v := ?_) rfl (by kernel_rfl) (by kernel_rfl) (by kernel_rfl) (fun _ _ _ h => h) (Or.inl ⟨by rfl, ?_⟩) hS10 ?_
                      rotate_left
                      · (intro wS hSw; (try dsimp only at hSw); go_simp); all_goals (with_reducible rfl)
                      try simp only [Act.put, List.setIfInBounds_toArray, List.set_cons_zero, List.set_cons_succ]
                      refine wpAnyH_take (i := 20) (oi := ⟨some 124, _, _, _, _, _⟩) (v := ?_) rfl (by kernel_rfl) (by kernel_rfl) (by kernel_rfl) (fun _ _ _ h => h) (Or.inl ⟨by rfl, ?_⟩) hS10 ?_
                      rotate_left
                      · (intro wS hSw; (try dsimp only at hSw); go_simp); all_goals (with_reducible rfl)
                      try simp only [Act.put, List.setIfInBounds_toArray, List.set_cons_zero, List.set_cons_succ]
                      refine wpAnyH_take (i := 21) (oi := ⟨some 125, _, _, _, _, _⟩) (v := ?_) rfl (by kernel_rfl) (by kernel_rfl) (by kernel_rfl) (fun _ _ _ h => h) (Or.inl ⟨by rfl, ?_⟩) hS10 ?_
                      rotate_left
                      · (intro wS hSw; (try dsimp only at hSw); go_simp); all_goals (with_reducible rfl)
                      try simp only [Act.put, List.setIfInBounds_toArray, List.set_cons_zero, List.set_cons_succ]
                      refine wpAnyH_take (i := 22) (oi := ⟨some 126, _, _, _, _, _⟩) (v := _) rfl (by kernel_rfl) (by kernel_rfl) (by kernel_rfl) (fun _ _ _ h => h) (yieldsIf_load_mid (by rfl) _ _ rfl _ _ rfl _ _ (fun _ hSw => hSw.1) hu1 rfl hu2) hS10 ?_
                      try simp only [Act.put, List.setIfInBounds_toArray, List.set_cons_zero, List.set_cons_succ]
                      refine wpAnyH_take (i := 23) (oi := ⟨some 127, _, _, _, _, _⟩) (v := ?_) rfl (by kernel_rfl) (by kernel_rfl) (by kernel_rfl) (fun _ _ _ h => h) (Or.inl ⟨by rfl, ?_⟩) hS10 ?_
                      rotate_left
                      · (intro wS hSw; (try dsimp only at hSw); go_simp); all_goals (with_reducible rfl)
                      try simp only [Act.put, List.setIfInBounds_toArray, List.set_cons_zero, List.set_cons_succ]
                      refine wpAnyH_take (i := 24) (oi := ⟨some 128, _, _, _, _, _⟩) (v := ?_) rfl (by kernel_rfl) (by kernel_rfl) (by kernel_rfl) (fun _ _ _ h => h) (Or.inl ⟨by rfl, ?_⟩) hS10 ?_
                      rotate_left
                      · (intro wS hSw; (try dsimp only at hSw); go_simp); all_goals (with_reducible rfl)
                      try simp only [Act.put, List.setIfInBounds_toArray, List.set_cons_zero, List.set_cons_succ]
                      refine wpAnyH_ready (rs := [25]) (by kernel_rfl) (by simp) ?_
                      refine AllReadyH.cons (o := ⟨some 129, _, _, _, _, _⟩) rfl (fun K hK => ?_) AllReadyH.nil
                      go_simp
                      refine (sector_any _ _ (by first | omega | (rw [HW.out]; omega))).mono ?_
                      rintro e w28 ⟨he, h13⟩
                      rw [HW.out, HSN.out] at he
                      subst he
                      have RR := Lib.hid (range_below RR.out h13 LT.out)
                      have OO := Lib.hid ((World.cell?_of_block (h13.block w4.heap.size L4.out)).trans OO.out)
                      have BB := Lib.hid (BB.out.trans (h13.mono BB.out.size))
                      have LT := Lib.hid (Nat.lt_of_lt_of_le LT.out h13.size)
                      have L4 := Lib.hid (Nat.lt_of_lt_of_le L4.out h13.size)
                      clear h13
                      go_wp2_with fail
                      refine hK.out _ _ ⟨RR.out, OO.out⟩ (fun hS25 => ?_)
                      clear hK K
                      try simp only [Act.put, List.setIfInBounds_toArray, List.set_cons_zero, List.set_cons_succ]
                      refine wpAnyH_take (i := 26) (oi := ⟨some 130, _, _, _, _, _⟩) (v := ?_) rfl (by kernel_rfl) (by kernel_rfl) (by kernel_rfl) (fun _ _ _ h => h) (Or.inl ⟨by rfl, ?_⟩) hS25 ?_
                      rotate_left
                      · (intro wS hSw; (try dsimp only at hSw); go_simp); all_goals (with_reducible rfl)
                      try simp only [Act.put, List.setIfInBounds_toArray, List.set_cons_zero, List.set_cons_succ]
                      refine wpAnyH_take (i := 27) (oi := ⟨some 131, _, _, _, _, _⟩) (v := ?_) rfl (by kernel_rfl) (by kernel_rfl) (by kernel_rfl) (fun _ _ _ h => h) (Or.inl ⟨by rfl, ?_⟩) hS25 ?_
                      rotate_left
                      · (intro wS hSw; (try dsimp only at hSw); go_simp); all_goals (with_reducible rfl)
                      try simp only [Act.put, List.setIfInBounds_toArray, List.set_cons_zero, List.set_cons_succ]
                      refine wpAnyH_take (i := 28) (oi := ⟨some 16, _, _, _, _, _⟩) (v := ?_) rfl (by kernel_rfl) (by kernel_rfl) (by kernel_rfl) (fun _ _ _ h => h) (Or.inl ⟨by rfl, ?_⟩) hS25 ?_
                      rotate_left
                      · (intro wS hSw; (try dsimp only at hSw); go_simp); all_goals (with_reducible rfl)
                      try simp only [Act.put, List.setIfInBounds_toArray, List.set_cons_zero, List.set_cons_succ]
                      refine wpAnyH_take (i := 29) (oi := ⟨some 17, _, _, _, _, _⟩) (v := ?_) rfl (by kernel_rfl) (by kernel_rfl) (by kernel_rfl) (fun _ _ _ h => h) (Or.inl ⟨by rfl, ?_⟩) hS25 ?_
                      rotate_left
                      · (intro wS hSw; (try dsimp only at hSw); go_simp); all_goals (with_reducible rfl)
                      try simp only [Act.put, List.setIfInBounds_toArray, List.set_cons_zero, List.set_cons_succ]
                      refine wpAnyH_done (by kernel_rfl) ?_ _
                      clear hu1 hu2 hu3 hu4 hns1 hns2 hgs
                      have ho := OO.out
                      go_wp2_with fail
                      go_roundw
                      case rel => exact ⟨k + 1, by omega, by go_num, (D12.out.below BB.out).1.less (fun i h => .inl h), P12.out.below BB.out P12.out.lt⟩
                      case measure => simp [intOf]; omega
                    | false =>
                      have hrd : Hid (pRead (one 100 (-1) [97] F') [97] (k : Int) = (sO, 0)) := Lib.hid (one_read k _ hs)
                      clear hs
                      go_upto_region 29 with (first
                        | (go_at_call 15; go_must (refine (at_len D9.out [97] ML.out Z HZ.out).mono ?_); rintro e w10 ⟨rfl, rfl⟩)
                        | (go_at_call 19; go_must (refine (at_read D9.out [97] ML.out (k : Int) sO 0 hrd.out).mono ?_); rintro e w11 ⟨rfl, h11, k11⟩; have D11 := Lib.hid h11; have P11 : Hid (Whole w11 w4.heap.size 4 (ovR ov (N + 31))) := Lib.hid ((k11.1 w4.heap.size (.inr rfl)).trans P9.out); clear h11 k11)
                        | (with_reducible refine at_store36 ?_; go_must (refine wpList_store64 rfl (.tmp 14) (.tmp 102) rfl w11.heap.size sO rfl rfl _ (heap_alloc_new w11 _) rfl ?_)))
                      refine wp_rename (fun W => At w.heap.size (fun i => (False ∨ i = w4.heap.size) ∨ i = w11.heap.size) w g (one 100 (-1) [97] F') W ∧ W.heap[w11.heap.size]? = some (.cells (csF sO) 36 (0, 0)) ∧ w11.heap.size < W.heap.size ∧ Whole W w4.heap.size 4 (ovR ov (N + 31))) ⟨D11.out.ownB (below_setRow ((Below.refl _ _).alloc (Nat.le_refl _) _) (Nat.le_refl _) _) (by simp [World.setRow]), setRow_heap _ _ _ _ _ _ (heap_alloc_new w11 _), by simp [World.setRow], P11.out.below (below_setRow ((Below.refl _ _).alloc (Nat.le_refl _) _) (Nat.le_refl _) _) P11.out.lt⟩ ?_
                      rintro W12 ⟨h12, h12b, h12c, h12d⟩
                      have D12 := Lib.hid h12
                      have RR := Lib.hid (range_row h12b)
                      have LT := Lib.hid h12c
                      have P12 := Lib.hid h12d
                      have OO := Lib.hid (h12d.ov k (by omega))
                      have L4 := Lib.hid h12d.lt
                      have BB : Hid (Below W12.heap.size W12 W12.drew) := Lib.hid (Below.refl _ _).drew
                      rw [hov] at OO
                      have ho := OO.out
                      have hk31 : (k : Int) < (N : Int) + 31 := by omega
                      clear h12 h12b h12c h12d
                      have RR : Hid (W12.drew.rangeAt w11.heap.size 0 (B8 (sO).1)) := RR
                      have LT : Hid (w11.heap.size < W12.drew.heap.size) := LT
                      have L4 : Hid (w4.heap.size < W12.drew.heap.size) := L4
                      have OO : Hid (W12.drew.cell? ⟨w4.heap.size, k, none⟩ = some (.bool true)) := OO
                      have hgs := guard_sec
                      have hns1 := eql_2 sO sO true (by simp)
                      have hns2 := eql_2 sO sN false hb
                      have hu1 := Try.underlying36
                      have hu2 := info_B8 sO
                      have hu3 := len_B8 sO
                      have hu4 := one_B8 (sO).1
                      refine wp_region_held_drew (S := fun w' => w'.rangeAt w11.heap.size 0 (B8 (sO).1) ∧ w'.cell? ⟨w4.heap.size, k, none⟩ = some (.bool true)) (by kernel_rfl) ⟨RR.out, OO.out⟩ (fun hS0 => ?_)
                      refine wpAnyH_take (i := 0) (oi := ⟨some 104, _, _, _, _, _⟩) (v := ?_) rfl (by kernel_rfl) (by kernel_rfl) (by kernel_rfl) (fun _ _ _ h => h) (Or.inl ⟨by rfl, ?_⟩) hS0 ?_
                      rotate_left
                      · (intro wS hSw; (try dsimp only at hSw); go_simp); all_goals (with_reducible rfl)
                      try simp only [Act.put, List.setIfInBounds_toArray, List.set_cons_zero, List.set_cons_succ]
                      refine wpAnyH_take (i := 1) (oi := ⟨some 105, _, _, _, _, _⟩) (v := ?_) rfl (by kernel_rfl) (by kernel_rfl) (by kernel_rfl) (fun _ _ _ h => h) (Or.inl ⟨by rfl, ?_⟩) hS0 ?_
                      rotate_left
                      · (intro wS hSw; (try dsimp only at hSw); go_simp); all_goals (with_reducible rfl)
                      try simp only [Act.put, List.setIfInBounds_toArray, List.set_cons_zero, List.set_cons_succ]
                      refine wpAnyH_take (i := 2) (oi := ⟨some 106, _, _, _, _, _⟩) (v := ?_) rfl (by kernel_rfl) (by kernel_rfl) (by kernel_rfl) (fun _ _ _ h => h) (Or.inl ⟨by rfl, ?_⟩) hS0 ?_
                      rotate_left
                      · (intro wS hSw; (try dsimp only at hSw); go_simp); all_goals (with_reducible rfl)
                      try simp only [Act.put, List.setIfInBounds_toArray, List.set_cons_zero, List.set_cons_succ]
                      refine wpAnyH_take (i := 3) (oi := ⟨some 107, _, _, _, _, _⟩) (v := ?_) rfl (by kernel_rfl) (by kernel_rfl) (by kernel_rfl) (fun _ _ _ h => h) (Or.inl ⟨by rfl, ?_⟩) hS0 ?_
                      rotate_left
                      · (intro wS hSw; (try dsimp only at hSw); go_simp); all_goals (with_reducible rfl)
                      try simp only [Act.put, List.setIfInBounds_toArray, List.set_cons_zero, List.set_cons_succ]
                      refine wpAnyH_take (i := 4) (oi := ⟨some 108, _, _, _, _, _⟩) (v := ?_) rfl (by kernel_rfl) (by kernel_rfl) (by kernel_rfl) (fun _ _ _ h => h) (Or.inl ⟨by rfl, ?_⟩) hS0 ?_
                      rotate_left
                      · (intro wS hSw; (try dsimp only at hSw); go_simp); all_goals (with_reducible rfl)
                      try simp only [Act.put, List.setIfInBounds_toArray, List.set_cons_zero, List.set_cons_succ]
                      refine wpAnyH_take (i := 5) (oi := ⟨some 109, _, _, _, _, _⟩) (v := ?_) rfl (by kernel_rfl) (by kernel_rfl) (by kernel_rfl) (fun _ _ _ h => h) (Or.inl ⟨by rfl, ?_⟩) hS0 ?_
                      rotate_left
                      · (intro wS hSw; (try dsimp only at hSw); go_simp); all_goals (with_reducible rfl)
                      try simp only [Act.put, List.setIfInBounds_toArray, List.set_cons_zero, List.set_cons_succ]
                      refine wpAnyH_take (i := 6) (oi := ⟨some 110, _, _, _, _, _⟩) (v := ?_) rfl (by kernel_rfl) (by kernel_rfl) (by kernel_rfl) (fun _ _ _ h => h) (Or.inl ⟨by rfl, ?_⟩) hS0 ?_
                      rotate_left
                      · (intro wS hSw; (try dsimp only at hSw); go_simp); all_goals (with_reducible rfl)
                      try simp only [Act.put, List.setIfInBounds_toArray, List.set_cons_zero, List.set_cons_succ]
                      refine wpAnyH_take (i := 7) (oi := ⟨some 111, _, _, _, _, _⟩) (v := ?_) rfl (by kernel_rfl) (by kernel_rfl) (by kernel_rfl) (fun _ _ _ h => h) (Or.inl ⟨by rfl, ?_⟩) hS0 ?_
                      rotate_left
                      · (intro wS hSw; (try dsimp only at hSw); go_simp); all_goals (with_reducible rfl)
                      try simp only [Act.put, List.setIfInBounds_toArray, List.set_cons_zero, List.set_cons_succ]
                      refine wpAnyH_take (i := 8) (oi := ⟨some 112, _, _, _, _, _⟩) (v := _) rfl (by kernel_rfl) (by kernel_rfl) (by kernel_rfl) (fun _ _ _ h => h) (yieldsIf_load_mid (by rfl) _ _ rfl _ _ rfl _ _ (fun _ hSw => hSw.1) hu1 rfl hu2) hS0 ?_
                      try simp only [Act.put, List.setIfInBounds_toArray, List.set_cons_zero, List.set_cons_succ]
                      refine wpAnyH_take (i := 9) (oi := ⟨some 113, _, _, _, _, _⟩) (v := ?_) rfl (by kernel_rfl) (by kernel_rfl) (by kernel_rfl) (fun _ _ _ h => h) (Or.inl ⟨by rfl, ?_⟩) hS0 ?_
                      rotate_left
                      · (intro wS hSw; (try dsimp only at hSw); go_simp); all_goals (with_reducible rfl)
                      try simp only [Act.put, List.setIfInBounds_toArray, List.set_cons_zero, List.set_cons_succ]
                      refine wpAnyH_take (i := 13) (oi := ⟨some 117, _, _, _, _, _⟩) (v := ?_) rfl (by kernel_rfl) (by kernel_rfl) (by kernel_rfl) (fun _ _ _ h => h) (Or.inl ⟨by rfl, ?_⟩) hS0 ?_
                      rotate_left
                      · (intro wS hSw; (try dsimp only at hSw); go_simp); all_goals (with_reducible rfl)
                      try simp only [Act.put, List.setIfInBounds_toArray, List.set_cons_zero, List.set_cons_succ]
                      refine wpAnyH_take (i := 14) (oi := ⟨some 118, _, _, _, _, _⟩) (v := ?_) rfl (by kernel_rfl) (by kernel_rfl) (by kernel_rfl) (fun _ _ _ h => h) (Or.inl ⟨by rfl, ?_⟩) hS0 ?_
                      rotate_left
                      · (intro wS hSw; (try dsimp only at hSw); go_simp); all_goals (with_reducible rfl)
                      try simp only [Act.put, List.setIfInBounds_toArray, List.set_cons_zero, List.set_cons_succ]
                      refine wpAnyH_ready (rs := [10]) (by kernel_rfl) (by simp) ?_
                      refine AllReadyH.cons (o := ⟨some 114, _, _, _, _, _⟩) rfl (fun K hK => ?_) AllReadyH.nil
                      go_simp
                      refine (sector_any _ _ (by first | omega | (rw [HW.out]; omega))).mono ?_
                      rintro e w13 ⟨he, h13⟩
                      rw [HSO.out] at he
                      subst he
                      have RR := Lib.hid (range_below RR.out h13 LT.out)
                      have OO := Lib.hid ((World.cell?_of_block (h13.block w4.heap.size L4.out)).trans OO.out)
                      have BB := Lib.hid (BB.out.trans (h13.mono BB.out.size))
                      have LT := Lib.hid (Nat.lt_of_lt_of_le LT.out h13.size)
                      have L4 := Lib.hid (Nat.lt_of_lt_of_le L4.out h13.size)
                      clear h13
                      go_wp2_with fail
                      refine hK.out _ _ ⟨RR.out, OO.out⟩ (fun hS10 => ?_)
                      clear hK K
                      try simp only [Act.put, List.setIfInBounds_toArray, List.set_cons_zero, List.set_cons_succ]
                      refine wpAnyH_take (i := 11) (oi := ⟨some 115, _, _, _, _, _⟩) (v := ?_) rfl (by kernel_rfl) (by kernel_rfl) (by kernel_rfl) (fun _ _ _ h => h) (Or.inl ⟨by rfl, ?_⟩) hS10 ?_
                      rotate_left
                      · (intro wS hSw; (try dsimp only at hSw); go_simp); all_goals (with_reducible rfl)
                      try simp only [Act.put, List.setIfInBounds_toArray, List.set_cons_zero, List.set_cons_succ]
                      refine wpAnyH_take (i := 12) (oi := ⟨some 116, _, _, _, _, _⟩) (v := ?_) rfl (by kernel_rfl) (by kernel_rfl) (by kernel_rfl) (fun _ _ _ h => h) (Or.inl ⟨by rfl, ?_⟩) hS10 ?_
                      rotate_left
                      · (intro wS hSw; (try dsimp only at hSw); go_simp); all_goals (with_reducible rfl)
                      try simp only [Act.put, List.setIfInBounds_toArray, List.set_cons_zero, List.set_cons_succ]
                      refine wpAnyH_take (i := 15) (oi := ⟨some 119, _, _, _, _, _⟩) (v := ?_) rfl (by kernel_rfl) (by kernel_rfl) (by kernel_rfl) (fun _ _ _ h => h) (Or.inl ⟨by rfl, ?_⟩) hS10 ?_
                      rotate_left
                      · (intro wS hSw; (try dsimp only at hSw); go_simp); all_goals (with_reducible rfl)
                      try simp only [Act.put, List.setIfInBounds_toArray, List.set_cons_zero, List.set_cons_succ]
                      refine wpAnyH_take (i := 16) (oi := ⟨some 120, _, _, _, _, _⟩) (v := ?_) rfl (by kernel_rfl) (by kernel_rfl) (by kernel_rfl) (fun _ _ _ h => h) (Or.inl ⟨by rfl, ?_⟩) hS10 ?_
                      rotate_left
                      · (intro wS hSw; (try dsimp only at hSw); go_simp); all_goals (with_reducible rfl)
                      try simp only [Act.put, List.setIfInBounds_toArray, List.set_cons_zero, List.set_cons_succ]
                      refine wpAnyH_take (i := 17) (oi := ⟨some 121, _, _, _, _, _⟩) (v := ?_) rfl (by kernel_rfl) (by kernel_rfl) (by kernel_rfl) (fun _ _ _ h => h) (Or.inl ⟨by rfl, ?_⟩) hS10 ?_
                      rotate_left
                      · (intro wS hSw; (try dsimp only at hSw); go_simp); all_goals (with_reducible rfl)
                      try simp only [Act.put, List.setIfInBounds_toArray, List.set_cons_zero, List.set_cons_succ]
                      refine wpAnyH_take (i := 18) (oi := ⟨some 122, _, _, _, _, _⟩) (v := ?_) rfl (by kernel_rfl) (by kernel_rfl) (by kernel_rfl) (fun _ _ _ h => h) (Or.inl ⟨by rfl, ?_⟩) hS10 ?_
                      rotate_left
                      · (intro wS hSw; (try dsimp only at hSw); go_simp); all_goals (with_reducible rfl)
                      try simp only [Act.put, List.setIfInBounds_toArray, List.set_cons_zero, List.set_cons_succ]
                      refine wpAnyH_take (i := 19) (oi := ⟨some 123, _, _, _, _, _⟩) (v := ?_) rfl (by kernel_rfl) (by kernel_rfl) (by kernel_rfl) (fun _ _ _ h => h) (Or.inl ⟨by rfl, ?_⟩) hS10 ?_
                      rotate_left
                      · (intro wS hSw; (try dsimp only at hSw); go_simp); all_goals (with_reducible rfl)
                      try simp only [Act.put, List.setIfInBounds_toArray, List.set_cons_zero, List.set_cons_succ]
                      refine wpAnyH_take (i := 20) (oi := ⟨some 124, _, _, _, _, _⟩) (v := ?_) rfl (by kernel_rfl) (by kernel_rfl) (by kernel_rfl) (fun _ _ _ h => h) (Or.inl ⟨by rfl, ?_⟩) hS10 ?_
                      rotate_left
                      · (intro wS hSw; (try dsimp only at hSw); go_simp); all_goals (with_reducible rfl)
                      try simp only [Act.put, List.setIfInBounds_toArray, List.set_cons_zero, List.set_cons_succ]
                      refine wpAnyH_take (i := 21) (oi := ⟨some 125, _, _, _, _, _⟩) (v := ?_) rfl (by kernel_rfl) (by kernel_rfl) (by kernel_rfl) (fun _ _ _ h => h) (Or.inl ⟨by rfl, ?_⟩) hS10 ?_
                      rotate_left
                      · (intro wS hSw; (try dsimp only at hSw); go_simp); all_goals (with_reducible rfl)
                      try simp only [Act.put, List.setIfInBounds_toArray, List.set_cons_zero, List.set_cons_succ]
                      refine wpAnyH_take (i := 22) (oi := ⟨some 126, _, _, _, _, _⟩) (v := _) rfl (by kernel_rfl) (by kernel_rfl) (by kernel_rfl) (fun _ _ _ h => h) (yieldsIf_load_mid (by rfl) _ _ rfl _ _ rfl _ _ (fun _ hSw => hSw.1) hu1 rfl hu2) hS10 ?_
                      try simp only [Act.put, List.setIfInBounds_toArray, List.set_cons_zero, List.set_cons_succ]
                      refine wpAnyH_take (i := 23) (oi := ⟨some 127, _, _, _, _, _⟩) (v := ?_) rfl (by kernel_rfl) (by kernel_rfl) (by kernel_rfl) (fun _ _ _ h => h) (Or.inl ⟨by rfl, ?_⟩) hS10 ?_
                      rotate_left
                      · (intro wS hSw; (try dsimp only at hSw); go_simp); all_goals (with_reducible rfl)
                      try simp only [Act.put, List.setIfInBounds_toArray, List.set_cons_zero, List.set_cons_succ]
                      refine wpAnyH_take (i := 24) (oi := ⟨some 128, _, _, _, _, _⟩) (v := ?_) rfl (by kernel_rfl) (by kernel_rfl) (by kernel_rfl) (fun _ _ _ h => h) (Or.inl ⟨by rfl, ?_⟩) hS10 ?_
                      rotate_left
                      · (intro wS hSw; (try dsimp only at hSw); go_simp); all_goals (with_reducible rfl)
                      try simp only [Act.put, List.setIfInBounds_toArray, List.set_cons_zero, List.set_cons_succ]
                      refine wpAnyH_ready (rs := [25]) (by kernel_rfl) (by simp) ?_
                      refine AllReadyH.cons (o := ⟨some 129, _, _, _, _, _⟩) rfl (fun K hK => ?_) AllReadyH.nil
                      go_simp
                      refine (sector_any _ _ (by first | omega | (rw [HW.out]; omega))).mono ?_
                      rintro e w28 ⟨he, h13⟩
                      rw [HW.out, HSN.out] at he
                      subst he
                      have RR := Lib.hid (range_below RR.out h13 LT.out)
                      have OO := Lib.hid ((World.cell?_of_block (h13.block w4.heap.size L4.out)).trans OO.out)
                      have BB := Lib.hid (BB.out.trans (h13.mono BB.out.size))
                      have LT := Lib.hid (Nat.lt_of_lt_of_le LT.out h13.size)
                      have L4 := Lib.hid (Nat.lt_of_lt_of_le L4.out h13.size)
                      clear h13
                      go_wp2_with fail
                      refine hK.out _ _ ⟨RR.out, OO.out⟩ (fun hS25 => ?_)
                      clear hK K
                      try simp only [Act.put, List.setIfInBounds_toArray, List.set_cons_zero, List.set_cons_succ]
                      refine wpAnyH_take (i := 26) (oi := ⟨some 130, _, _, _, _, _⟩) (v := ?_) rfl (by kernel_rfl) (by kernel_rfl) (by kernel_rfl) (fun _ _ _ h => h) (Or.inl ⟨by rfl, ?_⟩) hS25 ?_
                      rotate_left
                      · (intro wS hSw; (try dsimp only at hSw); go_simp); all_goals (with_reducible rfl)
                      try simp only [Act.put, List.setIfInBounds_toArray, List.set_cons_zero, List.set_cons_succ]
                      refine wpAnyH_take (i := 27) (oi := ⟨some 131, _, _, _, _, _⟩) (v := ?_) rfl (by kernel_rfl) (by kernel_rfl) (by kernel_rfl) (fun _ _ _ h => h) (Or.inl ⟨by rfl, ?_⟩) hS25 ?_
                      rotate_left
                      · (intro wS hSw; (try dsimp only at hSw); go_simp); all_goals (with_reducible rfl)
                      try simp only [Act.put, List.setIfInBounds_toArray, List.set_cons_zero, List.set_cons_succ]
                      refine wpAnyH_take (i := 28) (oi := ⟨some 16, _, _, _, _, _⟩) (v := ?_) rfl (by kernel_rfl) (by kernel_rfl) (by kernel_rfl) (fun _ _ _ h => h) (Or.inl ⟨by rfl, ?_⟩) hS25 ?_
                      rotate_left
                      · (intro wS hSw; (try dsimp only at hSw); go_simp); all_goals (with_reducible rfl)
                      try simp only [Act.put, List.setIfInBounds_toArray, List.set_cons_zero, List.set_cons_succ]
                      refine wpAnyH_take (i := 29) (oi := ⟨some 17, _, _, _, _, _⟩) (v := ?_) rfl (by kernel_rfl) (by kernel_rfl) (by kernel_rfl) (fun _ _ _ h => h) (Or.inl ⟨by rfl, ?_⟩) hS25 ?_
                      rotate_left
                      · (intro wS hSw; (try dsimp only at hSw); go_simp); all_goals (with_reducible rfl)
                      try simp only [Act.put, List.setIfInBounds_toArray, List.set_cons_zero, List.set_cons_succ]
                      refine wpAnyH_done (by kernel_rfl) ?_ _
                      clear hu1 hu2 hu3 hu4 hns1 hns2 hgs
                      have ho := OO.out
                      go_wp2_with fail
                      go_roundw
                      case rel => exact ⟨k + 1, by omega, by go_num, (D12.out.below BB.out).1.less (fun i h => .inl h), P12.out.below BB.out P12.out.lt⟩
                      case measure => simp [intOf]; omega
              · go_wp2_with (first
                  | (go_at_call 15; go_must (refine (at_len D9.out [97] ML.out Z HZ.out).mono ?_); rintro e w10 ⟨rfl, rfl⟩)
                  | (go_at_call 10; go_must (refine (awake_any _).mono ?_); rintro e w12 ⟨rfl, h12⟩; have D12 := Lib.hid h12; clear h12))
                go_ret
                exact ⟨rfl, (D9.out.below D12.out).1.bel⟩
end Go.Proofs.Ytloomcompnopkaa
