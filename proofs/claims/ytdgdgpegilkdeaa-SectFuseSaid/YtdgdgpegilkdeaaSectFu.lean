/- Layer 7: the law of the fuse. -/
import Derived.Test.YtdgdgpegilkdeaaSectU
import Derived.LoopTactic
namespace Go.Proofs.Ytdgdgpegilkdeaa
open Go.RowKit Go.Maps
set_option maxRecDepth 100000
set_option linter.unusedSimpArgs false
set_option linter.unusedVariables false
theorem fz0 : pMake (newDv 100) [97] = (0, one 100 (-1) [97] newF) := by rfl
set_option maxHeartbeats 4000000 in
theorem fuse_law (n k : Int) (w : World) : Calls Try.prog 7 #[.int .i64 n, .int .i64 k] w fun e w' => e = .returned (.bool true) ∧ Below w.heap.size w w' := by
  obtain ⟨N, N1, _, N3⟩ := mask_is n 31 5 (by omega) rfl
  obtain ⟨M, M1, _, M3⟩ := mask_is k 31 5 (by omega) rfl
  have N2 : N < 32 := N1
  have M2 : M < 32 := M1
  clear N1 M1
  have ml : ([97] : Nm).length ≤ maxLen := by show 1 ≤ maxLen; unfold maxLen; omega
  have ML := Lib.hid ml
  have mb : ([98] : Nm).length ≤ maxLen := by show 1 ≤ maxLen; unfold maxLen; omega
  have MB := Lib.hid mb
  clear ml mb
  go_enter Try.func7, Try.ntmps7
  go_upto_region 5 with (first
    | (go_at_call 9; go_must (refine (at_new 100 _ (by omega)).mono ?_); rintro e w1 ⟨g, rfl, h1⟩; have H1 := Lib.hid h1; clear h1)
    | (go_at_call 11; go_must (refine (at_make H1.out [97] ML.out (by show 0 < 1000000; omega) 0 fz0).mono ?_); rintro e w2 ⟨rfl, h2, k2⟩; have H2 := Lib.hid h2; clear h2 k2))
  go_upto_region 6 with (go_at_call 27; go_must (refine (at_fuse H2.out N (by omega)).mono ?_); rintro e w3 ⟨rfl, h3, k3⟩; have H3 := Lib.hid h3; clear h3 k3)
  go_wp2_with (fail)
  go_loopw [6] (fun vi W => ∃ (i : Nat) (F : Fil), i ≤ M ∧ vi = .int .i64 (i : Int) ∧ F.l.length = min i N ∧ At w.heap.size (fun _ => False) w g (one 100 ((N : Int) - (min i N : Nat)) [97] F) W) (fun vi _ => M - (intOf vi).toNat)
  case atStart => exact ⟨0, newF, Nat.zero_le _, rfl, by simp [newF], by rw [Nat.zero_min]; exact H3.out⟩
  case round =>
    obtain ⟨i, F, hi, rfl, hF, h4⟩ := hrel
    have H4 := Lib.hid h4
    clear h4
    by_cases hlt : i < M
    · by_cases hn : i < N
      · have hl : F.l.length = i := by omega
        go_wp2_with (first
          | (go_at_call 18; go_must (refine (at_sector H4.out i (by omega)).mono ?_); rintro e w5 ⟨rfl, h5, k5⟩; have H5 := Lib.hid h5; clear h5 k5)
          | (go_at_call 17; go_must (refine (at_write H5.out [97] ML.out (i : Int) (secI i) 0 (one_write (by omega) i (by omega) (by omega) _)).mono ?_); rintro e w6 ⟨rfl, h6, k6⟩; have H6 := Lib.hid h6; clear h6 k6))
        go_roundw
        case rel =>
          refine ⟨i + 1, wrF F i (secI i), by omega, by go_num, ?_, ?_⟩
          · rw [wrF_length, if_neg (by omega)]; omega
          · have e : tkD ((N : Int) - (min i N : Nat)) = (N : Int) - (min (i + 1) N : Nat) := by unfold tkD; rw [if_pos (by omega)]; omega
            rw [← e]
            exact H6.out
        case measure => simp [intOf]; omega
      · go_wp2_with (first
          | (go_at_call 18; go_must (refine (at_sector H4.out i (by omega)).mono ?_); rintro e w5 ⟨rfl, h5, k5⟩; have H5 := Lib.hid h5; clear h5 k5)
          | (go_at_call 17; go_must (refine (at_write H5.out [97] ML.out (i : Int) (secI i) 8 (pWrite_pow (show (N : Int) - (min i N : Nat) = 0 by omega) _ _ _)).mono ?_); rintro e w6 ⟨rfl, h6, k6⟩; have H6 := Lib.hid h6; clear h6 k6))
        go_roundw
        case rel =>
          refine ⟨i + 1, F, by omega, by go_num, by omega, ?_⟩
          rw [show min (i + 1) N = min i N by omega]
          exact H6.out
        case measure => simp [intOf]; omega
    · have e : i = M := by omega
      subst e
      by_cases hk : i < N
      · go_wp2_with (first
          | (go_at_call 25; go_must (refine (at_sync H4.out [97] ML.out 0 (one_sync (by omega))).mono ?_); rintro e w5 ⟨rfl, h5, k5⟩; have H5 := Lib.hid h5; clear h5 k5)
          | (go_at_call 10; go_must (refine (awake_any _).mono ?_); rintro e w6 ⟨rfl, h6⟩; have H6 := Lib.hid h6; clear h6))
        go_ret
        exact ⟨rfl, (H5.out.below H6.out).1.bel⟩
      · have hz : ((N : Int) - (min i N : Nat)) = 0 := by omega
        have hmin : min (N : Int) (i : Int) = (N : Int) := by omega
        have hl : F.l.length = N := by omega
        rw [hz] at H4
        obtain ⟨F', c1, c2⟩ := crash_ones (mo := 100) (le := 0) (nm := [97]) H4.out.dev.1 (List.replicate 32 1) (fun p hp => by rw [List.eq_of_mem_replicate hp]; rfl) (by simp; omega)
        have c3 : F'.l.length = N := by omega
        obtain ⟨S', hmk⟩ := one_make (mo := 100) (le := -1) (nm := [97]) (F := F') [98] (by decide) (by decide) (by omega)
        go_upto_region 18 with (first
          | (go_at_call 25; go_must (refine (at_sync H4.out [97] ML.out 8 (pSync_pow rfl _)).mono ?_); rintro e w5 ⟨rfl, h5, k5⟩; have H5 := Lib.hid h5; clear h5 k5)
          | (go_at_call 11; go_must (refine (at_make H5.out [98] MB.out (by show 1 < 1000000; omega) 8 (pMake_pow rfl _)).mono ?_); rintro e w6 ⟨rfl, h6, k6⟩; have H6 := Lib.hid h6; clear h6 k6)
          | (go_at_call 12; go_must (refine (at_drop H6.out [97] ML.out 8 (pDrop_pow rfl _)).mono ?_); rintro e w7 ⟨rfl, h7, k7⟩; have H7 := Lib.hid h7; clear h7 k7)
          | (go_at_call 15; go_must (refine (at_len H7.out [97] ML.out N (by rw [one_len]; exact hl)).mono ?_); rintro e w8 ⟨rfl, rfl⟩))
        go_upto_region 19 with (go_at_call 13; go_must (refine (at_crash (S' := one 100 (-1) [97] F') (H7.out.own _) _ (List.replicate 32 1) 32 (by decide) (by unfold maxLen; omega) (pick_new (List.replicate 32 1) (fun e => e.2 (.inr rfl))) (fun p hp => by rw [List.eq_of_mem_replicate hp]; omega) c1).mono ?_); rintro e w9 ⟨rfl, h9, k9⟩; have H9 := Lib.hid h9; clear h9 k9)
        go_wp2_with (first
          | (go_at_call 15; go_must (refine (at_len H9.out [97] ML.out N (by rw [one_len]; exact c3)).mono ?_); rintro e w10 ⟨rfl, rfl⟩)
          | (go_at_call 11; go_must (refine (at_make H9.out [98] MB.out (by show 1 < 1000000; omega) 0 hmk).mono ?_); rintro e w11 ⟨rfl, h11, k11⟩; have H11 := Lib.hid h11; clear h11 k11)
          | (go_at_call 10; go_must (refine (awake_any _).mono ?_); rintro e w12 ⟨rfl, h12⟩; have H12 := Lib.hid h12; clear h12))
        go_ret
        exact ⟨rfl, (H11.out.below H12.out).1.bel⟩
end Go.Proofs.Ytdgdgpegilkdeaa
