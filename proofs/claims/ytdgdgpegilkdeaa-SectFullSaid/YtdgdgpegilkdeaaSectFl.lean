/- Layer 7: the law of the full device. -/
import Derived.Test.YtdgdgpegilkdeaaSectU
import Derived.LoopTactic
namespace Go.Proofs.Ytdgdgpegilkdeaa
open Go.RowKit Go.Maps
set_option maxRecDepth 100000
set_option linter.unusedSimpArgs false
set_option linter.unusedVariables false
theorem pWrite_ok {S : Dv} (hle : S.left ≠ 0) {nm : Nm} {F : Fil} (hf : fnd S.fs nm = some F) (k : Int) (j : Nat) (e : k = j) (hj : j ≤ F.l.length) (hu : ¬ (j = F.l.length ∧ S.most ≤ S.used)) (x : Sec) : pWrite S nm k x = (0, (S.put nm (wrF F j x)).tick) := by
  subst e
  unfold pWrite
  rw [if_neg hle, hf]
  simp only []
  rw [if_neg (by omega), if_neg (by omega)]
  rfl
theorem pWrite_arg {S : Dv} (hle : S.left ≠ 0) {nm : Nm} {F : Fil} (hf : fnd S.fs nm = some F) (k : Int) (h : (F.l.length : Int) < k) (x : Sec) : pWrite S nm k x = (1, S) := by
  unfold pWrite
  rw [if_neg hle, hf]
  simp only []
  rw [if_pos (.inr h)]
theorem pWrite_full {S : Dv} (hle : S.left ≠ 0) {nm : Nm} {F : Fil} (hf : fnd S.fs nm = some F) (k : Int) (h : k = F.l.length) (hu : S.most ≤ S.used) (x : Sec) : pWrite S nm k x = (6, S) := by
  unfold pWrite
  rw [if_neg hle, hf]
  simp only []
  rw [if_neg (by omega), if_pos ⟨h, hu⟩]
def two (mo : Nat) (FA FB : Fil) : Dv := ⟨mo, -1, [([97], FA), ([98], FB)]⟩
section
variable {mo : Nat} {FA FB : Fil}
theorem two_a : fnd (two mo FA FB).fs [97] = some FA := by simp [two, fnd]
theorem two_b : fnd (two mo FA FB).fs [98] = some FB := by simp [two, fnd]
theorem two_used : (two mo FA FB).used = FA.l.length + FB.l.length := by simp [two, Dv.used, tot]
theorem two_put_a (G : Fil) : ((two mo FA FB).put [97] G).tick = two mo G FB := by rfl
theorem two_put_b (G : Fil) : ((two mo FA FB).put [98] G).tick = two mo FA G := by rfl
theorem two_len_a : (two mo FA FB).len [97] = FA.l.length := by simp [Dv.len, two_a]
theorem two_len_b : (two mo FA FB).len [98] = FB.l.length := by simp [Dv.len, two_b]
theorem two_wa (k : Int) (j : Nat) (e : k = j) (hj : j ≤ FA.l.length) (hu : ¬ (j = FA.l.length ∧ mo ≤ FA.l.length + FB.l.length)) (x : Sec) : pWrite (two mo FA FB) [97] k x = (0, two mo (wrF FA j x) FB) := by
  rw [pWrite_ok (show (-1 : Int) ≠ 0 by decide) two_a k j e hj (by rw [two_used]; exact hu), two_put_a]
theorem two_wb (k : Int) (j : Nat) (e : k = j) (hj : j ≤ FB.l.length) (hu : ¬ (j = FB.l.length ∧ mo ≤ FA.l.length + FB.l.length)) (x : Sec) : pWrite (two mo FA FB) [98] k x = (0, two mo FA (wrF FB j x)) := by
  rw [pWrite_ok (show (-1 : Int) ≠ 0 by decide) two_b k j e hj (by rw [two_used]; exact hu), two_put_b]
theorem two_drop : pDrop (two mo FA FB) [97] = (0, one mo (-1) [98] FB) := by rfl
end
theorem fl0 (mo : Nat) : pMake ⟨mo, -1, []⟩ [97] = (0, one mo (-1) [97] newF) := by rfl
theorem fl1 (mo : Nat) : pMake (one mo (-1) [97] newF) [98] = (0, two mo newF newF) := by rfl
theorem fl2 (mo : Nat) (h : mo < 32) : newDv mo = ⟨mo, -1, []⟩ := by
  have : (min (max (mo : Int) 0) 100000).toNat = mo := by omega
  unfold newDv
  rw [this]
/-- how far the two files are, i writes asked -/
def NI (A M i n la lb : Nat) : Prop := n = min i M ∧ la = min (min i A) M ∧ la + lb = n
set_option maxHeartbeats 4000000 in
theorem full_law (m a b : Int) (w : World) : Calls Try.prog 8 #[.int .i64 m, .int .i64 a, .int .i64 b] w fun e w' => e = .returned (.bool true) ∧ Below w.heap.size w w' := by
  obtain ⟨M, M1, _, M3⟩ := mask_is m 31 5 (by omega) rfl
  obtain ⟨A, A1, _, A3⟩ := mask_is a 31 5 (by omega) rfl
  obtain ⟨B, B1, _, B3⟩ := mask_is b 31 5 (by omega) rfl
  have M2 : M < 32 := M1
  have A2 : A < 32 := A1
  have B2 : B < 32 := B1
  clear M1 A1 B1
  have ml : ([97] : Nm).length ≤ maxLen := by show 1 ≤ maxLen; unfold maxLen; omega
  have ML := Lib.hid ml
  have mb : ([98] : Nm).length ≤ maxLen := by show 1 ≤ maxLen; unfold maxLen; omega
  have MB := Lib.hid mb
  clear ml mb
  go_enter Try.func8, Try.ntmps8
  go_upto_region 5 with (first
    | (go_at_call 9; go_must (refine (at_new M _ (by omega)).mono ?_); rintro e w1 ⟨g, rfl, h1⟩; rw [fl2 M M2] at h1; have H1 := Lib.hid h1; clear h1)
    | (go_at_call 11; first | (refine (at_make H2.out [98] MB.out (by show 1 < 1000000; omega) 0 (fl1 M)).mono ?_; rintro e w3 ⟨rfl, h3, k3⟩; have H3 := Lib.hid h3; clear h3 k3) | (go_must (refine (at_make H1.out [97] ML.out (by show 0 < 1000000; omega) 0 (fl0 M)).mono ?_); rintro e w2 ⟨rfl, h2, k2⟩; have H2 := Lib.hid h2; clear h2 k2)))
  go_wp2_with (fail)
  go_loopw [8, 9] (fun vn vi W => ∃ (i n : Nat) (FA FB : Fil), i ≤ A + B ∧ vi = .int .i64 (i : Int) ∧ vn = .int .i64 (n : Int) ∧ NI A M i n FA.l.length FB.l.length ∧ At w.heap.size (fun _ => False) w g (two M FA FB) W) (fun _ vi _ => A + B - (intOf vi).toNat)
  case atStart => exact ⟨0, 0, newF, newF, Nat.zero_le _, rfl, rfl, by unfold NI; simp [newF], H3.out⟩
  case round =>
    obtain ⟨i, n, FA, FB, hi, rfl, rfl, hN, h4⟩ := hrel
    have H4 := Lib.hid h4
    clear h4
    obtain ⟨la, hla⟩ : ∃ la, la = FA.l.length := ⟨_, rfl⟩
    obtain ⟨lb, hlb⟩ : ∃ lb, lb = FB.l.length := ⟨_, rfl⟩
    rw [← hla, ← hlb] at hN
    by_cases hlt : i < A + B
    · by_cases hA : i < A
      · by_cases hm : i < M
        · obtain ⟨e1, e2, e3⟩ : n = i ∧ la = i ∧ lb = 0 := by unfold NI at hN; omega
          subst e1
          go_wp2_with (first
            | (go_at_call 18; go_must (refine (at_sector H4.out n (by omega)).mono ?_); rintro e w5 ⟨rfl, h5, k5⟩; have H5 := Lib.hid h5; clear h5 k5)
            | (go_at_call 17; go_must (refine (at_write H5.out [97] ML.out _ (secI n) 0 (two_wa _ n (by first | rfl | omega) (by omega) (by omega) _)).mono ?_); rintro e w6 ⟨rfl, h6, k6⟩; have H6 := Lib.hid h6; clear h6 k6))
          go_roundw
          case rel =>
            refine ⟨n + 1, n + 1, wrF FA n (secI n), FB, by omega, by go_num, by go_num, ?_, H6.out⟩
            rw [wrF_length, if_neg (by omega), ← hla, ← hlb]; unfold NI at hN ⊢; omega
          case measure => simp [intOf]; omega
        · obtain ⟨e1, e2, e3⟩ : n = M ∧ la = M ∧ lb = 0 := by unfold NI at hN; omega
          subst e1
          by_cases he : i = n
          · subst he
            go_wp2_with (first
              | (go_at_call 18; go_must (refine (at_sector H4.out i (by omega)).mono ?_); rintro e w5 ⟨rfl, h5, k5⟩; have H5 := Lib.hid h5; clear h5 k5)
              | (go_at_call 17; go_must (refine (at_write H5.out [97] ML.out _ (secI i) 6 (pWrite_full (show (-1 : Int) ≠ 0 by decide) two_a _ (by omega) (by rw [two_used]; show i ≤ _; omega) _)).mono ?_); rintro e w6 ⟨rfl, h6, k6⟩; have H6 := Lib.hid h6; clear h6 k6)
              | (go_at_call 15; go_must (refine (at_len H6.out [97] ML.out FA.l.length (by rw [two_len_a])).mono ?_); rintro e w7 ⟨rfl, rfl⟩))
            go_roundw
            case rel =>
              refine ⟨i + 1, i, FA, FB, by omega, by go_num, by go_num, ?_, H6.out⟩
              rw [← hla, ← hlb]; unfold NI at hN ⊢; omega
            case measure => simp [intOf]; omega
          · go_wp2_with (first
              | (go_at_call 18; go_must (refine (at_sector H4.out i (by omega)).mono ?_); rintro e w5 ⟨rfl, h5, k5⟩; have H5 := Lib.hid h5; clear h5 k5)
              | (go_at_call 17; go_must (refine (at_write H5.out [97] ML.out _ (secI i) 1 (pWrite_arg (show (-1 : Int) ≠ 0 by decide) two_a _ (by omega) _)).mono ?_); rintro e w6 ⟨rfl, h6, k6⟩; have H6 := Lib.hid h6; clear h6 k6)
              | (go_at_call 15; go_must (refine (at_len H6.out [97] ML.out FA.l.length (by rw [two_len_a])).mono ?_); rintro e w7 ⟨rfl, rfl⟩))
            go_roundw
            case rel =>
              refine ⟨i + 1, n, FA, FB, by omega, by go_num, by go_num, ?_, H6.out⟩
              rw [← hla, ← hlb]; unfold NI at hN ⊢; omega
            case measure => simp [intOf]; omega
      · by_cases hm : i < M
        · obtain ⟨e1, e2, e3⟩ : n = i ∧ la = A ∧ lb = i - A := by unfold NI at hN; omega
          subst e1
          go_wp2_with (first
            | (go_at_call 18; go_must (refine (at_sector H4.out n (by omega)).mono ?_); rintro e w5 ⟨rfl, h5, k5⟩; have H5 := Lib.hid h5; clear h5 k5)
            | (go_at_call 17; go_must (refine (at_write H5.out [98] MB.out _ (secI n) 0 (two_wb _ (n - A) (by omega) (by omega) (by omega) _)).mono ?_); rintro e w6 ⟨rfl, h6, k6⟩; have H6 := Lib.hid h6; clear h6 k6))
          go_roundw
          case rel =>
            refine ⟨n + 1, n + 1, FA, wrF FB (n - A) (secI n), by omega, by go_num, by go_num, ?_, H6.out⟩
            rw [wrF_length, if_neg (by omega), ← hla, ← hlb]; unfold NI at hN ⊢; omega
          case measure => simp [intOf]; omega
        · obtain ⟨e1, e2⟩ : n = M ∧ la + lb = M := by unfold NI at hN; omega
          have e3 : lb ≤ i - A := by unfold NI at hN; omega
          subst e1
          by_cases he : i - A = lb
          · go_wp2_with (first
              | (go_at_call 18; go_must (refine (at_sector H4.out i (by omega)).mono ?_); rintro e w5 ⟨rfl, h5, k5⟩; have H5 := Lib.hid h5; clear h5 k5)
              | (go_at_call 17; go_must (refine (at_write H5.out [98] MB.out _ (secI i) 6 (pWrite_full (show (-1 : Int) ≠ 0 by decide) two_b _ (by omega) (by rw [two_used]; show n ≤ _; omega) _)).mono ?_); rintro e w6 ⟨rfl, h6, k6⟩; have H6 := Lib.hid h6; clear h6 k6)
              | (go_at_call 15; go_must (refine (at_len H6.out [98] MB.out FB.l.length (by rw [two_len_b])).mono ?_); rintro e w7 ⟨rfl, rfl⟩))
            go_roundw
            case rel =>
              refine ⟨i + 1, n, FA, FB, by omega, by go_num, by go_num, ?_, H6.out⟩
              rw [← hla, ← hlb]; unfold NI at hN ⊢; omega
            case measure => simp [intOf]; omega
          · go_wp2_with (first
              | (go_at_call 18; go_must (refine (at_sector H4.out i (by omega)).mono ?_); rintro e w5 ⟨rfl, h5, k5⟩; have H5 := Lib.hid h5; clear h5 k5)
              | (go_at_call 17; go_must (refine (at_write H5.out [98] MB.out _ (secI i) 1 (pWrite_arg (show (-1 : Int) ≠ 0 by decide) two_b _ (by omega) _)).mono ?_); rintro e w6 ⟨rfl, h6, k6⟩; have H6 := Lib.hid h6; clear h6 k6)
              | (go_at_call 15; go_must (refine (at_len H6.out [98] MB.out FB.l.length (by rw [two_len_b])).mono ?_); rintro e w7 ⟨rfl, rfl⟩))
            go_roundw
            case rel =>
              refine ⟨i + 1, n, FA, FB, by omega, by go_num, by go_num, ?_, H6.out⟩
              rw [← hla, ← hlb]; unfold NI at hN ⊢; omega
            case measure => simp [intOf]; omega
    · obtain ⟨e1, e2, e4⟩ : n = la + lb ∧ la < 32 ∧ lb < 32 := by unfold NI at hN; omega
      clear hN
      subst e1
      obtain rfl : i = A + B := by omega
      have hlt2 : ¬ ((A : Int) + (B : Int) < (A : Int) + (B : Int)) := by omega
      have hu : Hid ((two M FA FB).used = la + lb) := Lib.hid (by rw [two_used]; omega)
      have hla' : Hid ((two M FA FB).len [97] = la) := Lib.hid (by rw [two_len_a, hla])
      have hlb' : Hid ((two M FA FB).len [98] = lb) := Lib.hid (by rw [two_len_b, hlb])
      have hd : Hid (pDrop (two M FA FB) [97] = (0, one M (-1) [98] FB)) := Lib.hid two_drop
      have hu2 : Hid ((one M (-1) [98] FB).used = lb) := Lib.hid (by rw [one_used, hlb])
      have hl2 : Hid ((one M (-1) [98] FB).len [98] = lb) := Lib.hid (by rw [one_len, hlb])
      have HLA := Lib.hid hla
      clear hla hlb hi hlt
      go_upto_region 27 with (first
        | (go_at_call 16; go_must (refine (at_used H4.out (la + lb) hu.out).mono ?_); rintro e w8 ⟨rfl, rfl⟩)
        | (go_at_call 15; first | (have KB := KA; go_must (refine (at_len H4.out [98] MB.out lb hlb'.out).mono ?_); rintro e w8 ⟨rfl, rfl⟩) | (go_must (refine (at_len H4.out [97] ML.out la hla'.out).mono ?_); rintro e w8 ⟨rfl, rfl⟩; have KA := True.intro))
        )
      clear KA
      by_cases h0 : 0 < la
      · have hw : Hid (pWrite (two M FA FB) [97] 0 (secI 77) = (0, two M (wrF FA 0 (secI 77)) FB)) := Lib.hid <| two_wa _ 0 rfl (Nat.zero_le _) (by have := HLA.out; omega) _
        have hd2 : Hid (pDrop (two M (wrF FA 0 (secI 77)) FB) [97] = (0, one M (-1) [98] FB)) := Lib.hid two_drop
        go_upto_region 29 with (first
          | (go_at_call 15; go_must (refine (at_len H4.out [97] ML.out la hla'.out).mono ?_); rintro e w8 ⟨rfl, rfl⟩)
          | (go_at_call 18; go_must (refine (at_sector H4.out 77 (by omega)).mono ?_); rintro e w5 ⟨rfl, h5, k5⟩; have H5 := Lib.hid h5; clear h5 k5)
          | (go_at_call 17; go_must (refine (at_write H5.out [97] ML.out 0 (secI 77) 0 hw.out).mono ?_); rintro e w6 ⟨rfl, h6, k6⟩; have H6 := Lib.hid h6; clear h6 k6))
        go_wp2_with (first
          | (go_at_call 16; go_must (refine (at_used H7.out lb hu2.out).mono ?_); rintro e w8 ⟨rfl, rfl⟩)
          | (go_at_call 15; go_must (refine (at_len H7.out [98] MB.out lb hl2.out).mono ?_); rintro e w8 ⟨rfl, rfl⟩)
          | (go_at_call 12; go_must (refine (at_drop H6.out [97] ML.out 0 hd2.out).mono ?_); rintro e w7 ⟨rfl, h7, k7⟩; have H7 := Lib.hid h7; clear h7 k7)
          | (go_at_call 10; go_must (refine (awake_any _).mono ?_); rintro e w12 ⟨rfl, h12⟩; have H12 := Lib.hid h12; clear h12))
        go_ret
        exact ⟨rfl, (H7.out.below H12.out).1.bel⟩
      · go_upto_region 29 with (go_at_call 15; go_must (refine (at_len H4.out [97] ML.out la hla'.out).mono ?_); rintro e w8 ⟨rfl, rfl⟩)
        go_wp2_with (first
          | (go_at_call 16; go_must (refine (at_used H7.out lb hu2.out).mono ?_); rintro e w8 ⟨rfl, rfl⟩)
          | (go_at_call 15; go_must (refine (at_len H7.out [98] MB.out lb hl2.out).mono ?_); rintro e w8 ⟨rfl, rfl⟩)
          | (go_at_call 12; go_must (refine (at_drop H4.out [97] ML.out 0 hd.out).mono ?_); rintro e w7 ⟨rfl, h7, k7⟩; have H7 := Lib.hid h7; clear h7 k7)
          | (go_at_call 10; go_must (refine (awake_any _).mono ?_); rintro e w12 ⟨rfl, h12⟩; have H12 := Lib.hid h12; clear h12))
        go_ret
        exact ⟨rfl, (H7.out.below H12.out).1.bel⟩
end Go.Proofs.Ytdgdgpegilkdeaa
