/- Contract of the document's own answer for layer 3: what octets begin with. -/
import Derived.Test.YtplijhhjclfhaaaFramR
import Derived.Deep.DeepCutAuto
namespace Go.Proofs.Ytplijhhjclfhaaa
open Go.RowKit

set_option maxHeartbeats 400000 in
set_option maxRecDepth 100000 in
theorem rframeof_any (A : Option Addr) (c : Nat) (b : List UInt8) (B : Nat) (w : World) (hl : Lies w B A (B8 b)) (hB : B ≤ w.heap.size) (hm : b.length ≤ c) (hc : c ≤ maxLen) (hs : b.length ≤ 140737488355328) :
    Calls Try.prog 23 #[.slice A b.length c] w (FrameIs (frameP b) w) := by
  unfold maxLen at hc
  obtain ⟨P, hP⟩ : ∃ P, P = frameP b := ⟨_, rfl⟩
  rw [← hP]
  have HP := Lib.hid hP
  obtain ⟨wa, hwa⟩ : ∃ wa, wa = w.alloc (.cells #[.int .i64 0, .int .i64 0, .slice none 0 0] 37) := ⟨_, rfl⟩
  have hb0 : Below w.heap.size w wa := by rw [hwa]; exact (Below.refl _ _).alloc (Nat.le_refl _) _
  have HL := Lib.hid (hl.below (hb0.mono hB))
  have W0 : Hid (Whole wa w.heap.size 37 #[.int .i64 0, .int .i64 0, .slice none 0 0]) := Lib.hid (by rw [hwa]; exact Whole.new _ _ _)
  have hsz : wa.heap.size = w.heap.size + 1 := by rw [hwa]; simp
  have HB0 := Lib.hid hb0
  have HQ := Lib.hid hsz
  have HWA := Lib.hid hwa
  have r0 : wa.cell? ⟨w.heap.size, 0, none⟩ = some (.int .i64 0) := W0.out.cell 0
  have r1 : wa.cell? ⟨w.heap.size, 1, none⟩ = some (.int .i64 0) := W0.out.cell 1
  have r2 : wa.cell? ⟨w.heap.size, 2, none⟩ = some (.slice none 0 0) := W0.out.cell 2
  have fr0 : wa.frozen? ⟨w.heap.size, 0, none⟩ = false := W0.out.frozen 0
  have fr1 : wa.frozen? ⟨w.heap.size, 1, none⟩ = false := W0.out.frozen 1
  have fr2 : wa.frozen? ⟨w.heap.size, 2, none⟩ = false := W0.out.frozen 2
  clear hl hP hb0 hwa hsz
  go_enter Try.func23, Try.ntmps23
  go_upto_region 1 with fail
  rw [← HWA.out]
  rcases Nat.eq_zero_or_pos b.length with h0 | h0
  · have DP : Hid (P = .more) := Lib.hid (by rw [HP.out]; unfold frameP; rw [if_pos h0])
    have hlt : ¬ (0 : Int) < b.length := by omega
    go_wp2_with fail
    refine (num_out _ _ _ 3 4 _ (by omega) (by omega) (by omega) (by omega)).mono ?_
    rintro e w6 ⟨rfl, hw6⟩
    subst hw6
    go_wp2_with fail
    obtain ⟨wf, hwf⟩ : ∃ wf, wf = (((wa.setCell ⟨w.heap.size, 0, none⟩ (.int .i64 0)).setCell ⟨w.heap.size, 1, none⟩ (.int .i64 0)).setCell ⟨w.heap.size, 2, none⟩ (.slice none 0 0)) := ⟨_, rfl⟩
    rw [← hwf]
    have hfw : Whole wf w.heap.size 37 #[.int .i64 0, .int .i64 0, .slice none 0 0] := by rw [hwf]; exact ((W0.out.put 0 _).put 1 _).put 2 _
    have hfb : Below w.heap.size w wf := by rw [hwf]; exact (((HB0.out.setCell (Nat.le_refl _) _).setCell (Nat.le_refl _) _).setCell (Nat.le_refl _) _)
    have e0 : wf.cell? ⟨w.heap.size, 0, none⟩ = some (.int .i64 0) := hfw.cell 0
    have e1 : wf.cell? ⟨w.heap.size, 1, none⟩ = some (.int .i64 0) := hfw.cell 1
    have e2 : wf.cell? ⟨w.heap.size, 2, none⟩ = some (.slice none 0 0) := hfw.cell 2
    clear hwf
    exact bodyPost_ret (v := frV 0 0 (.slice none 0 0) 0 2) (by simp [results, Try.results23, go_sem, e0, e1, e2, frV]) rfl (FrameIs.more_ DP.out hfb)
  · have hlt : (0 : Int) < b.length := by omega
    have hlt2 : 0 < b.length := h0
    have hlb : b ≠ [] := by intro h; rw [h] at h0; simp at h0
    obtain ⟨bk, o, rfl, hbk, hcell⟩ := HL.out.octets.resolve_left hlb
    obtain ⟨K, hK⟩ : ∃ K, K = (b.getD 0 0).toNat := ⟨_, rfl⟩
    have hKl : K < 256 := by rw [hK]; exact (b.getD 0 0).toNat_lt
    have c0 : wa.cell? ⟨bk, o, none⟩ = some (.int .u8 (K : Int)) := by
      have h := hcell 0 h0
      rw [Nat.add_zero] at h
      rw [h, hK]
      simp [List.getD, h0]
    have HC := Lib.hid hcell
    have HKK := Lib.hid hK
    clear hcell hK
    by_cases hk : fkind (K : Int) = true
    case neg =>
      have hk' : fkind (K : Int) = false := by simpa using hk
      have DP : Hid (P = .bad) := Lib.hid (by rw [HP.out]; unfold frameP; rw [if_neg (by omega), ← HKK.out, if_pos hk'])
      have HK := Lib.hid hk'
      clear hk hk'
      go_wp2_with fail
      refine (kindOk_any _ _).mono ?_
      rintro e w6 ⟨rfl, hw6⟩
      subst hw6
      rw [HK.out]
      go_wp2_with fail
      obtain ⟨wf, hwf⟩ : ∃ wf, wf = (((wa.setCell ⟨w.heap.size, 0, none⟩ (.int .i64 0)).setCell ⟨w.heap.size, 1, none⟩ (.int .i64 0)).setCell ⟨w.heap.size, 2, none⟩ (.slice none 0 0)) := ⟨_, rfl⟩
      rw [← hwf]
      have hfw : Whole wf w.heap.size 37 #[.int .i64 0, .int .i64 0, .slice none 0 0] := by rw [hwf]; exact ((W0.out.put 0 _).put 1 _).put 2 _
      have hfb : Below w.heap.size w wf := by rw [hwf]; exact (((HB0.out.setCell (Nat.le_refl _) _).setCell (Nat.le_refl _) _).setCell (Nat.le_refl _) _)
      have e0 : wf.cell? ⟨w.heap.size, 0, none⟩ = some (.int .i64 0) := hfw.cell 0
      have e1 : wf.cell? ⟨w.heap.size, 1, none⟩ = some (.int .i64 0) := hfw.cell 1
      have e2 : wf.cell? ⟨w.heap.size, 2, none⟩ = some (.slice none 0 0) := hfw.cell 2
      clear hwf
      exact bodyPost_ret (v := frV 0 0 (.slice none 0 0) 0 3) (by simp [results, Try.results23, go_sem, e0, e1, e2, frV]) rfl (FrameIs.bad_ DP.out hfb)
    case pos =>
      have HK := Lib.hid hk
      have HPK : Hid (P = if b.length < 7 then .more else if 4088 < flen b then .bad else if b.length < 8 + flen b then .more else if (b.getD (7 + flen b) 0).toNat = 206 then .ok K (nat ((b.drop 1).take 2)) ((b.drop 7).take (flen b)) else .bad) := Lib.hid (by rw [HP.out]; unfold frameP; rw [if_neg (by omega), ← HKK.out, if_neg (by rw [HK.out]; simp)])
      clear hk
      by_cases h7 : b.length < 7
      · have DP : Hid (P = .more) := Lib.hid (by rw [HPK.out, if_pos h7])
        go_wp2_with fail
        refine (kindOk_any _ _).mono ?_
        rintro e w6 ⟨rfl, hw6⟩
        subst hw6
        rw [HK.out]
        go_wp2_with fail
        refine (num_out _ _ _ 3 4 _ (by omega) (by omega) (by omega) (by omega)).mono ?_
        rintro e w6 ⟨rfl, hw6⟩
        subst hw6
        go_wp2_with fail
        obtain ⟨wf, hwf⟩ : ∃ wf, wf = (((wa.setCell ⟨w.heap.size, 0, none⟩ (.int .i64 0)).setCell ⟨w.heap.size, 1, none⟩ (.int .i64 0)).setCell ⟨w.heap.size, 2, none⟩ (.slice none 0 0)) := ⟨_, rfl⟩
        rw [← hwf]
        have hfw : Whole wf w.heap.size 37 #[.int .i64 0, .int .i64 0, .slice none 0 0] := by rw [hwf]; exact ((W0.out.put 0 _).put 1 _).put 2 _
        have hfb : Below w.heap.size w wf := by rw [hwf]; exact (((HB0.out.setCell (Nat.le_refl _) _).setCell (Nat.le_refl _) _).setCell (Nat.le_refl _) _)
        have e0 : wf.cell? ⟨w.heap.size, 0, none⟩ = some (.int .i64 0) := hfw.cell 0
        have e1 : wf.cell? ⟨w.heap.size, 1, none⟩ = some (.int .i64 0) := hfw.cell 1
        have e2 : wf.cell? ⟨w.heap.size, 2, none⟩ = some (.slice none 0 0) := hfw.cell 2
        clear hwf
        exact bodyPost_ret (v := frV 0 0 (.slice none 0 0) 0 2) (by simp [results, Try.results23, go_sem, e0, e1, e2, frV]) rfl (FrameIs.more_ DP.out hfb)
      · obtain ⟨S, hS⟩ : ∃ S, S = flen b := ⟨_, rfl⟩
        have NV : Hid (nat (tk 4 (b.drop 3)) = S) := Lib.hid (by rw [hS, tk_yes (by rw [List.length_drop]; omega)]; rfl)
        have SV : Hid (short 4 (b.drop 3) = false) := Lib.hid (short_no (by rw [List.length_drop]; omega))
        have HPS : Hid (P = if 4088 < S then .bad else if b.length < 8 + S then .more else if (b.getD (7 + S) 0).toNat = 206 then .ok K (nat ((b.drop 1).take 2)) ((b.drop 7).take S) else .bad) := Lib.hid (by rw [HPK.out, if_neg h7, hS])
        have hSl : S < 4294967296 := by
          rw [hS]
          have h1 := nat_lt ((b.drop 3).take 4)
          have h2 := Nat.pow_le_pow_right (show 0 < 256 by omega) (show ((b.drop 3).take 4).length ≤ 4 by rw [List.length_take]; omega)
          unfold flen
          omega
        clear hS
        by_cases h8 : 4088 < S
        · have DP : Hid (P = .bad) := Lib.hid (by rw [HPS.out, if_pos h8])
          have h8' : (4088 : Int) < S := by omega
          go_wp2_with fail
          refine (kindOk_any _ _).mono ?_
          rintro e w6 ⟨rfl, hw6⟩
          subst hw6
          rw [HK.out]
          go_wp2_with fail
          refine (num_any _ c B b 3 4 _ HL.out (by omega) (by omega) (by omega)).mono ?_
          rintro e w6 ⟨rfl, hw6⟩
          subst hw6
          rw [NV.out, SV.out]
          go_wp2_with fail
          obtain ⟨wf, hwf⟩ : ∃ wf, wf = (((wa.setCell ⟨w.heap.size, 0, none⟩ (.int .i64 0)).setCell ⟨w.heap.size, 1, none⟩ (.int .i64 0)).setCell ⟨w.heap.size, 2, none⟩ (.slice none 0 0)) := ⟨_, rfl⟩
          rw [← hwf]
          have hfw : Whole wf w.heap.size 37 #[.int .i64 0, .int .i64 0, .slice none 0 0] := by rw [hwf]; exact ((W0.out.put 0 _).put 1 _).put 2 _
          have hfb : Below w.heap.size w wf := by rw [hwf]; exact (((HB0.out.setCell (Nat.le_refl _) _).setCell (Nat.le_refl _) _).setCell (Nat.le_refl _) _)
          have e0 : wf.cell? ⟨w.heap.size, 0, none⟩ = some (.int .i64 0) := hfw.cell 0
          have e1 : wf.cell? ⟨w.heap.size, 1, none⟩ = some (.int .i64 0) := hfw.cell 1
          have e2 : wf.cell? ⟨w.heap.size, 2, none⟩ = some (.slice none 0 0) := hfw.cell 2
          clear hwf
          exact bodyPost_ret (v := frV 0 0 (.slice none 0 0) 0 3) (by simp [results, Try.results23, go_sem, e0, e1, e2, frV]) rfl (FrameIs.bad_ DP.out hfb)
        · have h8' : (S : Int) ≤ 4088 := by omega
          by_cases h9 : b.length < 8 + S
          · have DP : Hid (P = .more) := Lib.hid (by rw [HPS.out, if_neg h8, if_pos h9])
            have h9' : (b.length : Int) < 8 + S := by omega
            go_wp2_with fail
            refine (kindOk_any _ _).mono ?_
            rintro e w6 ⟨rfl, hw6⟩
            subst hw6
            rw [HK.out]
            go_wp2_with fail
            refine (num_any _ c B b 3 4 _ HL.out (by omega) (by omega) (by omega)).mono ?_
            rintro e w6 ⟨rfl, hw6⟩
            subst hw6
            rw [NV.out, SV.out]
            go_wp2_with fail
            obtain ⟨wf, hwf⟩ : ∃ wf, wf = (((wa.setCell ⟨w.heap.size, 0, none⟩ (.int .i64 0)).setCell ⟨w.heap.size, 1, none⟩ (.int .i64 0)).setCell ⟨w.heap.size, 2, none⟩ (.slice none 0 0)) := ⟨_, rfl⟩
            rw [← hwf]
            have hfw : Whole wf w.heap.size 37 #[.int .i64 0, .int .i64 0, .slice none 0 0] := by rw [hwf]; exact ((W0.out.put 0 _).put 1 _).put 2 _
            have hfb : Below w.heap.size w wf := by rw [hwf]; exact (((HB0.out.setCell (Nat.le_refl _) _).setCell (Nat.le_refl _) _).setCell (Nat.le_refl _) _)
            have e0 : wf.cell? ⟨w.heap.size, 0, none⟩ = some (.int .i64 0) := hfw.cell 0
            have e1 : wf.cell? ⟨w.heap.size, 1, none⟩ = some (.int .i64 0) := hfw.cell 1
            have e2 : wf.cell? ⟨w.heap.size, 2, none⟩ = some (.slice none 0 0) := hfw.cell 2
            clear hwf
            exact bodyPost_ret (v := frV 0 0 (.slice none 0 0) 0 2) (by simp [results, Try.results23, go_sem, e0, e1, e2, frV]) rfl (FrameIs.more_ DP.out hfb)
          · have h9' : (8 : Int) + S ≤ (b.length : Int) := by omega
            have hce : wa.cell? ⟨bk, o + (7 + S), none⟩ = some (.int .u8 ((b.getD (7 + S) 0).toNat : Int)) := by
              rw [HC.out (7 + S) (by omega)]
              simp [List.getD, show 7 + S < b.length from by omega]
            generalize hq : b.getD (7 + S) 0 = q at *
            by_cases h206 : q.toNat = 206
            · have DP : Hid (P = .ok K (nat ((b.drop 1).take 2)) ((b.drop 7).take S)) := Lib.hid (by rw [HPS.out, if_neg h8, if_neg h9, if_pos h206])
              rw [h206] at hce
              clear hq h206
              go_wp2_with fail
              refine (kindOk_any _ _).mono ?_
              rintro e w6 ⟨rfl, hw6⟩
              subst hw6
              rw [HK.out]
              go_wp2_with fail
              refine (num_any _ c B b 3 4 _ HL.out (by omega) (by omega) (by omega)).mono ?_
              rintro e w6 ⟨rfl, hw6⟩
              subst hw6
              rw [NV.out, SV.out]
              go_wp2_with fail
              obtain ⟨H, hH⟩ : ∃ H, H = nat ((b.drop 1).take 2) := ⟨_, rfl⟩
              have NV2 : Hid (nat (tk 2 (b.drop 1)) = H) := Lib.hid (by rw [hH, tk_yes (by rw [List.length_drop]; omega)])
              have SV2 : Hid (short 2 (b.drop 1) = false) := Lib.hid (short_no (by rw [List.length_drop]; omega))
              have hHl : H < 65536 := by
                rw [hH]
                have h1 := nat_lt ((b.drop 1).take 2)
                have h2 := Nat.pow_le_pow_right (show 0 < 256 by omega) (show ((b.drop 1).take 2).length ≤ 2 by rw [List.length_take]; omega)
                omega
              obtain ⟨Y, hY⟩ : ∃ Y, Y = (b.drop 7).take S := ⟨_, rfl⟩
              have hYl : S = Y.length := by rw [hY, List.length_take, List.length_drop]; omega
              have LY : Lies wa B (some ⟨bk, o + 7, none⟩) (B8 Y) := by
                have h := (HL.out.drop 7 c (by rw [B8_length]; omega) (by rw [B8_length]; omega)).take S
                rw [if_neg (by omega), B8, ← List.map_drop, ← List.map_take, ← hY] at h
                rw [show (some (⟨bk, o, none⟩ : Addr)).map (·.add 7) = some ⟨bk, o + 7, none⟩ from by simp [Addr.add]] at h
                exact h
              have HLY := Lib.hid LY
              have HYL := Lib.hid hYl
              have DPY : Hid (P = .ok K H Y) := Lib.hid (by rw [DP.out, hY, hH])
              clear hH hY hYl LY
              refine (num_any _ c B b 1 2 _ HL.out (by omega) (by omega) (by omega)).mono ?_
              rintro e w6 ⟨rfl, hw6⟩
              subst hw6
              rw [NV2.out, SV2.out]
              have a0 : IntKind.i64.wrap ((7 : Int) + (S : Int) + 1) = (7 : Int) + (S : Int) + 1 := IntWalk.i64_in _ (by omega)
              go_wp2_with fail
              go_region
              go_wp2_with fail
              obtain ⟨wf, hwf⟩ : ∃ wf, wf = (((wa.setCell ⟨w.heap.size, 0, none⟩ (.int .i64 K)).setCell ⟨w.heap.size, 1, none⟩ (.int .i64 H)).setCell ⟨w.heap.size, 2, none⟩ (.slice (some ⟨bk, o + 7, none⟩) S (c - 7))).drew := ⟨_, rfl⟩
              rw [← hwf]
              have hfw : Whole wf w.heap.size 37 #[.int .i64 K, .int .i64 H, .slice (some ⟨bk, o + 7, none⟩) S (c - 7)] := by rw [hwf]; exact ((W0.out.put 0 _).put 1 _).put 2 _
              have hfb : Below w.heap.size w wf := by rw [hwf]; exact (((HB0.out.setCell (Nat.le_refl _) _).setCell (Nat.le_refl _) _).setCell (Nat.le_refl _) _).drew
              have e0 : wf.cell? ⟨w.heap.size, 0, none⟩ = some (.int .i64 K) := hfw.cell 0
              have e1 : wf.cell? ⟨w.heap.size, 1, none⟩ = some (.int .i64 H) := hfw.cell 1
              have e2 : wf.cell? ⟨w.heap.size, 2, none⟩ = some (.slice (some ⟨bk, o + 7, none⟩) S (c - 7)) := hfw.cell 2
              have hfc : Below w.heap.size wa wf := by rw [hwf]; exact ((((Below.refl w.heap.size wa).setCell (p := ⟨w.heap.size, 0, none⟩) (Nat.le_refl _) _).setCell (p := ⟨w.heap.size, 1, none⟩) (Nat.le_refl _) _).setCell (p := ⟨w.heap.size, 2, none⟩) (Nat.le_refl _) _).drew
              clear hwf
              exact bodyPost_ret (v := frV K H (.slice (some ⟨bk, o + 7, none⟩) S (c - 7)) (7 + S + 1) 0) (by simp [results, Try.results23, go_sem, e0, e1, e2, frV]) rfl (FrameIs.ok_ (k := K) (ch := H) (b := Y) DPY.out hfb (some ⟨bk, o + 7, none⟩) (c - 7) S (7 + S + 1) HYL.out (by omega) (by omega) (by unfold maxLen; omega) ((HLY.out.below (hfc.mono hB)).more (by have := hfb.size; omega)))
            · have DP : Hid (P = .bad) := Lib.hid (by rw [HPS.out, if_neg h8, if_neg h9, if_neg h206])
              have hq1 : ((q.toNat : Int) == 206) = false := by simp; omega
              have hq2 : ((q.toNat : Int) != 206) = true := by simp; omega
              clear hq
              go_wp2_with fail
              refine (kindOk_any _ _).mono ?_
              rintro e w6 ⟨rfl, hw6⟩
              subst hw6
              rw [HK.out]
              go_wp2_with fail
              refine (num_any _ c B b 3 4 _ HL.out (by omega) (by omega) (by omega)).mono ?_
              rintro e w6 ⟨rfl, hw6⟩
              subst hw6
              rw [NV.out, SV.out]
              go_wp2_with fail
              obtain ⟨wf, hwf⟩ : ∃ wf, wf = (((wa.setCell ⟨w.heap.size, 0, none⟩ (.int .i64 0)).setCell ⟨w.heap.size, 1, none⟩ (.int .i64 0)).setCell ⟨w.heap.size, 2, none⟩ (.slice none 0 0)) := ⟨_, rfl⟩
              rw [← hwf]
              have hfw : Whole wf w.heap.size 37 #[.int .i64 0, .int .i64 0, .slice none 0 0] := by rw [hwf]; exact ((W0.out.put 0 _).put 1 _).put 2 _
              have hfb : Below w.heap.size w wf := by rw [hwf]; exact (((HB0.out.setCell (Nat.le_refl _) _).setCell (Nat.le_refl _) _).setCell (Nat.le_refl _) _)
              have e0 : wf.cell? ⟨w.heap.size, 0, none⟩ = some (.int .i64 0) := hfw.cell 0
              have e1 : wf.cell? ⟨w.heap.size, 1, none⟩ = some (.int .i64 0) := hfw.cell 1
              have e2 : wf.cell? ⟨w.heap.size, 2, none⟩ = some (.slice none 0 0) := hfw.cell 2
              clear hwf
              exact bodyPost_ret (v := frV 0 0 (.slice none 0 0) 0 3) (by simp [results, Try.results23, go_sem, e0, e1, e2, frV]) rfl (FrameIs.bad_ DP.out hfb)
theorem rframeof_more (A : Option Addr) (c n : Nat) (b : List UInt8) (B : Nat) (w : World) (hn : n = b.length) (hl : Lies w B A (B8 b)) (hB : B ≤ w.heap.size) (hm : b.length ≤ c) (hc : c ≤ maxLen) (hs : b.length ≤ 140737488355328) (h : frameP b = .more) :
    Calls Try.prog 23 #[.slice A n c] w fun e w' => e = .returned (.tuple #[.agg #[.int .i64 0, .int .i64 0, .slice none 0 0], .int .i64 0, .int .i64 2]) ∧ Below w.heap.size w w' := by
  subst hn
  refine (rframeof_any A c b B w hl hB hm hc hs).mono ?_
  rw [h]
  rintro e w' ⟨h1, h2⟩
  exact ⟨h2, h1⟩
theorem rframeof_bad (A : Option Addr) (c n : Nat) (b : List UInt8) (B : Nat) (w : World) (hn : n = b.length) (hl : Lies w B A (B8 b)) (hB : B ≤ w.heap.size) (hm : b.length ≤ c) (hc : c ≤ maxLen) (hs : b.length ≤ 140737488355328) (h : frameP b = .bad) :
    Calls Try.prog 23 #[.slice A n c] w fun e w' => e = .returned (.tuple #[.agg #[.int .i64 0, .int .i64 0, .slice none 0 0], .int .i64 0, .int .i64 3]) ∧ Below w.heap.size w w' := by
  subst hn
  refine (rframeof_any A c b B w hl hB hm hc hs).mono ?_
  rw [h]
  rintro e w' ⟨h1, h2⟩
  exact ⟨h2, h1⟩
theorem rframeof_ok (A : Option Addr) (c n : Nat) (b : List UInt8) (B : Nat) (w : World) (k ch : Nat) (t : List UInt8) (m : Nat) (hn : n = b.length) (hl : Lies w B A (B8 b)) (hB : B ≤ w.heap.size) (hm : b.length ≤ c) (hc : c ≤ maxLen) (hs : b.length ≤ 140737488355328) (h : frameP b = .ok k ch t) (ht : m = t.length) :
    Calls Try.prog 23 #[.slice A n c] w fun e w' => ∃ A1 c1, e = .returned (.tuple #[.agg #[.int .i64 k, .int .i64 ch, .slice A1 m c1], .int .i64 (m + 8), .int .i64 0]) ∧ m ≤ c1 ∧ c1 ≤ maxLen ∧ Lies w' w'.heap.size A1 (B8 t) ∧ Below w.heap.size w w' := by
  subst hn ht
  refine (rframeof_any A c b B w hl hB hm hc hs).mono ?_
  rw [h]
  rintro e w' ⟨h1, A1, c1, h2, h3, h4, h5⟩
  exact ⟨A1, c1, h2, h3, h4, h5, h1⟩

end Go.Proofs.Ytplijhhjclfhaaa
