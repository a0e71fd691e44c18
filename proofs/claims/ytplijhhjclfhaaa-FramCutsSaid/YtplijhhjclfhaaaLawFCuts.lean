/- The law on a frame's beginnings: its walk. -/
import Derived.Test.YtplijhhjclfhaaaFramC
namespace Go.Proofs.Ytplijhhjclfhaaa
open Go.RowKit

set_option maxHeartbeats 1000000 in
set_option maxRecDepth 100000 in
theorem fcuts_long (k ch : Int) (A A' : Option Addr) (m c m' c' : Nat) (w : World) (h1 : m ≤ maxLen) (h2 : m' ≤ maxLen) (h : 300 < m ∨ (m ≤ 300 ∧ 300 < m')) :
    Calls Try.prog 7 #[.agg #[.int .i64 k, .int .i64 ch, .slice A m c], .slice A' m' c'] w fun e w' => e = .returned (.bool true) ∧ Below w.heap.size w w' := by
  unfold maxLen at h1 h2
  have B0 : Hid (Below w.heap.size w (w.alloc (.cells #[.int .i64 k, .int .i64 ch, .slice A m c] 37))) := Lib.hid ((Below.refl _ _).alloc (Nat.le_refl _) _)
  have hc : (300 : Int) < m ∨ ((m : Int) ≤ 300 ∧ (300 : Int) < m') := by omega
  clear h
  rcases hc with h | ⟨h, h'⟩
  all_goals
    go_enter Try.func7, Try.ntmps7
    go_wp2_with fail
    refine (awake3_any _).mono ?_
    rintro e w2 ⟨rfl, hb⟩
    have B2 := Lib.hid (B0.out.trans (hb.mono (by simp)))
    clear hb
    go_wp2_with fail
    go_ret
    exact ⟨rfl, B2.out⟩

set_option maxHeartbeats 1000000 in
set_option maxRecDepth 100000 in
theorem fcuts_no (k ch : Int) (A A' : Option Addr) (b : List UInt8) (c m' c' B : Nat) (w : World) (hl : Lies w B A (B8 b)) (hB : B ≤ w.heap.size) (h1 : b.length ≤ 300) (h2 : m' ≤ 300) (h : frameOk k ch b.length = false) :
    Calls Try.prog 7 #[.agg #[.int .i64 k, .int .i64 ch, .slice A b.length c], .slice A' m' c'] w fun e w' => e = .returned (.bool true) ∧ Below w.heap.size w w' := by
  have h1' : (b.length : Int) ≤ 300 := by omega
  have h2' : (m' : Int) ≤ 300 := by omega
  have B0 : Hid (Below w.heap.size w (w.alloc (.cells #[.int .i64 k, .int .i64 ch, .slice A b.length c] 37))) := Lib.hid ((Below.refl _ _).alloc (Nat.le_refl _) _)
  have HL := Lib.hid (hl.alloc hB (.cells #[.int .i64 k, .int .i64 ch, .slice A b.length c] 37))
  have HH := Lib.hid h
  clear hl h
  go_enter Try.func7, Try.ntmps7
  go_wp2_with fail
  refine (fappend_at none 0 0 [] B k ch A b.length b c _ false [] rfl (Lies.empty _ _ _) (by simp; omega) (by simp) rfl HL.out (by unfold maxLen; omega) HH.out (by unfold fappB; rw [HH.out]; rfl)).mono ?_
  rintro e w2 ⟨v2, rfl, hown, hb⟩
  obtain ⟨A2, c2, rfl, _, _⟩ := own_form hown
  have B2 := Lib.hid (B0.out.trans (hb.mono (by simp)))
  clear hown hb
  go_wp2_with fail
  refine (awake3_any _).mono ?_
  rintro e w3 ⟨rfl, hb⟩
  have B3 := Lib.hid (B2.out.trans (hb.mono B2.out.size))
  clear hb
  go_wp2_with fail
  go_ret
  exact ⟨rfl, B3.out⟩

set_option maxHeartbeats 1000000 in
set_option maxRecDepth 100000 in
theorem fcuts_yes (k ch : Nat) (A A' : Option Addr) (b t : List UInt8) (c c' B : Nat) (w : World) (hl : Lies w B A (B8 b)) (hlt : Lies w B A' (B8 t)) (hB : B ≤ w.heap.size) (h1 : b.length ≤ 300) (h2 : t.length ≤ 300) (h : frameOk k ch b.length = true) :
    Calls Try.prog 7 #[.agg #[.int .i64 k, .int .i64 ch, .slice A b.length c], .slice A' t.length c'] w fun e w' => e = .returned (.bool true) ∧ Below w.heap.size w w' := by
  have h1' : (b.length : Int) ≤ 300 := by omega
  have h2' : (t.length : Int) ≤ 300 := by omega
  obtain ⟨wa, hwa⟩ : ∃ wa, wa = w.alloc (.cells #[.int .i64 k, .int .i64 ch, .slice A b.length c] 37) := ⟨_, rfl⟩
  have hb0 : Below w.heap.size w wa := by rw [hwa]; exact (Below.refl _ _).alloc (Nat.le_refl _) _
  have B0 := Lib.hid hb0
  have HL := Lib.hid (hl.below (hb0.mono hB))
  have HLT := Lib.hid (hlt.below (hb0.mono hB))
  have W0 : Hid (Whole wa w.heap.size 37 #[.int .i64 k, .int .i64 ch, .slice A b.length c]) := Lib.hid (by rw [hwa]; exact Whole.new _ _ _)
  have hsz : wa.heap.size = w.heap.size + 1 := by rw [hwa]; simp
  have SZ := Lib.hid hsz
  have HWA := Lib.hid hwa
  have HH := Lib.hid h
  obtain ⟨Z, hZ⟩ : ∃ Z, Z = frameB k ch b := ⟨_, rfl⟩
  have hZl : Z.length = b.length + 8 := by rw [hZ, frameB_length]
  have HZ := Lib.hid hZ
  have HZL := Lib.hid hZl
  clear hl hlt h hb0 hwa hsz hZ hZl
  go_enter Try.func7, Try.ntmps7
  go_wp2_with fail
  rw [← HWA.out]
  refine (fappend_at none 0 0 [] B k ch A b.length b c _ true Z rfl (Lies.empty _ _ _) (by rw [SZ.out]; omega) (by simp) rfl HL.out (by unfold maxLen; omega) HH.out (by unfold fappB; rw [HH.out, HZ.out]; rfl)).mono ?_
  rintro e w2 ⟨v2, rfl, hown, hb⟩
  obtain ⟨A2, c2, rfl, hc2, hm2⟩ := own_form hown
  have B2 := Lib.hid (B0.out.trans (hb.mono (by rw [SZ.out]; omega)))
  have W2 := Lib.hid (W0.out.below hb (by rw [SZ.out]; omega))
  have L2 := Lib.hid (Lies.own hown (Nat.le_refl _))
  have T2 := Lib.hid (HLT.out.below (hb.mono (by rw [SZ.out]; omega)))
  have LB2 := Lib.hid (HL.out.below (hb.mono (by rw [SZ.out]; omega)))
  have hZb : Z.length ≤ 308 := by have := HZL.out; omega
  have hm2' := hm2
  unfold maxLen at hm2'
  clear hown hb
  go_wp2_with fail
  go_loopw [7] (fun i wr => ∃ j : Nat, j ≤ Z.length ∧ i = .int .i64 j ∧ Below w2.heap.size w2 wr) (fun i _ => Z.length - (intOf i).toNat)
  case atStart => exact ⟨0, Nat.zero_le _, rfl, Below.refl _ _⟩
  case round =>
    obtain ⟨j, hj, rfl, hbr⟩ := hrel
    have BR := Lib.hid hbr
    have hzr := hbr.size
    clear hbr
    by_cases hlt : j < Z.length
    · have LT : Hid (Lies wr w2.heap.size A2 (B8 (Z.take j))) := Lib.hid (by
        have h := (L2.out.below BR.out).take j
        rw [B8, ← List.map_take] at h
        exact h)
      have PM : Hid (frameP (Z.take j) = .more) := Lib.hid (by rw [HZ.out]; exact frame_cut k ch b j HH.out (by have := HZL.out; omega))
      have JL : Hid (j = (Z.take j).length) := Lib.hid (by rw [List.length_take]; omega)
      go_wp2_with fail
      refine (fparse_more A2 c2 j (Z.take j) _ _ JL.out LT.out hzr (by have := JL.out; omega) hm2 PM.out).mono ?_
      rintro e w3 ⟨rfl, hb⟩
      have B3 := Lib.hid ((BR.out.trans (hb.mono hzr)).alloc (by have := hb.size; omega) (.cells #[.int .i64 0, .int .i64 0, .slice none 0 0] 37))
      clear hb
      go_wp2_with fail
      go_roundw
      case rel => exact ⟨j + 1, by omega, by go_num, B3.out⟩
      case measure => simp [intOf]; omega
    · obtain rfl : j = Z.length := by omega
      obtain ⟨i0, hi, hz0, hz1, hz2⟩ := info_parts u8_info
      have HI := Lib.hid hi
      have G0 := Lib.hid hz0
      have G1 := Lib.hid hz1
      have G2 := Lib.hid hz2
      have ho0 : (wr.alloc (.cells #[] 5)).ownsRow wr.heap.size 5 1 (.slice (some ⟨wr.heap.size, 0, none⟩) 0 0) 0 [] := World.ownsRow_made wr #[] 0 (Nat.le_refl _) (Nat.zero_le _) rfl
      have HO0 := Lib.hid ho0
      have BA : Hid (Below wr.heap.size wr (wr.alloc (.cells #[] 5))) := Lib.hid ((Below.refl _ _).alloc (Nat.le_refl _) _)
      have za : wr.heap.size ≤ (wr.alloc (.cells #[] 5)).heap.size := by simp
      have ZA := Lib.hid za
      have z2 := B2.out.size
      have zw := SZ.out
      have zb : wa.heap.size ≤ w2.heap.size := by have := W2.out.lt; have := SZ.out; omega
      have LZA := Lib.hid ((L2.out.below BR.out).below (BA.out.mono hzr))
      have BWR := Lib.hid (B2.out.trans (BR.out.mono z2))
      have hs1 : 0 + Z.length ≤ 140737488355328 := by omega
      have hs2 : Z.length + t.length ≤ 140737488355328 := by omega
      clear hi hz0 hz1 hz2 ho0 za zw
      go_wp2_with (first
        | (at_builtin; refine wpList_append_cells rfl _ _ 22 rfl wr.heap.size 5 i0 (.int .u8 0) 1 1 Try.underlying22 HI.out G0.out G1.out G2.out rfl (by omega) _ 0 [] rfl HO0.out _ A2 Z.length c2 (B8 Z) rfl LZA.out (B8_len1 Z) (B8_one Z) (room63 hs1) (room1 hs1) ZA.out ?_; intro v3 w3 hown3 hb3; rw [Nat.zero_add, List.nil_append] at hown3; have HO3 := Lib.hid hown3; have B3 := Lib.hid (BA.out.trans hb3); have T3 := Lib.hid (T2.out.below ((BR.out.trans (B3.out.mono hzr)).mono (by omega))); have z3 := B3.out.size; clear hown3 hb3)
        | (at_builtin; refine wpList_append_cells rfl _ _ 22 rfl wr.heap.size 5 i0 (.int .u8 0) 1 1 Try.underlying22 HI.out G0.out G1.out G2.out rfl (by omega) _ Z.length (B8 Z) rfl HO3.out _ A' t.length c' (B8 t) rfl T3.out (B8_len1 t) (B8_one t) (room63 hs2) (room1 hs2) z3 ?_; intro v4 w4 hown4 hb4; rw [← B8_append] at hown4; have HO4 := Lib.hid hown4; have B4 := Lib.hid (B3.out.trans hb4); clear hown4 hb4))
      have ho4 := HO4.out
      obtain ⟨A4, c4, rfl, hc4, hm4⟩ := own_form ho4
      have L4 := Lib.hid (Lies.own ho4 (Nat.le_refl _))
      have PO : Hid (frameP (Z ++ t) = .ok k ch b) := Lib.hid (by rw [HZ.out]; exact frame_back k ch b t HH.out)
      have LEN : Hid (Z.length + t.length = (Z ++ t).length) := Lib.hid (List.length_append).symm
      have z4 := B4.out.size
      clear ho4
      refine (fparse_ok A4 c4 _ (Z ++ t) w4.heap.size _ k ch b b.length LEN.out L4.out (Nat.le_refl _) (by have := LEN.out; omega) hm4 PO.out rfl).mono ?_
      rintro e w5 ⟨A5, c5, rfl, hc5, hm5, hl5, hb5⟩
      have z5 := hb5.size
      obtain ⟨w6, hw6⟩ : ∃ w6, w6 = w5.alloc (.cells #[.int .i64 k, .int .i64 ch, .slice A5 b.length c5] 37) := ⟨_, rfl⟩
      have h56 : Below w5.heap.size w5 w6 := by rw [hw6]; exact (Below.refl _ _).alloc (Nat.le_refl _) _
      have b46 : Below wr.heap.size wr w6 := (B4.out.trans (hb5.mono z4)).trans (h56.mono (by omega))
      have bw6 := BWR.out.trans (b46.mono (by have := BWR.out.size; omega))
      have b26 := BR.out.trans (b46.mono hzr)
      have W6 := Lib.hid (W2.out.below b26 W2.out.lt)
      have V6 : Hid (Whole w6 w5.heap.size 37 #[.int .i64 k, .int .i64 ch, .slice A5 b.length c5]) := Lib.hid (by rw [hw6]; exact Whole.new _ _ _)
      have L6 := Lib.hid (hl5.below h56)
      have LB6 := Lib.hid (LB2.out.below (b26.mono (by omega)))
      have BW6 := Lib.hid bw6
      have z6 := h56.size
      have HW6 := Lib.hid hw6
      have hZi : (Z.length : Int) = (b.length : Int) + 8 := by have := HZL.out; omega
      have k0 : w6.cell? ⟨w.heap.size, 0, none⟩ = some (.int .i64 k) := W6.out.cell 0
      have k1 : w6.cell? ⟨w.heap.size, 1, none⟩ = some (.int .i64 ch) := W6.out.cell 1
      have k2 : w6.cell? ⟨w.heap.size, 2, none⟩ = some (.slice A b.length c) := W6.out.cell 2
      have q0 : w6.cell? ⟨w5.heap.size, 0, none⟩ = some (.int .i64 k) := V6.out.cell 0
      have q1 : w6.cell? ⟨w5.heap.size, 1, none⟩ = some (.int .i64 ch) := V6.out.cell 1
      have q2 : w6.cell? ⟨w5.heap.size, 2, none⟩ = some (.slice A5 b.length c5) := V6.out.cell 2
      clear hl5 hb5 h56 b46 bw6 b26 hw6
      go_upto_region 13 with fail
      rw [← HW6.out]
      go_wp2_with fail
      refine (fsame_any k k ch ch A A5 b b c c5 B w5.heap.size _ LB6.out L6.out (by omega) z6).mono ?_
      rintro e w7 ⟨rfl, hb7⟩
      rw [show SameF k k ch ch b b = true from by unfold SameF; simp]
      have B7 := Lib.hid (BW6.out.trans (hb7.mono BW6.out.size))
      clear hb7 k0 k1 k2 q0 q1 q2
      go_wp2_with fail
      refine (awake3_any _).mono ?_
      rintro e w8 ⟨rfl, hb8⟩
      have B8' := Lib.hid (B7.out.trans (hb8.mono B7.out.size))
      clear hb8
      go_wp2_with fail
      go_ret
      exact ⟨rfl, B8'.out⟩

theorem fcuts_all (k ch : Int) (A A' : Option Addr) (b t : List UInt8) (c c' : Nat) (w : World) (hl : Lies w w.heap.size A (B8 b)) (hlt : Lies w w.heap.size A' (B8 t)) (h1 : b.length ≤ maxLen) (h2 : t.length ≤ maxLen) :
    Calls Try.prog 7 #[.agg #[.int .i64 k, .int .i64 ch, .slice A b.length c], .slice A' t.length c'] w fun e w' => e = .returned (.bool true) ∧ Below w.heap.size w w' := by
  by_cases h : 300 < b.length ∨ (b.length ≤ 300 ∧ 300 < t.length)
  · exact fcuts_long k ch A A' b.length c t.length c' w h1 h2 h
  · cases hf : frameOk k ch b.length with
    | false => exact fcuts_no k ch A A' b c t.length c' w.heap.size w hl (Nat.le_refl _) (by omega) (by omega) hf
    | true =>
      have h' := hf
      unfold frameOk fkind at h'
      simp only [Bool.and_eq_true, decide_eq_true_eq] at h'
      obtain ⟨kn, rfl⟩ := Int.eq_ofNat_of_zero_le (show 0 ≤ k by omega)
      obtain ⟨cn, rfl⟩ := Int.eq_ofNat_of_zero_le h'.2.1
      exact fcuts_yes kn cn A A' b t c c' w.heap.size w hl hlt (Nat.le_refl _) (by omega) (by omega) hf
end Go.Proofs.Ytplijhhjclfhaaa
