/- The law on what can be no frame: its walk. -/
import Derived.Test.YtplijhhjclfhaaaFramC
import Derived.Test.YtplijhhjclfhaaaWords2
namespace Go.Proofs.Ytplijhhjclfhaaa
open Go.RowKit

theorem wrong_one (kd : UInt8) : frameP [kd] = if fkind (kd.toNat : Int) then .more else .bad := by
  unfold frameP
  simp only [List.length_cons, List.length_nil, List.getD_cons_zero]
  cases fkind (kd.toNat : Int) <;> simp
theorem wrong_three (en : UInt8) : frameP [2, 0, 1, 0, 0, 0, 1, 120, en] = if en.toNat = 206 then .ok 2 1 [120] else .bad := by
  have hf : flen [2, 0, 1, 0, 0, 0, 1, 120, en] = 1 := rfl
  unfold frameP
  rw [hf]
  simp [fkind, nat]
theorem wrong_two (q : Nat) (hq : q < 16777216) : frameP [1, 0, 1, 0, UInt8.ofNat (q / 2 ^ 16), UInt8.ofNat (q / 2 ^ 8), UInt8.ofNat (q / 2 ^ 0)] = if 4088 < q then .bad else .more := by
  have hf : flen [1, 0, 1, 0, UInt8.ofNat (q / 2 ^ 16), UInt8.ofNat (q / 2 ^ 8), UInt8.ofNat (q / 2 ^ 0)] = q := by
    unfold flen
    simp [nat]
    omega
  unfold frameP
  rw [hf]
  by_cases h : 4088 < q
  · simp [fkind, h]
  · simp [fkind, h, show 7 < 8 + q by omega]
theorem lit_at (W : World) (g : Nat) (t : TypeId) (l : List UInt8) (cs : List Value) (hg : g = W.heap.size) (hl : B8 l = cs) : Lies (W.alloc (.cells cs.toArray t)) (g + 1) (some ⟨g, 0, none⟩) (B8 l) := by
  subst hg; rw [hl]; exact Lies.lit W t cs
theorem wrong_lit (q : Nat) (hq : q < 16777216) : B8 [1, 0, 1, 0, UInt8.ofNat (q / 2 ^ 16), UInt8.ofNat (q / 2 ^ 8), UInt8.ofNat (q / 2 ^ 0)] = [.int .u8 1, .int .u8 0, .int .u8 1, .int .u8 0, .int .u8 ((q : Int) / 65536), .int .u8 ((q : Int) / 256 % 256), .int .u8 ((q : Int) % 256)] := by
  simp [B8]
  omega
theorem wrong_lit3 (en : UInt8) : B8 [2, 0, 1, 0, 0, 0, 1, 120, en] = [.int .u8 2, .int .u8 0, .int .u8 1, .int .u8 0, .int .u8 0, .int .u8 0, .int .u8 1, .int .u8 120, .int .u8 (en.toNat : Int)] := rfl
set_option maxHeartbeats 1000000 in
set_option maxRecDepth 100000 in
theorem wrong_walk (kd en : UInt8) (n : Int) (w : World) :
    Calls Try.prog 8 #[.int .u8 (kd.toNat : Int), .int .i64 n, .int .u8 (en.toNat : Int)] w fun e w' => e = .returned (.bool true) ∧ Below w.heap.size w w' := by
  obtain ⟨q, hq, _, eq⟩ := mask_is n 16777215 24 (by omega) rfl
  have hq24 : q < 16777216 := hq
  clear hq
  obtain ⟨wo, hwo⟩ : ∃ wo : World, wo = w := ⟨_, rfl⟩
  subst hwo
  go_enter Try.func8, Try.ntmps8
  go_upto_region 1 with fail
  go_cut [7] (fun s7 wx => s7 = .bool (fkind (kd.toNat : Int)) ∧ wx = wo)
  case first =>
    have hc : ((1 : Int) ≤ (kd.toNat : Int) ∧ (kd.toNat : Int) ≤ 3) ∨ (kd.toNat : Int) = 8 ∨ (kd.toNat : Int) < 1 ∨ (3 < (kd.toNat : Int) ∧ ¬ (kd.toNat : Int) = 8) := by omega
    generalize (kd.toNat : Int) = K at *
    rcases hc with ⟨h1, h2⟩ | h1 | h1 | ⟨h1, h2⟩
    · have D : Hid (fkind K = true) := Lib.hid (by unfold fkind; exact decide_eq_true (by omega))
      go_wp2_with fail
      go_meet
      exact ⟨by rw [D.out], rfl⟩
    · subst h1
      go_wp2_with fail
      go_meet
      exact ⟨rfl, rfl⟩
    · have D : Hid (fkind K = false) := Lib.hid (by unfold fkind; exact decide_eq_false (by omega))
      have h3 : (K == 8) = false := by simp; omega
      go_wp2_with fail
      go_meet
      exact ⟨by rw [D.out], rfl⟩
    · have D : Hid (fkind K = false) := Lib.hid (by unfold fkind; exact decide_eq_false (by omega))
      have h3 : (K == 8) = false := by simp; omega
      go_wp2_with fail
      go_meet
      exact ⟨by rw [D.out, decide_eq_false (by omega)], rfl⟩
  case rest =>
    obtain ⟨rfl, hwc⟩ := hcut
    subst hwc
    have K1 : Hid (frameP [kd] = if fkind (kd.toNat : Int) then .more else .bad) := Lib.hid (wrong_one kd)
    generalize fkind (kd.toNat : Int) = fk at *
    have L1 : Hid (Lies (wc.alloc (.cells #[.int .u8 (kd.toNat : Int)] 5)) (wc.heap.size + 1) (some ⟨wc.heap.size, 0, none⟩) (B8 [kd])) := Lib.hid (Lies.one wc 5 _)
    have S1 : Hid ((wc.alloc (.cells #[.int .u8 (kd.toNat : Int)] 5)).heap.size = wc.heap.size + 1) := Lib.hid (by simp)
    have B1 : Hid (Below wc.heap.size wc (wc.alloc (.cells #[.int .u8 (kd.toNat : Int)] 5))) := Lib.hid ((Below.refl _ _).alloc (Nat.le_refl _) _)
    have K2 := Lib.hid (wrong_two q hq24)
    have K3 := Lib.hid (wrong_three en)
    have E2 := Lib.hid (wrong_lit q hq24)
    generalize [1, 0, 1, 0, UInt8.ofNat (q / 2 ^ 16), UInt8.ofNat (q / 2 ^ 8), UInt8.ofNat (q / 2 ^ 0)] = l2 at *
    have N2 : Hid (7 = l2.length) := Lib.hid (by have h := congrArg List.length E2.out; rw [B8_length] at h; exact h.symm)
    cases fk
    all_goals
      go_wp2_with fail
      first
        | refine (fparse_more _ 1 1 [kd] _ _ rfl L1.out (by rw [S1.out]; exact Nat.le_refl _) (Nat.le_refl _) (by decide) (by rw [K1.out]; rfl)).mono ?_
        | refine (fparse_bad _ 1 1 [kd] _ _ rfl L1.out (by rw [S1.out]; exact Nat.le_refl _) (Nat.le_refl _) (by decide) (by rw [K1.out]; rfl)).mono ?_
      rintro e w2 ⟨rfl, hb2⟩
      have B2 := Lib.hid (B1.out.trans (hb2.mono (by rw [S1.out]; omega)))
      have L2 := Lib.hid (lit_at (w2.alloc (.cells #[.int .i64 0, .int .i64 0, .slice none 0 0] 37)) (w2.heap.size + 1) 5 l2 _ (by simp) E2.out)
      have S2 : Hid (((w2.alloc (.cells #[.int .i64 0, .int .i64 0, .slice none 0 0] 37)).alloc (.cells #[.int .u8 1, .int .u8 0, .int .u8 1, .int .u8 0, .int .u8 ((q : Int) / 65536), .int .u8 ((q : Int) / 256 % 256), .int .u8 ((q : Int) % 256)] 5)).heap.size = w2.heap.size + 1 + 1) := Lib.hid (by simp)
      have C2 : Hid (Below wc.heap.size wc ((w2.alloc (.cells #[.int .i64 0, .int .i64 0, .slice none 0 0] 37)).alloc (.cells #[.int .u8 1, .int .u8 0, .int .u8 1, .int .u8 0, .int .u8 ((q : Int) / 65536), .int .u8 ((q : Int) / 256 % 256), .int .u8 ((q : Int) % 256)] 5))) := Lib.hid ((B2.out.alloc B2.out.size _).alloc (by have := B2.out.size; simp; omega) _)
      clear hb2
      go_wp2_with fail
      by_cases hq1 : 4088 < q
      all_goals
        first
          | refine (fparse_bad _ 7 7 l2 _ _ N2.out L2.out (by rw [S2.out]; exact Nat.le_refl _) (by rw [← N2.out]; exact Nat.le_refl _) (by decide) (by rw [K2.out, if_pos hq1])).mono ?_
          | refine (fparse_more _ 7 7 l2 _ _ N2.out L2.out (by rw [S2.out]; exact Nat.le_refl _) (by rw [← N2.out]; exact Nat.le_refl _) (by decide) (by rw [K2.out, if_neg hq1])).mono ?_
        rintro e w3 ⟨rfl, hb3⟩
        have B3 := Lib.hid (C2.out.trans (hb3.mono (by have := B2.out.size; rw [S2.out]; omega)))
        have L3 := Lib.hid (lit_at (w3.alloc (.cells #[.int .i64 0, .int .i64 0, .slice none 0 0] 37)) (w3.heap.size + 1) 5 [2, 0, 1, 0, 0, 0, 1, 120, en] _ (by simp) (wrong_lit3 en))
        have S3 : Hid (((w3.alloc (.cells #[.int .i64 0, .int .i64 0, .slice none 0 0] 37)).alloc (.cells #[.int .u8 2, .int .u8 0, .int .u8 1, .int .u8 0, .int .u8 0, .int .u8 0, .int .u8 1, .int .u8 120, .int .u8 (en.toNat : Int)] 5)).heap.size = w3.heap.size + 1 + 1) := Lib.hid (by simp)
        have C3 : Hid (Below wc.heap.size wc ((w3.alloc (.cells #[.int .i64 0, .int .i64 0, .slice none 0 0] 37)).alloc (.cells #[.int .u8 2, .int .u8 0, .int .u8 1, .int .u8 0, .int .u8 0, .int .u8 0, .int .u8 1, .int .u8 120, .int .u8 (en.toNat : Int)] 5))) := Lib.hid ((B3.out.alloc B3.out.size _).alloc (by have := B3.out.size; simp; omega) _)
        have HQ1 := Lib.hid hq1
        clear hb3 hq1
        go_wp2_with fail
        have hq1 := HQ1.out
        clear HQ1
        by_cases he1 : en.toNat = 206
        · have he2 : ((en.toNat : Int) == 206) = true := by simp; omega
          have he3 : ((en.toNat : Int) != 206) = false := by simp; omega
          refine (fparse_ok _ 9 9 _ _ _ 2 1 [120] 1 rfl L3.out (by rw [S3.out]; exact Nat.le_refl _) (Nat.le_refl _) (by decide) (by rw [K3.out, if_pos he1]) rfl).mono ?_
          rintro e w4 ⟨A4, c4, rfl, _, _, _, hb4⟩
          have C4 := Lib.hid (C3.out.trans (hb4.mono C3.out.size))
          have C5 := Lib.hid (C4.out.alloc C4.out.size (.cells #[.int .i64 2, .int .i64 1, .slice A4 1 c4] 37))
          clear hb4 he1
          go_wp2_with fail
          refine (awake3_any _).mono ?_
          rintro e w5 ⟨rfl, hb5⟩
          have C6 := Lib.hid (C5.out.trans (hb5.mono C5.out.size))
          clear hb5
          go_wp2_with fail
          go_ret
          exact ⟨by first | rfl | (simp; omega), C6.out⟩
        · have he2 : ((en.toNat : Int) == 206) = false := by simp; omega
          have he3 : ((en.toNat : Int) != 206) = true := by simp; omega
          refine (fparse_bad _ 9 9 _ _ _ rfl L3.out (by rw [S3.out]; exact Nat.le_refl _) (Nat.le_refl _) (by decide) (by rw [K3.out, if_neg he1])).mono ?_
          rintro e w4 ⟨rfl, hb4⟩
          have C4 := Lib.hid (C3.out.trans (hb4.mono C3.out.size))
          have C5 := Lib.hid (C4.out.alloc C4.out.size (.cells #[.int .i64 0, .int .i64 0, .slice none 0 0] 37))
          clear hb4 he1
          go_wp2_with fail
          refine (awake3_any _).mono ?_
          rintro e w5 ⟨rfl, hb5⟩
          have C6 := Lib.hid (C5.out.trans (hb5.mono C5.out.size))
          clear hb5
          go_wp2_with fail
          go_ret
          exact ⟨by first | rfl | (simp; omega), C6.out⟩
end Go.Proofs.Ytplijhhjclfhaaa
