/- The law on a frame's size: its walk. -/
import Derived.Test.YtplijhhjclfhaaaFramC
import Derived.OwnWalk
import Derived.Laws.OwnMore
namespace Go.Proofs.Ytplijhhjclfhaaa
open Go.RowKit

theorem noughts (n : Nat) : B8 (List.replicate n 0) = List.replicate n (.int .u8 0) := by simp [B8]
set_option maxHeartbeats 1000000 in
set_option maxRecDepth 100000 in
theorem size_walk (n kind ch : Int) (w : World) :
    Calls Try.prog 5 #[.int .i64 n, .int .i64 kind, .int .i64 ch] w fun e w' => e = .returned (.bool true) ∧ Below w.heap.size w w' := by
  obtain ⟨q, hq, _, eq⟩ := mask_is n 15 4 (by omega) rfl
  obtain ⟨k, hk, _, ek⟩ := mask_is kind 15 4 (by omega) rfl
  have hq16 : q < 16 := hq
  have hk16 : k < 16 := hk
  clear hq hk
  obtain ⟨i0, hi, hz0, hz1, hz2⟩ := info_parts u8_info
  have HI := Lib.hid hi
  have H0 := Lib.hid hz0
  have H1 := Lib.hid hz1
  have H2 := Lib.hid hz2
  clear hi hz0 hz1 hz2
  obtain ⟨N, hN⟩ : ∃ N, N = 4080 + q := ⟨_, rfl⟩
  have hNi : (4080 : Int) + (q : Int) = (N : Int) := by omega
  have hN1 : N ≤ 4095 := by omega
  have hby : i0.bytes * N ≤ 281474976710656 := by rw [H2.out]; omega
  have hml : N ≤ maxLen := by unfold maxLen; omega
  have HBY := Lib.hid hby
  have HML := Lib.hid hml
  have HN := Lib.hid hN
  obtain ⟨r, hr⟩ : ∃ r, r = frameOk k ch (List.replicate N (0 : UInt8)).length := ⟨_, rfl⟩
  obtain ⟨Z, hZ⟩ : ∃ Z, Z = fappB [] k ch (List.replicate N 0) := ⟨_, rfl⟩
  have hrN : r = frameOk k ch N := by rw [hr, List.length_replicate]
  have hZl : Z.length = if r then N + 8 else 0 := by
    rw [hZ]
    unfold fappB
    rw [← hr]
    cases r
    · rfl
    · rw [if_pos rfl, if_pos rfl, List.nil_append, frameB_length, List.length_replicate]
  have HR := Lib.hid hr
  have HRN := Lib.hid hrN
  have HZ := Lib.hid hZ
  have HZL := Lib.hid hZl
  have HX : Hid (B8 (List.replicate N 0) = (madeCells (Value.int .u8 0).cells (N * 1)).toList) := Lib.hid (by
    rw [noughts, Nat.mul_one]
    exact (toList_madeCells_one (.int .u8 0) N).symm)
  clear hby hml hN hr hZ hrN hZl
  go_enter Try.func5, Try.ntmps5
  go_wp2_with (at_make; refine wpList_make_full _ rfl _ _ 22 rfl w.heap.size 5 i0 (.int .u8 0) 1 Try.underlying22 HI.out H0.out H1.out .i64 .i64 _ _ N rfl rfl (by omega) (by omega) HBY.out HML.out (Nat.le_refl _) ?_; intro w1 hown hg; rw [← HX.out] at hown; have HO := Lib.hid hown; have HB := Lib.hid (below_none hg); clear hown hg)
  have lr := Lies.own HO.out (Nat.le_refl w1.heap.size)
  have LR := Lib.hid (lr.alloc (Nat.le_refl _) (.cells #[.int .i64 k, .int .i64 ch, .slice (some ⟨w.heap.size, 0, none⟩) N N] 37))
  have HBA : Hid (Below w.heap.size w (w1.alloc (.cells #[.int .i64 k, .int .i64 ch, .slice (some ⟨w.heap.size, 0, none⟩) N N] 37))) := Lib.hid (HB.out.alloc HB.out.size _)
  have hsa : w1.heap.size ≤ (w1.alloc (.cells #[.int .i64 k, .int .i64 ch, .slice (some ⟨w.heap.size, 0, none⟩) N N] 37)).heap.size := by simp
  have HSA := Lib.hid hsa
  clear lr hsa
  refine (fappend_at none 0 0 [] w1.heap.size k ch (some ⟨w.heap.size, 0, none⟩) N (List.replicate N 0) N _ r Z rfl (Lies.empty _ _ _) HSA.out (by simp) (List.length_replicate).symm LR.out (by rw [List.length_replicate]; exact HML.out) HR.out.symm HZ.out.symm).mono ?_
  rintro e w2 ⟨v2, rfl, hown, hb2⟩
  obtain ⟨A2, c2, rfl, _, _⟩ := own_form hown
  have HB2 := Lib.hid (HBA.out.trans (hb2.mono (by have := HB.out.size; have := HSA.out; omega)))
  clear hown hb2
  go_upto_region 4 with fail
  go_cut [10] (fun s10 wx => s10 = .bool r ∧ wx = w2)
  case first =>
    have hNq : (N : Int) ≤ 4088 ∨ (4088 : Int) < (N : Int) := by omega
    have hkq : ((1 : Int) ≤ (k : Int) ∧ (k : Int) ≤ 3) ∨ (k : Int) = 8 ∨ (k : Int) < 1 ∨ (3 < (k : Int) ∧ ¬ (k : Int) = 8) := by omega
    have hcq : ch < 0 ∨ (0 ≤ ch ∧ ch ≤ 65535) ∨ (0 ≤ ch ∧ 65535 < ch) := by omega
    have RV : Hid (r = (fkind k && decide (0 ≤ ch ∧ ch ≤ 65535 ∧ N ≤ 4088))) := Lib.hid (by rw [HRN.out]; rfl)
    rcases hNq with h | h
    · rcases hkq with ⟨g1, g2⟩ | g1 | g1 | ⟨g1, g2⟩
      · have FK : fkind (k : Int) = true := by unfold fkind; exact decide_eq_true (by omega)
        rcases hcq with c1 | ⟨c1, c2⟩ | ⟨c1, c2⟩
        · have D : Hid (r = false) := Lib.hid (by rw [RV.out, FK, decide_eq_false (by omega)]; rfl)
          clear FK
          go_wp2_with fail
          go_meet
          exact ⟨by rw [D.out] <;> first | rfl | (simp; omega), rfl⟩
        · have D : Hid (r = true) := Lib.hid (by rw [RV.out, FK, decide_eq_true (by omega)]; rfl)
          clear FK
          go_wp2_with fail
          go_meet
          exact ⟨by rw [D.out] <;> first | rfl | (simp; omega), rfl⟩
        · have D : Hid (r = false) := Lib.hid (by rw [RV.out, FK, decide_eq_false (by omega)]; rfl)
          clear FK
          go_wp2_with fail
          go_meet
          exact ⟨by rw [D.out] <;> first | rfl | (simp; omega), rfl⟩
      · have g3 : k = 8 := by omega
        have FK : fkind (k : Int) = true := by rw [g3]; decide
        clear g3
        rcases hcq with c1 | ⟨c1, c2⟩ | ⟨c1, c2⟩
        · have D : Hid (r = false) := Lib.hid (by rw [RV.out, FK, decide_eq_false (by omega)]; rfl)
          clear FK
          go_wp2_with fail
          go_meet
          exact ⟨by rw [D.out] <;> first | rfl | (simp; omega), rfl⟩
        · have D : Hid (r = true) := Lib.hid (by rw [RV.out, FK, decide_eq_true (by omega)]; rfl)
          clear FK
          go_wp2_with fail
          go_meet
          exact ⟨by rw [D.out] <;> first | rfl | (simp; omega), rfl⟩
        · have D : Hid (r = false) := Lib.hid (by rw [RV.out, FK, decide_eq_false (by omega)]; rfl)
          clear FK
          go_wp2_with fail
          go_meet
          exact ⟨by rw [D.out] <;> first | rfl | (simp; omega), rfl⟩
      · have g3 : ((k : Int) == 8) = false := by simp; omega
        have D : Hid (r = false) := Lib.hid (by rw [RV.out]; unfold fkind; rw [decide_eq_false (by omega)]; rfl)
        go_wp2_with fail
        go_meet
        exact ⟨by rw [D.out] <;> first | rfl | (simp; omega), rfl⟩
      · have g3 : ((k : Int) == 8) = false := by simp; omega
        have D : Hid (r = false) := Lib.hid (by rw [RV.out]; unfold fkind; rw [decide_eq_false (by omega)]; rfl)
        go_wp2_with fail
        go_meet
        exact ⟨by rw [D.out] <;> first | rfl | (simp; omega), rfl⟩
    · have D : Hid (r = false) := Lib.hid (by rw [RV.out, decide_eq_false (by omega), Bool.and_false])
      go_wp2_with fail
      go_meet
      exact ⟨by rw [D.out], rfl⟩
  case rest =>
    obtain ⟨rfl, hwc⟩ := hcut
    subst hwc
    have hZl := HZL.out
    cases r with
    | false =>
      obtain rfl : Z = [] := by
        apply List.eq_nil_of_length_eq_zero
        rw [hZl]; rfl
      clear hZl
      go_wp2_with fail
      refine (awake3_any _).mono ?_
      rintro e w5 ⟨rfl, hb5⟩
      have C6 := Lib.hid (HB2.out.trans (hb5.mono HB2.out.size))
      clear hb5
      go_wp2_with fail
      go_ret
      exact ⟨rfl, C6.out⟩
    | true =>
      rw [if_pos rfl] at hZl
      have hZi : (Z.length : Int) = (N : Int) + 8 := by omega
      have hN88 : (N : Int) ≤ 4088 := by
        have h := HRN.out
        unfold frameOk at h
        have h' := h.symm
        simp only [Bool.and_eq_true, decide_eq_true_eq] at h'
        omega
      have hd : decide ((N : Int) + 8 ≤ 4096) = true := decide_eq_true (by omega)
      clear hZl
      go_wp2_with fail
      refine (awake3_any _).mono ?_
      rintro e w5 ⟨rfl, hb5⟩
      have C6 := Lib.hid (HB2.out.trans (hb5.mono HB2.out.size))
      clear hb5
      go_wp2_with fail
      go_ret
      exact ⟨rfl, C6.out⟩
end Go.Proofs.Ytplijhhjclfhaaa
