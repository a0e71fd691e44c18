/- The law on what any octets and frames tell: where the frame may not be. -/
import Derived.Test.YtplijhhjclfhaaaLawFTells
namespace Go.Proofs.Ytplijhhjclfhaaa
open Go.RowKit

set_option maxHeartbeats 4000000 in
set_option maxRecDepth 100000 in
theorem ftells_no (k ch : Int) (x z : Int) (y : UInt8) (A A' : Option Addr) (b raw : List UInt8) (c c' B : Nat) (w : World) (hl : Lies w B A (B8 b)) (hr : Lies w B A' (B8 raw)) (hB : B ≤ w.heap.size) (h1 : b.length ≤ 5000) (h2 : raw.length ≤ 5000) (hrc : raw.length ≤ c') (hrm : c' ≤ maxLen) (h : frameOk k ch b.length = false) :
    Calls Try.prog 6 #[.slice A' raw.length c', .agg #[.int .i64 k, .int .i64 ch, .slice A b.length c], .int .i64 x, .int .u8 (y.toNat : Int), .int .i64 z] w fun e w' => e = .returned (.bool true) ∧ Below w.heap.size w w' := by
  have h1' : (b.length : Int) ≤ 5000 := by omega
  have h2' : (raw.length : Int) ≤ 5000 := by omega
  obtain ⟨wa, hwa⟩ : ∃ wa, wa = w.alloc (.cells #[.int .i64 k, .int .i64 ch, .slice A b.length c] 37) := ⟨_, rfl⟩
  have hb0 : Below w.heap.size w wa := by rw [hwa]; exact (Below.refl _ _).alloc (Nat.le_refl _) _
  have B0 := Lib.hid hb0
  have HL := Lib.hid (hl.below (hb0.mono hB))
  have HR := Lib.hid (hr.below (hb0.mono hB))
  have W0 : Hid (Whole wa w.heap.size 37 #[.int .i64 k, .int .i64 ch, .slice A b.length c]) := Lib.hid (by rw [hwa]; exact Whole.new _ _ _)
  have hsz : wa.heap.size = w.heap.size + 1 := by rw [hwa]; simp
  obtain ⟨wb, hwb⟩ : ∃ wb, wb = wa.alloc (.cells #[.int .u8 5] 5) := ⟨_, rfl⟩
  have hbb : Below wa.heap.size wa wb := by rw [hwb]; exact (Below.refl _ _).alloc (Nat.le_refl _) _
  have hszb : wb.heap.size = w.heap.size + 2 := by rw [hwb]; simp; omega
  have L5 : Hid (Lies wb (w.heap.size + 2) (some ⟨w.heap.size + 1, 0, none⟩) (B8 [5])) := Lib.hid (by
    have h := Lies.one wa 5 (.int .u8 5)
    rw [← hwb, hsz] at h
    exact h)
  have Bb := Lib.hid (B0.out.trans (hbb.mono (by omega)))
  have Wb := Lib.hid (W0.out.below hbb (by omega))
  have HLb := Lib.hid (HL.out.below (hbb.mono (by omega)))
  have HRb := Lib.hid (HR.out.below (hbb.mono (by omega)))
  have SZ := Lib.hid hszb
  have HWA := Lib.hid hwa
  have HWB := Lib.hid hwb
  have HH := Lib.hid h
  have k0 : wb.cell? ⟨w.heap.size, 0, none⟩ = some (.int .i64 k) := Wb.out.cell 0
  have k1 : wb.cell? ⟨w.heap.size, 1, none⟩ = some (.int .i64 ch) := Wb.out.cell 1
  have k2 : wb.cell? ⟨w.heap.size, 2, none⟩ = some (.slice A b.length c) := Wb.out.cell 2
  rw [hwb, hwa] at k0 k1 k2
  clear hl hr h hb0 hbb hwa hwb hsz hszb
  go_enter Try.func6, Try.ntmps6
  go_wp2_with fail
  rw [← HWA.out, ← HWB.out]
  clear k0 k1 k2
  refine (fappend_at (some ⟨w.heap.size + 1, 0, none⟩) 1 1 [5] (w.heap.size + 2) k ch A b.length b c _ false [5] rfl L5.out (by rw [SZ.out]; exact Nat.le_refl _) (by simp) rfl (HLb.out.more (by omega)) (by unfold maxLen; omega) HH.out (by unfold fappB; rw [HH.out]; rfl)).mono ?_
  rintro e w2 ⟨v2, rfl, hown, hb⟩
  obtain ⟨A2, c2, rfl, hc2, hm2⟩ := own_form hown
  rw [SZ.out] at hb
  have z2 := hb.size
  rw [SZ.out] at z2
  have B2 := Lib.hid (Bb.out.trans (hb.mono (by omega)))
  have W2 := Lib.hid (Wb.out.below hb (by omega))
  have L2 := Lib.hid (Lies.own hown (Nat.le_refl _))
  have LB2 := Lib.hid (HLb.out.below (hb.mono (by omega)))
  have LR2 := Lib.hid (HRb.out.below (hb.mono (by omega)))
  clear hown hb
  have k0 : w2.cell? ⟨w.heap.size, 0, none⟩ = some (.int .i64 k) := W2.out.cell 0
  have k1 : w2.cell? ⟨w.heap.size, 1, none⟩ = some (.int .i64 ch) := W2.out.cell 1
  have k2 : w2.cell? ⟨w.heap.size, 2, none⟩ = some (.slice A b.length c) := W2.out.cell 2
  go_wp2_with fail
  refine (rframeok_any k ch A b.length c false _ (by unfold maxLen; omega) HH.out.symm).mono ?_
  rintro e w3 ⟨rfl, hb⟩
  have z3 := hb.size
  have B3 := Lib.hid (B2.out.trans (hb.mono (by omega)))
  have W3 := Lib.hid (W2.out.below hb W2.out.lt)
  have L3 := Lib.hid (L2.out.below hb)
  have LB3 := Lib.hid (LB2.out.below (hb.mono (by omega)))
  have LR3 := Lib.hid (LR2.out.below (hb.mono (by omega)))
  clear hb k0 k1 k2
  obtain ⟨w3a, hw3a⟩ : ∃ w3a, w3a = w3.alloc (.cells #[.int .u8 5] 5) := ⟨_, rfl⟩
  have hba : Below w3.heap.size w3 w3a := by rw [hw3a]; exact (Below.refl _ _).alloc (Nat.le_refl _) _
  have hsza : w3a.heap.size = w3.heap.size + 1 := by rw [hw3a]; simp
  have L5a : Hid (Lies w3a (w3.heap.size + 1) (some ⟨w3.heap.size, 0, none⟩) (B8 [5])) := Lib.hid (by rw [hw3a]; exact Lies.one w3 5 (.int .u8 5))
  have B3a := Lib.hid (B3.out.trans (hba.mono (by omega)))
  have W3a := Lib.hid (W3.out.below hba W3.out.lt)
  have L3a := Lib.hid (L3.out.below (hba.mono (by omega)))
  have LB3a := Lib.hid (LB3.out.below (hba.mono (by omega)))
  have LR3a := Lib.hid (LR3.out.below (hba.mono (by omega)))
  have SZa := Lib.hid hsza
  have HW3A := Lib.hid hw3a
  have cvA : (convert 22 9 (.slice A2 1 c2)).run Try.prog w3a = .ok (.string ⟨#[5]⟩) w3a := run_octets_string (P := Try.prog) 22 9 5 Try.underlying22 Try.underlying5 Try.underlying9 L3a.out c2
  have cvB : (convert 22 9 (.slice (some ⟨w3.heap.size, 0, none⟩) 1 1)).run Try.prog w3a = .ok (.string ⟨#[5]⟩) w3a := run_octets_string (P := Try.prog) 22 9 5 Try.underlying22 Try.underlying5 Try.underlying9 L5a.out 1
  rw [hw3a] at cvA cvB
  clear hba hw3a
  go_upto_region 10 with fail
  rw [← HW3A.out]
  obtain ⟨i0, hi, hz0, hz1, hz2⟩ := info_parts u8_info
  have HI := Lib.hid hi
  have G0 := Lib.hid hz0
  have G1 := Lib.hid hz1
  have G2 := Lib.hid hz2
  obtain ⟨wz, hwz⟩ : ∃ wz, wz = w3a.alloc (.cells #[] 5) := ⟨_, rfl⟩
  have hbz : Below w3a.heap.size w3a wz := by rw [hwz]; exact (Below.refl _ _).alloc (Nat.le_refl _) _
  have hzx := hbz.size
  have z3a := B3a.out.size
  have BZ := Lib.hid (B3a.out.trans (hbz.mono z3a))
  have LRx := Lib.hid (LR3a.out.below (hbz.mono (by omega)))
  have hzz := BZ.out.size
  have HWZ := Lib.hid hwz
  clear cvA cvB hi hz0 hz1 hz2 hbz hwz
  go_upto_region 11 with fail
  rw [← HWZ.out]
  go_wp2_with fail
  go_loopw [16] (fun i wr => ∃ j : Nat, j ≤ 4 ∧ i = .int .i64 j ∧ Below wz.heap.size wz wr) (fun i _ => 4 - (intOf i).toNat)
  case atStart => exact ⟨0, by omega, rfl, Below.refl _ _⟩
  case round =>
    obtain ⟨j, hj, rfl, hbr⟩ := hrel
    have BR := Lib.hid hbr
    have hzr := hbr.size
    clear hbr
    have hj4 : j = 0 ∨ j = 1 ∨ j = 2 ∨ j = 3 ∨ j = 4 := by omega
    clear hj
    by_cases hj3 : j = 4
    · subst hj3
      clear hj4
      go_wp2_with fail
      refine (awake3_any _).mono ?_
      rintro e w9 ⟨rfl, hb9⟩
      have HB9 := Lib.hid ((BZ.out.trans (BR.out.mono hzz)).trans (hb9.mono (by omega)))
      clear hb9
      go_wp2_with fail
      go_ret
      exact ⟨rfl, HB9.out⟩
    · have hlt3 : (j : Int) < 4 := by omega
      go_upto_region 16 with fail
      go_cut [17] from 75 to 124 (fun s17 wx => FAsked wr s17 wx)
      case first =>
        have hMz : (bits .and .i64 z 65535).tmod 1 = 0 := Int.tmod_one _
        have hw1 : IntKind.i64.wrap 1 = 1 := IntWalk.i64_in _ (by omega)
        obtain ⟨wd, hwd⟩ : ∃ wd, wd = (wr.alloc (.cells #[] 5)).drew := ⟨_, rfl⟩
        have hbd : Below wr.heap.size wr wd := by rw [hwd]; exact ((Below.refl _ _).alloc (Nat.le_refl _) _).drew
        have HOR : Hid (wd.ownsRow wr.heap.size 5 1 (.slice (some ⟨wr.heap.size, 0, none⟩) 0 0) 0 []) := Lib.hid (by rw [hwd]; exact World.ownsRow_made wr #[] 0 (Nat.le_refl _) (Nat.zero_le _) rfl)
        have zd := hbd.size
        have BD := Lib.hid hbd
        have HWD := Lib.hid hwd
        have hs2 : 0 + raw.length ≤ 140737488355328 := by omega
        clear hbd hwd
        rcases hj4 with rfl | rfl | rfl | rfl | rfl
        · go_region_law (first
            | (rw [← HWD.out]; refine step_append_cells rfl _ _ 22 rfl wr.heap.size 5 i0 (.int .u8 0) 1 1 Try.underlying22 HI.out G0.out G1.out G2.out rfl (by omega) (.slice (some ⟨wr.heap.size, 0, none⟩) 0 0) 0 [] (by rfl) HOR.out 0 (some ⟨w3.heap.size, 0, none⟩) 0 0 [] (by rfl) (Lies.empty _ 0 _) rfl (by intro u hu; cases hu) (by decide) (by decide) zd ?_; intro v7 w7 hown7 hb7; rw [List.nil_append] at hown7; have HO7 := Lib.hid hown7; have B7 := Lib.hid (BD.out.trans hb7); clear hown7 hb7)
            | (refine step_append_cells rfl _ _ 22 rfl wr.heap.size 5 i0 (.int .u8 0) 1 1 Try.underlying22 HI.out G0.out G1.out G2.out rfl (by omega) _ 0 [] (by rfl) HO7.out B A' raw.length c' (B8 raw) (by rfl) ((LRx.out.below (BR.out.mono (by omega))).below (B7.out.mono (by omega))) (B8_len1 raw) (B8_one raw) (room63 hs2) (room1 hs2) B7.out.size ?_; intro v8 w8 hown8 hb8; rw [List.nil_append, Nat.zero_add] at hown8; obtain ⟨A8, c8, rfl, hc8, hm8⟩ := own_form hown8; have L8 := Lib.hid (Lies.own hown8 (Nat.le_refl _)); have BW8 := Lib.hid (B7.out.trans hb8); clear hown8 hb8))
          have D : Hid (∀ o : Obj, FAsked wr (.slice A' raw.length c') (w8.alloc o)) := Lib.hid (fun o => by
            have BO : Below wr.heap.size wr (w8.alloc o) := BW8.out.alloc BW8.out.size o
            have zo := BO.size
            exact ⟨A', raw, c', rfl, hrc, hrm, by omega, ((LRx.out.below (BR.out.mono (by omega))).below (BO.mono (by omega))).more (by omega), BO⟩)
          go_wp2_with fail
          go_meet
          exact D.out _
        · go_region_law (first
            | (rw [← HWD.out]; refine step_append_cells rfl _ _ 22 rfl wr.heap.size 5 i0 (.int .u8 0) 1 1 Try.underlying22 HI.out G0.out G1.out G2.out rfl (by omega) (.slice (some ⟨wr.heap.size, 0, none⟩) 0 0) 0 [] (by rfl) HOR.out 0 (some ⟨w3.heap.size, 0, none⟩) 0 0 [] (by rfl) (Lies.empty _ 0 _) rfl (by intro u hu; cases hu) (by decide) (by decide) zd ?_; intro v7 w7 hown7 hb7; rw [List.nil_append] at hown7; have HO7 := Lib.hid hown7; have B7 := Lib.hid (BD.out.trans hb7); clear hown7 hb7)
            | (refine step_append_cells rfl _ _ 22 rfl wr.heap.size 5 i0 (.int .u8 0) 1 1 Try.underlying22 HI.out G0.out G1.out G2.out rfl (by omega) _ 0 [] (by rfl) HO7.out B A' raw.length c' (B8 raw) (by rfl) ((LRx.out.below (BR.out.mono (by omega))).below (B7.out.mono (by omega))) (B8_len1 raw) (B8_one raw) (room63 hs2) (room1 hs2) B7.out.size ?_; intro v8 w8 hown8 hb8; rw [List.nil_append, Nat.zero_add] at hown8; obtain ⟨A8, c8, rfl, hc8, hm8⟩ := own_form hown8; have L8 := Lib.hid (Lies.own hown8 (Nat.le_refl _)); have BW8 := Lib.hid (B7.out.trans hb8); clear hown8 hb8))
          have D : Hid (∀ o : Obj, FAsked wr (.slice (some ⟨w3.heap.size + 1, 0, none⟩) 0 0) (w8.alloc o)) := Lib.hid (fun o => by
            have BO : Below wr.heap.size wr (w8.alloc o) := BW8.out.alloc BW8.out.size o
            have zo := BO.size
            exact ⟨some ⟨w3.heap.size + 1, 0, none⟩, [], 0, rfl, Nat.le_refl _, Nat.zero_le _, Nat.zero_le _, Lies.empty _ _ _, BO⟩)
          go_wp2_with fail
          go_meet
          exact D.out _
        · go_region_law (first
            | (rw [← HWD.out]; refine step_append_cells rfl _ _ 22 rfl wr.heap.size 5 i0 (.int .u8 0) 1 1 Try.underlying22 HI.out G0.out G1.out G2.out rfl (by omega) (.slice (some ⟨wr.heap.size, 0, none⟩) 0 0) 0 [] (by rfl) HOR.out 0 (some ⟨w3.heap.size, 0, none⟩) 0 0 [] (by rfl) (Lies.empty _ 0 _) rfl (by intro u hu; cases hu) (by decide) (by decide) zd ?_; intro v7 w7 hown7 hb7; rw [List.nil_append] at hown7; have HO7 := Lib.hid hown7; have B7 := Lib.hid (BD.out.trans hb7); clear hown7 hb7)
            | (refine step_append_cells rfl _ _ 22 rfl wr.heap.size 5 i0 (.int .u8 0) 1 1 Try.underlying22 HI.out G0.out G1.out G2.out rfl (by omega) _ 0 [] (by rfl) HO7.out B A' raw.length c' (B8 raw) (by rfl) ((LRx.out.below (BR.out.mono (by omega))).below (B7.out.mono (by omega))) (B8_len1 raw) (B8_one raw) (room63 hs2) (room1 hs2) B7.out.size ?_; intro v8 w8 hown8 hb8; rw [List.nil_append, Nat.zero_add] at hown8; obtain ⟨A8, c8, rfl, hc8, hm8⟩ := own_form hown8; have L8 := Lib.hid (Lies.own hown8 (Nat.le_refl _)); have BW8 := Lib.hid (B7.out.trans hb8); clear hown8 hb8))
          have D : Hid (∀ o : Obj, FAsked wr (.slice (some ⟨w3.heap.size, 0, none⟩) 0 0) (w8.alloc o)) := Lib.hid (fun o => by
            have BO : Below wr.heap.size wr (w8.alloc o) := BW8.out.alloc BW8.out.size o
            have zo := BO.size
            exact ⟨some ⟨w3.heap.size, 0, none⟩, [], 0, rfl, Nat.le_refl _, Nat.zero_le _, Nat.zero_le _, Lies.empty _ _ _, BO⟩)
          go_wp2_with fail
          go_meet
          exact D.out _
        · go_region_law (first
            | (rw [← HWD.out]; refine step_append_cells rfl _ _ 22 rfl wr.heap.size 5 i0 (.int .u8 0) 1 1 Try.underlying22 HI.out G0.out G1.out G2.out rfl (by omega) (.slice (some ⟨wr.heap.size, 0, none⟩) 0 0) 0 [] (by rfl) HOR.out 0 (some ⟨w3.heap.size, 0, none⟩) 0 0 [] (by rfl) (Lies.empty _ 0 _) rfl (by intro u hu; cases hu) (by decide) (by decide) zd ?_; intro v7 w7 hown7 hb7; rw [List.nil_append] at hown7; have HO7 := Lib.hid hown7; have B7 := Lib.hid (BD.out.trans hb7); clear hown7 hb7)
            | (refine step_append_cells rfl _ _ 22 rfl wr.heap.size 5 i0 (.int .u8 0) 1 1 Try.underlying22 HI.out G0.out G1.out G2.out rfl (by omega) _ 0 [] (by rfl) HO7.out B A' raw.length c' (B8 raw) (by rfl) ((LRx.out.below (BR.out.mono (by omega))).below (B7.out.mono (by omega))) (B8_len1 raw) (B8_one raw) (room63 hs2) (room1 hs2) B7.out.size ?_; intro v8 w8 hown8 hb8; rw [List.nil_append, Nat.zero_add] at hown8; obtain ⟨A8, c8, rfl, hc8, hm8⟩ := own_form hown8; have L8 := Lib.hid (Lies.own hown8 (Nat.le_refl _)); have BW8 := Lib.hid (B7.out.trans hb8); clear hown8 hb8))
          have D : Hid (∀ o : Obj, FAsked wr (.slice A8 raw.length c8) (w8.alloc o)) := Lib.hid (fun o => by
            have BO : Below wr.heap.size wr (w8.alloc o) := BW8.out.alloc BW8.out.size o
            have zo := BO.size
            exact ⟨A8, raw, c8, rfl, hc8, hm8, by omega, (L8.out.alloc (Nat.le_refl _) o).more (by simp), BO⟩)
          go_wp2_with fail
          go_meet
          exact D.out _
        · exact absurd rfl hj3
      case rest =>
        obtain ⟨Ay, Y, cy, rfl, hy1, hy2, hy3, hy4, hy5⟩ := hcut
        have BC := Lib.hid (BR.out.trans (hy5.mono hzr))
        have hzc := hy5.size
        have LY := Lib.hid hy4
        clear hj4 hj3 hy4 hy5
        go_wp2_with fail
        cases hP : frameP Y with
        | more =>
          refine (fparse_more Ay cy _ Y wc.heap.size _ rfl LY.out (Nat.le_refl _) hy1 hy2 hP).mono ?_
          rintro e w7 ⟨rfl, hb7⟩
          obtain ⟨w7a, hw7a⟩ : ∃ w7a, w7a = w7.alloc (.cells #[.int .i64 0, .int .i64 0, .slice none 0 0] 37) := ⟨_, rfl⟩
          have hba : Below w7.heap.size w7 w7a := by rw [hw7a]; exact (Below.refl _ _).alloc (Nat.le_refl _) _
          have hsa : w7a.heap.size = w7.heap.size + 1 := by rw [hw7a]; simp
          have hz7 := hb7.size
          have hbc := hb7.trans (hba.mono hz7)
          have LY7 := Lib.hid (LY.out.below hbc)
          have BC7 := Lib.hid (BC.out.trans (hbc.mono (by omega)))
          have WG : Hid (Whole w7a w7.heap.size 37 #[.int .i64 0, .int .i64 0, .slice none 0 0]) := Lib.hid (by rw [hw7a]; exact Whole.new _ _ _)
          have HW7 := Lib.hid hw7a
          have HP := Lib.hid hP
          have HSA := Lib.hid hsa
          clear hb7 hba hbc hw7a hP hsa
          go_wp2_with fail
          rw [← HW7.out]
          refine (rframeof_more Ay cy _ Y wc.heap.size _ rfl LY7.out (by have := HSA.out; omega) hy1 hy2 (by omega) HP.out).mono ?_
          rintro e w8 ⟨rfl, hb8⟩
          obtain ⟨w8a, hw8a⟩ : ∃ w8a, w8a = w8.alloc (.cells #[.int .i64 0, .int .i64 0, .slice none 0 0] 37) := ⟨_, rfl⟩
          have hba : Below w8.heap.size w8 w8a := by rw [hw8a]; exact (Below.refl _ _).alloc (Nat.le_refl _) _
          have hz8 := hb8.size
          have hbc := hb8.trans (hba.mono hz8)
          have BC8 := Lib.hid (BC7.out.trans (hbc.mono (by have := HSA.out; omega)))
          have WG8 := Lib.hid (WG.out.below hbc WG.out.lt)
          have WH : Hid (Whole w8a w8.heap.size 37 #[.int .i64 0, .int .i64 0, .slice none 0 0]) := Lib.hid (by rw [hw8a]; exact Whole.new _ _ _)
          have k0 : w8a.cell? ⟨w7.heap.size, 0, none⟩ = some (.int .i64 0) := WG8.out.cell 0
          have k1 : w8a.cell? ⟨w7.heap.size, 1, none⟩ = some (.int .i64 0) := WG8.out.cell 1
          have k2 : w8a.cell? ⟨w7.heap.size, 2, none⟩ = some (.slice none 0 0) := WG8.out.cell 2
          have q0 : w8a.cell? ⟨w8.heap.size, 0, none⟩ = some (.int .i64 0) := WH.out.cell 0
          have q1 : w8a.cell? ⟨w8.heap.size, 1, none⟩ = some (.int .i64 0) := WH.out.cell 1
          have q2 : w8a.cell? ⟨w8.heap.size, 2, none⟩ = some (.slice none 0 0) := WH.out.cell 2
          rw [hw8a] at k0 k1 k2 q0 q1 q2
          have HW8 := Lib.hid hw8a
          clear hb8 hba hbc hw8a
          go_wp2_with fail
          rw [← HW8.out]
          refine (fsame_any 0 0 0 0 none none [] [] 0 0 0 0 _ (Lies.empty _ _ _) (Lies.empty _ _ _) (Nat.zero_le _) (Nat.zero_le _)).mono ?_
          rintro e w9 ⟨rfl, hb9⟩
          rw [show SameF 0 0 0 0 [] [] = true from by unfold SameF; simp]
          have BC9 := Lib.hid (BC8.out.trans (hb9.mono BC8.out.size))
          clear hb9 k0 k1 k2 q0 q1 q2
          go_wp2_with fail
          go_roundw
          case rel => exact ⟨j + 1, by omega, by go_num, BC9.out⟩
          case measure => simp [intOf]; omega
        | bad =>
          refine (fparse_bad Ay cy _ Y wc.heap.size _ rfl LY.out (Nat.le_refl _) hy1 hy2 hP).mono ?_
          rintro e w7 ⟨rfl, hb7⟩
          obtain ⟨w7a, hw7a⟩ : ∃ w7a, w7a = w7.alloc (.cells #[.int .i64 0, .int .i64 0, .slice none 0 0] 37) := ⟨_, rfl⟩
          have hba : Below w7.heap.size w7 w7a := by rw [hw7a]; exact (Below.refl _ _).alloc (Nat.le_refl _) _
          have hsa : w7a.heap.size = w7.heap.size + 1 := by rw [hw7a]; simp
          have hz7 := hb7.size
          have hbc := hb7.trans (hba.mono hz7)
          have LY7 := Lib.hid (LY.out.below hbc)
          have BC7 := Lib.hid (BC.out.trans (hbc.mono (by omega)))
          have WG : Hid (Whole w7a w7.heap.size 37 #[.int .i64 0, .int .i64 0, .slice none 0 0]) := Lib.hid (by rw [hw7a]; exact Whole.new _ _ _)
          have HW7 := Lib.hid hw7a
          have HP := Lib.hid hP
          have HSA := Lib.hid hsa
          clear hb7 hba hbc hw7a hP hsa
          go_wp2_with fail
          rw [← HW7.out]
          refine (rframeof_bad Ay cy _ Y wc.heap.size _ rfl LY7.out (by have := HSA.out; omega) hy1 hy2 (by omega) HP.out).mono ?_
          rintro e w8 ⟨rfl, hb8⟩
          obtain ⟨w8a, hw8a⟩ : ∃ w8a, w8a = w8.alloc (.cells #[.int .i64 0, .int .i64 0, .slice none 0 0] 37) := ⟨_, rfl⟩
          have hba : Below w8.heap.size w8 w8a := by rw [hw8a]; exact (Below.refl _ _).alloc (Nat.le_refl _) _
          have hz8 := hb8.size
          have hbc := hb8.trans (hba.mono hz8)
          have BC8 := Lib.hid (BC7.out.trans (hbc.mono (by have := HSA.out; omega)))
          have WG8 := Lib.hid (WG.out.below hbc WG.out.lt)
          have WH : Hid (Whole w8a w8.heap.size 37 #[.int .i64 0, .int .i64 0, .slice none 0 0]) := Lib.hid (by rw [hw8a]; exact Whole.new _ _ _)
          have k0 : w8a.cell? ⟨w7.heap.size, 0, none⟩ = some (.int .i64 0) := WG8.out.cell 0
          have k1 : w8a.cell? ⟨w7.heap.size, 1, none⟩ = some (.int .i64 0) := WG8.out.cell 1
          have k2 : w8a.cell? ⟨w7.heap.size, 2, none⟩ = some (.slice none 0 0) := WG8.out.cell 2
          have q0 : w8a.cell? ⟨w8.heap.size, 0, none⟩ = some (.int .i64 0) := WH.out.cell 0
          have q1 : w8a.cell? ⟨w8.heap.size, 1, none⟩ = some (.int .i64 0) := WH.out.cell 1
          have q2 : w8a.cell? ⟨w8.heap.size, 2, none⟩ = some (.slice none 0 0) := WH.out.cell 2
          rw [hw8a] at k0 k1 k2 q0 q1 q2
          have HW8 := Lib.hid hw8a
          clear hb8 hba hbc hw8a
          go_wp2_with fail
          rw [← HW8.out]
          refine (fsame_any 0 0 0 0 none none [] [] 0 0 0 0 _ (Lies.empty _ _ _) (Lies.empty _ _ _) (Nat.zero_le _) (Nat.zero_le _)).mono ?_
          rintro e w9 ⟨rfl, hb9⟩
          rw [show SameF 0 0 0 0 [] [] = true from by unfold SameF; simp]
          have BC9 := Lib.hid (BC8.out.trans (hb9.mono BC8.out.size))
          clear hb9 k0 k1 k2 q0 q1 q2
          go_wp2_with fail
          go_roundw
          case rel => exact ⟨j + 1, by omega, by go_num, BC9.out⟩
          case measure => simp [intOf]; omega
        | ok kk cc t =>
          refine (fparse_ok Ay cy _ Y wc.heap.size _ kk cc t t.length rfl LY.out (Nat.le_refl _) hy1 hy2 hP rfl).mono ?_
          rintro e w7 ⟨A7, c7, rfl, hc7, hm7, hl7, hb7⟩
          obtain ⟨w7a, hw7a⟩ : ∃ w7a, w7a = w7.alloc (.cells #[.int .i64 kk, .int .i64 cc, .slice A7 t.length c7] 37) := ⟨_, rfl⟩
          have hba : Below w7.heap.size w7 w7a := by rw [hw7a]; exact (Below.refl _ _).alloc (Nat.le_refl _) _
          have hsa : w7a.heap.size = w7.heap.size + 1 := by rw [hw7a]; simp
          have hz7 := hb7.size
          have hbc := hb7.trans (hba.mono hz7)
          have LY7 := Lib.hid (LY.out.below hbc)
          have BC7 := Lib.hid (BC.out.trans (hbc.mono (by omega)))
          have LT7 := Lib.hid (hl7.below hba)
          have WG : Hid (Whole w7a w7.heap.size 37 #[.int .i64 kk, .int .i64 cc, .slice A7 t.length c7]) := Lib.hid (by rw [hw7a]; exact Whole.new _ _ _)
          have HW7 := Lib.hid hw7a
          have HP := Lib.hid hP
          have HSA := Lib.hid hsa
          clear hb7 hba hbc hw7a hP hsa hl7
          go_wp2_with fail
          rw [← HW7.out]
          refine (rframeof_ok Ay cy _ Y wc.heap.size _ kk cc t t.length rfl LY7.out (by have := HSA.out; omega) hy1 hy2 (by omega) HP.out rfl).mono ?_
          rintro e w8 ⟨A8, c8, rfl, hc8, hm8, hl8, hb8⟩
          obtain ⟨w8a, hw8a⟩ : ∃ w8a, w8a = w8.alloc (.cells #[.int .i64 kk, .int .i64 cc, .slice A8 t.length c8] 37) := ⟨_, rfl⟩
          have hba : Below w8.heap.size w8 w8a := by rw [hw8a]; exact (Below.refl _ _).alloc (Nat.le_refl _) _
          have hz8 := hb8.size
          have hbc := hb8.trans (hba.mono hz8)
          have BC8 := Lib.hid (BC7.out.trans (hbc.mono (by have := HSA.out; omega)))
          have WG8 := Lib.hid (WG.out.below hbc WG.out.lt)
          have LT78 := Lib.hid (LT7.out.below (hbc.mono (by have := HSA.out; omega)))
          have LT8 := Lib.hid (hl8.below hba)
          have z8a := hba.size
          have WH : Hid (Whole w8a w8.heap.size 37 #[.int .i64 kk, .int .i64 cc, .slice A8 t.length c8]) := Lib.hid (by rw [hw8a]; exact Whole.new _ _ _)
          have k0 : w8a.cell? ⟨w7.heap.size, 0, none⟩ = some (.int .i64 kk) := WG8.out.cell 0
          have k1 : w8a.cell? ⟨w7.heap.size, 1, none⟩ = some (.int .i64 cc) := WG8.out.cell 1
          have k2 : w8a.cell? ⟨w7.heap.size, 2, none⟩ = some (.slice A7 t.length c7) := WG8.out.cell 2
          have q0 : w8a.cell? ⟨w8.heap.size, 0, none⟩ = some (.int .i64 kk) := WH.out.cell 0
          have q1 : w8a.cell? ⟨w8.heap.size, 1, none⟩ = some (.int .i64 cc) := WH.out.cell 1
          have q2 : w8a.cell? ⟨w8.heap.size, 2, none⟩ = some (.slice A8 t.length c8) := WH.out.cell 2
          rw [hw8a] at k0 k1 k2 q0 q1 q2
          have HW8 := Lib.hid hw8a
          clear hb8 hba hbc hw8a hl8
          go_wp2_with fail
          rw [← HW8.out]
          refine (fsame_any kk kk cc cc A7 A8 t t c7 c8 w7.heap.size w8.heap.size _ LT78.out LT8.out (by have := HSA.out; omega) z8a).mono ?_
          rintro e w9 ⟨rfl, hb9⟩
          rw [show SameF kk kk cc cc t t = true from by unfold SameF; simp]
          have BC9 := Lib.hid (BC8.out.trans (hb9.mono BC8.out.size))
          clear hb9 k0 k1 k2 q0 q1 q2
          go_wp2_with fail
          go_roundw
          case rel => exact ⟨j + 1, by omega, by go_num, BC9.out⟩
          case measure => simp [intOf]; omega
end Go.Proofs.Ytplijhhjclfhaaa
