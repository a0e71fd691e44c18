/- The law on what any octets and frames tell: its walk. -/
import Derived.Test.YtplijhhjclfhaaaFramQ
import Derived.Test.YtplijhhjclfhaaaWords5
import Derived.Test.YtplijhhjclfhaaaStep
import Derived.Deep.DeepCutAuto
import Derived.BigRegion
namespace Go.Proofs.Ytplijhhjclfhaaa
open Go.RowKit

set_option maxHeartbeats 1000000 in
set_option maxRecDepth 100000 in
theorem ftells_early (k ch x z : Int) (y : UInt8) (A A' : Option Addr) (m c m' c' : Nat) (w : World) (h1 : m ≤ maxLen) (h2 : m' ≤ maxLen) (h : 5000 < m' ∨ (m' ≤ 5000 ∧ 5000 < m)) :
    Calls Try.prog 6 #[.slice A' m' c', .agg #[.int .i64 k, .int .i64 ch, .slice A m c], .int .i64 x, .int .u8 (y.toNat : Int), .int .i64 z] w fun e w' => e = .returned (.bool true) ∧ Below w.heap.size w w' := by
  unfold maxLen at h1 h2
  have B0 : Hid (Below w.heap.size w (w.alloc (.cells #[.int .i64 k, .int .i64 ch, .slice A m c] 37))) := Lib.hid ((Below.refl _ _).alloc (Nat.le_refl _) _)
  have hc : (5000 : Int) < m' ∨ ((m' : Int) ≤ 5000 ∧ (5000 : Int) < m) := by omega
  clear h
  rcases hc with h | ⟨h, h'⟩
  all_goals
    go_enter Try.func6, Try.ntmps6
    go_wp2_with fail
    refine (awake3_any _).mono ?_
    rintro e w2 ⟨rfl, hb⟩
    have B2 := Lib.hid (B0.out.trans (hb.mono (by simp)))
    clear hb
    go_wp2_with fail
    go_ret
    exact ⟨rfl, B2.out⟩

/-- behind the turning: an owned row's octets, one of them turned or none; nothing older has turned -/
def FTurned (B : Nat) (w0 : World) (T : List UInt8) (A : Option Addr) (w : World) : Prop := ∃ X, X.length = T.length ∧ Below B w0 w ∧ Lies w w.heap.size A (B8 X)
/-- octets that are asked -/
def FAsked (w0 : World) (v : Value) (w : World) : Prop := ∃ A Y c, v = .slice A Y.length c ∧ Y.length ≤ c ∧ c ≤ maxLen ∧ Y.length ≤ 70368744177664 ∧ Lies w w.heap.size A (B8 Y) ∧ Below w0.heap.size w0 w

set_option maxHeartbeats 4000000 in
set_option maxRecDepth 100000 in
theorem ftells_yes (k ch : Nat) (x z : Int) (y : UInt8) (A A' : Option Addr) (b raw : List UInt8) (c c' B : Nat) (w : World) (hl : Lies w B A (B8 b)) (hr : Lies w B A' (B8 raw)) (hB : B ≤ w.heap.size) (h1 : b.length ≤ 5000) (h2 : raw.length ≤ 5000) (hrc : raw.length ≤ c') (hrm : c' ≤ maxLen) (h : frameOk k ch b.length = true) :
    Calls Try.prog 6 #[.slice A' raw.length c', .agg #[.int .i64 k, .int .i64 ch, .slice A b.length c], .int .i64 x, .int .u8 (y.toNat : Int), .int .i64 z] w fun e w' => e = .returned (.bool true) ∧ Below w.heap.size w w' := by
  have h1' : (b.length : Int) ≤ 5000 := by omega
  have h2' : (raw.length : Int) ≤ 5000 := by omega
  have hkc : k ≤ 8 ∧ ch ≤ 65535 := by
    unfold frameOk fkind at h
    simp only [Bool.and_eq_true, decide_eq_true_eq] at h
    omega
  obtain ⟨hk8, hch⟩ := hkc
  obtain ⟨wa, hwa⟩ : ∃ wa, wa = w.alloc (.cells #[.int .i64 k, .int .i64 ch, .slice A b.length c] 37) := ⟨_, rfl⟩
  have hb0 : Below w.heap.size w wa := by rw [hwa]; exact (Below.refl _ _).alloc (Nat.le_refl _) _
  have B0 := Lib.hid hb0
  have HL := Lib.hid (hl.below (hb0.mono hB))
  have HR := Lib.hid (hr.below (hb0.mono hB))
  have W0 : Hid (Whole wa w.heap.size 37 #[.int .i64 k, .int .i64 ch, .slice A b.length c]) := Lib.hid (by rw [hwa]; exact Whole.new _ _ _)
  have hsz : wa.heap.size = w.heap.size + 1 := by rw [hwa]; simp
  obtain ⟨wb, hwb⟩ : ∃ wb, wb = wa.alloc (.cells #[.int .u8 5] 5) := ⟨_, rfl⟩
  have hbb : Below wa.heap.size wa wb := by rw [hwb]; exact (Below.refl _ _).alloc (Nat.le_refl _) _
  have hszb : wb.heap.size = w.heap.size + 2 := by rw [hwb]; simp; omega
  have L5 : Hid (Lies wb (w.heap.size + 2) (some ⟨w.heap.size + 1, 0, none⟩) (B8 [5])) := Lib.hid (by
    have h := Lies.one wa 5 (.int .u8 5)
    rw [← hwb, hsz] at h
    exact h)
  have Bb := Lib.hid (B0.out.trans (hbb.mono (by omega)))
  have Wb := Lib.hid (W0.out.below hbb (by omega))
  have HLb := Lib.hid (HL.out.below (hbb.mono (by omega)))
  have HRb := Lib.hid (HR.out.below (hbb.mono (by omega)))
  have SZ := Lib.hid hszb
  have HWA := Lib.hid hwa
  have HWB := Lib.hid hwb
  have HH := Lib.hid h
  obtain ⟨T, hT⟩ : ∃ T, T = frameB k ch b := ⟨_, rfl⟩
  have hTl : T.length = b.length + 8 := by rw [hT, frameB_length]
  obtain ⟨V, hV⟩ : ∃ V, V = [5] ++ T := ⟨_, rfl⟩
  have hVl : V.length = T.length + 1 := by rw [hV]; simp
  have HT := Lib.hid hT
  have HV := Lib.hid hV
  have HTL := Lib.hid hTl
  have HVL := Lib.hid hVl
  have k0 : wb.cell? ⟨w.heap.size, 0, none⟩ = some (.int .i64 k) := Wb.out.cell 0
  have k1 : wb.cell? ⟨w.heap.size, 1, none⟩ = some (.int .i64 ch) := Wb.out.cell 1
  have k2 : wb.cell? ⟨w.heap.size, 2, none⟩ = some (.slice A b.length c) := Wb.out.cell 2
  rw [hwb, hwa] at k0 k1 k2
  clear hl hr h hb0 hbb hwa hwb hsz hszb hT hTl hV hVl
  go_enter Try.func6, Try.ntmps6
  go_wp2_with fail
  rw [← HWA.out, ← HWB.out]
  clear k0 k1 k2
  refine (fappend_at (some ⟨w.heap.size + 1, 0, none⟩) 1 1 [5] (w.heap.size + 2) k ch A b.length b c _ true V rfl L5.out (by rw [SZ.out]; exact Nat.le_refl _) (by simp) rfl (HLb.out.more (by omega)) (by unfold maxLen; omega) HH.out (by unfold fappB; rw [HH.out, HV.out, HT.out]; rfl)).mono ?_
  rintro e w2 ⟨v2, rfl, hown, hb⟩
  obtain ⟨A2, c2, rfl, hc2, hm2⟩ := own_form hown
  rw [SZ.out] at hb
  have z2 := hb.size
  rw [SZ.out] at z2
  have B2 := Lib.hid (Bb.out.trans (hb.mono (by omega)))
  have W2 := Lib.hid (Wb.out.below hb (by omega))
  have L2 := Lib.hid (Lies.own hown (Nat.le_refl _))
  have LB2 := Lib.hid (HLb.out.below (hb.mono (by omega)))
  have LR2 := Lib.hid (HRb.out.below (hb.mono (by omega)))
  clear hown hb
  have k0 : w2.cell? ⟨w.heap.size, 0, none⟩ = some (.int .i64 k) := W2.out.cell 0
  have k1 : w2.cell? ⟨w.heap.size, 1, none⟩ = some (.int .i64 ch) := W2.out.cell 1
  have k2 : w2.cell? ⟨w.heap.size, 2, none⟩ = some (.slice A b.length c) := W2.out.cell 2
  go_wp2_with fail
  refine (rframeok_any k ch A b.length c true _ (by unfold maxLen; omega) HH.out.symm).mono ?_
  rintro e w3 ⟨rfl, hb⟩
  have z3 := hb.size
  have B3 := Lib.hid (B2.out.trans (hb.mono (by omega)))
  have W3 := Lib.hid (W2.out.below hb W2.out.lt)
  have L3 := Lib.hid (L2.out.below hb)
  have LB3 := Lib.hid (LB2.out.below (hb.mono (by omega)))
  have LR3 := Lib.hid (LR2.out.below (hb.mono (by omega)))
  clear hb k0 k1 k2
  obtain ⟨w3a, hw3a⟩ : ∃ w3a, w3a = w3.alloc (.cells #[.int .u8 5] 5) := ⟨_, rfl⟩
  have hba : Below w3.heap.size w3 w3a := by rw [hw3a]; exact (Below.refl _ _).alloc (Nat.le_refl _) _
  have hsza : w3a.heap.size = w3.heap.size + 1 := by rw [hw3a]; simp
  have L5a : Hid (Lies w3a (w3.heap.size + 1) (some ⟨w3.heap.size, 0, none⟩) (B8 [5])) := Lib.hid (by rw [hw3a]; exact Lies.one w3 5 (.int .u8 5))
  have B3a := Lib.hid (B3.out.trans (hba.mono (by omega)))
  have W3a := Lib.hid (W3.out.below hba W3.out.lt)
  have L3a := Lib.hid (L3.out.below (hba.mono (by omega)))
  have LB3a := Lib.hid (LB3.out.below (hba.mono (by omega)))
  have LR3a := Lib.hid (LR3.out.below (hba.mono (by omega)))
  have SZa := Lib.hid hsza
  have HW3A := Lib.hid hw3a
  have k0 : w3a.cell? ⟨w.heap.size, 0, none⟩ = some (.int .i64 k) := W3a.out.cell 0
  have k1 : w3a.cell? ⟨w.heap.size, 1, none⟩ = some (.int .i64 ch) := W3a.out.cell 1
  have k2 : w3a.cell? ⟨w.heap.size, 2, none⟩ = some (.slice A b.length c) := W3a.out.cell 2
  rw [hw3a] at k0 k1 k2
  clear hba hsza hw3a
  go_wp2_with fail
  rw [← HW3A.out]
  clear k0 k1 k2
  refine (rframe_any (some ⟨w3.heap.size, 0, none⟩) 1 1 [5] (w3.heap.size + 1) k ch A b c _ rfl L5a.out (by rw [SZa.out]; exact Nat.le_refl _) (by simp) (LB3a.out.more (by omega)) h1 hk8 hch).mono ?_
  rw [← HT.out, ← HV.out]
  rintro e w4 ⟨v4, rfl, hown, hb⟩
  rw [SZa.out] at hb
  have z4 := hb.size
  rw [SZa.out] at z4
  have hV0 : 0 < V.length := by have := HVL.out; omega
  obtain ⟨A4, c4, rfl, hc4, hm4⟩ := own_form hown
  obtain ⟨g4, rfl, hg4, hg4', _⟩ := own_head hown hV0
  have B4 := Lib.hid (B3a.out.trans (hb.mono (by omega)))
  have L4 := Lib.hid (Lies.own hown (Nat.le_refl _))
  have L4b := Lib.hid (L3a.out.below (hb.mono (by omega)))
  have LR4 := Lib.hid (LR3a.out.below (hb.mono (by omega)))
  have cvA := run_octets_string (P := Try.prog) 22 9 5 Try.underlying22 Try.underlying5 Try.underlying9 L4b.out c2
  have cvB := run_octets_string (P := Try.prog) 22 9 5 Try.underlying22 Try.underlying5 Try.underlying9 L4.out c4
  have hm4' := hm4
  unfold maxLen at hm4'
  have hcV : (V.length : Int) ≤ (c4 : Int) := by omega
  have hc41 : ¬ c4 = 1 := by have := HVL.out; have := HTL.out; omega
  have hVT : (V.length : Int) = (T.length : Int) + 1 := by have := HVL.out; omega
  clear hown hb hV0
  go_upto_region 10 with fail
  have LT4 : Hid (Lies w4 w4.heap.size (some ⟨g4, 1, none⟩) (B8 T)) := Lib.hid (by
    have h := L4.out.drop 1 c4 (by rw [B8_length, HVL.out]; omega) (by rw [B8_length]; omega)
    rw [if_neg hc41, B8, ← List.map_drop, show V.drop 1 = T from by rw [HV.out]; rfl] at h
    exact h)
  have hTc : (T.length : Int) + 1 ≤ (c4 : Int) := by omega
  have hTc' : T.length + 1 ≤ c4 := by omega
  have hT0 : 0 < T.length := by have := HTL.out; omega
  have hTb : T.length ≤ 5008 := by have := HTL.out; omega
  rw [HVL.out]
  obtain ⟨i0, hi, hz0, hz1, hz2⟩ := info_parts u8_info
  have HI := Lib.hid hi
  have G0 := Lib.hid hz0
  have G1 := Lib.hid hz1
  have G2 := Lib.hid hz2
  have ho0 : (w4.alloc (.cells #[] 5)).ownsRow w4.heap.size 5 1 (.slice (some ⟨w4.heap.size, 0, none⟩) 0 0) 0 [] := World.ownsRow_made w4 #[] 0 (Nat.le_refl _) (Nat.zero_le _) rfl
  have HO0 := Lib.hid ho0
  have BA4 : Hid (Below w4.heap.size w4 (w4.alloc (.cells #[] 5))) := Lib.hid ((Below.refl _ _).alloc (Nat.le_refl _) _)
  have za : w4.heap.size ≤ (w4.alloc (.cells #[] 5)).heap.size := by simp
  have ZA := Lib.hid za
  have LTA := Lib.hid (LT4.out.below BA4.out)
  have hs' : 0 + T.length ≤ 140737488355328 := by omega
  clear cvA cvB hcV hVT hi hz0 hz1 hz2 ho0 za
  go_upto_if 63 with (at_builtin; refine wpList_append_cells rfl _ _ 22 rfl w4.heap.size 5 i0 (.int .u8 0) 1 1 Try.underlying22 HI.out G0.out G1.out G2.out rfl (by omega) _ 0 [] rfl HO0.out _ (some ⟨g4, 1, none⟩) T.length (c4 - 1) (B8 T) rfl LTA.out (B8_len1 T) (B8_one T) (room63 hs') (room1 hs')  ZA.out ?_; intro v6 w6 hown6 hb6; rw [Nat.zero_add, List.nil_append] at hown6; obtain ⟨A6, c6, rfl, hc6, hm6⟩ := own_form hown6; have HB6 := Lib.hid (BA4.out.trans hb6); have HO6 := Lib.hid hown6; have L6 := Lib.hid (Lies.own hown6 (Nat.le_refl _)); clear hown6 hb6)
  go_cut [] (fun wx => FTurned w4.heap.size w4 T A6 wx)
  case first =>
    have hlt : (0 : Int) < T.length := by omega
    obtain ⟨g6, rfl, hg6, hg6', hfr⟩ := own_head HO6.out hT0
    obtain ⟨J, hJ, hJe⟩ := turn_at x T.length hT0
    have hc : w6.cell? ⟨g6, 0 + J, none⟩ = some (.int .u8 ((T.getD J 0).toNat : Int)) := by
      rcases L6.out.octets with h | ⟨b, o, e, _, hc⟩
      · rw [h] at hT0; simp at hT0
      · injection e with e
        injection e with e1 e2 e3
        subst e1 e2
        rw [hc J hJ]
        simp [List.getD, hJ]
    rw [Nat.zero_add] at hc
    have hf := hfr J
    have hx := u8_flip (T.getD J 0) y
    have D : Hid (FTurned w4.heap.size w4 T (some ⟨g6, 0, none⟩) (w6.setCell ⟨g6, J, none⟩ (.int .u8 ((T.getD J 0 ^^^ y).toNat : Int)))) := Lib.hid ⟨flip T J y, flip_length T J y, HB6.out.setCell hg6 _, by
      rw [show (w6.setCell ⟨g6, J, none⟩ (.int .u8 ((T.getD J 0 ^^^ y).toNat : Int))).heap.size = w6.heap.size from by simp [World.setCell], show (⟨g6, J, none⟩ : Addr) = ⟨g6, 0 + J, none⟩ from by rw [Nat.zero_add]]
      exact flip_lies L6.out J hJ y⟩
    generalize T.getD J 0 = q at *
    generalize (q ^^^ y) = z at *
    clear hfr
    go_wp2_with fail
    go_meet
    exact D.out
  case rest =>
    obtain ⟨wq, hwq⟩ : ∃ wq : World, wq = wc := ⟨_, rfl⟩
    subst hwq
    obtain ⟨X, hXl, hbx, hlx⟩ := hcut
    have hzx := hbx.size
    have LTx := Lib.hid (LT4.out.below hbx)
    have HBx := Lib.hid (B4.out.trans (hbx.mono (by have := B4.out.size; omega)))
    have hzw := HBx.out.size
    have LRx := Lib.hid (LR4.out.below (hbx.mono (by have := B4.out.size; omega)))
    have LXx := Lib.hid hlx
    have HXL := Lib.hid hXl
    clear hbx hlx hXl
    go_wp2_with fail
    go_loopw [16] (fun i wr => ∃ j : Nat, j ≤ 4 ∧ i = .int .i64 j ∧ Below wq.heap.size wq wr) (fun i _ => 4 - (intOf i).toNat)
    case atStart => exact ⟨0, by omega, rfl, Below.refl _ _⟩
    case round =>
      obtain ⟨j, hj, rfl, hbr⟩ := hrel
      have BR := Lib.hid hbr
      have hzr := hbr.size
      clear hbr
      have hj4 : j = 0 ∨ j = 1 ∨ j = 2 ∨ j = 3 ∨ j = 4 := by omega
      clear hj
      by_cases hj3 : j = 4
      · subst hj3
        clear hj4
        go_wp2_with fail
        refine (awake3_any _).mono ?_
        rintro e w9 ⟨rfl, hb9⟩
        have HB9 := Lib.hid ((HBx.out.trans (BR.out.mono hzw)).trans (hb9.mono (by omega)))
        clear hb9
        go_wp2_with fail
        go_ret
        exact ⟨rfl, HB9.out⟩
      · have hlt3 : (j : Int) < 4 := by omega
        go_upto_region 16 with fail
        go_cut [17] from 75 to 124 (fun s17 wx => FAsked wr s17 wx)
        case first =>
          obtain ⟨M, hM, hMe⟩ := turn_at z (T.length + 1) (by omega)
          have hMz : (bits .and .i64 z 65535).tmod ((T.length : Int) + 1) = (M : Int) := by rw [← hMe, Int.natCast_add]; rfl
          have hM' : M ≤ T.length := by omega
          have a0 : IntKind.i64.wrap ((1 : Int) + (M : Int)) = (1 : Int) + (M : Int) := IntWalk.i64_in _ (by omega)
          have a1 : ((1 : Int) + (M : Int)).toNat = 1 + M := by omega
          have a2 : (0 : Int) ≤ (1 : Int) + (M : Int) := by omega
          have a3 : (1 : Int) + (M : Int) ≤ (c4 : Int) := by omega
          have a4 : (1 : Int) ≤ (1 : Int) + (M : Int) := by omega
          have hn0 : ¬ ((T.length : Int) + 1 = 0) := by omega
          have a5 : (1 : Int) ≤ (T.length : Int) + 1 := by omega
          obtain ⟨wd, hwd⟩ : ∃ wd, wd = (wr.alloc (.cells #[] 5)).drew := ⟨_, rfl⟩
          have hbd : Below wr.heap.size wr wd := by rw [hwd]; exact ((Below.refl _ _).alloc (Nat.le_refl _) _).drew
          have HOR : Hid (wd.ownsRow wr.heap.size 5 1 (.slice (some ⟨wr.heap.size, 0, none⟩) 0 0) 0 []) := Lib.hid (by rw [hwd]; exact World.ownsRow_made wr #[] 0 (Nat.le_refl _) (Nat.zero_le _) rfl)
          have zd := hbd.size
          have BD := Lib.hid hbd
          have LTR := Lib.hid ((LTx.out.below (BR.out.mono hzx)).below (hbd.mono (by omega)))
          have HWD := Lib.hid hwd
          have hs1 : 0 + T.length ≤ 140737488355328 := by omega
          have hs2 : T.length + raw.length ≤ 140737488355328 := by omega
          clear hMe hM hbd hwd
          rcases hj4 with rfl | rfl | rfl | rfl | rfl
          · go_region_law (first
              | (rw [← HWD.out]; refine step_append_cells rfl _ _ 22 rfl wr.heap.size 5 i0 (.int .u8 0) 1 1 Try.underlying22 HI.out G0.out G1.out G2.out rfl (by omega) (.slice (some ⟨wr.heap.size, 0, none⟩) 0 0) 0 [] (by rfl) HOR.out w4.heap.size (some ⟨g4, 1, none⟩) T.length (c4 - 1) (B8 T) (by rfl) LTR.out (B8_len1 T) (B8_one T) (room63 hs1) (room1 hs1) zd ?_; intro v7 w7 hown7 hb7; rw [Nat.zero_add, List.nil_append] at hown7; have HO7 := Lib.hid hown7; have B7 := Lib.hid (BD.out.trans hb7); clear hown7 hb7)
              | (refine step_append_cells rfl _ _ 22 rfl wr.heap.size 5 i0 (.int .u8 0) 1 1 Try.underlying22 HI.out G0.out G1.out G2.out rfl (by omega) _ T.length (B8 T) (by rfl) HO7.out B A' raw.length c' (B8 raw) (by rfl) ((LRx.out.below (BR.out.mono (by omega))).below (B7.out.mono (by omega))) (B8_len1 raw) (B8_one raw) (room63 hs2) (room1 hs2) B7.out.size ?_; intro v8 w8 hown8 hb8; rw [← B8_append] at hown8; obtain ⟨A8, c8, rfl, hc8, hm8⟩ := own_form hown8; have L8 := Lib.hid (Lies.own hown8 (Nat.le_refl _)); have BW8 := Lib.hid (B7.out.trans hb8); clear hown8 hb8))
            have D : Hid (∀ o : Obj, FAsked wr (.slice A' raw.length c') (w8.alloc o)) := Lib.hid (fun o => by
              have BO : Below wr.heap.size wr (w8.alloc o) := BW8.out.alloc BW8.out.size o
              have zo := BO.size
              exact ⟨A', raw, c', rfl, hrc, hrm, by omega, ((LRx.out.below (BR.out.mono (by omega))).below (BO.mono (by omega))).more (by omega), BO⟩)
            go_wp2_with fail
            go_meet
            exact D.out _
          · go_region_law (first
              | (rw [← HWD.out]; refine step_append_cells rfl _ _ 22 rfl wr.heap.size 5 i0 (.int .u8 0) 1 1 Try.underlying22 HI.out G0.out G1.out G2.out rfl (by omega) (.slice (some ⟨wr.heap.size, 0, none⟩) 0 0) 0 [] (by rfl) HOR.out w4.heap.size (some ⟨g4, 1, none⟩) T.length (c4 - 1) (B8 T) (by rfl) LTR.out (B8_len1 T) (B8_one T) (room63 hs1) (room1 hs1) zd ?_; intro v7 w7 hown7 hb7; rw [Nat.zero_add, List.nil_append] at hown7; have HO7 := Lib.hid hown7; have B7 := Lib.hid (BD.out.trans hb7); clear hown7 hb7)
              | (refine step_append_cells rfl _ _ 22 rfl wr.heap.size 5 i0 (.int .u8 0) 1 1 Try.underlying22 HI.out G0.out G1.out G2.out rfl (by omega) _ T.length (B8 T) (by rfl) HO7.out B A' raw.length c' (B8 raw) (by rfl) ((LRx.out.below (BR.out.mono (by omega))).below (B7.out.mono (by omega))) (B8_len1 raw) (B8_one raw) (room63 hs2) (room1 hs2) B7.out.size ?_; intro v8 w8 hown8 hb8; rw [← B8_append] at hown8; obtain ⟨A8, c8, rfl, hc8, hm8⟩ := own_form hown8; have L8 := Lib.hid (Lies.own hown8 (Nat.le_refl _)); have BW8 := Lib.hid (B7.out.trans hb8); clear hown8 hb8))
            have D : Hid (∀ o : Obj, FAsked wr (.slice A6 T.length c6) (w8.alloc o)) := Lib.hid (fun o => by
              have BO : Below wr.heap.size wr (w8.alloc o) := BW8.out.alloc BW8.out.size o
              have zo := BO.size
              exact ⟨A6, X, c6, by rw [HXL.out], by rw [HXL.out]; exact hc6, hm6, by rw [HXL.out]; omega, ((LXx.out.below BR.out).below (BO.mono hzr)).more (by omega), BO⟩)
            go_wp2_with fail
            go_meet
            exact D.out _
          · go_region_law (first
              | (rw [← HWD.out]; refine step_append_cells rfl _ _ 22 rfl wr.heap.size 5 i0 (.int .u8 0) 1 1 Try.underlying22 HI.out G0.out G1.out G2.out rfl (by omega) (.slice (some ⟨wr.heap.size, 0, none⟩) 0 0) 0 [] (by rfl) HOR.out w4.heap.size (some ⟨g4, 1, none⟩) T.length (c4 - 1) (B8 T) (by rfl) LTR.out (B8_len1 T) (B8_one T) (room63 hs1) (room1 hs1) zd ?_; intro v7 w7 hown7 hb7; rw [Nat.zero_add, List.nil_append] at hown7; have HO7 := Lib.hid hown7; have B7 := Lib.hid (BD.out.trans hb7); clear hown7 hb7)
              | (refine step_append_cells rfl _ _ 22 rfl wr.heap.size 5 i0 (.int .u8 0) 1 1 Try.underlying22 HI.out G0.out G1.out G2.out rfl (by omega) _ T.length (B8 T) (by rfl) HO7.out B A' raw.length c' (B8 raw) (by rfl) ((LRx.out.below (BR.out.mono (by omega))).below (B7.out.mono (by omega))) (B8_len1 raw) (B8_one raw) (room63 hs2) (room1 hs2) B7.out.size ?_; intro v8 w8 hown8 hb8; rw [← B8_append] at hown8; obtain ⟨A8, c8, rfl, hc8, hm8⟩ := own_form hown8; have L8 := Lib.hid (Lies.own hown8 (Nat.le_refl _)); have BW8 := Lib.hid (B7.out.trans hb8); clear hown8 hb8))
            have D : Hid (∀ o : Obj, FAsked wr (.slice (some ⟨g4, 1, none⟩) M (c4 - 1)) (w8.alloc o)) := Lib.hid (fun o => by
              have BO : Below wr.heap.size wr (w8.alloc o) := BW8.out.alloc BW8.out.size o
              have zo := BO.size
              exact ⟨some ⟨g4, 1, none⟩, T.take M, c4 - 1, by rw [List.length_take, Nat.min_eq_left hM'], by rw [List.length_take]; omega, by omega, by rw [List.length_take]; omega, by
              have h := (((LTx.out.below (BR.out.mono hzx)).below (BO.mono (by omega))).more (show w4.heap.size ≤ (w8.alloc o).heap.size by omega)).take M
              rw [B8, ← List.map_take] at h
              exact h, BO⟩)
            go_wp2_with fail
            go_meet
            exact D.out _
          · go_region_law (first
              | (rw [← HWD.out]; refine step_append_cells rfl _ _ 22 rfl wr.heap.size 5 i0 (.int .u8 0) 1 1 Try.underlying22 HI.out G0.out G1.out G2.out rfl (by omega) (.slice (some ⟨wr.heap.size, 0, none⟩) 0 0) 0 [] (by rfl) HOR.out w4.heap.size (some ⟨g4, 1, none⟩) T.length (c4 - 1) (B8 T) (by rfl) LTR.out (B8_len1 T) (B8_one T) (room63 hs1) (room1 hs1) zd ?_; intro v7 w7 hown7 hb7; rw [Nat.zero_add, List.nil_append] at hown7; have HO7 := Lib.hid hown7; have B7 := Lib.hid (BD.out.trans hb7); clear hown7 hb7)
              | (refine step_append_cells rfl _ _ 22 rfl wr.heap.size 5 i0 (.int .u8 0) 1 1 Try.underlying22 HI.out G0.out G1.out G2.out rfl (by omega) _ T.length (B8 T) (by rfl) HO7.out B A' raw.length c' (B8 raw) (by rfl) ((LRx.out.below (BR.out.mono (by omega))).below (B7.out.mono (by omega))) (B8_len1 raw) (B8_one raw) (room63 hs2) (room1 hs2) B7.out.size ?_; intro v8 w8 hown8 hb8; rw [← B8_append] at hown8; obtain ⟨A8, c8, rfl, hc8, hm8⟩ := own_form hown8; have L8 := Lib.hid (Lies.own hown8 (Nat.le_refl _)); have BW8 := Lib.hid (B7.out.trans hb8); clear hown8 hb8))
            have D : Hid (∀ o : Obj, FAsked wr (.slice A8 (T.length + raw.length) c8) (w8.alloc o)) := Lib.hid (fun o => by
              have BO : Below wr.heap.size wr (w8.alloc o) := BW8.out.alloc BW8.out.size o
              have zo := BO.size
              exact ⟨A8, T ++ raw, c8, by rw [List.length_append], by rw [List.length_append]; exact hc8, hm8, by rw [List.length_append]; omega, (L8.out.alloc (Nat.le_refl _) o).more (by simp), BO⟩)
            go_wp2_with fail
            go_meet
            exact D.out _
          · exact absurd rfl hj3
        case rest =>
          obtain ⟨Ay, Y, cy, rfl, hy1, hy2, hy3, hy4, hy5⟩ := hcut
          have BC := Lib.hid (BR.out.trans (hy5.mono hzr))
          have hzc := hy5.size
          have LY := Lib.hid hy4
          clear hj4 hj3 hy4 hy5
          go_wp2_with fail
          cases hP : frameP Y with
          | more =>
            refine (fparse_more Ay cy _ Y wc.heap.size _ rfl LY.out (Nat.le_refl _) hy1 hy2 hP).mono ?_
            rintro e w7 ⟨rfl, hb7⟩
            obtain ⟨w7a, hw7a⟩ : ∃ w7a, w7a = w7.alloc (.cells #[.int .i64 0, .int .i64 0, .slice none 0 0] 37) := ⟨_, rfl⟩
            have hba : Below w7.heap.size w7 w7a := by rw [hw7a]; exact (Below.refl _ _).alloc (Nat.le_refl _) _
            have hsa : w7a.heap.size = w7.heap.size + 1 := by rw [hw7a]; simp
            have hz7 := hb7.size
            have hbc := hb7.trans (hba.mono hz7)
            have LY7 := Lib.hid (LY.out.below hbc)
            have BC7 := Lib.hid (BC.out.trans (hbc.mono (by omega)))
            have WG : Hid (Whole w7a w7.heap.size 37 #[.int .i64 0, .int .i64 0, .slice none 0 0]) := Lib.hid (by rw [hw7a]; exact Whole.new _ _ _)
            have HW7 := Lib.hid hw7a
            have HP := Lib.hid hP
            have HSA := Lib.hid hsa
            clear hb7 hba hbc hw7a hP hsa
            go_wp2_with fail
            rw [← HW7.out]
            refine (rframeof_more Ay cy _ Y wc.heap.size _ rfl LY7.out (by have := HSA.out; omega) hy1 hy2 (by omega) HP.out).mono ?_
            rintro e w8 ⟨rfl, hb8⟩
            obtain ⟨w8a, hw8a⟩ : ∃ w8a, w8a = w8.alloc (.cells #[.int .i64 0, .int .i64 0, .slice none 0 0] 37) := ⟨_, rfl⟩
            have hba : Below w8.heap.size w8 w8a := by rw [hw8a]; exact (Below.refl _ _).alloc (Nat.le_refl _) _
            have hz8 := hb8.size
            have hbc := hb8.trans (hba.mono hz8)
            have BC8 := Lib.hid (BC7.out.trans (hbc.mono (by have := HSA.out; omega)))
            have WG8 := Lib.hid (WG.out.below hbc WG.out.lt)
            have WH : Hid (Whole w8a w8.heap.size 37 #[.int .i64 0, .int .i64 0, .slice none 0 0]) := Lib.hid (by rw [hw8a]; exact Whole.new _ _ _)
            have k0 : w8a.cell? ⟨w7.heap.size, 0, none⟩ = some (.int .i64 0) := WG8.out.cell 0
            have k1 : w8a.cell? ⟨w7.heap.size, 1, none⟩ = some (.int .i64 0) := WG8.out.cell 1
            have k2 : w8a.cell? ⟨w7.heap.size, 2, none⟩ = some (.slice none 0 0) := WG8.out.cell 2
            have q0 : w8a.cell? ⟨w8.heap.size, 0, none⟩ = some (.int .i64 0) := WH.out.cell 0
            have q1 : w8a.cell? ⟨w8.heap.size, 1, none⟩ = some (.int .i64 0) := WH.out.cell 1
            have q2 : w8a.cell? ⟨w8.heap.size, 2, none⟩ = some (.slice none 0 0) := WH.out.cell 2
            rw [hw8a] at k0 k1 k2 q0 q1 q2
            have HW8 := Lib.hid hw8a
            clear hb8 hba hbc hw8a
            go_wp2_with fail
            rw [← HW8.out]
            refine (fsame_any 0 0 0 0 none none [] [] 0 0 0 0 _ (Lies.empty _ _ _) (Lies.empty _ _ _) (Nat.zero_le _) (Nat.zero_le _)).mono ?_
            rintro e w9 ⟨rfl, hb9⟩
            rw [show SameF 0 0 0 0 [] [] = true from by unfold SameF; simp]
            have BC9 := Lib.hid (BC8.out.trans (hb9.mono BC8.out.size))
            clear hb9 k0 k1 k2 q0 q1 q2
            go_wp2_with fail
            go_roundw
            case rel => exact ⟨j + 1, by omega, by go_num, BC9.out⟩
            case measure => simp [intOf]; omega
          | bad =>
            refine (fparse_bad Ay cy _ Y wc.heap.size _ rfl LY.out (Nat.le_refl _) hy1 hy2 hP).mono ?_
            rintro e w7 ⟨rfl, hb7⟩
            obtain ⟨w7a, hw7a⟩ : ∃ w7a, w7a = w7.alloc (.cells #[.int .i64 0, .int .i64 0, .slice none 0 0] 37) := ⟨_, rfl⟩
            have hba : Below w7.heap.size w7 w7a := by rw [hw7a]; exact (Below.refl _ _).alloc (Nat.le_refl _) _
            have hsa : w7a.heap.size = w7.heap.size + 1 := by rw [hw7a]; simp
            have hz7 := hb7.size
            have hbc := hb7.trans (hba.mono hz7)
            have LY7 := Lib.hid (LY.out.below hbc)
            have BC7 := Lib.hid (BC.out.trans (hbc.mono (by omega)))
            have WG : Hid (Whole w7a w7.heap.size 37 #[.int .i64 0, .int .i64 0, .slice none 0 0]) := Lib.hid (by rw [hw7a]; exact Whole.new _ _ _)
            have HW7 := Lib.hid hw7a
            have HP := Lib.hid hP
            have HSA := Lib.hid hsa
            clear hb7 hba hbc hw7a hP hsa
            go_wp2_with fail
            rw [← HW7.out]
            refine (rframeof_bad Ay cy _ Y wc.heap.size _ rfl LY7.out (by have := HSA.out; omega) hy1 hy2 (by omega) HP.out).mono ?_
            rintro e w8 ⟨rfl, hb8⟩
            obtain ⟨w8a, hw8a⟩ : ∃ w8a, w8a = w8.alloc (.cells #[.int .i64 0, .int .i64 0, .slice none 0 0] 37) := ⟨_, rfl⟩
            have hba : Below w8.heap.size w8 w8a := by rw [hw8a]; exact (Below.refl _ _).alloc (Nat.le_refl _) _
            have hz8 := hb8.size
            have hbc := hb8.trans (hba.mono hz8)
            have BC8 := Lib.hid (BC7.out.trans (hbc.mono (by have := HSA.out; omega)))
            have WG8 := Lib.hid (WG.out.below hbc WG.out.lt)
            have WH : Hid (Whole w8a w8.heap.size 37 #[.int .i64 0, .int .i64 0, .slice none 0 0]) := Lib.hid (by rw [hw8a]; exact Whole.new _ _ _)
            have k0 : w8a.cell? ⟨w7.heap.size, 0, none⟩ = some (.int .i64 0) := WG8.out.cell 0
            have k1 : w8a.cell? ⟨w7.heap.size, 1, none⟩ = some (.int .i64 0) := WG8.out.cell 1
            have k2 : w8a.cell? ⟨w7.heap.size, 2, none⟩ = some (.slice none 0 0) := WG8.out.cell 2
            have q0 : w8a.cell? ⟨w8.heap.size, 0, none⟩ = some (.int .i64 0) := WH.out.cell 0
            have q1 : w8a.cell? ⟨w8.heap.size, 1, none⟩ = some (.int .i64 0) := WH.out.cell 1
            have q2 : w8a.cell? ⟨w8.heap.size, 2, none⟩ = some (.slice none 0 0) := WH.out.cell 2
            rw [hw8a] at k0 k1 k2 q0 q1 q2
            have HW8 := Lib.hid hw8a
            clear hb8 hba hbc hw8a
            go_wp2_with fail
            rw [← HW8.out]
            refine (fsame_any 0 0 0 0 none none [] [] 0 0 0 0 _ (Lies.empty _ _ _) (Lies.empty _ _ _) (Nat.zero_le _) (Nat.zero_le _)).mono ?_
            rintro e w9 ⟨rfl, hb9⟩
            rw [show SameF 0 0 0 0 [] [] = true from by unfold SameF; simp]
            have BC9 := Lib.hid (BC8.out.trans (hb9.mono BC8.out.size))
            clear hb9 k0 k1 k2 q0 q1 q2
            go_wp2_with fail
            go_roundw
            case rel => exact ⟨j + 1, by omega, by go_num, BC9.out⟩
            case measure => simp [intOf]; omega
          | ok kk cc t =>
            refine (fparse_ok Ay cy _ Y wc.heap.size _ kk cc t t.length rfl LY.out (Nat.le_refl _) hy1 hy2 hP rfl).mono ?_
            rintro e w7 ⟨A7, c7, rfl, hc7, hm7, hl7, hb7⟩
            obtain ⟨w7a, hw7a⟩ : ∃ w7a, w7a = w7.alloc (.cells #[.int .i64 kk, .int .i64 cc, .slice A7 t.length c7] 37) := ⟨_, rfl⟩
            have hba : Below w7.heap.size w7 w7a := by rw [hw7a]; exact (Below.refl _ _).alloc (Nat.le_refl _) _
            have hsa : w7a.heap.size = w7.heap.size + 1 := by rw [hw7a]; simp
            have hz7 := hb7.size
            have hbc := hb7.trans (hba.mono hz7)
            have LY7 := Lib.hid (LY.out.below hbc)
            have BC7 := Lib.hid (BC.out.trans (hbc.mono (by omega)))
            have LT7 := Lib.hid (hl7.below hba)
            have WG : Hid (Whole w7a w7.heap.size 37 #[.int .i64 kk, .int .i64 cc, .slice A7 t.length c7]) := Lib.hid (by rw [hw7a]; exact Whole.new _ _ _)
            have HW7 := Lib.hid hw7a
            have HP := Lib.hid hP
            have HSA := Lib.hid hsa
            clear hb7 hba hbc hw7a hP hsa hl7
            go_wp2_with fail
            rw [← HW7.out]
            refine (rframeof_ok Ay cy _ Y wc.heap.size _ kk cc t t.length rfl LY7.out (by have := HSA.out; omega) hy1 hy2 (by omega) HP.out rfl).mono ?_
            rintro e w8 ⟨A8, c8, rfl, hc8, hm8, hl8, hb8⟩
            obtain ⟨w8a, hw8a⟩ : ∃ w8a, w8a = w8.alloc (.cells #[.int .i64 kk, .int .i64 cc, .slice A8 t.length c8] 37) := ⟨_, rfl⟩
            have hba : Below w8.heap.size w8 w8a := by rw [hw8a]; exact (Below.refl _ _).alloc (Nat.le_refl _) _
            have hz8 := hb8.size
            have hbc := hb8.trans (hba.mono hz8)
            have BC8 := Lib.hid (BC7.out.trans (hbc.mono (by have := HSA.out; omega)))
            have WG8 := Lib.hid (WG.out.below hbc WG.out.lt)
            have LT78 := Lib.hid (LT7.out.below (hbc.mono (by have := HSA.out; omega)))
            have LT8 := Lib.hid (hl8.below hba)
            have z8a := hba.size
            have WH : Hid (Whole w8a w8.heap.size 37 #[.int .i64 kk, .int .i64 cc, .slice A8 t.length c8]) := Lib.hid (by rw [hw8a]; exact Whole.new _ _ _)
            have k0 : w8a.cell? ⟨w7.heap.size, 0, none⟩ = some (.int .i64 kk) := WG8.out.cell 0
            have k1 : w8a.cell? ⟨w7.heap.size, 1, none⟩ = some (.int .i64 cc) := WG8.out.cell 1
            have k2 : w8a.cell? ⟨w7.heap.size, 2, none⟩ = some (.slice A7 t.length c7) := WG8.out.cell 2
            have q0 : w8a.cell? ⟨w8.heap.size, 0, none⟩ = some (.int .i64 kk) := WH.out.cell 0
            have q1 : w8a.cell? ⟨w8.heap.size, 1, none⟩ = some (.int .i64 cc) := WH.out.cell 1
            have q2 : w8a.cell? ⟨w8.heap.size, 2, none⟩ = some (.slice A8 t.length c8) := WH.out.cell 2
            rw [hw8a] at k0 k1 k2 q0 q1 q2
            have HW8 := Lib.hid hw8a
            clear hb8 hba hbc hw8a hl8
            go_wp2_with fail
            rw [← HW8.out]
            refine (fsame_any kk kk cc cc A7 A8 t t c7 c8 w7.heap.size w8.heap.size _ LT78.out LT8.out (by have := HSA.out; omega) z8a).mono ?_
            rintro e w9 ⟨rfl, hb9⟩
            rw [show SameF kk kk cc cc t t = true from by unfold SameF; simp]
            have BC9 := Lib.hid (BC8.out.trans (hb9.mono BC8.out.size))
            clear hb9 k0 k1 k2 q0 q1 q2
            go_wp2_with fail
            go_roundw
            case rel => exact ⟨j + 1, by omega, by go_num, BC9.out⟩
            case measure => simp [intOf]; omega
end Go.Proofs.Ytplijhhjclfhaaa
