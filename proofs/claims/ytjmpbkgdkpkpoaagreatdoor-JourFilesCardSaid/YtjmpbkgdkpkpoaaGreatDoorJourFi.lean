/- The law on files: its walk. -/
import Derived.Test.YtjmpbkgdkpkpoaaGreatDoorJourRm
import Derived.Test.YtjmpbkgdkpkpoaaGreatDoorJourNu
namespace Go.Proofs.YtjmpbkgdkpkpoaaGreatDoor
open Go.RowKit Go.Maps
set_option maxRecDepth 100000
set_option linter.unusedSimpArgs false
set_option linter.unusedVariables false
theorem last_snoc (bss : List (List Bt)) (r : List Bt) : lastN' (bss ++ [r]) = r := by
  unfold lastN'
  simp
theorem need_48k (k : Nat) (h : 1 ≤ k) : need (48 * k) = k := by
  unfold need
  rw [if_neg (by omega)]
  omega
theorem fi_stay {bss : List (List Bt)} {J : Jr} (x : Bt) (h : stays bss J) (hl : 0 < bss.length) : (newJ bss J).file = J.file ∧ (addB bss J x).length = bss.length ∧ needs (lastN' (addB bss J x)) = needs (lastN' bss) + need x.b.length := by
  unfold newJ addB
  rw [if_pos h, if_pos h, last_snoc, needs_app]
  refine ⟨rfl, ?_, rfl⟩
  simp
  omega
theorem fi_new {bss : List (List Bt)} {J : Jr} (x : Bt) (h : ¬ stays bss J) : (newJ bss J).file = bss.length + 1 ∧ (addB bss J x).length = bss.length + 1 ∧ needs (lastN' (addB bss J x)) = need x.b.length := by
  unfold newJ addB
  rw [if_neg h, if_neg h, last_snoc]
  refine ⟨rfl, ?_, ?_⟩
  · simp
  · simp [needs]
/-- the loop's state: behind i of the lengths -/
def FiAt (W : World) (g jb L : Nat) (v8 v9 v10 : Value) (wr : World) : Prop :=
  ∃ (i F U : Nat) (X : Nat → Prop) (bss : List (List Bt)) (S : Dv) (J : Jr), i ≤ L ∧ i ≤ 20 ∧ LAt W.heap.size g jb 5000 X W bss S J wr ∧ v10 = .int .i64 (i : Int) ∧ v8 = .int .i64 (F : Int) ∧ v9 = .int .i64 (U : Int) ∧ J.file = F ∧ F = bss.length ∧ U = needs (lastN' bss) ∧ bss.length ≤ i ∧ bss.flatten.length ≤ i ∧ needss bss ≤ 128 * i ∧ U ≤ 128 * i
set_option maxHeartbeats 8000000 in
theorem files_law (l : List Int) (A : Option Addr) (cap : Nat) (a1 : Int) (W : World) (c : l.length ≤ cap) (m : cap ≤ maxLen) (hl : Lies W W.heap.size A (cellsZ l)) (h64 : In64 l) (h1 : (Lit.int .i64 a1).wf = true) (htab : Tab W) :
    Calls Tryz.prog 8 #[.slice A l.length cap, .int .i64 a1] W fun e w' => e = .returned (.bool true) ∧ Below W.heap.size W w' := by
  have hmo : (newDv (5000 : Int)).most = 5000 := rfl
  have hlm : l.length ≤ maxLen := Nat.le_trans c m
  unfold maxLen at hlm
  have hr1 : -9223372036854775808 ≤ a1 ∧ a1 < 9223372036854775808 := by
    have := wf_i64 h1
    omega
  have HR1 := Lib.hid hr1
  have HT := Lib.hid htab
  have HL := Lib.hid hl
  have H6 := Lib.hid h64
  have HMO := Lib.hid hmo
  clear hmo hl h64 c m h1 htab hr1
  go_enter Tryz.func8, Tryz.ntmps8
  go_upto_region 4 with (go_at_call 10; go_must (refine (at_new (5000 : Int) _ (by omega)).mono ?_); rintro e w1 ⟨g, rfl, h1⟩; have A1 := Lib.hid h1; clear h1)
  have HOP := Lib.hid (k_open A1.out (JD.new (5000 : Int)) Seqs.nil (by simp))
  rw [HMO.out] at HOP
  go_upto_region 7 with (go_at_call 11; go_must (refine HOP.out.mono ?_); rintro e w2 ⟨jb, A, c, ms, X2, S2, rfl, hms, hXX, hnj, hjb, hL, hk, hbm⟩; have L2 := Lib.hid hL; clear hms hXX hnj hjb hL hk hbm)
  have L2' : Hid (LAt W.heap.size g jb 5000 X2 W [] S2 jr0 w2) := L2
  clear A1 HOP L2
  go_wp2_with fail
  go_loopw [8, 9, 10] (fun v8 v9 v10 wr => FiAt W g jb l.length v8 v9 v10 wr) (fun _ _ vi _ => 20 - (intOf vi).toNat)
  case atStart => exact ⟨0, 0, 0, X2, [], S2, jr0, Nat.zero_le _, by omega, L2'.out, rfl, rfl, rfl, rfl, rfl, rfl, Nat.zero_le _, Nat.zero_le _, Nat.zero_le _, Nat.zero_le _⟩
  case round =>
    obtain ⟨i, F, U, X, bss, S, J, hi1, hi2, hL, rfl, rfl, rfl, hJF, hF, hU, hb1, hb2, hb3, hU2⟩ := hrel
    have LL := Lib.hid hL
    have HB1 := Lib.hid hb1
    have HB2 := Lib.hid hb2
    have HB3 := Lib.hid hb3
    have hFi : F ≤ 20 := by omega
    have hUi : U ≤ 2560 := by omega
    have HJF := Lib.hid hJF
    have HF := Lib.hid hF
    have HU := Lib.hid hU
    clear hL hb1 hb2 hb3 hU hJF hF
    by_cases hlt : i < l.length ∧ i < 20
    · obtain ⟨hl1, hl2⟩ := hlt
      have hg1 : (i : Int) < (l.length : Int) := by omega
      have hg2 : (i : Int) < 20 := by omega
      obtain ⟨b, o, rfl, hcell⟩ := lies_get HL.out LL.out.at_.bel i hl1
      obtain ⟨v, hv⟩ : ∃ v, v = l.getD i 0 := ⟨_, rfl⟩
      rw [← hv] at hcell
      clear hv
      obtain ⟨n, hn, _, hne⟩ := mask_is v 127 7 (by omega) (by decide)
      have hn' : n < 128 := hn
      obtain ⟨k, hk⟩ : ∃ k, k = n + 1 := ⟨_, rfl⟩
      have hkk : 1 ≤ k ∧ k ≤ 128 := by omega
      have hk1 : IntKind.i64.wrap ((n : Int) + 1) = (k : Int) := by rw [IntWalk.i64_in _ ⟨by omega, by omega⟩]; omega
      have hk2 : IntKind.i64.wrap (48 * (k : Int)) = 48 * (k : Int) := IntWalk.i64_in _ ⟨by omega, by omega⟩
      have hk3 : IntKind.i64.wrap (k : Int) = (k : Int) := IntWalk.i64_in _ ⟨by omega, by omega⟩
      have hk4 : IntKind.i64.wrap ((U : Int) + (k : Int)) = (U : Int) + (k : Int) := IntWalk.i64_in _ ⟨by omega, by omega⟩
      have hk5 : IntKind.i64.wrap ((F : Int) + 1) = (F : Int) + 1 := IntWalk.i64_in _ ⟨by omega, by omega⟩
      have hoc := fun w => octets_any (48 * k) (by omega) (i : Int) ⟨by omega, by omega⟩ w
      rw [show ((48 * k : Nat) : Int) = 48 * (k : Int) by omega] at hoc
      have HOC := Lib.hid hoc
      have hnd : need (48 * k) = k := need_48k k hkk.1
      have hap := fun (X3 : Nat → Prop) (w : World) (A3 : Option Addr) (c3 : Nat) (lb : List UInt8) (hlb : lb.length = 48 * k) (h : LAt W.heap.size g jb 5000 X3 W bss S J w) (hl : LiesP w (fun i => X3 i ∧ i ≠ jb) A3 (B8 lb)) => k_append h 1 (by omega) A3 c3 lb hl (by omega) (by rw [hlb, hnd]; have := HB3.out; omega) (by have := HB1.out; omega) (by have := HB2.out; omega)
      have HAP := Lib.hid hap
      have HND := Lib.hid hnd
      have HN := Lib.hid (show k = n + 1 from hk)
      clear hap hoc hnd hn hk
      by_cases hst : stays bss J
      · have hF1 : ¬ (F : Int) = 0 := by have := hst.1; have := HJF.out; omega
        have hU1 : ¬ (256 : Int) ≤ (U : Int) := by have := hst.2; have := HU.out; omega
        have hF0 : ((F : Int) == 0) = false := by simp; omega
        have hpos : 0 < bss.length := LL.out.i.stays hst
        have HFI : Hid (∀ lb, (newB bss J 1 lb).file = (F : Int)) := Lib.hid (fun lb => by show (if stays bss J then _ else _) = _; rw [if_pos hst, ← HF.out])
        have HPO : Hid (∀ lb, (newB bss J 1 lb).pos = (U : Int)) := Lib.hid (fun lb => by show (if stays bss J then _ else _) = _; rw [if_pos hst, ← HU.out])
        have HJ2 : Hid (((newJ bss J).file : Int) = (F : Int)) := Lib.hid (by rw [(fi_stay bt0 hst hpos).1, HJF.out])
        have HST := Lib.hid (fun x => fi_stay x hst hpos)
        clear hst hpos
        go_wp2_with (first
          | (go_at_call 13; go_must (refine (HOC.out _).mono ?_); rintro e w3 ⟨A3, c3, lb, rfl, hlb, ho3, hb3⟩; obtain ⟨X3, hXX3, l3, lb3⟩ := oct_ready LL.out ho3 hb3; have L3 := Lib.hid l3; have LB3 := Lib.hid lb3; have HLB := Lib.hid hlb; clear hlb ho3 hb3 l3 lb3 hXX3)
          | (go_at_call 12; go_must (refine (HAP.out X3 w3 A3 c3 lb HLB.out L3.out LB3.out).mono ?_); rintro e w4 ⟨A4, c4, X4, S4, rfl, hXX4, hL4, hk4, hbm4⟩; unfold btV; simp only [HFI.out lb, HPO.out lb]; have L4 := Lib.hid hL4; clear hL4 hXX4 hk4 hbm4)
          | (go_at_call 21; go_must (refine (jfile_any (L4.out.below ((Below.refl _ _).alloc (Nat.le_refl _) _)).j).mono ?_); rintro e w5 ⟨he, rfl⟩; rw [HJ2.out] at he; subst he))
        go_roundw
        case rel =>
          have hfl := addB_flat LL.out.i.stays (newB bss J 1 lb)
          have hnn := addB_needs bss J (newB bss J 1 lb) LL.out.i.stays
          obtain ⟨s1, s2, s3⟩ := HST.out (newB bss J 1 lb)
          have e1 : need (newB bss J 1 lb).b.length = k := by rw [← HND.out, ← HLB.out]; rfl
          have hb1 := HB1.out
          have hb2 := HB2.out
          have hb3 := HB3.out
          have hf := HF.out
          have hj := HJF.out
          have hu := HU.out
          refine ⟨i + 1, F, U + k, X4, addB bss J (newB bss J 1 lb), S4, newJ bss J, by omega, by omega, L4.out.below ((Below.refl _ _).alloc (Nat.le_refl _) _), by go_num, rfl, by go_num, by omega, by omega, by omega, by omega, by rw [hfl, List.length_append]; show _ + 1 ≤ i + 1; omega, by omega, by omega⟩
        case measure => simp [intOf]; omega
      · have HFI : Hid (∀ lb, (newB bss J 1 lb).file = (F : Int) + 1) := Lib.hid (fun lb => by show (if stays bss J then _ else _) = _; rw [if_neg hst, ← HF.out]; rfl)
        have HPO : Hid (∀ lb, (newB bss J 1 lb).pos = 0) := Lib.hid (fun lb => by show (if stays bss J then _ else _) = _; rw [if_neg hst])
        have HJ2 : Hid (((newJ bss J).file : Int) = (F : Int) + 1) := Lib.hid (by rw [(fi_new bt0 hst).1, HF.out]; rfl)
        have HST := Lib.hid (fun x => fi_new x hst)
        have hcs : (F : Int) = 0 ∨ (¬ (F : Int) = 0 ∧ (256 : Int) ≤ (U : Int)) := by
          unfold stays at hst
          have := HJF.out
          have := HU.out
          omega
        clear hst
        have hF0 : ((F : Int) == 0) = true ∨ (((F : Int) == 0) = false ∧ (256 : Int) ≤ (U : Int)) := by
          rcases hcs with h | ⟨h, h2⟩
          · exact .inl (by rw [h]; rfl)
          · exact .inr ⟨by simp; omega, h2⟩
        clear hcs
        rcases hF0 with hF0 | ⟨hF0, hU1⟩
        all_goals
          go_wp2_with (first
            | (go_at_call 13; go_must (refine (HOC.out _).mono ?_); rintro e w3 ⟨A3, c3, lb, rfl, hlb, ho3, hb3⟩; obtain ⟨X3, hXX3, l3, lb3⟩ := oct_ready LL.out ho3 hb3; have L3 := Lib.hid l3; have LB3 := Lib.hid lb3; have HLB := Lib.hid hlb; clear hlb ho3 hb3 l3 lb3 hXX3)
            | (go_at_call 12; go_must (refine (HAP.out X3 w3 A3 c3 lb HLB.out L3.out LB3.out).mono ?_); rintro e w4 ⟨A4, c4, X4, S4, rfl, hXX4, hL4, hk4, hbm4⟩; unfold btV; simp only [HFI.out lb, HPO.out lb]; have L4 := Lib.hid hL4; clear hL4 hXX4 hk4 hbm4)
            | (go_at_call 21; go_must (refine (jfile_any (L4.out.below ((Below.refl _ _).alloc (Nat.le_refl _) _)).j).mono ?_); rintro e w5 ⟨he, rfl⟩; rw [HJ2.out] at he; subst he))
          go_roundw
          case rel =>
            have hfl := addB_flat LL.out.i.stays (newB bss J 1 lb)
            have hnn := addB_needs bss J (newB bss J 1 lb) LL.out.i.stays
            obtain ⟨s1, s2, s3⟩ := HST.out (newB bss J 1 lb)
            have e1 : need (newB bss J 1 lb).b.length = k := by rw [← HND.out, ← HLB.out]; rfl
            have hb1 := HB1.out
            have hb2 := HB2.out
            have hb3 := HB3.out
            have hf := HF.out
            have hj := HJF.out
            have hu := HU.out
            refine ⟨i + 1, F + 1, k, X4, addB bss J (newB bss J 1 lb), S4, newJ bss J, by omega, by omega, L4.out.below ((Below.refl _ _).alloc (Nat.le_refl _) _), by go_num, by go_num, by go_num, by omega, by omega, by omega, by omega, by rw [hfl, List.length_append]; show _ + 1 ≤ i + 1; omega, by omega, by omega⟩
          case measure => simp [intOf]; omega
    · have hends : ¬ (i : Int) < (l.length : Int) ∨ ((i : Int) < (l.length : Int) ∧ ¬ (i : Int) < 20) := by omega
      have HTR := Lib.hid (HT.out.below LL.out.at_.bel)
      clear hlt
      by_cases hv : 1 ≤ a1 ∧ a1 ≤ 999999
      · obtain ⟨q, rfl⟩ : ∃ q : Nat, a1 = (q : Int) := ⟨a1.toNat, by omega⟩
        have hq : 1 ≤ q ∧ q ≤ 999999 := by omega
        have hnu := fun w => number7 q hq.1 hq.2 w
        have hna := name_any (q : Int) wr HR1.out (fun h => itoas_tab h HTR.out)
        rw [nmJ_in hv] at hna hnu
        obtain ⟨x1, h1⟩ : ∃ a, a = dig ((q : Int).toNat / 100000) := ⟨_, rfl⟩
        obtain ⟨x2, h2⟩ : ∃ a, a = dig ((q : Int).toNat / 10000) := ⟨_, rfl⟩
        obtain ⟨x3, h3⟩ : ∃ a, a = dig ((q : Int).toNat / 1000) := ⟨_, rfl⟩
        obtain ⟨x4, h4⟩ : ∃ a, a = dig ((q : Int).toNat / 100) := ⟨_, rfl⟩
        obtain ⟨x5, h5⟩ : ∃ a, a = dig ((q : Int).toNat / 10) := ⟨_, rfl⟩
        obtain ⟨x6, h6⟩ : ∃ a, a = dig ((q : Int).toNat) := ⟨_, rfl⟩
        rw [← h1, ← h2, ← h3, ← h4, ← h5, ← h6] at hna hnu
        have HNU := Lib.hid hnu
        have HNA := Lib.hid hna
        have e0 : ((((⟨#[106, x1, x2, x3, x4, x5, x6]⟩ : ByteArray)[0]'(by show 0 < 7; omega)).toNat : Int) == 106) = true := rfl
        have hq1 : ¬ (q : Int) < 1 := by omega
        have hq2 : ¬ (999999 : Int) < (q : Int) := by omega
        clear hnu hna h1 h2 h3 h4 h5 h6
        rcases hends with hg1 | ⟨hg1, hg2⟩
        all_goals
          go_wp2_with (first
            | (go_at_call 16; go_must (refine HNA.out.mono ?_); rintro e w5 ⟨rfl, hb5⟩; have B5 := Lib.hid (LL.out.at_.bel.trans (hb5.mono LL.out.at_.le)); clear hb5)
            | (go_at_call 38; go_must (refine (HNU.out _).mono ?_); rintro e w6 ⟨rfl, rfl⟩)
            | (go_at_call 14; go_must (refine (awake8 _).mono ?_); rintro e w6 ⟨rfl, hb6⟩; have B6 := Lib.hid (B5.out.trans (hb6.mono B5.out.size)); clear hb6))
          go_ret
          exact ⟨by first | rfl | (simp; done) | (simp; omega), B6.out⟩
      · have hna := name_any a1 wr HR1.out (fun h => absurd h hv)
        rw [show nmJ a1 = [] from if_neg hv] at hna
        have HNA := Lib.hid hna
        have hcs : a1 < 1 ∨ (¬ a1 < 1 ∧ (999999 : Int) < a1) := by omega
        clear hna hv
        rcases hends with hg1 | ⟨hg1, hg2⟩
        all_goals rcases hcs with hq1 | ⟨hq1, hq2⟩
        all_goals
          go_wp2_with (first
            | (go_at_call 16; go_must (refine HNA.out.mono ?_); rintro e w5 ⟨rfl, hb5⟩; have B5 := Lib.hid (LL.out.at_.bel.trans (hb5.mono LL.out.at_.le)); clear hb5)
            | (go_at_call 14; go_must (refine (awake8 _).mono ?_); rintro e w6 ⟨rfl, hb6⟩; have B6 := Lib.hid (B5.out.trans (hb6.mono B5.out.size)); clear hb6))
          go_ret
          exact ⟨by first | rfl | (simp; done) | (simp; omega), B6.out⟩
end Go.Proofs.YtjmpbkgdkpkpoaaGreatDoor
