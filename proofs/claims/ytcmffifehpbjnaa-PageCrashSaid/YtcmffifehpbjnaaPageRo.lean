/- Layer 9: pages where there is no room, walked. -/
import Derived.Test.YtcmffifehpbjnaaPageZ
namespace Go.Proofs.Ytcmffifehpbjnaa
open Go.RowKit Go.Maps
set_option maxRecDepth 100000
set_option linter.unusedSimpArgs false
set_option linter.unusedVariables false
/-- the pages from 2 on -/
def lo9 (n : Nat) : List Int := (List.range n).map fun i : Nat => ((i + 2 : Nat) : Int)
theorem lo9_length (n : Nat) : (lo9 n).length = n := by simp [lo9]
theorem lo9_next (n : Nat) : lo9 (n + 1) = lo9 n ++ [((n + 2 : Nat) : Int)] := by simp [lo9, List.range_succ]
theorem lo9_get (n i : Nat) (h : i < n) : (lo9 n).getD i 0 = ((i + 2 : Nat) : Int) := by simp [lo9, List.getD, h]
def none9 : Nat → Prop := fun _ => False
section
variable {B g fb mo put : Nat} {w0 W w' : World} {a0 a1 : Option Mt} {D : List (List UInt8)} {m : Mt} {L : List Int}
/-- a page's octets of a number are put -/
theorem p_fill (h : PAt B g fb mo none9 w0 a0 a1 D m L put W) (v : Int) (hv : -9223372036854775808 ≤ v ∧ v < 9223372036854775808) :
    Calls Try.prog 12 #[.int .i64 v] W fun e w' => ∃ (A : Option Addr) (c : Nat) (Y : Nat → Prop), e = .returned (.slice A (fillB v).length c) ∧ (fillB v).length ≤ c ∧ c ≤ maxLen ∧ PAt B g fb mo Y w0 a0 a1 D m L put w' ∧ LiesP w' Y A (B8 (fillB v)) := by
  refine (fill_any v hv W).mono ?_
  rintro e w' ⟨A, c, rfl, ho, hb⟩
  obtain ⟨A2, c2, e2, h1, h2⟩ := own_form ho
  injection e2 with e3 _ e4
  subst e3 e4
  exact ⟨A, c, _, rfl, h1, h2, h.fence hb, LiesP.own ho (fun i hi => .inr (ho.lt i hi))⟩
end
def RmIn (B g fb mo N : Nat) (w0 : World) (vi : Value) (wr : World) : Prop :=
  ∃ (i M : Nat) (D : List (List UInt8)), vi = .int .i64 (i : Int) ∧ i ≤ M ∧ M ≤ N ∧ (M = i ∨ M = N) ∧ D.length = M ∧ PAt B g fb mo none9 w0 none (some ⟨1, 0, 0, 0⟩) D ⟨1, 0, 0, 0⟩ (lo9 M) i wr
def RmOut (B g fb mo N : Nat) (w0 : World) (vq : Value) (wr : World) : Prop :=
  ∃ (q M : Nat) (D : List (List UInt8)), vq = .int .i64 (q : Int) ∧ q ≤ 2 ∧ (M = 0 ∨ M = N) ∧ D.length = M ∧ PAt B g fb mo none9 w0 none (some ⟨1, 0, 0, 0⟩) D ⟨1, 0, 0, 0⟩ (lo9 M) 0 wr
theorem rm_put {B g fb mo N i M : Nat} {Y : Nat → Prop} {w0 W : World} {D : List (List UInt8)} (h : PAt B g fb mo Y w0 none (some ⟨1, 0, 0, 0⟩) D ⟨1, 0, 0, 0⟩ (lo9 M) i W) (b : List UInt8) (A : Option Addr) (c : Nat) (hl : LiesP W Y A (B8 b)) (hc1 : b.length ≤ c) (hc2 : c ≤ maxLen) (hb : b.length ≤ 512)
    (hN : (N + 2) * 8 ≤ mo) (hNN : N ≤ 32) (hi : i < N) (hiM : i ≤ M) (hM : M = i ∨ M = N) (hD : D.length = M) :
    Calls Try.prog 11 #[ptr fb, .slice A b.length c] W fun e w' => e = .returned (.tuple #[.int .i64 (2 + (i : Int)), .int .i64 0]) ∧ RmIn B g fb mo N w0 (.int .i64 ((i : Int) + 1)) w' := by
  by_cases hMi : M = i
  · subst hMi
    refine (p_put_new h b A c hl hc1 hc2 (by rw [lo9_length]; omega) hb (by rw [lo9_length]) (by rw [hD]; omega)).mono ?_
    rintro e w' ⟨r1, r2, _⟩
    rw [hD, ← lo9_next] at r2
    refine ⟨by rw [r1, hD]; congr 5; omega, M + 1, M + 1, _, by simp, Nat.le_refl _, by omega, .inl rfl, by simp [hD], r2.less (fun i hi => hi.elim)⟩
  · have hMN : M = N := hM.resolve_left hMi
    refine (p_put_old h b A c hl hc1 hc2 (by rw [lo9_length]; omega) hb i (by rw [lo9_length]; omega) (lo9_get M i (by omega)) (by omega)).mono ?_
    rintro e w' ⟨r1, r2, _⟩
    refine ⟨by rw [r1]; congr 5; omega, i + 1, M, _, by simp, by omega, by omega, .inr hMN, by simp [hD], r2.less (fun i hi => hi.elim)⟩
set_option maxHeartbeats 8000000 in
theorem room9_law (a0 : Int) (W : World) : Calls Try.prog 4 #[.int .i64 a0] W fun e w' => e = .returned (.bool true) ∧ Below W.heap.size W w' := by
  have hmk : bits .and .i64 a0 255 = a0 % 256 := by
    have := i64_mask a0 8 (by omega)
    simpa using this
  obtain ⟨mo, hmo⟩ : ∃ mo : Nat, 16 + a0 % 256 = (mo : Int) := ⟨(16 + a0 % 256).toNat, by omega⟩
  have hm1 : 16 ≤ mo ∧ mo ≤ 271 := by omega
  have HMO := Lib.hid hmo
  clear hmo
  obtain ⟨N, hN⟩ : ∃ N, N = mo / 8 - 2 := ⟨_, rfl⟩
  have hN2 : (N + 2) * 8 ≤ mo ∧ mo < (N + 3) * 8 := by omega
  have hd : ((mo : Nat) : Int).tdiv 8 = ((N + 2 : Nat) : Int) := by rw [show N + 2 = mo / 8 by omega]; exact (Int.ofNat_tdiv mo 8).symm
  have hd2 : ((N + 2 : Nat) : Int) - 2 = (N : Int) := by omega
  have hw1 : IntKind.i64.wrap ((N + 2 : Nat) : Int) = ((N + 2 : Nat) : Int) := IntWalk.i64_in _ ⟨by omega, by omega⟩
  have hw2 : IntKind.i64.wrap (N : Int) = (N : Int) := IntWalk.i64_in _ ⟨by omega, by omega⟩
  have hw3 : IntKind.i64.wrap (2 + (N : Int)) = 2 + (N : Int) := IntWalk.i64_in _ ⟨by omega, by omega⟩
  have hNN : N ≤ 32 := by omega
  have HN2 := Lib.hid hN2
  clear hN hN2
  go_enter Try.func4, Try.ntmps4
  go_upto_region 2 with fail
  rw [HMO.out]
  clear hmk
  have hdv : newDv (mo : Int) = ⟨mo, -1, []⟩ := by
    unfold newDv
    have : (min (max (mo : Int) 0) 100000).toNat = mo := by omega
    rw [this]
  have HDV := Lib.hid hdv
  clear hdv
  go_upto_region 5 with (go_at_call 9; go_must (refine (at_new (mo : Int) _ (by omega)).mono ?_); rintro e w1 ⟨g, rfl, h1⟩; rw [HDV.out] at h1; have A1 := Lib.hid h1; clear h1)
  have hop := p_open A1.out rfl (by omega) (by omega)
  have HOP := Lib.hid hop
  clear hop
  go_upto_region 10 with (go_at_call 10; go_must (refine HOP.out.mono ?_); rintro e w2 ⟨fb, rfl, hfb, hP, hk⟩; have P2 := Lib.hid hP; clear hP hk)
  clear hd hd2 hw1
  go_loopw [7] (fun vq wr => RmOut W.heap.size g fb mo N W vq wr) (fun vq _ => 2 - (intOf vq).toNat)
  case atStart => exact ⟨0, 0, [], rfl, by omega, .inl rfl, rfl, P2.out⟩
  case round =>
    obtain ⟨q, M, D, rfl, hq, hM, hD, hP⟩ := hrel
    have PR := Lib.hid hP
    have HM := Lib.hid hM
    have HD := Lib.hid hD
    clear hP hM hD
    by_cases hlt : q < 2
    · have hq1 : (q : Int) < 2 := by omega
      go_upto_region 13 with fail
      go_loopw [8] (fun vi wr => RmIn W.heap.size g fb mo N W vi wr) (fun vi _ => N - (intOf vi).toNat)
      case atStart => exact ⟨0, M, D, rfl, Nat.zero_le _, by rcases HM.out with h | h <;> omega, by rcases HM.out with h | h; exact .inl h; exact .inr h, HD.out, PR.out⟩
      case round =>
        obtain ⟨i, M', D', rfl, hi, hMN, hM, hD, hP⟩ := hrel
        have P := Lib.hid hP
        have HM' := Lib.hid hM
        have HD' := Lib.hid hD
        have HI := Lib.hid hi
        have HMN := Lib.hid hMN
        clear hP hM hD hi hMN
        by_cases hli : i < N
        · have hi1 : (i : Int) < (N : Int) := by omega
          have hwi : IntKind.i64.wrap (2 + (i : Int)) = 2 + (i : Int) := IntWalk.i64_in _ ⟨by omega, by omega⟩
          have hfi := p_fill P.out (i : Int) (by omega)
          have HFI := Lib.hid hfi
          obtain ⟨fl, hfl⟩ : ∃ fl, fl = fillB (i : Int) := ⟨_, rfl⟩
          have hfl5 : fl.length ≤ 512 := by rw [hfl, fillB_length]; exact (fillN_le _).2
          rw [← hfl] at HFI
          clear hfi hfl
          go_upto_region 16 with (first
            | (go_at_call 12; go_must (refine HFI.out.mono ?_); rintro e w5 ⟨A5, c5, Y5, rfl, hc5, hm5, hp5, hl5⟩; have P5 := Lib.hid hp5; have L5 := Lib.hid hl5; have HC5 := Lib.hid hc5; clear hp5 hl5 hc5)
            | (go_at_call 11; go_must (refine (rm_put P5.out fl A5 c5 L5.out HC5.out hm5 hfl5 HN2.out.1 hNN hli HI.out HM'.out HD'.out).mono ?_); rintro e w6 ⟨rfl, hr6⟩; have R6 := Lib.hid hr6; clear hr6))
          go_wp2_with fail
          go_roundw
          case rel => exact R6.out
          case measure => simp [intOf]; omega
        · have hin : i = N := by have := HI.out; have := HMN.out; omega
          have hMe : M' = N := by have := HI.out; have := HMN.out; omega
          subst hin hMe
          have hfi := p_fill P.out 1 (by omega)
          have HFI := Lib.hid hfi
          obtain ⟨fl, hfl⟩ : ∃ fl, fl = fillB 1 := ⟨_, rfl⟩
          have hfl5 : fl.length ≤ 512 := by rw [hfl, fillB_length]; exact (fillN_le _).2
          rw [← hfl] at HFI
          clear hfi hfl
          go_upto_region 19 with (first
            | (go_at_call 12; go_must (refine HFI.out.mono ?_); rintro e w5 ⟨A5, c5, Y5, rfl, hc5, hm5, hp5, hl5⟩; have P5 := Lib.hid hp5; have L5 := Lib.hid hl5; have HC5 := Lib.hid hc5; clear hp5 hl5 hc5)
            | (go_at_call 11; go_must (refine (p_put_full P5.out fl A5 c5 L5.out HC5.out hm5 (by rw [lo9_length]; omega) hfl5 (by rw [lo9_length]) (by rw [HD'.out]; exact HN2.out.2)).mono ?_); rintro e w6 ⟨rfl, hp6, _⟩; have P6 := Lib.hid (hp6.less (Y' := none9) (fun i hi => hi.elim)); clear hp6))
          have hln : Calls Try.prog 17 #[ptr fb] w6 fun e w' => e = .returned (.int .i64 (2 + (M' : Int))) ∧ w6 = w' := (p_len P6.out).mono fun e w' ⟨r1, r2⟩ => ⟨by rw [r1, HD'.out]; congr 2; omega, r2⟩
          have hfr := p_free P6.out (by rw [lo9_length]; omega)
          rw [show (lo9 M').drop M' = [] from List.drop_of_length_le (by rw [lo9_length]; exact Nat.le_refl _)] at hfr
          have HLN := Lib.hid hln
          have HFR := Lib.hid hfr
          clear hln hfr
          go_upto_region 21 with (first
            | (go_at_call 17; go_must (refine HLN.out.mono ?_); rintro e w7 ⟨rfl, rfl⟩)
            | (go_at_call 18; go_must (refine HFR.out.mono ?_); rintro e w8 ⟨v8, rfl, ho8, hb8⟩; obtain ⟨A8, c8, rfl, _, _⟩ := own_form ho8; have P8 := Lib.hid (P6.out.below hb8); clear ho8 hb8))
          go_upto_region 22 with (go_at_call 23; go_must (refine (p_drop P8.out).mono ?_); rintro e w9 ⟨rfl, hp9, _⟩; have P9 := Lib.hid hp9; clear hp9)
          have hfr := p_free P9.out (by rw [lo9_length]; omega)
          rw [List.drop_zero, lo9_length] at hfr
          have hme := fun (w : World) (hb : Below w9.heap.size w9 w) => p_meta (P9.out.below hb)
          have HFR2 := Lib.hid hfr
          have HME := Lib.hid hme
          clear hfr hme
          go_wp2_with (first
            | (go_at_call 18; go_must (refine HFR2.out.mono ?_); rintro e w10 ⟨v10, rfl, ho10, hb10⟩; obtain ⟨A10, c10, rfl, _, _⟩ := own_form ho10; have B10 := Lib.hid hb10; clear ho10 hb10)
            | (go_at_call 16; go_must (refine (HME.out _ B10.out).mono ?_); rintro e w11 ⟨rfl, hb11⟩; have P11 := Lib.hid (P9.out.below (B10.out.trans (hb11.mono B10.out.size))); clear hb11))
          go_roundw
          case rel => exact ⟨q + 1, M', D', by go_num, by omega, .inr rfl, HD'.out, P11.out⟩
          case measure => simp [intOf]; omega
    · go_wp2_with (go_at_call 22; go_must (refine (awake9 _).mono ?_); rintro e w9 ⟨rfl, hb9⟩; have B9 := Lib.hid hb9; clear hb9)
      go_ret
      exact ⟨rfl, PR.out.bel.trans (B9.out.mono PR.out.le)⟩
end Go.Proofs.Ytcmffifehpbjnaa
