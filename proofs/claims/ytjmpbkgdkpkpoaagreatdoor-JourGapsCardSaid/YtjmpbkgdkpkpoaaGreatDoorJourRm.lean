/- The law on room: its walk. -/
import Derived.Test.YtjmpbkgdkpkpoaaGreatDoorJourK
import Derived.Test.YtjmpbkgdkpkpoaaGreatDoorJourO
namespace Go.Proofs.YtjmpbkgdkpkpoaaGreatDoor
open Go.RowKit Go.Maps
set_option maxRecDepth 100000
set_option linter.unusedSimpArgs false
set_option linter.unusedVariables false
theorem addB_len (bss : List (List Bt)) (J : Jr) (x : Bt) (h : stays bss J → 0 < bss.length) : (addB bss J x).length ≤ bss.length + 1 := by
  unfold addB
  split
  · rename_i hs
    have := h hs
    simp
  · simp
theorem addB_needs (bss : List (List Bt)) (J : Jr) (x : Bt) (h : stays bss J → 0 < bss.length) : needss (addB bss J x) = needss bss + need x.b.length := by
  unfold addB
  split
  · rename_i hs
    have e := split_last (h hs)
    conv => rhs; rw [e]
    rw [needss_snoc, needss_snoc, needs_app]
    omega
  · rw [needss_snoc]
    simp [needs]
section
variable {B g jb mo : Nat} {X : Nat → Prop} {w0 W w' : World} {bss : List (List Bt)} {S : Dv} {J : Jr}
theorem JI.stays (h : JI mo bss S J) : stays bss J → 0 < bss.length := fun hs => by
  rcases h.file with h1 | h1
  · exact absurd h1 hs.1
  · exact h1.2
theorem rm_used {x : Bt} {S4 : Dv} {J4 : Jr} (h : JI mo (addB bss J x) S4 J4) (hs : Go.Proofs.YtjmpbkgdkpkpoaaGreatDoor.stays bss J → 0 < bss.length) : S4.used = needss bss + need x.b.length := by
  rw [h.dev.used, addB_needs bss J x hs]
theorem oct_ready (h : LAt B g jb mo X w0 bss S J W) {A : Option Addr} {c : Nat} {l : List UInt8} (ho : w'.ownsRow W.heap.size 5 1 (.slice A l.length c) l.length (B8 l)) (hb : Below W.heap.size W w') :
    ∃ X3 : Nat → Prop, (∀ i, X i → X3 i) ∧ LAt B g jb mo X3 w0 bss S J w' ∧ LiesP w' (fun i => X3 i ∧ i ≠ jb) A (B8 l) := by
  refine ⟨_, fun i hi => .inl hi, h.fence hb, LiesP.own ho fun i hi => ?_⟩
  have h1 := ho.lt i hi
  have h2 := h.jlt
  exact ⟨.inr h1, by omega⟩
end
theorem zero_cells (n : Nat) : (madeCells (Value.int .u8 0).cells (n * 1)).toList = B8 (List.replicate n 0) := by
  rw [Nat.mul_one]
  simp [madeCells, B8, Value.cells, Nat.mod_one]
  rw [List.map_const', List.length_range]
/-- the loop's state: behind i of the lengths -/
def RmAt (W : World) (g jb R L : Nat) (v8 v9 v10 : Value) (wr : World) : Prop :=
  ∃ (i : Nat) (X : Nat → Prop) (bss : List (List Bt)) (S : Dv) (J : Jr), i ≤ L ∧ i ≤ 20 ∧ LAt W.heap.size g jb R X W bss S J wr ∧ v10 = .int .i64 (i : Int) ∧ v8 = .int .i64 (needss bss : Int) ∧ v9 = .int .u64 (bss.flatten.length : Int) ∧ bss.length ≤ i ∧ bss.flatten.length ≤ i ∧ needss bss ≤ R
theorem new_most (R : Nat) (h : R < 128) : (newDv (R : Int)).most = R := by
  show (min (max (R : Int) 0) 100000).toNat = R
  omega
set_option maxHeartbeats 8000000 in
theorem room_law (a0 : Int) (l : List Int) (A : Option Addr) (cap : Nat) (W : World) (h0 : (Lit.int .i64 a0).wf = true) (c : l.length ≤ cap) (m : cap ≤ maxLen) (hl : Lies W W.heap.size A (cellsZ l)) (h64 : In64 l) :
    Calls Tryz.prog 9 #[.int .i64 a0, .slice A l.length cap] W fun e w' => e = .returned (.bool true) ∧ Below W.heap.size W w' := by
  obtain ⟨R, hR, _, hRe⟩ := mask_is a0 127 7 (by omega) (by decide)
  have hR' : R < 128 := hR
  have hmo := new_most R hR'
  have hlm : l.length ≤ maxLen := Nat.le_trans c m
  unfold maxLen at hlm
  have HL := Lib.hid hl
  have H6 := Lib.hid h64
  have HMO := Lib.hid hmo
  clear hR hmo hl h64 c m h0
  go_enter Tryz.func9, Tryz.ntmps9
  go_upto_region 5 with (go_at_call 10; go_must (refine (at_new (R : Int) _ (by omega)).mono ?_); rintro e w1 ⟨g, rfl, h1⟩; have A1 := Lib.hid h1; clear h1)
  have HOP := Lib.hid (k_open A1.out (JD.new (R : Int)) Seqs.nil (by simp))
  rw [HMO.out] at HOP
  go_upto_region 8 with (go_at_call 11; go_must (refine HOP.out.mono ?_); rintro e w2 ⟨jb, A, c, ms, X2, S2, rfl, hms, hXX, hnj, hjb, hL, hk, hbm⟩; have L2 := Lib.hid hL; clear hms hXX hnj hjb hL hk hbm)
  have L2' : Hid (LAt W.heap.size g jb R X2 W [] S2 jr0 w2) := L2
  clear A1 HOP L2
  go_wp2_with fail
  go_loopw [8, 9, 10] (fun v8 v9 v10 wr => RmAt W g jb R l.length v8 v9 v10 wr) (fun _ _ vi _ => 20 - (intOf vi).toNat)
  case atStart => exact ⟨0, X2, [], S2, jr0, Nat.zero_le _, by omega, L2'.out, rfl, rfl, rfl, Nat.zero_le _, Nat.zero_le _, Nat.zero_le _⟩
  case round =>
    obtain ⟨i, X, bss, S, J, hi1, hi2, hL, rfl, rfl, rfl, hb1, hb2, hb3⟩ := hrel
    have LL := Lib.hid hL
    have HB1 := Lib.hid hb1
    have HB2 := Lib.hid hb2
    obtain ⟨U, hU⟩ : ∃ U, U = needss bss := ⟨_, rfl⟩
    obtain ⟨Q, hQ⟩ : ∃ Q, Q = bss.flatten.length := ⟨_, rfl⟩
    rw [← hU, ← hQ]
    rw [← hU] at hb3
    have hQ20 : Q ≤ 20 := by omega
    have HU := Lib.hid hU
    have HQ := Lib.hid hQ
    clear hL hb1 hb2 hU hQ
    by_cases hlt : i < l.length ∧ i < 20
    · obtain ⟨hl1, hl2⟩ := hlt
      have hg1 : (i : Int) < (l.length : Int) := by omega
      have hg2 : (i : Int) < 20 := by omega
      obtain ⟨b, o, rfl, hcell⟩ := lies_get HL.out LL.out.at_.bel i hl1
      obtain ⟨v, hv⟩ : ∃ v, v = l.getD i 0 := ⟨_, rfl⟩
      rw [← hv] at hcell
      clear hv
      obtain ⟨n, hn, _, hne⟩ := mask_is v 2047 11 (by omega) (by decide)
      have hn' : n < 2048 := hn
      obtain ⟨nd, hnd⟩ : ∃ nd, nd = need n := ⟨_, rfl⟩
      have hnd2 : nd ≤ 43 := by rw [hnd]; unfold need; split <;> omega
      have HND := Lib.hid hnd
      have HNE := Lib.hid (fun w => need_any n w (by omega))
      rw [← hnd] at HNE
      have HOC := Lib.hid (fun w => octets_any n (by omega) (i : Int) ⟨by omega, by omega⟩ w)
      have hws : IntKind.i64.wrap ((R : Int) - (U : Int)) = (R : Int) - (U : Int) := IntWalk.i64_in _ ⟨by omega, by omega⟩
      clear hn hnd hR'
      by_cases hr : nd ≤ R - U
      · have hr' : ¬ (R : Int) - (U : Int) < (nd : Int) := by omega
        have hap := fun (X3 : Nat → Prop) (w : World) (A3 : Option Addr) (c3 : Nat) (lb : List UInt8) (hlb : lb.length = n) (h : LAt W.heap.size g jb R X3 W bss S J w) (hl : LiesP w (fun i => X3 i ∧ i ≠ jb) A3 (B8 lb)) => k_append h 1 (by omega) A3 c3 lb hl (by omega) (by rw [hlb, ← HND.out, ← HU.out]; omega) (by have := HB1.out; omega) (by have := HB2.out; omega)
        have HAP := Lib.hid hap
        clear hap
        have hwu : IntKind.i64.wrap ((U : Int) + (nd : Int)) = (U : Int) + (nd : Int) := IntWalk.i64_in _ ⟨by omega, by omega⟩
        have hwq : IntKind.u64.wrap ((Q : Int) + 1) = (Q : Int) + 1 := IntWalk.u64_in _ ⟨by omega, by omega⟩
        have HSQ : Hid (∀ lb, (newB bss J 1 lb).seq = Q + 1) := Lib.hid (fun lb => by show J.seq + 1 = Q + 1; rw [LL.out.i.seq, HQ.out])
        go_wp2_with (first
          | (go_at_call 13; go_must (refine (HOC.out _).mono ?_); rintro e w3 ⟨A3, c3, lb, rfl, hlb, ho3, hb3⟩; obtain ⟨X3, hXX3, l3, lb3⟩ := oct_ready LL.out ho3 hb3; have L3 := Lib.hid l3; have LB3 := Lib.hid lb3; have HLB := Lib.hid hlb; clear hlb ho3 hb3 l3 lb3 hXX3)
          | (go_at_call 12; go_must (refine (HAP.out X3 w3 A3 c3 lb HLB.out L3.out LB3.out).mono ?_); rintro e w4 ⟨A4, c4, X4, S4, rfl, hXX4, hL4, hk4, hbm4⟩; unfold btV; simp only [HSQ.out lb]; have L4 := Lib.hid hL4; have HUS : Hid (S4.used = U + nd) := Lib.hid (by rw [rm_used hL4.i LL.out.i.stays, ← HU.out, HND.out, ← HLB.out]; rfl); clear hL4 hXX4 hk4 hbm4)
          | (go_at_call 17; go_must (refine (HNE.out _).mono ?_); rintro e w5 ⟨rfl, rfl⟩)
          | (go_at_call 36; go_must (refine (at_used (L4.out.below ((Below.refl _ _).alloc (Nat.le_refl _) _)).at_ (U + nd) HUS.out).mono ?_); rintro e w6 ⟨rfl, rfl⟩))
        go_roundw
        case rel =>
          have hfl := addB_flat LL.out.i.stays (newB bss J 1 lb)
          have hnn := addB_needs bss J (newB bss J 1 lb) LL.out.i.stays
          have hln := addB_len bss J (newB bss J 1 lb) LL.out.i.stays
          have hb1 := HB1.out
          have hb2 := HB2.out
          have e1 : need (newB bss J 1 lb).b.length = nd := by rw [HND.out, ← HLB.out]; rfl
          refine ⟨i + 1, X4, addB bss J (newB bss J 1 lb), S4, newJ bss J, by omega, by omega, L4.out.below ((Below.refl _ _).alloc (Nat.le_refl _) _), by go_num, ?_, ?_, by omega, by rw [hfl, List.length_append]; show _ + 1 ≤ i + 1; omega, by rw [hnn, e1, ← HU.out]; omega⟩
          · rw [hnn, e1, ← HU.out]
            go_num
          · rw [hfl, List.length_append, ← HQ.out]
            go_num
        case measure => simp [intOf]; omega
      · have hr' : (R : Int) - (U : Int) < (nd : Int) := by omega
        have hrf : ∀ lb : List UInt8, lb.length = n → rfP S J 1 (need lb.length) = 6 := fun lb hlb => by
          unfold rfP
          rw [if_neg (by rw [LL.out.i.dead]; simp), if_neg (by omega), if_neg (by rw [hlb, ← HND.out, LL.out.i.seq]; have := HB2.out; omega), if_pos (by rw [LL.out.i.dev.most, LL.out.i.dev.used, hlb, ← HND.out, ← HU.out]; omega)]
        have hap := fun (X3 : Nat → Prop) (w : World) (A3 : Option Addr) (c3 : Nat) (lb : List UInt8) (hlb : lb.length = n) (h : LAt W.heap.size g jb R X3 W bss S J w) (hl : LiesP w (fun i => X3 i ∧ i ≠ jb) A3 (B8 lb)) => k_append_no h 1 (by omega) A3 c3 lb 6 (hrf lb hlb) (by omega) hl (by omega) (by have := HB1.out; omega) (by have := HB2.out; omega)
        have HAP := Lib.hid hap
        have HUS : Hid (S.used = U) := Lib.hid (by rw [LL.out.i.dev.used, HU.out])
        have HSE : Hid (J.seq = Q) := Lib.hid (by rw [LL.out.i.seq, HQ.out])
        clear hap hrf
        go_wp2_with (first
          | (go_at_call 13; go_must (refine (HOC.out _).mono ?_); rintro e w3 ⟨A3, c3, lb, rfl, hlb, ho3, hb3⟩; obtain ⟨X3, hXX3, l3, lb3⟩ := oct_ready LL.out ho3 hb3; have L3 := Lib.hid l3; have LB3 := Lib.hid lb3; have HLB := Lib.hid hlb; clear hlb ho3 hb3 l3 lb3 hXX3)
          | (go_at_call 12; go_must (refine (HAP.out X3 w3 A3 c3 lb HLB.out L3.out LB3.out).mono ?_); rintro e w4 ⟨A4, c4, X4, rfl, hXX4, hL4, hk4⟩; unfold btV bt0; have L4 := Lib.hid hL4; have L5 := Lib.hid (hL4.below ((Below.refl _ _).alloc (Nat.le_refl _) (.cells #[.int .u64 0, .int .i64 0, .slice A4 0 c4, .int .i64 0, .int .i64 0] 32))); clear hL4 hXX4 hk4)
          | (go_at_call 17; go_must (refine (HNE.out _).mono ?_); rintro e w5 ⟨rfl, rfl⟩)
          | (go_at_call 36; go_must (refine (at_used L5.out.at_ U HUS.out).mono ?_); rintro e w6 ⟨rfl, rfl⟩)
          | (go_at_call 20; go_must (refine (jseq_any L5.out.j).mono ?_); rintro e w7 ⟨he, rfl⟩; rw [HSE.out] at he; subst he))
        go_roundw
        case rel =>
          have hb1 := HB1.out
          have hb2 := HB2.out
          exact ⟨i + 1, X4, bss, S, J, by omega, by omega, L5.out, by go_num, by rw [HU.out], by rw [HQ.out], by omega, by omega, by rw [← HU.out]; exact hb3⟩
        case measure => simp [intOf]; omega
    · have hrf : ∀ lb : List UInt8, lb.length = 196609 → rfP S J 1 (need lb.length) = 11 := fun lb hlb => by
        have hn : need lb.length = 4097 := by rw [hlb]; rfl
        unfold rfP
        rw [if_neg (by rw [LL.out.i.dead]; simp), if_neg (by omega), if_pos (by rw [hn]; omega)]
      have hap := fun (X3 : Nat → Prop) (w : World) (A3 : Option Addr) (c3 : Nat) (lb : List UInt8) (hlb : lb.length = 196609) (h : LAt W.heap.size g jb R X3 W bss S J w) (hl : LiesP w (fun i => X3 i ∧ i ≠ jb) A3 (B8 lb)) => k_append_no h 1 (by omega) A3 c3 lb 11 (hrf lb hlb) (by omega) hl (by omega) (by have := HB1.out; omega) (by have := HB2.out; omega)
      have hrow : ∀ w', w'.ownsRow wr.heap.size 5 1 (.slice (some ⟨wr.heap.size, 0, none⟩) 196609 196609) 196609 (madeCells (Value.int .u8 0).cells (196609 * 1)).toList → Below wr.heap.size wr w' →
          Calls Tryz.prog 12 #[ptr jb, .int .i64 1, .slice (some ⟨wr.heap.size, 0, none⟩) 196609 196609] w' fun e w'' => ∃ (A' : Option Addr) (c' : Nat) (X' : Nat → Prop), e = .returned (.tuple #[.agg #[.int .u64 0, .int .i64 0, .slice A' 0 c', .int .i64 0, .int .i64 0], .int .i64 11]) ∧ LAt W.heap.size g jb R X' W bss S J w'' := fun w' ho hb => by
        have hz := zero_cells 196609
        have hll : (List.replicate 196609 (0 : UInt8)).length = 196609 := List.length_replicate
        rw [hz] at ho
        have ho' : w'.ownsRow wr.heap.size 5 1 (.slice (some ⟨wr.heap.size, 0, none⟩) (List.replicate 196609 (0 : UInt8)).length 196609) (List.replicate 196609 (0 : UInt8)).length (B8 (List.replicate 196609 0)) := by rw [hll]; exact ho
        obtain ⟨X3, hXX3, l3, lb3⟩ := oct_ready LL.out ho' hb
        have := hap X3 w' _ 196609 _ hll l3 lb3
        rw [hll] at this
        refine this.mono ?_
        rintro e w'' ⟨A', c', X', h1, _, h3, _⟩
        exact ⟨A', c', X', h1, h3⟩
      have HROW := Lib.hid hrow
      have hwq : IntKind.u64.wrap (Q : Int) = (Q : Int) := IntWalk.u64_in _ ⟨by omega, by omega⟩
      have hsc := fun (X3 : Nat → Prop) (w : World) (h : LAt W.heap.size g jb R X3 W bss S J w) => (k_scan h.at_ h.i.dev h.i.seqs (by have := HB1.out; omega)).mono (R' := fun e w' => ∃ A5 c5, e = .returned (.slice A5 Q c5) ∧ Below w.heap.size w w') fun e w' ⟨A5, c5, ms5, h1, h2, h3, h4⟩ => by
        have : ms5.length = Q := by have := congrArg List.length h2; rw [List.length_map, ← HQ.out] at this; exact this
        rw [this] at h1
        exact ⟨A5, c5, h1, h4⟩
      have HSC := Lib.hid hsc
      obtain ⟨i0, hi, hz0, hz1, hz2⟩ := info_parts u8_info
      have hby : i0.bytes * 196609 ≤ 281474976710656 := by rw [hz2]; omega
      have hml : 196609 ≤ maxLen := by unfold maxLen; omega
      have HI := Lib.hid hi
      have H0 := Lib.hid hz0
      have H1 := Lib.hid hz1
      have HBY := Lib.hid hby
      have HML := Lib.hid hml
      have hends : ¬ (i : Int) < (l.length : Int) ∨ ((i : Int) < (l.length : Int) ∧ ¬ (i : Int) < 20) := by omega
      clear hrf hap hrow hsc hi hz0 hz1 hz2 hby hml hlt hR'
      rcases hends with hg1 | ⟨hg1, hg2⟩
      all_goals
        go_wp2_with (first
          | (at_make; go_must (refine wpList_make_full _ rfl _ _ 30 rfl wr.heap.size 5 i0 (.int .u8 0) 1 Tryz.underlying30 HI.out H0.out H1.out .i64 .i64 _ _ 196609 rfl rfl rfl rfl HBY.out HML.out (Nat.le_refl _) ?_); intro w3 hown hg3; have B3 := Lib.hid (below_none hg3); have O3 := Lib.hid hown; clear hown hg3)
          | (go_at_call 12; go_must (refine (HROW.out w3 O3.out B3.out).mono ?_); rintro e w4 ⟨A4, c4, X4, rfl, hL4⟩; have L5 := Lib.hid (hL4.below ((Below.refl _ _).alloc (Nat.le_refl _) (.cells #[.int .u64 0, .int .i64 0, .slice A4 0 c4, .int .i64 0, .int .i64 0] 32))); clear hL4)
          | (go_at_call 19; go_must (refine (HSC.out X4 _ L5.out).mono ?_); rintro e w5 ⟨A5, c5, rfl, hb5⟩; have B5 := Lib.hid (L5.out.at_.bel.trans (hb5.mono L5.out.at_.le)); clear hb5)
          | (go_at_call 14; go_must (refine (awake8 _).mono ?_); rintro e w6 ⟨rfl, hb6⟩; have B6 := Lib.hid (B5.out.trans (hb6.mono B5.out.size)); clear hb6))
        go_ret
        exact ⟨by first | rfl | simp, B6.out⟩
end Go.Proofs.YtjmpbkgdkpkpoaaGreatDoor
