/- The law on what any octets and heads tell: its walk. -/
import Derived.Test.YtfajkbegmmlmjaaContV
import Derived.Test.YtfajkbegmmlmjaaConv2
import Derived.Test.YtfajkbegmmlmjaaStep
import Derived.Test.YtfajkbegmmlmjaaStep2
import Derived.Deep.DeepCutAuto
import Derived.Deep.DeepMust
import Derived.BigRegion
namespace Go.Proofs.Ytfajkbegmmlmjaa
open Go.RowKit
set_option maxRecDepth 100000
set_option linter.unusedSimpArgs false
set_option linter.unusedVariables false

/-- what stands ahead of a round -/
def TellsI (w : World) (s : Nat) (t : List UInt8) (chv iv : Value) (wr : World) : Prop :=
  ∃ (j : Nat) (m ch : Int), j ≤ 2 ∧ iv = .int .i64 (j : Nat) ∧ chv = .int .i64 ch ∧ Whole wr w.heap.size 25 #[.int .u64 s, .int .i64 m, .string ⟨t.toArray⟩] ∧ Below w.heap.size w wr
/-- the document's octets -/
def WantAt (w3 : World) (V : List UInt8) (v : Value) (wx : World) : Prop :=
  ∃ A c, v = .slice A V.length c ∧ V.length ≤ c ∧ c ≤ maxLen ∧ Lies wx wx.heap.size A (B8 V) ∧ Below w3.heap.size w3 wx ∧ (c = 1 ∨ 2 ≤ V.length)
def CTurned (B : Nat) (w0 : World) (T : List UInt8) (A : Option Addr) (w : World) : Prop := ∃ X, X.length = T.length ∧ Below B w0 w ∧ Lies w w.heap.size A (B8 X)
/-- octets that are asked -/
def CAsked (w0 : World) (v : Value) (w : World) : Prop := ∃ A Y c, v = .slice A Y.length c ∧ Y.length ≤ c ∧ c ≤ maxLen ∧ Y.length ≤ 70368744177664 ∧ Lies w w.heap.size A (B8 Y) ∧ Below w0.heap.size w0 w
theorem Lies.of_whole {w : World} {g : Nat} {t : TypeId} {u : Value} (h : Whole w g t #[u]) (D : Nat) (hD : g < D) : Lies w D (some ⟨g, 0, none⟩) [u] := by
  refine .inr ⟨g, 0, rfl, hD, fun j x hx => ?_⟩
  rw [Nat.zero_add, h.cell]
  simpa using hx
theorem Whole.drew' {w : World} {g : Nat} {t : TypeId} {cs : Array Value} (h : Whole w g t cs) : Whole w.drew g t cs := h
theorem cappB_length (s : Nat) (m : Int) (t : List UInt8) (ht : t.length ≤ 400) : 1 ≤ (cappB [3] s m t).length ∧ (cappB [3] s m t).length ≤ 500 := by
  unfold cappB
  split
  · rw [List.length_append, headB_length]
    simp only [List.length_cons, List.length_nil]
    split <;> split <;> omega
  · simp

theorem rheadof_yes (A : Option Addr) (c n : Nat) (b : List UInt8) (B : Nat) (w : World) (s m : Nat) (t : List UInt8) (hn : n = b.length) (hl : Lies w B A (B8 b)) (hB : B ≤ w.heap.size) (hs : b.length ≤ 140737488355328) (hc : b.length ≤ c) (hcm : c ≤ maxLen) (hP : headP b = some (s, m, t)) :
    Calls Try.prog 13 #[.slice A n c] w fun e w' => e = .returned (.tuple #[.agg #[.int .u64 s, .int .i64 m, .string ⟨t.toArray⟩], .int .i64 0]) ∧ Below w.heap.size w w' := by
  refine (rheadof_any A c n b B w hn hl hB hs hc hcm).mono ?_
  rw [hP]
  rintro e w' ⟨h1, h2⟩
  exact ⟨h2, h1⟩
theorem rheadof_no (A : Option Addr) (c n : Nat) (b : List UInt8) (B : Nat) (w : World) (hn : n = b.length) (hl : Lies w B A (B8 b)) (hB : B ≤ w.heap.size) (hs : b.length ≤ 140737488355328) (hc : b.length ≤ c) (hcm : c ≤ maxLen) (hP : headP b = none) :
    Calls Try.prog 13 #[.slice A n c] w fun e w' => e = .returned (.tuple #[.agg #[.int .u64 0, .int .i64 0, .string ⟨#[]⟩], .int .i64 4]) ∧ Below w.heap.size w w' := by
  refine (rheadof_any A c n b B w hn hl hB hs hc hcm).mono ?_
  rw [hP]
  rintro e w' ⟨h1, h2⟩
  exact ⟨h2, h1⟩

set_option maxHeartbeats 40000000 in
theorem ctells_any (s : Nat) (m0 : Int) (t raw body : List UInt8) (AR AB : Option Addr) (cR cB : Nat) (x z ch0 : Int) (y : UInt8) (w : World) (hs : s < 18446744073709551616) (ht : t.length ≤ 400) (hr : Lies w w.heap.size AR (B8 raw)) (hr4 : raw.length ≤ 400) (hrc : raw.length ≤ cR) (hrm : cR ≤ maxLen) (hbl : Lies w w.heap.size AB (B8 body)) (hb11 : body.length ≤ 11000) (hbc : body.length ≤ cB) (hbm : cB ≤ maxLen) :
    Calls Try.prog 4 #[.slice AR raw.length cR, .agg #[.int .u64 s, .int .i64 m0, .string ⟨t.toArray⟩], .int .i64 x, .int .u8 (y.toNat : Int), .int .i64 z, .int .i64 ch0, .slice AB body.length cB] w fun e w' => e = .returned (.bool true) ∧ Below w.heap.size w w' := by
  obtain ⟨wa, hwa⟩ : ∃ wa, wa = w.alloc (.cells #[.int .u64 s, .int .i64 m0, .string ⟨t.toArray⟩] 25) := ⟨_, rfl⟩
  have hb0 : Below w.heap.size w wa := by rw [hwa]; exact (Below.refl _ _).alloc (Nat.le_refl _) _
  have hk0 : Whole wa w.heap.size 25 #[.int .u64 s, .int .i64 m0, .string ⟨t.toArray⟩] := by rw [hwa]; exact Whole.new _ _ _
  have a2 : wa.cell? ⟨w.heap.size, 2, none⟩ = some (.string ⟨t.toArray⟩) := hk0.cell 2
  have B0 := Lib.hid hb0
  have K0 := Lib.hid hk0
  have HWA := Lib.hid hwa
  have HRW := Lib.hid hr
  have HBW := Lib.hid hbl
  have htm : t.length ≤ maxLen := by unfold maxLen; omega
  have hi1 : (raw.length : Int) ≤ 400 := by omega
  have hi2 : (t.length : Int) ≤ 400 := by omega
  have hi3 : (body.length : Int) ≤ 11000 := by omega
  obtain ⟨i0, hi, hz0, hz1, hz2⟩ := info_parts u8_info
  have HI := Lib.hid hi
  have G0 := Lib.hid hz0
  have G1 := Lib.hid hz1
  have G2 := Lib.hid hz2
  rw [hwa] at a2
  clear hb0 hk0 hwa hr hbl hi hz0 hz1 hz2
  go_enter Try.func4, Try.ntmps4
  go_wp2_with fail
  clear a2
  rw [← HWA.out]
  have d1 : decide ((400 : Int) < (raw.length : Int)) = false := decide_eq_false (by omega)
  have d2 : decide ((400 : Int) < (t.length : Int)) = false := decide_eq_false (by omega)
  have d3 : decide ((11000 : Int) < (body.length : Int)) = false := decide_eq_false (by omega)
  try simp only [d1, d2, d3, Bool.or_self, Bool.or_false, Bool.false_or]
  clear d1 d2 d3
  go_loopw [5, 15] (fun chv iv wr => TellsI w s t chv iv wr) (fun _ i _ => 2 - (intOf i).toNat)
  case atStart => exact ⟨0, m0, ch0, by omega, rfl, rfl, K0.out, B0.out⟩
  case round =>
    obtain ⟨j, m, ch, hj, rfl, rfl, hkr, hbr⟩ := hrel
    have KR := Lib.hid hkr
    have BR := Lib.hid hbr
    have zr := hbr.size
    have hblk : w.heap.size < wr.heap.size := hkr.lt
    clear hkr hbr
    by_cases hj2 : j = 2
    · subst hj2
      go_wp2_with fail
      refine (awake5_any _).mono ?_
      rintro e w9 ⟨rfl, hb9⟩
      have C9 := Lib.hid (BR.out.trans (hb9.mono zr))
      clear hb9
      go_wp2_with fail
      go_ret
      exact ⟨rfl, C9.out⟩
    · have hlt : (j : Int) < 2 := by omega
      obtain ⟨V, hV⟩ : ∃ V, V = cappB [3] s m t := ⟨_, rfl⟩
      obtain ⟨ok, hok⟩ : ∃ ok, ok = headOk m t := ⟨_, rfl⟩
      obtain ⟨hV1, hV5⟩ := cappB_length s m t ht
      rw [← hV] at hV1 hV5
      have HV := Lib.hid hV
      have HOK := Lib.hid hok
      obtain ⟨wb, hwb⟩ : ∃ wb, wb = wr.alloc (.cells #[.int .u8 3] 5) := ⟨_, rfl⟩
      have hbb : Below wr.heap.size wr wb := by rw [hwb]; exact (Below.refl _ _).alloc (Nat.le_refl _) _
      have hszb : wb.heap.size = wr.heap.size + 1 := by rw [hwb]; simp
      have L3 : Hid (Lies wb (wr.heap.size + 1) (some ⟨wr.heap.size, 0, none⟩) (B8 [3])) := Lib.hid (by rw [hwb]; exact Lies.one wr 5 (.int .u8 3))
      have KB := Lib.hid (KR.out.below hbb hblk)
      have BB := Lib.hid (BR.out.trans (hbb.mono zr))
      have SZ := Lib.hid hszb
      have HWB := Lib.hid hwb
      have k0 : wb.cell? ⟨w.heap.size, 0, none⟩ = some (.int .u64 s) := KB.out.cell 0
      have k1 : wb.cell? ⟨w.heap.size, 1, none⟩ = some (.int .i64 m) := KB.out.cell 1
      have k2 : wb.cell? ⟨w.heap.size, 2, none⟩ = some (.string ⟨t.toArray⟩) := KB.out.cell 2
      rw [hwb] at k0 k1 k2
      clear hV hok hbb hszb hwb
      go_wp2_with fail
      rw [← HWB.out]
      clear k0 k1 k2
      refine (cappend_at (some ⟨wr.heap.size, 0, none⟩) 1 1 [3] (wr.heap.size + 1) s m t _ ok V rfl L3.out (by rw [SZ.out]; exact Nat.le_refl _) (by simp) htm HOK.out.symm HV.out.symm).mono ?_
      rintro e w2 ⟨v2, rfl, ho, hb⟩
      obtain ⟨A2, c2, rfl, hc2, hm2⟩ := own_form ho
      have z2 := hb.size
      rw [SZ.out] at z2
      have L2 := Lib.hid (Lies.own ho (Nat.le_refl _))
      have K2 := Lib.hid (KB.out.below hb (by rw [SZ.out]; omega))
      have B2 := Lib.hid (BB.out.trans (hb.mono (by rw [SZ.out]; omega)))
      obtain ⟨w2a, hw2a⟩ : ∃ w2a, w2a = w2.alloc (.cells #[.int .u8 3] 5) := ⟨_, rfl⟩
      have hba : Below w2.heap.size w2 w2a := by rw [hw2a]; exact (Below.refl _ _).alloc (Nat.le_refl _) _
      have hsza : w2a.heap.size = w2.heap.size + 1 := by rw [hw2a]; simp
      have L3a : Hid (Lies w2a (w2.heap.size + 1) (some ⟨w2.heap.size, 0, none⟩) (B8 [3])) := Lib.hid (by rw [hw2a]; exact Lies.one w2 5 (.int .u8 3))
      have L2a := Lib.hid (L2.out.below hba)
      have K2a := Lib.hid (K2.out.below hba K2.out.lt)
      have B2a := Lib.hid (B2.out.trans (hba.mono (by omega)))
      have SZa := Lib.hid hsza
      have HW2A := Lib.hid hw2a
      have k0 : w2a.cell? ⟨w.heap.size, 0, none⟩ = some (.int .u64 s) := K2a.out.cell 0
      have k1 : w2a.cell? ⟨w.heap.size, 1, none⟩ = some (.int .i64 m) := K2a.out.cell 1
      have k2 : w2a.cell? ⟨w.heap.size, 2, none⟩ = some (.string ⟨t.toArray⟩) := K2a.out.cell 2
      rw [hw2a] at k0 k1 k2
      clear ho hb hba hsza hw2a
      go_wp2_with fail
      rw [← HW2A.out]
      clear k0 k1 k2
      refine (rheadok_any s m t _ htm).mono ?_
      rw [← HOK.out]
      rintro e w3 ⟨rfl, hb⟩
      have z3 := hb.size
      rw [SZa.out] at z3
      have L33 := Lib.hid (L3a.out.below (hb.mono (by rw [SZa.out]; exact Nat.le_refl _)))
      have L23 := Lib.hid (L2a.out.below (hb.mono (by rw [SZa.out]; omega)))
      have K3 := Lib.hid (K2a.out.below hb (by rw [SZa.out]; omega))
      have B3 := Lib.hid (B2a.out.trans (hb.mono (by rw [SZa.out]; omega)))
      have k0 : w3.cell? ⟨w.heap.size, 0, none⟩ = some (.int .u64 s) := K3.out.cell 0
      have k1 : w3.cell? ⟨w.heap.size, 1, none⟩ = some (.int .i64 m) := K3.out.cell 1
      have k2 : w3.cell? ⟨w.heap.size, 2, none⟩ = some (.string ⟨t.toArray⟩) := K3.out.cell 2
      clear hb
      go_upto_if 58 with fail
      go_cut [18] (fun s18 wx => WantAt w3 V s18 wx)
      case first =>
        cases ok with
        | true =>
          have HV2 : Hid ([3] ++ headB s m t = V) := Lib.hid (by rw [HV.out]; unfold cappB; rw [← HOK.out, if_pos rfl])
          go_wp2_with fail
          refine (rhead_any (some ⟨w2.heap.size, 0, none⟩) 1 1 [3] (w2.heap.size + 1) s m t _ rfl L33.out z3 (by simp) HOK.out.symm).mono ?_
          rw [HV2.out]
          rintro e w4 ⟨v4, rfl, ho, hb⟩
          obtain ⟨A4, c4, rfl, hc4, hm4⟩ := own_form ho
          have D : Hid (WantAt w3 V (.slice A4 V.length c4) w4) := Lib.hid ⟨A4, c4, rfl, hc4, hm4, Lies.own ho (Nat.le_refl _), hb, .inr (by rw [← HV2.out, List.length_append, headB_length]; simp; omega)⟩
          clear ho hb
          go_wp2_with fail
          go_meet
          exact D.out
        | false =>
          have HV2 : V = [3] := by rw [HV.out]; unfold cappB; rw [← HOK.out]; rfl
          have D : Hid (WantAt w3 V (.slice (some ⟨w2.heap.size, 0, none⟩) 1 1) w3) := Lib.hid ⟨_, 1, by rw [HV2]; rfl, by rw [HV2]; exact Nat.le_refl _, by unfold maxLen; omega, by rw [HV2]; exact L33.out.more z3, Below.refl _ _, .inl rfl⟩
          clear HV2
          go_wp2_with fail
          go_meet
          exact D.out
      case rest =>
        obtain ⟨w4, hw4⟩ : ∃ w4 : World, w4 = wc := ⟨_, rfl⟩
        subst hw4
        obtain ⟨A4, c4, rfl, hc4, hm4, hl4, hb4, hone⟩ := hcut
        clear k0 k1 k2
        obtain ⟨g4, o4, rfl, hg4, _⟩ := hl4.octets.resolve_left (by intro h; rw [h] at hV1; simp at hV1)
        have z4 := hb4.size
        have L4 := Lib.hid hl4
        have L24 := Lib.hid (L23.out.below (hb4.mono (by omega)))
        have K4 := Lib.hid (K3.out.below hb4 (by omega))
        have B4 := Lib.hid (B3.out.trans (hb4.mono (by omega)))
        have cvA := run_octets_string (P := Try.prog) 26 9 5 Try.underlying26 Try.underlying5 Try.underlying9 L24.out c2
        have cvB := run_octets_string (P := Try.prog) 26 9 5 Try.underlying26 Try.underlying5 Try.underlying9 L4.out c4
        have hm4' := hm4
        unfold maxLen at hm4'
        have hcV : (V.length : Int) ≤ (c4 : Int) := by omega
        have hV1i : (1 : Int) ≤ (V.length : Int) := by omega
        clear hl4 hb4
        go_upto_region 13 with fail
        clear cvA cvB
        obtain ⟨T, hT⟩ : ∃ T, T = V.drop 1 := ⟨_, rfl⟩
        have hTl : V.length = T.length + 1 := by rw [hT, List.length_drop]; omega
        have HTL := Lib.hid hTl
        have hT5 : T.length ≤ 499 := by omega
        have RW4 := Lib.hid ((HRW.out.below B4.out).more (show w.heap.size ≤ w4.heap.size by omega))
        have BW4 := Lib.hid ((HBW.out.below B4.out).more (show w.heap.size ≤ w4.heap.size by omega))
        have ho0 : (w4.alloc (.cells #[] 5)).ownsRow w4.heap.size 5 1 (.slice (some ⟨w4.heap.size, 0, none⟩) 0 0) 0 [] := World.ownsRow_made w4 #[] 0 (Nat.le_refl _) (Nat.zero_le _) rfl
        have HO0 := Lib.hid ho0
        have BA4 : Hid (Below w4.heap.size w4 (w4.alloc (.cells #[] 5))) := Lib.hid ((Below.refl _ _).alloc (Nat.le_refl _) _)
        have za : w4.heap.size ≤ (w4.alloc (.cells #[] 5)).heap.size := by simp
        have ZA := Lib.hid za
        have hs' : 0 + T.length ≤ 140737488355328 := by omega
        clear ho0 za
        rw [hTl]
        by_cases hcw : c4 = 1
        · have hT0 : T = [] := List.eq_nil_of_length_eq_zero (by omega)
          clear hT
          subst hT0
          have LT4 : Hid (Lies w4 w4.heap.size (some ⟨g4, o4, none⟩) (B8 [])) := Lib.hid (Lies.empty _ _ _)
          clear hTl hT5 hcV hV1i
          subst hcw
          go_upto_if 78 with (at_builtin; refine wpList_append_cells rfl _ _ 26 rfl w4.heap.size 5 i0 (.int .u8 0) 1 1 Try.underlying26 HI.out G0.out G1.out G2.out rfl (by omega) _ 0 [] rfl HO0.out _ (some ⟨g4, o4, none⟩) 0 0 (B8 []) rfl (LT4.out.below BA4.out) (B8_len1 []) (B8_one []) (room63 hs') (room1 hs') ZA.out ?_; intro v6 w6 hown6 hb6; rw [Nat.zero_add, List.nil_append] at hown6; obtain ⟨A6, c6, rfl, hc6, hm6⟩ := own_form hown6; have HB6 := Lib.hid (BA4.out.trans hb6); have HO6 := Lib.hid hown6; have L6 := Lib.hid (Lies.own hown6 (Nat.le_refl _)); clear hown6 hb6)
          go_cut [] (fun wx => CTurned w4.heap.size w4 [] A6 wx)
          case first =>
            have D : Hid (CTurned w4.heap.size w4 [] A6 w6) := Lib.hid ⟨[], rfl, HB6.out, L6.out⟩
            go_wp2_with fail
            go_meet
            exact D.out
          case rest =>
            obtain ⟨wq, hwq⟩ : ∃ wq : World, wq = wc := ⟨_, rfl⟩
            subst hwq
            obtain ⟨X, hXl, hbx, hlx⟩ := hcut
            have hzx := hbx.size
            have LTx := Lib.hid (LT4.out.below hbx)
            have KX := Lib.hid (K4.out.below hbx (by omega))
            have BX := Lib.hid (B4.out.trans (hbx.mono (by omega)))
            have RX := Lib.hid (RW4.out.below hbx)
            have BYX := Lib.hid (BW4.out.below hbx)
            have LXx := Lib.hid hlx
            have HXL := Lib.hid hXl
            clear hbx hlx hXl
            go_wp2_with fail
            obtain ⟨wo, hwo⟩ : ∃ wo : World, wo = wr := ⟨_, rfl⟩
            subst hwo
            go_loopw [21] (fun i wr => ∃ q : Nat, q ≤ 4 ∧ i = .int .i64 q ∧ Below wq.heap.size wq wr) (fun i _ => 4 - (intOf i).toNat)
            case atStart => exact ⟨0, by omega, rfl, Below.refl _ _⟩
            case round =>
              obtain ⟨q, hq, rfl, hbr2⟩ := hrel
              have BQ := Lib.hid hbr2
              have hzq := hbr2.size
              clear hbr2
              have hq4 : q = 0 ∨ q = 1 ∨ q = 2 ∨ q = 3 ∨ q = 4 := by omega
              clear hq
              by_cases hq3 : q = 4
              · as_aux_lemma =>
                  subst hq3
                  clear hq4
                  obtain ⟨w5, hw5⟩ : ∃ w5 : World, w5 = wr := ⟨_, rfl⟩
                  subst hw5
                  have B5 := Lib.hid (BX.out.trans (BQ.out.mono (by omega)))
                  have K5 := Lib.hid (KX.out.below BQ.out (by omega))
                  have Y5 := Lib.hid (BYX.out.below (BQ.out.mono (by omega)))
                  obtain ⟨w5a, hw5a⟩ : ∃ w5a, w5a = w5.alloc (.cells #[.int .u8 4] 5) := ⟨_, rfl⟩
                  have hba : Below w5.heap.size w5 w5a := by rw [hw5a]; exact (Below.refl _ _).alloc (Nat.le_refl _) _
                  have hsza : w5a.heap.size = w5.heap.size + 1 := by rw [hw5a]; simp
                  have F5 : Hid (Lies w5a (w5.heap.size + 1) (some ⟨w5.heap.size, 0, none⟩) (B8 [4])) := Lib.hid (by rw [hw5a]; exact Lies.one w5 5 (.int .u8 4))
                  have z5 : w4.heap.size ≤ w5.heap.size := by omega
                  have K5a := Lib.hid (K5.out.below hba (by omega))
                  have B5a := Lib.hid (B5.out.trans (hba.mono (by omega)))
                  have Y5a := Lib.hid ((Y5.out.below (hba.mono z5)).more (show w4.heap.size ≤ w5.heap.size + 1 by omega))
                  have S5 := Lib.hid hsza
                  have HW5 := Lib.hid hw5a
                  have k0 : w5a.cell? ⟨w.heap.size, 0, none⟩ = some (.int .u64 s) := K5a.out.cell 0
                  have k1 : w5a.cell? ⟨w.heap.size, 1, none⟩ = some (.int .i64 m) := K5a.out.cell 1
                  have k2 : w5a.cell? ⟨w.heap.size, 2, none⟩ = some (.string ⟨t.toArray⟩) := K5a.out.cell 2
                  obtain ⟨rr, hrr⟩ : ∃ rr, rr = (ok && chanOk ch) := ⟨_, rfl⟩
                  obtain ⟨R, hR⟩ : ∃ R, R = if rr then [4] ++ contB ch.toNat (headB body.length m t) body else [4] := ⟨_, rfl⟩
                  have HRR := Lib.hid hrr
                  have HR := Lib.hid hR
                  rw [hw5a] at k0 k1 k2
                  clear hba hsza hw5a hrr hR
                  go_wp2_with fail
                  rw [← HW5.out]
                  clear k0 k1 k2
                  refine (cframes_at (some ⟨w5.heap.size, 0, none⟩) 1 1 [4] (w5.heap.size + 1) ch s m t AB body.length body cB _ rr R rfl rfl F5.out (by rw [S5.out]; exact Nat.le_refl _) (by simp) htm Y5a.out (by omega) hbc hbm (by rw [HRR.out, HOK.out]) HR.out.symm).mono ?_
                  rintro e w6 ⟨v6, rfl, ho, hb⟩
                  obtain ⟨A7, c7, rfl, hc7, hm7⟩ := own_form ho
                  have z6 := hb.size
                  rw [S5.out] at z6
                  have M6 := Lib.hid (Lies.own ho (Nat.le_refl _))
                  have K6 := Lib.hid (K5a.out.below hb (by rw [S5.out]; omega))
                  have B6 := Lib.hid (B5a.out.trans (hb.mono (by rw [S5.out]; omega)))
                  have Y6 := Lib.hid ((Y5a.out.below (hb.mono (by rw [S5.out]; omega))).more z6)
                  obtain ⟨w6a, hw6a⟩ : ∃ w6a, w6a = w6.alloc (.cells #[.int .u8 4] 5) := ⟨_, rfl⟩
                  have hba : Below w6.heap.size w6 w6a := by rw [hw6a]; exact (Below.refl _ _).alloc (Nat.le_refl _) _
                  have hsza : w6a.heap.size = w6.heap.size + 1 := by rw [hw6a]; simp
                  have F6 : Hid (Lies w6a (w6.heap.size + 1) (some ⟨w6.heap.size, 0, none⟩) (B8 [4])) := Lib.hid (by rw [hw6a]; exact Lies.one w6 5 (.int .u8 4))
                  have M6a := Lib.hid (M6.out.below hba)
                  have K6a := Lib.hid (K6.out.below hba (by omega))
                  have B6a := Lib.hid (B6.out.trans (hba.mono (by omega)))
                  have Y6a := Lib.hid ((Y6.out.below hba).more (show w6.heap.size ≤ w6.heap.size + 1 by omega))
                  have S6 := Lib.hid hsza
                  have HW6 := Lib.hid hw6a
                  have cvA := run_octets_string (P := Try.prog) 26 9 5 Try.underlying26 Try.underlying5 Try.underlying9 M6a.out c7
                  have k0 : w6a.cell? ⟨w.heap.size, 0, none⟩ = some (.int .u64 s) := K6a.out.cell 0
                  have k1 : w6a.cell? ⟨w.heap.size, 1, none⟩ = some (.int .i64 m) := K6a.out.cell 1
                  have k2 : w6a.cell? ⟨w.heap.size, 2, none⟩ = some (.string ⟨t.toArray⟩) := K6a.out.cell 2
                  have kf : w6a.frozen? ⟨w.heap.size, 1, none⟩ = false := K6a.out.frozen 1
                  obtain ⟨mm, _, _, hmm⟩ := mask_is m 3 2 (by omega) rfl
                  obtain ⟨cc2, _, _, hcc2⟩ := mask_is ch 65535 16 (by omega) rfl
                  have jw : IntKind.i64.wrap ((j : Int) + 1) = (j : Int) + 1 := IntWalk.i64_in _ (by omega)
                  have NEXT : Hid (∀ wx, Below w6a.heap.size w6a wx → TellsI w s t (.int .i64 (cc2 : Int)) (.int .i64 ((j : Int) + 1)) (wx.setCell ⟨w.heap.size, 1, none⟩ (.int .i64 (mm : Int)))) := Lib.hid (by
                    intro wx hx
                    have hk := (K6a.out.below hx K6a.out.lt).put 1 (.int .i64 (mm : Int))
                    exact ⟨j + 1, (mm : Int), (cc2 : Int), by omega, by go_num, rfl, hk, (B6a.out.trans (hx.mono (by rw [S6.out]; omega))).setCell (p := ⟨w.heap.size, 1, none⟩) (Nat.le_refl _) _⟩)
                  rw [hw6a] at k0 k1 k2 kf cvA
                  clear ho hb hba hsza hw6a
                  by_cases hgo : ok = true ∧ (0 : Int) ≤ ch ∧ ch ≤ 65535
                  · obtain ⟨hok, hc0, hc6⟩ := hgo
                    subst hok
                    obtain ⟨cc, rfl⟩ : ∃ cc : Nat, ch = (cc : Int) := ⟨ch.toNat, by omega⟩
                    have hr1 : rr = true := by rw [HRR.out]; unfold chanOk; rw [decide_eq_true ⟨hc0, hc6⟩]; rfl
                    subst hr1
                    have HR1 : Hid ([4] ++ contB cc (headB body.length m t) body = R) := Lib.hid (by rw [HR.out, if_pos rfl, Int.toNat_natCast])
                    clear HR HRR
                    go_wp2_with fail
                    rw [← HW6.out]
                    refine (rcontent_any (some ⟨w6.heap.size, 0, none⟩) 1 1 [4] (w6.heap.size + 1) cc s m t AB body.length body cB _ rfl rfl F6.out (by rw [S6.out]; exact Nat.le_refl _) (by simp) Y6a.out (by omega) hbc hbm HOK.out.symm (by omega)).mono ?_
                    rw [HR1.out]
                    rintro e w8 ⟨v8, rfl, ho, hb⟩
                    obtain ⟨A8, c8, rfl, _, _⟩ := own_form ho
                    have cvC := run_octets_string (P := Try.prog) 26 9 5 Try.underlying26 Try.underlying5 Try.underlying9 (M6a.out.below (hb.mono (by rw [S6.out]; omega))) c7
                    have cvD := run_octets_string (P := Try.prog) 26 9 5 Try.underlying26 Try.underlying5 Try.underlying9 (Lies.own ho (Nat.le_refl _)) c8
                    have D := Lib.hid (NEXT.out w8 hb)
                    have K8 := K6a.out.below hb K6a.out.lt
                    have k1 : w8.cell? ⟨w.heap.size, 1, none⟩ = some (.int .i64 m) := K8.cell 1
                    have kf : w8.frozen? ⟨w.heap.size, 1, none⟩ = false := K8.frozen 1
                    clear ho hb NEXT K8
                    go_wp2_with fail
                    go_roundw
                    case rel => exact D.out
                    case measure => simp [intOf]; omega
                  · have hr1 : rr = false := by
                      rw [HRR.out]
                      cases hk : ok with
                      | false => rfl
                      | true =>
                        unfold chanOk
                        rw [decide_eq_false (fun h => hgo ⟨hk, h⟩)]
                        rfl
                    subst hr1
                    have hR4 : R = [4] := by rw [HR.out, if_neg (by decide)]
                    subst hR4
                    have cvB := run_octets_string (P := Try.prog) 26 9 5 Try.underlying26 Try.underlying5 Try.underlying9 F6.out 1
                    have D := Lib.hid (NEXT.out w6a (Below.refl _ _))
                    rw [HW6.out] at cvB
                    have cvA1 : (convert 26 9 (.slice A7 1 c7)).run Try.prog (w6.alloc (.cells #[.int .u8 4] 5)) = .ok (.string ⟨([4] : List UInt8).toArray⟩) (w6.alloc (.cells #[.int .u8 4] 5)) := cvA
                    have cvB1 : (convert 26 9 (.slice (some ⟨w6.heap.size, 0, none⟩) 1 1)).run Try.prog (w6.alloc (.cells #[.int .u8 4] 5)) = .ok (.string ⟨([4] : List UInt8).toArray⟩) (w6.alloc (.cells #[.int .u8 4] 5)) := cvB
                    clear cvA cvB
                    have DW : Hid (∀ wx, wx = w6a → TellsI w s t (.int .i64 (cc2 : Int)) (.int .i64 ((j : Int) + 1)) (wx.setCell ⟨w.heap.size, 1, none⟩ (.int .i64 (mm : Int)))) := Lib.hid (fun wx h => by rw [h]; exact D.out)
                    clear HR HRR NEXT
                    have hc : ok = false ∨ (ok = true ∧ ch < 0) ∨ (ok = true ∧ 0 ≤ ch ∧ 65535 < ch) := by
                      cases hk : ok with
                      | false => exact .inl rfl
                      | true =>
                        right
                        by_cases h0 : ch < 0
                        · exact .inl ⟨rfl, h0⟩
                        · exact .inr ⟨rfl, by omega, by
                            by_cases h6 : ch ≤ 65535
                            · exact absurd ⟨hk, by omega, h6⟩ hgo
                            · omega⟩
                    clear hgo
                    rcases hc with hk | ⟨hk, hc1⟩ | ⟨hk, hc1, hc2⟩
                    all_goals
                      subst hk
                      go_wp2_with fail
                      go_roundw
                      case rel => exact DW.out _ HW6.out.symm
                      case measure => simp [intOf]; omega
              · have hltq : (q : Int) < 4 := by omega
                go_upto_region 19 with fail
                go_cut [22] from 90 to 132 (fun s22 wx => CAsked wr s22 wx)
                case first =>
                  have hMz : (bits .and .i64 z 65535).tmod 1 = 0 := Int.tmod_one _
                  have a0 : IntKind.i64.wrap 1 = 1 := rfl
                  obtain ⟨wd, hwd⟩ : ∃ wd, wd = (wr.alloc (.cells #[] 5)).drew := ⟨_, rfl⟩
                  have hbd : Below wr.heap.size wr wd := by rw [hwd]; exact ((Below.refl _ _).alloc (Nat.le_refl _) _).drew
                  have HOR : Hid (wd.ownsRow wr.heap.size 5 1 (.slice (some ⟨wr.heap.size, 0, none⟩) 0 0) 0 []) := Lib.hid (by rw [hwd]; exact World.ownsRow_made wr #[] 0 (Nat.le_refl _) (Nat.zero_le _) rfl)
                  have zd := hbd.size
                  have hsd : wd.heap.size = wr.heap.size + 1 := by rw [hwd]; show (wr.alloc _).heap.size = _; simp
                  have BD := Lib.hid hbd
                  have LTR := Lib.hid ((LTx.out.below (BQ.out.mono (by omega))).below (hbd.mono (by omega)))
                  have HWD := Lib.hid hwd
                  obtain ⟨wd2, hwd2⟩ : ∃ wd2, wd2 = wd.alloc (.cells #[.int .u8 (y.toNat : Int)] 5) := ⟨_, rfl⟩
                  have hbd2 : Below wr.heap.size wr wd2 := by rw [hwd2]; exact hbd.alloc zd _
                  have HOR2 : Hid (wd2.ownsRow wr.heap.size 5 1 (.slice (some ⟨wr.heap.size, 0, none⟩) 0 0) 0 []) := Lib.hid (by rw [hwd2]; exact HOR.out.alloc _)
                  have WB2 : Hid (Whole wd2 (wr.heap.size + 1) 5 #[.int .u8 (y.toNat : Int)]) := Lib.hid (by
                    have h := Whole.new wd 5 #[.int .u8 (y.toNat : Int)]
                    rw [hsd] at h
                    rw [hwd2]
                    exact h)
                  have zd2 := hbd2.size
                  have BD2 := Lib.hid hbd2
                  have LTR2 := Lib.hid ((LTx.out.below (BQ.out.mono (by omega))).below (hbd2.mono (by omega)))
                  have HWD2 := Lib.hid hwd2
                  obtain ⟨we, hwe⟩ : ∃ we, we = (wr.alloc (.cells #[.int .u8 (y.toNat : Int)] 5)).drew := ⟨_, rfl⟩
                  have hbe : Below wr.heap.size wr we := by rw [hwe]; exact ((Below.refl _ _).alloc (Nat.le_refl _) _).drew
                  have hse : we.heap.size = wr.heap.size + 1 := by rw [hwe]; show (wr.alloc _).heap.size = _; simp
                  have ze := hbe.size
                  have HWE := Lib.hid hwe
                  obtain ⟨wd3, hwd3⟩ : ∃ wd3, wd3 = we.alloc (.cells #[] 5) := ⟨_, rfl⟩
                  have hbd3 : Below wr.heap.size wr wd3 := by rw [hwd3]; exact hbe.alloc ze _
                  have HOR3 : Hid (wd3.ownsRow wr.heap.size 5 1 (.slice (some ⟨wr.heap.size + 1, 0, none⟩) 0 0) 0 []) := Lib.hid (by
                    have h := World.ownsRow_made (base := wr.heap.size) (e := 5) (size := 1) we #[] 0 ze (Nat.zero_le _) rfl
                    rw [hse] at h
                    rw [hwd3]
                    exact h)
                  have WB3 : Hid (Whole wd3 wr.heap.size 5 #[.int .u8 (y.toNat : Int)]) := Lib.hid (by
                    have h := (Whole.new wr 5 #[.int .u8 (y.toNat : Int)]).drew'.alloc (.cells #[] 5)
                    rw [hwd3, hwe]
                    exact h)
                  have zd3 := hbd3.size
                  have BD3 := Lib.hid hbd3
                  have LTR3 := Lib.hid ((LTx.out.below (BQ.out.mono (by omega))).below (hbd3.mono (by omega)))
                  have HWD3 := Lib.hid hwd3
                  have HSD := Lib.hid hsd
                  have HSE := Lib.hid hse
                  clear hbd2 hwd2 hbd3 hwd3 hbe hwe hsd hse
                  have hs1 : 0 + 0 ≤ 140737488355328 := by omega
                  have hs2 : 0 + 1 ≤ 140737488355328 := by omega
                  clear hbd hwd
                  refine wp_region_held_drew (S := fun _ => True) (by kernel_rfl) trivial (fun hS0 => ?_)
                  refine wpAnyH_take (i := 0) (oi := ⟨some 94, _, _, _, _, _⟩) (v := ?_) rfl (by kernel_rfl) (by kernel_rfl) (by kernel_rfl) (fun _ _ _ h => h) (Or.inl ⟨by rfl, ?_⟩) trivial ?_
                  rotate_left
                  · (intro wS hSw; go_simp); all_goals (with_reducible rfl)
                  try simp only [Act.put, List.setIfInBounds_toArray, List.set_cons_zero, List.set_cons_succ]
                  refine wpAnyH_take (i := 1) (oi := ⟨some 95, _, _, _, _, _⟩) (v := ?_) rfl (by kernel_rfl) (by kernel_rfl) (by kernel_rfl) (fun _ _ _ h => h) (Or.inl ⟨by rfl, ?_⟩) trivial ?_
                  rotate_left
                  · (intro wS hSw; go_simp); all_goals (with_reducible rfl)
                  try simp only [Act.put, List.setIfInBounds_toArray, List.set_cons_zero, List.set_cons_succ]
                  refine wpAnyH_take (i := 2) (oi := ⟨some 96, _, _, _, _, _⟩) (v := ?_) rfl (by kernel_rfl) (by kernel_rfl) (by kernel_rfl) (fun _ _ _ h => h) (Or.inl ⟨by rfl, ?_⟩) trivial ?_
                  rotate_left
                  · (intro wS hSw; go_simp); all_goals (with_reducible rfl)
                  try simp only [Act.put, List.setIfInBounds_toArray, List.set_cons_zero, List.set_cons_succ]
                  refine wpAnyH_take (i := 3) (oi := ⟨some 97, _, _, _, _, _⟩) (v := ?_) rfl (by kernel_rfl) (by kernel_rfl) (by kernel_rfl) (fun _ _ _ h => h) (Or.inl ⟨by rfl, ?_⟩) trivial ?_
                  rotate_left
                  · (intro wS hSw; go_simp); all_goals (with_reducible rfl)
                  try simp only [Act.put, List.setIfInBounds_toArray, List.set_cons_zero, List.set_cons_succ]
                  refine wpAnyH_take (i := 4) (oi := ⟨some 98, _, _, _, _, _⟩) (v := ?_) rfl (by kernel_rfl) (by kernel_rfl) (by kernel_rfl) (fun _ _ _ h => h) (Or.inl ⟨by rfl, ?_⟩) trivial ?_
                  rotate_left
                  · (intro wS hSw; go_simp); all_goals (with_reducible rfl)
                  try simp only [Act.put, List.setIfInBounds_toArray, List.set_cons_zero, List.set_cons_succ]
                  refine wpAnyH_take (i := 5) (oi := ⟨some 99, _, _, _, _, _⟩) (v := ?_) rfl (by kernel_rfl) (by kernel_rfl) (by kernel_rfl) (fun _ _ _ h => h) (Or.inl ⟨by rfl, ?_⟩) trivial ?_
                  rotate_left
                  · (intro wS hSw; go_simp); all_goals (with_reducible rfl)
                  try simp only [Act.put, List.setIfInBounds_toArray, List.set_cons_zero, List.set_cons_succ]
                  refine wpAnyH_take (i := 6) (oi := ⟨some 100, _, _, _, _, _⟩) (v := ?_) rfl (by kernel_rfl) (by kernel_rfl) (by kernel_rfl) (fun _ _ _ h => h) (Or.inl ⟨by rfl, ?_⟩) trivial ?_
                  rotate_left
                  · (intro wS hSw; go_simp); all_goals (with_reducible rfl)
                  try simp only [Act.put, List.setIfInBounds_toArray, List.set_cons_zero, List.set_cons_succ]
                  refine wpAnyH_take (i := 7) (oi := ⟨some 101, _, _, _, _, _⟩) (v := ?_) rfl (by kernel_rfl) (by kernel_rfl) (by kernel_rfl) (fun _ _ _ h => h) (Or.inl ⟨by rfl, ?_⟩) trivial ?_
                  rotate_left
                  · (intro wS hSw; go_simp); all_goals (with_reducible rfl)
                  try simp only [Act.put, List.setIfInBounds_toArray, List.set_cons_zero, List.set_cons_succ]
                  refine wpAnyH_take (i := 8) (oi := ⟨some 102, _, _, _, _, _⟩) (v := ?_) rfl (by kernel_rfl) (by kernel_rfl) (by kernel_rfl) (fun _ _ _ h => h) (Or.inl ⟨by rfl, ?_⟩) trivial ?_
                  rotate_left
                  · (intro wS hSw; go_simp); all_goals (with_reducible rfl)
                  try simp only [Act.put, List.setIfInBounds_toArray, List.set_cons_zero, List.set_cons_succ]
                  refine wpAnyH_take (i := 9) (oi := ⟨some 103, _, _, _, _, _⟩) (v := ?_) rfl (by kernel_rfl) (by kernel_rfl) (by kernel_rfl) (fun _ _ _ h => h) (Or.inl ⟨by rfl, ?_⟩) trivial ?_
                  rotate_left
                  · (intro wS hSw; go_simp); all_goals (with_reducible rfl)
                  try simp only [Act.put, List.setIfInBounds_toArray, List.set_cons_zero, List.set_cons_succ]
                  refine wpAnyH_take (i := 11) (oi := ⟨some 105, _, _, _, _, _⟩) (v := ?_) rfl (by kernel_rfl) (by kernel_rfl) (by kernel_rfl) (fun _ _ _ h => h) (Or.inl ⟨by rfl, ?_⟩) trivial ?_
                  rotate_left
                  · (intro wS hSw; go_simp); all_goals (with_reducible rfl)
                  try simp only [Act.put, List.setIfInBounds_toArray, List.set_cons_zero, List.set_cons_succ]
                  refine wpAnyH_take (i := 12) (oi := ⟨some 106, _, _, _, _, _⟩) (v := ?_) rfl (by kernel_rfl) (by kernel_rfl) (by kernel_rfl) (fun _ _ _ h => h) (Or.inl ⟨by rfl, ?_⟩) trivial ?_
                  rotate_left
                  · (intro wS hSw; go_simp); all_goals (with_reducible rfl)
                  try simp only [Act.put, List.setIfInBounds_toArray, List.set_cons_zero, List.set_cons_succ]
                  refine wpAnyH_take (i := 14) (oi := ⟨some 108, _, _, _, _, _⟩) (v := ?_) rfl (by kernel_rfl) (by kernel_rfl) (by kernel_rfl) (fun _ _ _ h => h) (Or.inl ⟨by rfl, ?_⟩) trivial ?_
                  rotate_left
                  · (intro wS hSw; go_simp); all_goals (with_reducible rfl)
                  try simp only [Act.put, List.setIfInBounds_toArray, List.set_cons_zero, List.set_cons_succ]
                  refine wpAnyH_take (i := 18) (oi := ⟨some 112, _, _, _, _, _⟩) (v := ?_) rfl (by kernel_rfl) (by kernel_rfl) (by kernel_rfl) (fun _ _ _ h => h) (Or.inl ⟨by rfl, ?_⟩) trivial ?_
                  rotate_left
                  · (intro wS hSw; go_simp); all_goals (with_reducible rfl)
                  try simp only [Act.put, List.setIfInBounds_toArray, List.set_cons_zero, List.set_cons_succ]
                  refine wpAnyH_ready (rs := [10, 15]) (by kernel_rfl) (by simp) ?_
                  refine AllReadyH.cons (o := ⟨some 104, _, _, _, _, _⟩) rfl (fun K hK => ?_) ?_
                  · go_simp
                    rw [← HWD.out]
                    refine hK.out _ _ trivial (fun hHeld => ?_)
                    clear hK K hHeld
                    try simp only [Act.put, List.setIfInBounds_toArray, List.set_cons_zero, List.set_cons_succ]
                    refine wpAnyH_ready (rs := [13, 15]) (by kernel_rfl) (by simp) ?_
                    refine AllReadyH.cons (o := ⟨some 107, _, _, _, _, _⟩) rfl (fun K hK => ?_) ?_
                    · refine step_append_cells rfl _ _ 26 rfl wr.heap.size 5 i0 (.int .u8 0) 1 1 Try.underlying26 HI.out G0.out G1.out G2.out rfl (by omega) (.slice (some ⟨wr.heap.size, 0, none⟩) 0 0) 0 [] (by rfl) HOR.out w4.heap.size (some ⟨g4, o4, none⟩) 0 0 (B8 []) (by rfl) LTR.out (B8_len1 []) (B8_one []) (room63 hs1) (room1 hs1) zd ?_
                      intro v7 w7 hown7 hb7
                      rw [Nat.zero_add, List.nil_append] at hown7
                      have HO7 := Lib.hid hown7
                      have B7 := Lib.hid (BD.out.trans hb7)
                      clear hown7 hb7
                      refine hK.out _ _ trivial (fun hHeld => ?_)
                      clear hK K hHeld
                      try simp only [Act.put, List.setIfInBounds_toArray, List.set_cons_zero, List.set_cons_succ]
                      refine wpAnyH_ready (rs := [15]) (by kernel_rfl) (by simp) ?_
                      refine AllReadyH.cons (o := ⟨some 109, _, _, _, _, _⟩) rfl (fun K hK => ?_) AllReadyH.nil
                      go_simp
                      refine hK.out _ _ trivial (fun hHeld => ?_)
                      clear hK K hHeld
                      try simp only [Act.put, List.setIfInBounds_toArray, List.set_cons_zero, List.set_cons_succ]
                      refine wpAnyH_ready (rs := [16]) (by kernel_rfl) (by simp) ?_
                      refine AllReadyH.cons (o := ⟨some 110, _, _, _, _, _⟩) rfl (fun K hK => ?_) AllReadyH.nil
                      refine step_append_cells rfl _ _ 26 rfl wr.heap.size 5 i0 (.int .u8 0) 1 1 Try.underlying26 HI.out G0.out G1.out G2.out rfl (by omega) _ 0 (B8 []) (by rfl) (HO7.out.alloc _) (w7.heap.size + 1) (some ⟨w7.heap.size, 0, none⟩) 1 1 [.int .u8 (y.toNat : Int)] (by rfl) (Lies.one w7 5 _) rfl (by simp [Value.oneCell']) (room63 hs2) (room1 hs2) (by have := B7.out.size; simp; omega) ?_
                      intro v8 w8 hown8 hb8
                      rw [show B8 [] ++ [Value.int .u8 (y.toNat : Int)] = B8 ([] ++ [y]) from by rw [B8_append]; rfl] at hown8
                      obtain ⟨A8, c8, rfl, hc8, hm8⟩ := own_form hown8
                      have L8 := Lib.hid (Lies.own hown8 (Nat.le_refl _))
                      have BW8 := Lib.hid ((B7.out.alloc B7.out.size _).trans hb8)
                      clear hown8 hb8
                      refine hK.out _ _ trivial (fun hHeld => ?_)
                      clear hK K hHeld
                      try simp only [Act.put, List.setIfInBounds_toArray, List.set_cons_zero, List.set_cons_succ]
                      obtain ⟨o, ho⟩ : ∃ o : Obj, o = .cells #[.slice AR raw.length cR, .slice A6 0 c6, .slice (some ⟨g4, o4, none⟩) 0 0, .slice A8 (0 + 1) c8] 26 := ⟨_, rfl⟩
                      have BO : Below wr.heap.size wr (w8.alloc o) := BW8.out.alloc BW8.out.size o
                      have zo := BO.size
                      obtain ⟨XA, XN, XC, hxq, hcq⟩ : ∃ XA XN XC, (w8.alloc o).cell? ⟨w8.heap.size, q, none⟩ = some (.slice XA XN XC) ∧ CAsked wr (.slice XA XN XC) (w8.alloc o) := by
                        have WL : Whole (w8.alloc o) w8.heap.size 26 #[.slice AR raw.length cR, .slice A6 0 c6, .slice (some ⟨g4, o4, none⟩) 0 0, .slice A8 (0 + 1) c8] := by rw [ho]; exact Whole.new _ _ _
                        rw [WL.cell]
                        rcases hq4 with rfl | rfl | rfl | rfl | rfl
                        · refine ⟨_, _, _, rfl, ?_⟩
                          exact ⟨AR, raw, cR, rfl, hrc, hrm, by omega, ((RX.out.below (BQ.out.mono (by omega))).below (BO.mono (by omega))).more (by omega), BO⟩
                        · refine ⟨_, _, _, rfl, ?_⟩
                          exact ⟨A6, X, c6, by rw [HXL.out]; try rfl, by rw [HXL.out]; exact hc6, hm6, by rw [HXL.out]; first | omega | simp, ((LXx.out.below BQ.out).below (BO.mono hzq)).more (by omega), BO⟩
                        · refine ⟨_, _, _, rfl, ?_⟩
                          exact ⟨some ⟨g4, o4, none⟩, [], 0, rfl, Nat.le_refl _, by unfold maxLen; omega, by simp, Lies.empty _ _ _, BO⟩
                        · refine ⟨_, _, _, rfl, ?_⟩
                          exact ⟨A8, [] ++ [y], c8, by rw [List.length_append]; rfl, by rw [List.length_append]; exact hc8, hm8, by rw [List.length_append]; first | (simp; done) | (simp; omega), (L8.out.alloc (Nat.le_refl _) o).more (by simp), BO⟩
                        · exact absurd rfl hq3
                      have DQ := Lib.hid hcq
                      rw [ho] at hxq
                      have HO := Lib.hid ho
                      clear hcq ho BO zo
                      refine wpAnyH_ready (rs := [17]) (by kernel_rfl) (by simp) ?_
                      refine AllReadyH.cons (o := ⟨some 111, _, _, _, _, _⟩) rfl (fun K hK => ?_) AllReadyH.nil
                      go_simp
                      refine hK.out _ _ trivial (fun hHeld => ?_)
                      clear hK K hHeld
                      try simp only [Act.put, List.setIfInBounds_toArray, List.set_cons_zero, List.set_cons_succ]
                      refine wpAnyH_take (i := 19) (oi := ⟨some 113, _, _, _, _, _⟩) (v := ?_) rfl (by kernel_rfl) (by kernel_rfl) (by kernel_rfl) (fun _ _ _ h => h) (Or.inl ⟨by rfl, ?_⟩) trivial ?_
                      rotate_left
                      · (intro wS hSw; go_simp); all_goals (with_reducible rfl)
                      try simp only [Act.put, List.setIfInBounds_toArray, List.set_cons_zero, List.set_cons_succ]
                      refine wpAnyH_ready (rs := [20]) (by kernel_rfl) (by simp) ?_
                      refine AllReadyH.cons (o := ⟨some 114, _, _, _, _, _⟩) rfl (fun K hK => ?_) AllReadyH.nil
                      go_simp
                      refine hK.out _ _ trivial (fun hHeld => ?_)
                      clear hK K hHeld
                      try simp only [Act.put, List.setIfInBounds_toArray, List.set_cons_zero, List.set_cons_succ]
                      refine wpAnyH_take (i := 21) (oi := ⟨some 22, _, _, _, _, _⟩) (v := ?_) rfl (by kernel_rfl) (by kernel_rfl) (by kernel_rfl) (fun _ _ _ h => h) (Or.inl ⟨by rfl, ?_⟩) trivial ?_
                      rotate_left
                      · (intro wS hSw; go_simp); all_goals (with_reducible rfl)
                      try simp only [Act.put, List.setIfInBounds_toArray, List.set_cons_zero, List.set_cons_succ]
                      refine wpAnyH_done (by kernel_rfl) ?_ _
                      go_wp2_with fail
                      go_meet
                      rw [← HO.out]
                      exact DQ.out
                    refine AllReadyH.cons (o := ⟨some 109, _, _, _, _, _⟩) rfl (fun K hK => ?_) ?_
                    · go_simp
                      try rw [HSD.out]
                      rw [← HWD2.out]
                      refine hK.out _ _ trivial (fun hHeld => ?_)
                      clear hK K hHeld
                      try simp only [Act.put, List.setIfInBounds_toArray, List.set_cons_zero, List.set_cons_succ]
                      refine wpAnyH_ready (rs := [13]) (by kernel_rfl) (by simp) ?_
                      refine AllReadyH.cons (o := ⟨some 107, _, _, _, _, _⟩) rfl (fun K hK => ?_) AllReadyH.nil
                      refine step_append_own2 rfl _ _ 26 rfl wr.heap.size 5 i0 (.int .u8 0) 1 1 Try.underlying26 HI.out G0.out G1.out G2.out rfl (by omega) (.slice (some ⟨wr.heap.size, 0, none⟩) 0 0) 0 [] (by rfl) HOR2.out w4.heap.size (some ⟨g4, o4, none⟩) 0 0 (B8 []) (by rfl) LTR2.out (B8_len1 []) (B8_one []) (room63 hs1) (room1 hs1) zd2 ?_
                      intro v7 w7 hown7 hg7 _
                      rw [Nat.zero_add, List.nil_append] at hown7
                      have HO7 := Lib.hid hown7
                      have B7 := Lib.hid (BD2.out.grown hg7 zd2 (fun k hk => by cases hk; exact Nat.le_refl _))
                      have LBY := Lib.hid (Lies.of_whole (WB2.out.grown hg7 (by intro e; have e2 : wr.heap.size + 1 = wr.heap.size := Option.some.inj e; omega)) w7.heap.size (WB2.out.grown hg7 (by intro e; have e2 : wr.heap.size + 1 = wr.heap.size := Option.some.inj e; omega)).lt)
                      clear hown7 hg7
                      refine hK.out _ _ trivial (fun hHeld => ?_)
                      clear hK K hHeld
                      try simp only [Act.put, List.setIfInBounds_toArray, List.set_cons_zero, List.set_cons_succ]
                      refine wpAnyH_ready (rs := [16]) (by kernel_rfl) (by simp) ?_
                      refine AllReadyH.cons (o := ⟨some 110, _, _, _, _, _⟩) rfl (fun K hK => ?_) AllReadyH.nil
                      refine step_append_cells rfl _ _ 26 rfl wr.heap.size 5 i0 (.int .u8 0) 1 1 Try.underlying26 HI.out G0.out G1.out G2.out rfl (by omega) _ 0 (B8 []) (by rfl) HO7.out w7.heap.size (some ⟨wr.heap.size + 1, 0, none⟩) 1 1 [.int .u8 (y.toNat : Int)] (by rfl) LBY.out rfl (by simp [Value.oneCell']) (room63 hs2) (room1 hs2) B7.out.size ?_
                      intro v8 w8 hown8 hb8
                      rw [show B8 [] ++ [Value.int .u8 (y.toNat : Int)] = B8 ([] ++ [y]) from by rw [B8_append]; rfl] at hown8
                      obtain ⟨A8, c8, rfl, hc8, hm8⟩ := own_form hown8
                      have L8 := Lib.hid (Lies.own hown8 (Nat.le_refl _))
                      have BW8 := Lib.hid (B7.out.trans hb8)
                      clear hown8 hb8
                      refine hK.out _ _ trivial (fun hHeld => ?_)
                      clear hK K hHeld
                      try simp only [Act.put, List.setIfInBounds_toArray, List.set_cons_zero, List.set_cons_succ]
                      obtain ⟨o, ho⟩ : ∃ o : Obj, o = .cells #[.slice AR raw.length cR, .slice A6 0 c6, .slice (some ⟨g4, o4, none⟩) 0 0, .slice A8 (0 + 1) c8] 26 := ⟨_, rfl⟩
                      have BO : Below wr.heap.size wr (w8.alloc o) := BW8.out.alloc BW8.out.size o
                      have zo := BO.size
                      obtain ⟨XA, XN, XC, hxq, hcq⟩ : ∃ XA XN XC, (w8.alloc o).cell? ⟨w8.heap.size, q, none⟩ = some (.slice XA XN XC) ∧ CAsked wr (.slice XA XN XC) (w8.alloc o) := by
                        have WL : Whole (w8.alloc o) w8.heap.size 26 #[.slice AR raw.length cR, .slice A6 0 c6, .slice (some ⟨g4, o4, none⟩) 0 0, .slice A8 (0 + 1) c8] := by rw [ho]; exact Whole.new _ _ _
                        rw [WL.cell]
                        rcases hq4 with rfl | rfl | rfl | rfl | rfl
                        · refine ⟨_, _, _, rfl, ?_⟩
                          exact ⟨AR, raw, cR, rfl, hrc, hrm, by omega, ((RX.out.below (BQ.out.mono (by omega))).below (BO.mono (by omega))).more (by omega), BO⟩
                        · refine ⟨_, _, _, rfl, ?_⟩
                          exact ⟨A6, X, c6, by rw [HXL.out]; try rfl, by rw [HXL.out]; exact hc6, hm6, by rw [HXL.out]; first | omega | simp, ((LXx.out.below BQ.out).below (BO.mono hzq)).more (by omega), BO⟩
                        · refine ⟨_, _, _, rfl, ?_⟩
                          exact ⟨some ⟨g4, o4, none⟩, [], 0, rfl, Nat.le_refl _, by unfold maxLen; omega, by simp, Lies.empty _ _ _, BO⟩
                        · refine ⟨_, _, _, rfl, ?_⟩
                          exact ⟨A8, [] ++ [y], c8, by rw [List.length_append]; rfl, by rw [List.length_append]; exact hc8, hm8, by rw [List.length_append]; first | (simp; done) | (simp; omega), (L8.out.alloc (Nat.le_refl _) o).more (by simp), BO⟩
                        · exact absurd rfl hq3
                      have DQ := Lib.hid hcq
                      rw [ho] at hxq
                      have HO := Lib.hid ho
                      clear hcq ho BO zo
                      refine wpAnyH_ready (rs := [17]) (by kernel_rfl) (by simp) ?_
                      refine AllReadyH.cons (o := ⟨some 111, _, _, _, _, _⟩) rfl (fun K hK => ?_) AllReadyH.nil
                      go_simp
                      refine hK.out _ _ trivial (fun hHeld => ?_)
                      clear hK K hHeld
                      try simp only [Act.put, List.setIfInBounds_toArray, List.set_cons_zero, List.set_cons_succ]
                      refine wpAnyH_take (i := 19) (oi := ⟨some 113, _, _, _, _, _⟩) (v := ?_) rfl (by kernel_rfl) (by kernel_rfl) (by kernel_rfl) (fun _ _ _ h => h) (Or.inl ⟨by rfl, ?_⟩) trivial ?_
                      rotate_left
                      · (intro wS hSw; go_simp); all_goals (with_reducible rfl)
                      try simp only [Act.put, List.setIfInBounds_toArray, List.set_cons_zero, List.set_cons_succ]
                      refine wpAnyH_ready (rs := [20]) (by kernel_rfl) (by simp) ?_
                      refine AllReadyH.cons (o := ⟨some 114, _, _, _, _, _⟩) rfl (fun K hK => ?_) AllReadyH.nil
                      go_simp
                      refine hK.out _ _ trivial (fun hHeld => ?_)
                      clear hK K hHeld
                      try simp only [Act.put, List.setIfInBounds_toArray, List.set_cons_zero, List.set_cons_succ]
                      refine wpAnyH_take (i := 21) (oi := ⟨some 22, _, _, _, _, _⟩) (v := ?_) rfl (by kernel_rfl) (by kernel_rfl) (by kernel_rfl) (fun _ _ _ h => h) (Or.inl ⟨by rfl, ?_⟩) trivial ?_
                      rotate_left
                      · (intro wS hSw; go_simp); all_goals (with_reducible rfl)
                      try simp only [Act.put, List.setIfInBounds_toArray, List.set_cons_zero, List.set_cons_succ]
                      refine wpAnyH_done (by kernel_rfl) ?_ _
                      go_wp2_with fail
                      go_meet
                      rw [← HO.out]
                      exact DQ.out
                    exact AllReadyH.nil
                  refine AllReadyH.cons (o := ⟨some 109, _, _, _, _, _⟩) rfl (fun K hK => ?_) ?_
                  · go_simp
                    rw [← HWE.out]
                    refine hK.out _ _ trivial (fun hHeld => ?_)
                    clear hK K hHeld
                    try simp only [Act.put, List.setIfInBounds_toArray, List.set_cons_zero, List.set_cons_succ]
                    refine wpAnyH_ready (rs := [10]) (by kernel_rfl) (by simp) ?_
                    refine AllReadyH.cons (o := ⟨some 104, _, _, _, _, _⟩) rfl (fun K hK => ?_) AllReadyH.nil
                    go_simp
                    try rw [HSE.out]
                    rw [← HWD3.out]
                    refine hK.out _ _ trivial (fun hHeld => ?_)
                    clear hK K hHeld
                    try simp only [Act.put, List.setIfInBounds_toArray, List.set_cons_zero, List.set_cons_succ]
                    refine wpAnyH_ready (rs := [13]) (by kernel_rfl) (by simp) ?_
                    refine AllReadyH.cons (o := ⟨some 107, _, _, _, _, _⟩) rfl (fun K hK => ?_) AllReadyH.nil
                    refine step_append_own2 rfl _ _ 26 rfl wr.heap.size 5 i0 (.int .u8 0) 1 1 Try.underlying26 HI.out G0.out G1.out G2.out rfl (by omega) (.slice (some ⟨wr.heap.size + 1, 0, none⟩) 0 0) 0 [] (by rfl) HOR3.out w4.heap.size (some ⟨g4, o4, none⟩) 0 0 (B8 []) (by rfl) LTR3.out (B8_len1 []) (B8_one []) (room63 hs1) (room1 hs1) zd3 ?_
                    intro v7 w7 hown7 hg7 _
                    rw [Nat.zero_add, List.nil_append] at hown7
                    have HO7 := Lib.hid hown7
                    have B7 := Lib.hid (BD3.out.grown hg7 zd3 (fun k hk => by cases hk; exact Nat.le_succ _))
                    have LBY := Lib.hid (Lies.of_whole (WB3.out.grown hg7 (by intro e; have e2 : wr.heap.size = wr.heap.size + 1 := Option.some.inj e; omega)) w7.heap.size (WB3.out.grown hg7 (by intro e; have e2 : wr.heap.size = wr.heap.size + 1 := Option.some.inj e; omega)).lt)
                    clear hown7 hg7
                    refine hK.out _ _ trivial (fun hHeld => ?_)
                    clear hK K hHeld
                    try simp only [Act.put, List.setIfInBounds_toArray, List.set_cons_zero, List.set_cons_succ]
                    refine wpAnyH_ready (rs := [16]) (by kernel_rfl) (by simp) ?_
                    refine AllReadyH.cons (o := ⟨some 110, _, _, _, _, _⟩) rfl (fun K hK => ?_) AllReadyH.nil
                    refine step_append_cells rfl _ _ 26 rfl wr.heap.size 5 i0 (.int .u8 0) 1 1 Try.underlying26 HI.out G0.out G1.out G2.out rfl (by omega) _ 0 (B8 []) (by rfl) HO7.out w7.heap.size (some ⟨wr.heap.size, 0, none⟩) 1 1 [.int .u8 (y.toNat : Int)] (by rfl) LBY.out rfl (by simp [Value.oneCell']) (room63 hs2) (room1 hs2) B7.out.size ?_
                    intro v8 w8 hown8 hb8
                    rw [show B8 [] ++ [Value.int .u8 (y.toNat : Int)] = B8 ([] ++ [y]) from by rw [B8_append]; rfl] at hown8
                    obtain ⟨A8, c8, rfl, hc8, hm8⟩ := own_form hown8
                    have L8 := Lib.hid (Lies.own hown8 (Nat.le_refl _))
                    have BW8 := Lib.hid (B7.out.trans hb8)
                    clear hown8 hb8
                    refine hK.out _ _ trivial (fun hHeld => ?_)
                    clear hK K hHeld
                    try simp only [Act.put, List.setIfInBounds_toArray, List.set_cons_zero, List.set_cons_succ]
                    obtain ⟨o, ho⟩ : ∃ o : Obj, o = .cells #[.slice AR raw.length cR, .slice A6 0 c6, .slice (some ⟨g4, o4, none⟩) 0 0, .slice A8 (0 + 1) c8] 26 := ⟨_, rfl⟩
                    have BO : Below wr.heap.size wr (w8.alloc o) := BW8.out.alloc BW8.out.size o
                    have zo := BO.size
                    obtain ⟨XA, XN, XC, hxq, hcq⟩ : ∃ XA XN XC, (w8.alloc o).cell? ⟨w8.heap.size, q, none⟩ = some (.slice XA XN XC) ∧ CAsked wr (.slice XA XN XC) (w8.alloc o) := by
                      have WL : Whole (w8.alloc o) w8.heap.size 26 #[.slice AR raw.length cR, .slice A6 0 c6, .slice (some ⟨g4, o4, none⟩) 0 0, .slice A8 (0 + 1) c8] := by rw [ho]; exact Whole.new _ _ _
                      rw [WL.cell]
                      rcases hq4 with rfl | rfl | rfl | rfl | rfl
                      · refine ⟨_, _, _, rfl, ?_⟩
                        exact ⟨AR, raw, cR, rfl, hrc, hrm, by omega, ((RX.out.below (BQ.out.mono (by omega))).below (BO.mono (by omega))).more (by omega), BO⟩
                      · refine ⟨_, _, _, rfl, ?_⟩
                        exact ⟨A6, X, c6, by rw [HXL.out]; try rfl, by rw [HXL.out]; exact hc6, hm6, by rw [HXL.out]; first | omega | simp, ((LXx.out.below BQ.out).below (BO.mono hzq)).more (by omega), BO⟩
                      · refine ⟨_, _, _, rfl, ?_⟩
                        exact ⟨some ⟨g4, o4, none⟩, [], 0, rfl, Nat.le_refl _, by unfold maxLen; omega, by simp, Lies.empty _ _ _, BO⟩
                      · refine ⟨_, _, _, rfl, ?_⟩
                        exact ⟨A8, [] ++ [y], c8, by rw [List.length_append]; rfl, by rw [List.length_append]; exact hc8, hm8, by rw [List.length_append]; first | (simp; done) | (simp; omega), (L8.out.alloc (Nat.le_refl _) o).more (by simp), BO⟩
                      · exact absurd rfl hq3
                    have DQ := Lib.hid hcq
                    rw [ho] at hxq
                    have HO := Lib.hid ho
                    clear hcq ho BO zo
                    refine wpAnyH_ready (rs := [17]) (by kernel_rfl) (by simp) ?_
                    refine AllReadyH.cons (o := ⟨some 111, _, _, _, _, _⟩) rfl (fun K hK => ?_) AllReadyH.nil
                    go_simp
                    refine hK.out _ _ trivial (fun hHeld => ?_)
                    clear hK K hHeld
                    try simp only [Act.put, List.setIfInBounds_toArray, List.set_cons_zero, List.set_cons_succ]
                    refine wpAnyH_take (i := 19) (oi := ⟨some 113, _, _, _, _, _⟩) (v := ?_) rfl (by kernel_rfl) (by kernel_rfl) (by kernel_rfl) (fun _ _ _ h => h) (Or.inl ⟨by rfl, ?_⟩) trivial ?_
                    rotate_left
                    · (intro wS hSw; go_simp); all_goals (with_reducible rfl)
                    try simp only [Act.put, List.setIfInBounds_toArray, List.set_cons_zero, List.set_cons_succ]
                    refine wpAnyH_ready (rs := [20]) (by kernel_rfl) (by simp) ?_
                    refine AllReadyH.cons (o := ⟨some 114, _, _, _, _, _⟩) rfl (fun K hK => ?_) AllReadyH.nil
                    go_simp
                    refine hK.out _ _ trivial (fun hHeld => ?_)
                    clear hK K hHeld
                    try simp only [Act.put, List.setIfInBounds_toArray, List.set_cons_zero, List.set_cons_succ]
                    refine wpAnyH_take (i := 21) (oi := ⟨some 22, _, _, _, _, _⟩) (v := ?_) rfl (by kernel_rfl) (by kernel_rfl) (by kernel_rfl) (fun _ _ _ h => h) (Or.inl ⟨by rfl, ?_⟩) trivial ?_
                    rotate_left
                    · (intro wS hSw; go_simp); all_goals (with_reducible rfl)
                    try simp only [Act.put, List.setIfInBounds_toArray, List.set_cons_zero, List.set_cons_succ]
                    refine wpAnyH_done (by kernel_rfl) ?_ _
                    go_wp2_with fail
                    go_meet
                    rw [← HO.out]
                    exact DQ.out
                  exact AllReadyH.nil
                case rest =>
                  obtain ⟨Ay, Y, cy, rfl, hy1, hy2, hy3, hy4, hy5⟩ := hcut
                  have BC := Lib.hid (BQ.out.trans (hy5.mono hzq))
                  have hzc := hy5.size
                  have LY := Lib.hid hy4
                  clear hq4 hq3 hy4 hy5
                  go_wp2_with fail
                  cases hP : headP Y with
                  | none =>
                    have HP := Lib.hid hP
                    refine (cparse_no Ay cy Y.length Y wc.heap.size _ rfl LY.out (Nat.le_refl _) (by omega) hP).mono ?_
                    rintro e w7 ⟨rfl, hb7⟩
                    clear hP
                    obtain ⟨w7a, hw7a⟩ : ∃ w7a, w7a = w7.alloc (.cells #[.int .u64 0, .int .i64 0, .string ⟨#[]⟩] 25) := ⟨_, rfl⟩
                    have hbc : Below wc.heap.size wc w7a := by rw [hw7a]; exact hb7.alloc hb7.size _
                    have WG : Hid (Whole w7a w7.heap.size 25 #[.int .u64 0, .int .i64 0, .string ⟨#[]⟩]) := Lib.hid (by rw [hw7a]; exact Whole.new _ _ _)
                    have LY7 := Lib.hid (LY.out.below hbc)
                    have BC7 := Lib.hid (BC.out.trans (hbc.mono (by omega)))
                    have z7 := hbc.size
                    have HW7 := Lib.hid hw7a
                    clear hb7 hbc hw7a
                    go_wp2_with fail
                    rw [← HW7.out]
                    refine (rheadof_no Ay cy Y.length Y wc.heap.size _ rfl LY7.out (by omega) (by omega) hy1 hy2 HP.out).mono ?_
                    rintro e w8 ⟨rfl, hb8⟩
                    obtain ⟨w8a, hw8a⟩ : ∃ w8a, w8a = w8.alloc (.cells #[.int .u64 0, .int .i64 0, .string ⟨#[]⟩] 25) := ⟨_, rfl⟩
                    have hbd : Below w7a.heap.size w7a w8a := by rw [hw8a]; exact hb8.alloc hb8.size _
                    have WH : Hid (Whole w8a w8.heap.size 25 #[.int .u64 0, .int .i64 0, .string ⟨#[]⟩]) := Lib.hid (by rw [hw8a]; exact Whole.new _ _ _)
                    have WG8 := Lib.hid (WG.out.below hbd WG.out.lt)
                    have BC8 := Lib.hid (BC7.out.trans (hbd.mono (by omega)))
                    have e0 : w8a.cell? ⟨w7.heap.size, 0, none⟩ = some (.int .u64 0) := WG8.out.cell 0
                    have e1 : w8a.cell? ⟨w7.heap.size, 1, none⟩ = some (.int .i64 0) := WG8.out.cell 1
                    have e2 : w8a.cell? ⟨w7.heap.size, 2, none⟩ = some (.string ⟨#[]⟩) := WG8.out.cell 2
                    have DN : Hid (∀ wx, wx = w8a → ∃ q' : Nat, q' ≤ 4 ∧ Value.int .i64 ((q : Int) + 1) = .int .i64 (q' : Nat) ∧ Below wq.heap.size wq wx) := Lib.hid (fun wx h => ⟨q + 1, by omega, by go_num, by rw [h]; exact BC8.out⟩)
                    have HW8 := Lib.hid hw8a
                    rw [hw8a] at e0 e1 e2
                    clear hb8 hbd hw8a
                    go_wp2_with fail
                    go_roundw
                    case rel => exact DN.out _ HW8.out.symm
                    case measure => simp [intOf]; omega
                  | some p =>
                    obtain ⟨sp, mp, tp⟩ := p
                    have HP := Lib.hid hP
                    refine (cparse_yes Ay cy Y.length Y wc.heap.size _ sp mp tp rfl LY.out (Nat.le_refl _) (by omega) hP).mono ?_
                    rintro e w7 ⟨rfl, hb7⟩
                    clear hP
                    obtain ⟨w7a, hw7a⟩ : ∃ w7a, w7a = w7.alloc (.cells #[.int .u64 sp, .int .i64 mp, .string ⟨tp.toArray⟩] 25) := ⟨_, rfl⟩
                    have hbc : Below wc.heap.size wc w7a := by rw [hw7a]; exact hb7.alloc hb7.size _
                    have WG : Hid (Whole w7a w7.heap.size 25 #[.int .u64 sp, .int .i64 mp, .string ⟨tp.toArray⟩]) := Lib.hid (by rw [hw7a]; exact Whole.new _ _ _)
                    have LY7 := Lib.hid (LY.out.below hbc)
                    have BC7 := Lib.hid (BC.out.trans (hbc.mono (by omega)))
                    have z7 := hbc.size
                    have HW7 := Lib.hid hw7a
                    clear hb7 hbc hw7a
                    go_wp2_with fail
                    rw [← HW7.out]
                    refine (rheadof_yes Ay cy Y.length Y wc.heap.size _ sp mp tp rfl LY7.out (by omega) (by omega) hy1 hy2 HP.out).mono ?_
                    rintro e w8 ⟨rfl, hb8⟩
                    obtain ⟨w8a, hw8a⟩ : ∃ w8a, w8a = w8.alloc (.cells #[.int .u64 sp, .int .i64 mp, .string ⟨tp.toArray⟩] 25) := ⟨_, rfl⟩
                    have hbd : Below w7a.heap.size w7a w8a := by rw [hw8a]; exact hb8.alloc hb8.size _
                    have WG8 := Lib.hid (WG.out.below hbd WG.out.lt)
                    have BC8 := Lib.hid (BC7.out.trans (hbd.mono (by omega)))
                    have e0 : w8a.cell? ⟨w7.heap.size, 0, none⟩ = some (.int .u64 sp) := WG8.out.cell 0
                    have e1 : w8a.cell? ⟨w7.heap.size, 1, none⟩ = some (.int .i64 mp) := WG8.out.cell 1
                    have e2 : w8a.cell? ⟨w7.heap.size, 2, none⟩ = some (.string ⟨tp.toArray⟩) := WG8.out.cell 2
                    have DN : Hid (∀ wx, wx = w8a → ∃ q' : Nat, q' ≤ 4 ∧ Value.int .i64 ((q : Int) + 1) = .int .i64 (q' : Nat) ∧ Below wq.heap.size wq wx) := Lib.hid (fun wx h => ⟨q + 1, by omega, by go_num, by rw [h]; exact BC8.out⟩)
                    have HW8 := Lib.hid hw8a
                    rw [hw8a] at e0 e1 e2
                    clear hb8 hbd hw8a
                    go_wp2_with fail
                    go_roundw
                    case rel => exact DN.out _ HW8.out.symm
                    case measure => simp [intOf]; omega
        · have LT4 : Hid (Lies w4 w4.heap.size (some ⟨g4, o4 + 1, none⟩) (B8 T)) := Lib.hid (by
            have h := L4.out.drop 1 c4 (by rw [B8_length]; exact hV1) (by rw [B8_length]; exact hc4)
            rw [if_neg hcw, B8, ← List.map_drop, ← hT] at h
            exact h)
          have hTc : (T.length : Int) + 1 ≤ (c4 : Int) := by omega
          have hT0' : 0 < T.length := by omega
          clear hT hTl
          go_upto_if 78 with (at_builtin; refine wpList_append_cells rfl _ _ 26 rfl w4.heap.size 5 i0 (.int .u8 0) 1 1 Try.underlying26 HI.out G0.out G1.out G2.out rfl (by omega) _ 0 [] rfl HO0.out _ (some ⟨g4, o4 + 1, none⟩) T.length (c4 - 1) (B8 T) rfl (LT4.out.below BA4.out) (B8_len1 T) (B8_one T) (room63 hs') (room1 hs') ZA.out ?_; intro v6 w6 hown6 hb6; rw [Nat.zero_add, List.nil_append] at hown6; obtain ⟨A6, c6, rfl, hc6, hm6⟩ := own_form hown6; have HB6 := Lib.hid (BA4.out.trans hb6); have HO6 := Lib.hid hown6; have L6 := Lib.hid (Lies.own hown6 (Nat.le_refl _)); clear hown6 hb6)
          go_cut [] (fun wx => CTurned w4.heap.size w4 T A6 wx)
          case first =>
            have hlt0 : (0 : Int) < (T.length : Int) := by omega
            obtain ⟨g6, rfl, hg6, hg6', hfr⟩ := own_head HO6.out hT0'
            obtain ⟨J, hJ, hJe⟩ := turn_at x T.length hT0'
            have hc : w6.cell? ⟨g6, 0 + J, none⟩ = some (.int .u8 ((T.getD J 0).toNat : Int)) := by
              rcases L6.out.octets with h | ⟨b, o, e, _, hc⟩
              · rw [h] at hT0'; simp at hT0'
              · injection e with e
                injection e with e1 e2 e3
                subst e1 e2
                rw [hc J hJ]
                simp [List.getD, hJ]
            rw [Nat.zero_add] at hc
            have hf := hfr J
            have hx := u8_flip (T.getD J 0) y
            have D : Hid (CTurned w4.heap.size w4 T (some ⟨g6, 0, none⟩) (w6.setCell ⟨g6, J, none⟩ (.int .u8 ((T.getD J 0 ^^^ y).toNat : Int)))) := Lib.hid ⟨flip T J y, flip_length T J y, HB6.out.setCell hg6 _, by
              rw [show (w6.setCell ⟨g6, J, none⟩ (.int .u8 ((T.getD J 0 ^^^ y).toNat : Int))).heap.size = w6.heap.size from by simp [World.setCell], show (⟨g6, J, none⟩ : Addr) = ⟨g6, 0 + J, none⟩ from by rw [Nat.zero_add]]
              exact flip_lies L6.out J hJ y⟩
            generalize T.getD J 0 = q at *
            generalize (q ^^^ y) = z' at *
            clear hfr
            go_wp2_with fail
            go_meet
            exact D.out
          case rest =>
            obtain ⟨wq, hwq⟩ : ∃ wq : World, wq = wc := ⟨_, rfl⟩
            subst hwq
            obtain ⟨X, hXl, hbx, hlx⟩ := hcut
            have hzx := hbx.size
            have LTx := Lib.hid (LT4.out.below hbx)
            have KX := Lib.hid (K4.out.below hbx (by omega))
            have BX := Lib.hid (B4.out.trans (hbx.mono (by omega)))
            have RX := Lib.hid (RW4.out.below hbx)
            have BYX := Lib.hid (BW4.out.below hbx)
            have LXx := Lib.hid hlx
            have HXL := Lib.hid hXl
            clear hbx hlx hXl
            go_wp2_with fail
            obtain ⟨wo, hwo⟩ : ∃ wo : World, wo = wr := ⟨_, rfl⟩
            subst hwo
            go_loopw [21] (fun i wr => ∃ q : Nat, q ≤ 4 ∧ i = .int .i64 q ∧ Below wq.heap.size wq wr) (fun i _ => 4 - (intOf i).toNat)
            case atStart => exact ⟨0, by omega, rfl, Below.refl _ _⟩
            case round =>
              obtain ⟨q, hq, rfl, hbr2⟩ := hrel
              have BQ := Lib.hid hbr2
              have hzq := hbr2.size
              clear hbr2
              have hq4 : q = 0 ∨ q = 1 ∨ q = 2 ∨ q = 3 ∨ q = 4 := by omega
              clear hq
              by_cases hq3 : q = 4
              · as_aux_lemma =>
                  subst hq3
                  clear hq4
                  obtain ⟨w5, hw5⟩ : ∃ w5 : World, w5 = wr := ⟨_, rfl⟩
                  subst hw5
                  have B5 := Lib.hid (BX.out.trans (BQ.out.mono (by omega)))
                  have K5 := Lib.hid (KX.out.below BQ.out (by omega))
                  have Y5 := Lib.hid (BYX.out.below (BQ.out.mono (by omega)))
                  obtain ⟨w5a, hw5a⟩ : ∃ w5a, w5a = w5.alloc (.cells #[.int .u8 4] 5) := ⟨_, rfl⟩
                  have hba : Below w5.heap.size w5 w5a := by rw [hw5a]; exact (Below.refl _ _).alloc (Nat.le_refl _) _
                  have hsza : w5a.heap.size = w5.heap.size + 1 := by rw [hw5a]; simp
                  have F5 : Hid (Lies w5a (w5.heap.size + 1) (some ⟨w5.heap.size, 0, none⟩) (B8 [4])) := Lib.hid (by rw [hw5a]; exact Lies.one w5 5 (.int .u8 4))
                  have z5 : w4.heap.size ≤ w5.heap.size := by omega
                  have K5a := Lib.hid (K5.out.below hba (by omega))
                  have B5a := Lib.hid (B5.out.trans (hba.mono (by omega)))
                  have Y5a := Lib.hid ((Y5.out.below (hba.mono z5)).more (show w4.heap.size ≤ w5.heap.size + 1 by omega))
                  have S5 := Lib.hid hsza
                  have HW5 := Lib.hid hw5a
                  have k0 : w5a.cell? ⟨w.heap.size, 0, none⟩ = some (.int .u64 s) := K5a.out.cell 0
                  have k1 : w5a.cell? ⟨w.heap.size, 1, none⟩ = some (.int .i64 m) := K5a.out.cell 1
                  have k2 : w5a.cell? ⟨w.heap.size, 2, none⟩ = some (.string ⟨t.toArray⟩) := K5a.out.cell 2
                  obtain ⟨rr, hrr⟩ : ∃ rr, rr = (ok && chanOk ch) := ⟨_, rfl⟩
                  obtain ⟨R, hR⟩ : ∃ R, R = if rr then [4] ++ contB ch.toNat (headB body.length m t) body else [4] := ⟨_, rfl⟩
                  have HRR := Lib.hid hrr
                  have HR := Lib.hid hR
                  rw [hw5a] at k0 k1 k2
                  clear hba hsza hw5a hrr hR
                  go_wp2_with fail
                  rw [← HW5.out]
                  clear k0 k1 k2
                  refine (cframes_at (some ⟨w5.heap.size, 0, none⟩) 1 1 [4] (w5.heap.size + 1) ch s m t AB body.length body cB _ rr R rfl rfl F5.out (by rw [S5.out]; exact Nat.le_refl _) (by simp) htm Y5a.out (by omega) hbc hbm (by rw [HRR.out, HOK.out]) HR.out.symm).mono ?_
                  rintro e w6 ⟨v6, rfl, ho, hb⟩
                  obtain ⟨A7, c7, rfl, hc7, hm7⟩ := own_form ho
                  have z6 := hb.size
                  rw [S5.out] at z6
                  have M6 := Lib.hid (Lies.own ho (Nat.le_refl _))
                  have K6 := Lib.hid (K5a.out.below hb (by rw [S5.out]; omega))
                  have B6 := Lib.hid (B5a.out.trans (hb.mono (by rw [S5.out]; omega)))
                  have Y6 := Lib.hid ((Y5a.out.below (hb.mono (by rw [S5.out]; omega))).more z6)
                  obtain ⟨w6a, hw6a⟩ : ∃ w6a, w6a = w6.alloc (.cells #[.int .u8 4] 5) := ⟨_, rfl⟩
                  have hba : Below w6.heap.size w6 w6a := by rw [hw6a]; exact (Below.refl _ _).alloc (Nat.le_refl _) _
                  have hsza : w6a.heap.size = w6.heap.size + 1 := by rw [hw6a]; simp
                  have F6 : Hid (Lies w6a (w6.heap.size + 1) (some ⟨w6.heap.size, 0, none⟩) (B8 [4])) := Lib.hid (by rw [hw6a]; exact Lies.one w6 5 (.int .u8 4))
                  have M6a := Lib.hid (M6.out.below hba)
                  have K6a := Lib.hid (K6.out.below hba (by omega))
                  have B6a := Lib.hid (B6.out.trans (hba.mono (by omega)))
                  have Y6a := Lib.hid ((Y6.out.below hba).more (show w6.heap.size ≤ w6.heap.size + 1 by omega))
                  have S6 := Lib.hid hsza
                  have HW6 := Lib.hid hw6a
                  have cvA := run_octets_string (P := Try.prog) 26 9 5 Try.underlying26 Try.underlying5 Try.underlying9 M6a.out c7
                  have k0 : w6a.cell? ⟨w.heap.size, 0, none⟩ = some (.int .u64 s) := K6a.out.cell 0
                  have k1 : w6a.cell? ⟨w.heap.size, 1, none⟩ = some (.int .i64 m) := K6a.out.cell 1
                  have k2 : w6a.cell? ⟨w.heap.size, 2, none⟩ = some (.string ⟨t.toArray⟩) := K6a.out.cell 2
                  have kf : w6a.frozen? ⟨w.heap.size, 1, none⟩ = false := K6a.out.frozen 1
                  obtain ⟨mm, _, _, hmm⟩ := mask_is m 3 2 (by omega) rfl
                  obtain ⟨cc2, _, _, hcc2⟩ := mask_is ch 65535 16 (by omega) rfl
                  have jw : IntKind.i64.wrap ((j : Int) + 1) = (j : Int) + 1 := IntWalk.i64_in _ (by omega)
                  have NEXT : Hid (∀ wx, Below w6a.heap.size w6a wx → TellsI w s t (.int .i64 (cc2 : Int)) (.int .i64 ((j : Int) + 1)) (wx.setCell ⟨w.heap.size, 1, none⟩ (.int .i64 (mm : Int)))) := Lib.hid (by
                    intro wx hx
                    have hk := (K6a.out.below hx K6a.out.lt).put 1 (.int .i64 (mm : Int))
                    exact ⟨j + 1, (mm : Int), (cc2 : Int), by omega, by go_num, rfl, hk, (B6a.out.trans (hx.mono (by rw [S6.out]; omega))).setCell (p := ⟨w.heap.size, 1, none⟩) (Nat.le_refl _) _⟩)
                  rw [hw6a] at k0 k1 k2 kf cvA
                  clear ho hb hba hsza hw6a
                  by_cases hgo : ok = true ∧ (0 : Int) ≤ ch ∧ ch ≤ 65535
                  · obtain ⟨hok, hc0, hc6⟩ := hgo
                    subst hok
                    obtain ⟨cc, rfl⟩ : ∃ cc : Nat, ch = (cc : Int) := ⟨ch.toNat, by omega⟩
                    have hr1 : rr = true := by rw [HRR.out]; unfold chanOk; rw [decide_eq_true ⟨hc0, hc6⟩]; rfl
                    subst hr1
                    have HR1 : Hid ([4] ++ contB cc (headB body.length m t) body = R) := Lib.hid (by rw [HR.out, if_pos rfl, Int.toNat_natCast])
                    clear HR HRR
                    go_wp2_with fail
                    rw [← HW6.out]
                    refine (rcontent_any (some ⟨w6.heap.size, 0, none⟩) 1 1 [4] (w6.heap.size + 1) cc s m t AB body.length body cB _ rfl rfl F6.out (by rw [S6.out]; exact Nat.le_refl _) (by simp) Y6a.out (by omega) hbc hbm HOK.out.symm (by omega)).mono ?_
                    rw [HR1.out]
                    rintro e w8 ⟨v8, rfl, ho, hb⟩
                    obtain ⟨A8, c8, rfl, _, _⟩ := own_form ho
                    have cvC := run_octets_string (P := Try.prog) 26 9 5 Try.underlying26 Try.underlying5 Try.underlying9 (M6a.out.below (hb.mono (by rw [S6.out]; omega))) c7
                    have cvD := run_octets_string (P := Try.prog) 26 9 5 Try.underlying26 Try.underlying5 Try.underlying9 (Lies.own ho (Nat.le_refl _)) c8
                    have D := Lib.hid (NEXT.out w8 hb)
                    have K8 := K6a.out.below hb K6a.out.lt
                    have k1 : w8.cell? ⟨w.heap.size, 1, none⟩ = some (.int .i64 m) := K8.cell 1
                    have kf : w8.frozen? ⟨w.heap.size, 1, none⟩ = false := K8.frozen 1
                    clear ho hb NEXT K8
                    go_wp2_with fail
                    go_roundw
                    case rel => exact D.out
                    case measure => simp [intOf]; omega
                  · have hr1 : rr = false := by
                      rw [HRR.out]
                      cases hk : ok with
                      | false => rfl
                      | true =>
                        unfold chanOk
                        rw [decide_eq_false (fun h => hgo ⟨hk, h⟩)]
                        rfl
                    subst hr1
                    have hR4 : R = [4] := by rw [HR.out, if_neg (by decide)]
                    subst hR4
                    have cvB := run_octets_string (P := Try.prog) 26 9 5 Try.underlying26 Try.underlying5 Try.underlying9 F6.out 1
                    have D := Lib.hid (NEXT.out w6a (Below.refl _ _))
                    rw [HW6.out] at cvB
                    have cvA1 : (convert 26 9 (.slice A7 1 c7)).run Try.prog (w6.alloc (.cells #[.int .u8 4] 5)) = .ok (.string ⟨([4] : List UInt8).toArray⟩) (w6.alloc (.cells #[.int .u8 4] 5)) := cvA
                    have cvB1 : (convert 26 9 (.slice (some ⟨w6.heap.size, 0, none⟩) 1 1)).run Try.prog (w6.alloc (.cells #[.int .u8 4] 5)) = .ok (.string ⟨([4] : List UInt8).toArray⟩) (w6.alloc (.cells #[.int .u8 4] 5)) := cvB
                    clear cvA cvB
                    have DW : Hid (∀ wx, wx = w6a → TellsI w s t (.int .i64 (cc2 : Int)) (.int .i64 ((j : Int) + 1)) (wx.setCell ⟨w.heap.size, 1, none⟩ (.int .i64 (mm : Int)))) := Lib.hid (fun wx h => by rw [h]; exact D.out)
                    clear HR HRR NEXT
                    have hc : ok = false ∨ (ok = true ∧ ch < 0) ∨ (ok = true ∧ 0 ≤ ch ∧ 65535 < ch) := by
                      cases hk : ok with
                      | false => exact .inl rfl
                      | true =>
                        right
                        by_cases h0 : ch < 0
                        · exact .inl ⟨rfl, h0⟩
                        · exact .inr ⟨rfl, by omega, by
                            by_cases h6 : ch ≤ 65535
                            · exact absurd ⟨hk, by omega, h6⟩ hgo
                            · omega⟩
                    clear hgo
                    rcases hc with hk | ⟨hk, hc1⟩ | ⟨hk, hc1, hc2⟩
                    all_goals
                      subst hk
                      go_wp2_with fail
                      go_roundw
                      case rel => exact DW.out _ HW6.out.symm
                      case measure => simp [intOf]; omega
              · have hltq : (q : Int) < 4 := by omega
                go_upto_region 19 with fail
                go_cut [22] from 90 to 132 (fun s22 wx => CAsked wr s22 wx)
                case first =>
                  obtain ⟨M, hM, hMe⟩ := turn_at z (T.length + 1) (by omega)
                  have hMz : (bits .and .i64 z 65535).tmod ((T.length : Int) + 1) = (M : Int) := by rw [← hMe, Int.natCast_add]; rfl
                  have hM' : M ≤ T.length := by omega
                  have a0 : IntKind.i64.wrap ((1 : Int) + (M : Int)) = (1 : Int) + (M : Int) := IntWalk.i64_in _ (by omega)
                  have a1 : ((1 : Int) + (M : Int)).toNat = 1 + M := by omega
                  have a2 : (0 : Int) ≤ (1 : Int) + (M : Int) := by omega
                  have a3 : (1 : Int) + (M : Int) ≤ (c4 : Int) := by omega
                  have a4 : (1 : Int) ≤ (1 : Int) + (M : Int) := by omega
                  have hn0 : ¬ ((T.length : Int) + 1 = 0) := by omega
                  have a5 : (1 : Int) ≤ (T.length : Int) + 1 := by omega
                  clear hMe hM
                  obtain ⟨wd, hwd⟩ : ∃ wd, wd = (wr.alloc (.cells #[] 5)).drew := ⟨_, rfl⟩
                  have hbd : Below wr.heap.size wr wd := by rw [hwd]; exact ((Below.refl _ _).alloc (Nat.le_refl _) _).drew
                  have HOR : Hid (wd.ownsRow wr.heap.size 5 1 (.slice (some ⟨wr.heap.size, 0, none⟩) 0 0) 0 []) := Lib.hid (by rw [hwd]; exact World.ownsRow_made wr #[] 0 (Nat.le_refl _) (Nat.zero_le _) rfl)
                  have zd := hbd.size
                  have hsd : wd.heap.size = wr.heap.size + 1 := by rw [hwd]; show (wr.alloc _).heap.size = _; simp
                  have BD := Lib.hid hbd
                  have LTR := Lib.hid ((LTx.out.below (BQ.out.mono (by omega))).below (hbd.mono (by omega)))
                  have HWD := Lib.hid hwd
                  obtain ⟨wd2, hwd2⟩ : ∃ wd2, wd2 = wd.alloc (.cells #[.int .u8 (y.toNat : Int)] 5) := ⟨_, rfl⟩
                  have hbd2 : Below wr.heap.size wr wd2 := by rw [hwd2]; exact hbd.alloc zd _
                  have HOR2 : Hid (wd2.ownsRow wr.heap.size 5 1 (.slice (some ⟨wr.heap.size, 0, none⟩) 0 0) 0 []) := Lib.hid (by rw [hwd2]; exact HOR.out.alloc _)
                  have WB2 : Hid (Whole wd2 (wr.heap.size + 1) 5 #[.int .u8 (y.toNat : Int)]) := Lib.hid (by
                    have h := Whole.new wd 5 #[.int .u8 (y.toNat : Int)]
                    rw [hsd] at h
                    rw [hwd2]
                    exact h)
                  have zd2 := hbd2.size
                  have BD2 := Lib.hid hbd2
                  have LTR2 := Lib.hid ((LTx.out.below (BQ.out.mono (by omega))).below (hbd2.mono (by omega)))
                  have HWD2 := Lib.hid hwd2
                  obtain ⟨we, hwe⟩ : ∃ we, we = (wr.alloc (.cells #[.int .u8 (y.toNat : Int)] 5)).drew := ⟨_, rfl⟩
                  have hbe : Below wr.heap.size wr we := by rw [hwe]; exact ((Below.refl _ _).alloc (Nat.le_refl _) _).drew
                  have hse : we.heap.size = wr.heap.size + 1 := by rw [hwe]; show (wr.alloc _).heap.size = _; simp
                  have ze := hbe.size
                  have HWE := Lib.hid hwe
                  obtain ⟨wd3, hwd3⟩ : ∃ wd3, wd3 = we.alloc (.cells #[] 5) := ⟨_, rfl⟩
                  have hbd3 : Below wr.heap.size wr wd3 := by rw [hwd3]; exact hbe.alloc ze _
                  have HOR3 : Hid (wd3.ownsRow wr.heap.size 5 1 (.slice (some ⟨wr.heap.size + 1, 0, none⟩) 0 0) 0 []) := Lib.hid (by
                    have h := World.ownsRow_made (base := wr.heap.size) (e := 5) (size := 1) we #[] 0 ze (Nat.zero_le _) rfl
                    rw [hse] at h
                    rw [hwd3]
                    exact h)
                  have WB3 : Hid (Whole wd3 wr.heap.size 5 #[.int .u8 (y.toNat : Int)]) := Lib.hid (by
                    have h := (Whole.new wr 5 #[.int .u8 (y.toNat : Int)]).drew'.alloc (.cells #[] 5)
                    rw [hwd3, hwe]
                    exact h)
                  have zd3 := hbd3.size
                  have BD3 := Lib.hid hbd3
                  have LTR3 := Lib.hid ((LTx.out.below (BQ.out.mono (by omega))).below (hbd3.mono (by omega)))
                  have HWD3 := Lib.hid hwd3
                  have HSD := Lib.hid hsd
                  have HSE := Lib.hid hse
                  clear hbd2 hwd2 hbd3 hwd3 hbe hwe hsd hse
                  have hs1 : 0 + T.length ≤ 140737488355328 := by omega
                  have hs2 : T.length + 1 ≤ 140737488355328 := by omega
                  clear hbd hwd
                  refine wp_region_held_drew (S := fun _ => True) (by kernel_rfl) trivial (fun hS0 => ?_)
                  refine wpAnyH_take (i := 0) (oi := ⟨some 94, _, _, _, _, _⟩) (v := ?_) rfl (by kernel_rfl) (by kernel_rfl) (by kernel_rfl) (fun _ _ _ h => h) (Or.inl ⟨by rfl, ?_⟩) trivial ?_
                  rotate_left
                  · (intro wS hSw; go_simp); all_goals (with_reducible rfl)
                  try simp only [Act.put, List.setIfInBounds_toArray, List.set_cons_zero, List.set_cons_succ]
                  refine wpAnyH_take (i := 1) (oi := ⟨some 95, _, _, _, _, _⟩) (v := ?_) rfl (by kernel_rfl) (by kernel_rfl) (by kernel_rfl) (fun _ _ _ h => h) (Or.inl ⟨by rfl, ?_⟩) trivial ?_
                  rotate_left
                  · (intro wS hSw; go_simp); all_goals (with_reducible rfl)
                  try simp only [Act.put, List.setIfInBounds_toArray, List.set_cons_zero, List.set_cons_succ]
                  refine wpAnyH_take (i := 2) (oi := ⟨some 96, _, _, _, _, _⟩) (v := ?_) rfl (by kernel_rfl) (by kernel_rfl) (by kernel_rfl) (fun _ _ _ h => h) (Or.inl ⟨by rfl, ?_⟩) trivial ?_
                  rotate_left
                  · (intro wS hSw; go_simp); all_goals (with_reducible rfl)
                  try simp only [Act.put, List.setIfInBounds_toArray, List.set_cons_zero, List.set_cons_succ]
                  refine wpAnyH_take (i := 3) (oi := ⟨some 97, _, _, _, _, _⟩) (v := ?_) rfl (by kernel_rfl) (by kernel_rfl) (by kernel_rfl) (fun _ _ _ h => h) (Or.inl ⟨by rfl, ?_⟩) trivial ?_
                  rotate_left
                  · (intro wS hSw; go_simp); all_goals (with_reducible rfl)
                  try simp only [Act.put, List.setIfInBounds_toArray, List.set_cons_zero, List.set_cons_succ]
                  refine wpAnyH_take (i := 4) (oi := ⟨some 98, _, _, _, _, _⟩) (v := ?_) rfl (by kernel_rfl) (by kernel_rfl) (by kernel_rfl) (fun _ _ _ h => h) (Or.inl ⟨by rfl, ?_⟩) trivial ?_
                  rotate_left
                  · (intro wS hSw; go_simp); all_goals (with_reducible rfl)
                  try simp only [Act.put, List.setIfInBounds_toArray, List.set_cons_zero, List.set_cons_succ]
                  refine wpAnyH_take (i := 5) (oi := ⟨some 99, _, _, _, _, _⟩) (v := ?_) rfl (by kernel_rfl) (by kernel_rfl) (by kernel_rfl) (fun _ _ _ h => h) (Or.inl ⟨by rfl, ?_⟩) trivial ?_
                  rotate_left
                  · (intro wS hSw; go_simp); all_goals (with_reducible rfl)
                  try simp only [Act.put, List.setIfInBounds_toArray, List.set_cons_zero, List.set_cons_succ]
                  refine wpAnyH_take (i := 6) (oi := ⟨some 100, _, _, _, _, _⟩) (v := ?_) rfl (by kernel_rfl) (by kernel_rfl) (by kernel_rfl) (fun _ _ _ h => h) (Or.inl ⟨by rfl, ?_⟩) trivial ?_
                  rotate_left
                  · (intro wS hSw; go_simp); all_goals (with_reducible rfl)
                  try simp only [Act.put, List.setIfInBounds_toArray, List.set_cons_zero, List.set_cons_succ]
                  refine wpAnyH_take (i := 7) (oi := ⟨some 101, _, _, _, _, _⟩) (v := ?_) rfl (by kernel_rfl) (by kernel_rfl) (by kernel_rfl) (fun _ _ _ h => h) (Or.inl ⟨by rfl, ?_⟩) trivial ?_
                  rotate_left
                  · (intro wS hSw; go_simp); all_goals (with_reducible rfl)
                  try simp only [Act.put, List.setIfInBounds_toArray, List.set_cons_zero, List.set_cons_succ]
                  refine wpAnyH_take (i := 8) (oi := ⟨some 102, _, _, _, _, _⟩) (v := ?_) rfl (by kernel_rfl) (by kernel_rfl) (by kernel_rfl) (fun _ _ _ h => h) (Or.inl ⟨by rfl, ?_⟩) trivial ?_
                  rotate_left
                  · (intro wS hSw; go_simp); all_goals (with_reducible rfl)
                  try simp only [Act.put, List.setIfInBounds_toArray, List.set_cons_zero, List.set_cons_succ]
                  refine wpAnyH_take (i := 9) (oi := ⟨some 103, _, _, _, _, _⟩) (v := ?_) rfl (by kernel_rfl) (by kernel_rfl) (by kernel_rfl) (fun _ _ _ h => h) (Or.inl ⟨by rfl, ?_⟩) trivial ?_
                  rotate_left
                  · (intro wS hSw; go_simp); all_goals (with_reducible rfl)
                  try simp only [Act.put, List.setIfInBounds_toArray, List.set_cons_zero, List.set_cons_succ]
                  refine wpAnyH_take (i := 11) (oi := ⟨some 105, _, _, _, _, _⟩) (v := ?_) rfl (by kernel_rfl) (by kernel_rfl) (by kernel_rfl) (fun _ _ _ h => h) (Or.inl ⟨by rfl, ?_⟩) trivial ?_
                  rotate_left
                  · (intro wS hSw; go_simp); all_goals (with_reducible rfl)
                  try simp only [Act.put, List.setIfInBounds_toArray, List.set_cons_zero, List.set_cons_succ]
                  refine wpAnyH_take (i := 12) (oi := ⟨some 106, _, _, _, _, _⟩) (v := ?_) rfl (by kernel_rfl) (by kernel_rfl) (by kernel_rfl) (fun _ _ _ h => h) (Or.inl ⟨by rfl, ?_⟩) trivial ?_
                  rotate_left
                  · (intro wS hSw; go_simp); all_goals (with_reducible rfl)
                  try simp only [Act.put, List.setIfInBounds_toArray, List.set_cons_zero, List.set_cons_succ]
                  refine wpAnyH_take (i := 14) (oi := ⟨some 108, _, _, _, _, _⟩) (v := ?_) rfl (by kernel_rfl) (by kernel_rfl) (by kernel_rfl) (fun _ _ _ h => h) (Or.inl ⟨by rfl, ?_⟩) trivial ?_
                  rotate_left
                  · (intro wS hSw; go_simp); all_goals (with_reducible rfl)
                  try simp only [Act.put, List.setIfInBounds_toArray, List.set_cons_zero, List.set_cons_succ]
                  refine wpAnyH_take (i := 18) (oi := ⟨some 112, _, _, _, _, _⟩) (v := ?_) rfl (by kernel_rfl) (by kernel_rfl) (by kernel_rfl) (fun _ _ _ h => h) (Or.inl ⟨by rfl, ?_⟩) trivial ?_
                  rotate_left
                  · (intro wS hSw; go_simp); all_goals (with_reducible rfl)
                  try simp only [Act.put, List.setIfInBounds_toArray, List.set_cons_zero, List.set_cons_succ]
                  refine wpAnyH_ready (rs := [10, 15]) (by kernel_rfl) (by simp) ?_
                  refine AllReadyH.cons (o := ⟨some 104, _, _, _, _, _⟩) rfl (fun K hK => ?_) ?_
                  · go_simp
                    rw [← HWD.out]
                    refine hK.out _ _ trivial (fun hHeld => ?_)
                    clear hK K hHeld
                    try simp only [Act.put, List.setIfInBounds_toArray, List.set_cons_zero, List.set_cons_succ]
                    refine wpAnyH_ready (rs := [13, 15]) (by kernel_rfl) (by simp) ?_
                    refine AllReadyH.cons (o := ⟨some 107, _, _, _, _, _⟩) rfl (fun K hK => ?_) ?_
                    · refine step_append_cells rfl _ _ 26 rfl wr.heap.size 5 i0 (.int .u8 0) 1 1 Try.underlying26 HI.out G0.out G1.out G2.out rfl (by omega) (.slice (some ⟨wr.heap.size, 0, none⟩) 0 0) 0 [] (by rfl) HOR.out w4.heap.size (some ⟨g4, o4 + 1, none⟩) T.length (c4 - 1) (B8 T) (by rfl) LTR.out (B8_len1 T) (B8_one T) (room63 hs1) (room1 hs1) zd ?_
                      intro v7 w7 hown7 hb7
                      rw [Nat.zero_add, List.nil_append] at hown7
                      have HO7 := Lib.hid hown7
                      have B7 := Lib.hid (BD.out.trans hb7)
                      clear hown7 hb7
                      refine hK.out _ _ trivial (fun hHeld => ?_)
                      clear hK K hHeld
                      try simp only [Act.put, List.setIfInBounds_toArray, List.set_cons_zero, List.set_cons_succ]
                      refine wpAnyH_ready (rs := [15]) (by kernel_rfl) (by simp) ?_
                      refine AllReadyH.cons (o := ⟨some 109, _, _, _, _, _⟩) rfl (fun K hK => ?_) AllReadyH.nil
                      go_simp
                      refine hK.out _ _ trivial (fun hHeld => ?_)
                      clear hK K hHeld
                      try simp only [Act.put, List.setIfInBounds_toArray, List.set_cons_zero, List.set_cons_succ]
                      refine wpAnyH_ready (rs := [16]) (by kernel_rfl) (by simp) ?_
                      refine AllReadyH.cons (o := ⟨some 110, _, _, _, _, _⟩) rfl (fun K hK => ?_) AllReadyH.nil
                      refine step_append_cells rfl _ _ 26 rfl wr.heap.size 5 i0 (.int .u8 0) 1 1 Try.underlying26 HI.out G0.out G1.out G2.out rfl (by omega) _ T.length (B8 T) (by rfl) (HO7.out.alloc _) (w7.heap.size + 1) (some ⟨w7.heap.size, 0, none⟩) 1 1 [.int .u8 (y.toNat : Int)] (by rfl) (Lies.one w7 5 _) rfl (by simp [Value.oneCell']) (room63 hs2) (room1 hs2) (by have := B7.out.size; simp; omega) ?_
                      intro v8 w8 hown8 hb8
                      rw [show B8 T ++ [Value.int .u8 (y.toNat : Int)] = B8 (T ++ [y]) from by rw [B8_append]; rfl] at hown8
                      obtain ⟨A8, c8, rfl, hc8, hm8⟩ := own_form hown8
                      have L8 := Lib.hid (Lies.own hown8 (Nat.le_refl _))
                      have BW8 := Lib.hid ((B7.out.alloc B7.out.size _).trans hb8)
                      clear hown8 hb8
                      refine hK.out _ _ trivial (fun hHeld => ?_)
                      clear hK K hHeld
                      try simp only [Act.put, List.setIfInBounds_toArray, List.set_cons_zero, List.set_cons_succ]
                      obtain ⟨o, ho⟩ : ∃ o : Obj, o = .cells #[.slice AR raw.length cR, .slice A6 T.length c6, .slice (some ⟨g4, o4 + 1, none⟩) M (c4 - 1), .slice A8 (T.length + 1) c8] 26 := ⟨_, rfl⟩
                      have BO : Below wr.heap.size wr (w8.alloc o) := BW8.out.alloc BW8.out.size o
                      have zo := BO.size
                      obtain ⟨XA, XN, XC, hxq, hcq⟩ : ∃ XA XN XC, (w8.alloc o).cell? ⟨w8.heap.size, q, none⟩ = some (.slice XA XN XC) ∧ CAsked wr (.slice XA XN XC) (w8.alloc o) := by
                        have WL : Whole (w8.alloc o) w8.heap.size 26 #[.slice AR raw.length cR, .slice A6 T.length c6, .slice (some ⟨g4, o4 + 1, none⟩) M (c4 - 1), .slice A8 (T.length + 1) c8] := by rw [ho]; exact Whole.new _ _ _
                        rw [WL.cell]
                        rcases hq4 with rfl | rfl | rfl | rfl | rfl
                        · refine ⟨_, _, _, rfl, ?_⟩
                          exact ⟨AR, raw, cR, rfl, hrc, hrm, by omega, ((RX.out.below (BQ.out.mono (by omega))).below (BO.mono (by omega))).more (by omega), BO⟩
                        · refine ⟨_, _, _, rfl, ?_⟩
                          exact ⟨A6, X, c6, by rw [HXL.out]; try rfl, by rw [HXL.out]; exact hc6, hm6, by rw [HXL.out]; first | omega | simp, ((LXx.out.below BQ.out).below (BO.mono hzq)).more (by omega), BO⟩
                        · refine ⟨_, _, _, rfl, ?_⟩
                          exact ⟨some ⟨g4, o4 + 1, none⟩, T.take M, c4 - 1, by rw [List.length_take, Nat.min_eq_left hM'], by rw [List.length_take]; omega, by unfold maxLen; omega, by rw [List.length_take]; omega, by
                            have h := (((LTx.out.below (BQ.out.mono hzx)).below (BO.mono (by omega))).more (show w4.heap.size ≤ (w8.alloc o).heap.size by omega)).take M
                            rw [B8, ← List.map_take] at h
                            exact h, BO⟩
                        · refine ⟨_, _, _, rfl, ?_⟩
                          exact ⟨A8, T ++ [y], c8, by rw [List.length_append]; rfl, by rw [List.length_append]; exact hc8, hm8, by rw [List.length_append]; first | (simp; done) | (simp; omega), (L8.out.alloc (Nat.le_refl _) o).more (by simp), BO⟩
                        · exact absurd rfl hq3
                      have DQ := Lib.hid hcq
                      rw [ho] at hxq
                      have HO := Lib.hid ho
                      clear hcq ho BO zo
                      refine wpAnyH_ready (rs := [17]) (by kernel_rfl) (by simp) ?_
                      refine AllReadyH.cons (o := ⟨some 111, _, _, _, _, _⟩) rfl (fun K hK => ?_) AllReadyH.nil
                      go_simp
                      refine hK.out _ _ trivial (fun hHeld => ?_)
                      clear hK K hHeld
                      try simp only [Act.put, List.setIfInBounds_toArray, List.set_cons_zero, List.set_cons_succ]
                      refine wpAnyH_take (i := 19) (oi := ⟨some 113, _, _, _, _, _⟩) (v := ?_) rfl (by kernel_rfl) (by kernel_rfl) (by kernel_rfl) (fun _ _ _ h => h) (Or.inl ⟨by rfl, ?_⟩) trivial ?_
                      rotate_left
                      · (intro wS hSw; go_simp); all_goals (with_reducible rfl)
                      try simp only [Act.put, List.setIfInBounds_toArray, List.set_cons_zero, List.set_cons_succ]
                      refine wpAnyH_ready (rs := [20]) (by kernel_rfl) (by simp) ?_
                      refine AllReadyH.cons (o := ⟨some 114, _, _, _, _, _⟩) rfl (fun K hK => ?_) AllReadyH.nil
                      go_simp
                      refine hK.out _ _ trivial (fun hHeld => ?_)
                      clear hK K hHeld
                      try simp only [Act.put, List.setIfInBounds_toArray, List.set_cons_zero, List.set_cons_succ]
                      refine wpAnyH_take (i := 21) (oi := ⟨some 22, _, _, _, _, _⟩) (v := ?_) rfl (by kernel_rfl) (by kernel_rfl) (by kernel_rfl) (fun _ _ _ h => h) (Or.inl ⟨by rfl, ?_⟩) trivial ?_
                      rotate_left
                      · (intro wS hSw; go_simp); all_goals (with_reducible rfl)
                      try simp only [Act.put, List.setIfInBounds_toArray, List.set_cons_zero, List.set_cons_succ]
                      refine wpAnyH_done (by kernel_rfl) ?_ _
                      go_wp2_with fail
                      go_meet
                      rw [← HO.out]
                      exact DQ.out
                    refine AllReadyH.cons (o := ⟨some 109, _, _, _, _, _⟩) rfl (fun K hK => ?_) ?_
                    · go_simp
                      try rw [HSD.out]
                      rw [← HWD2.out]
                      refine hK.out _ _ trivial (fun hHeld => ?_)
                      clear hK K hHeld
                      try simp only [Act.put, List.setIfInBounds_toArray, List.set_cons_zero, List.set_cons_succ]
                      refine wpAnyH_ready (rs := [13]) (by kernel_rfl) (by simp) ?_
                      refine AllReadyH.cons (o := ⟨some 107, _, _, _, _, _⟩) rfl (fun K hK => ?_) AllReadyH.nil
                      refine step_append_own2 rfl _ _ 26 rfl wr.heap.size 5 i0 (.int .u8 0) 1 1 Try.underlying26 HI.out G0.out G1.out G2.out rfl (by omega) (.slice (some ⟨wr.heap.size, 0, none⟩) 0 0) 0 [] (by rfl) HOR2.out w4.heap.size (some ⟨g4, o4 + 1, none⟩) T.length (c4 - 1) (B8 T) (by rfl) LTR2.out (B8_len1 T) (B8_one T) (room63 hs1) (room1 hs1) zd2 ?_
                      intro v7 w7 hown7 hg7 _
                      rw [Nat.zero_add, List.nil_append] at hown7
                      have HO7 := Lib.hid hown7
                      have B7 := Lib.hid (BD2.out.grown hg7 zd2 (fun k hk => by cases hk; exact Nat.le_refl _))
                      have LBY := Lib.hid (Lies.of_whole (WB2.out.grown hg7 (by intro e; have e2 : wr.heap.size + 1 = wr.heap.size := Option.some.inj e; omega)) w7.heap.size (WB2.out.grown hg7 (by intro e; have e2 : wr.heap.size + 1 = wr.heap.size := Option.some.inj e; omega)).lt)
                      clear hown7 hg7
                      refine hK.out _ _ trivial (fun hHeld => ?_)
                      clear hK K hHeld
                      try simp only [Act.put, List.setIfInBounds_toArray, List.set_cons_zero, List.set_cons_succ]
                      refine wpAnyH_ready (rs := [16]) (by kernel_rfl) (by simp) ?_
                      refine AllReadyH.cons (o := ⟨some 110, _, _, _, _, _⟩) rfl (fun K hK => ?_) AllReadyH.nil
                      refine step_append_cells rfl _ _ 26 rfl wr.heap.size 5 i0 (.int .u8 0) 1 1 Try.underlying26 HI.out G0.out G1.out G2.out rfl (by omega) _ T.length (B8 T) (by rfl) HO7.out w7.heap.size (some ⟨wr.heap.size + 1, 0, none⟩) 1 1 [.int .u8 (y.toNat : Int)] (by rfl) LBY.out rfl (by simp [Value.oneCell']) (room63 hs2) (room1 hs2) B7.out.size ?_
                      intro v8 w8 hown8 hb8
                      rw [show B8 T ++ [Value.int .u8 (y.toNat : Int)] = B8 (T ++ [y]) from by rw [B8_append]; rfl] at hown8
                      obtain ⟨A8, c8, rfl, hc8, hm8⟩ := own_form hown8
                      have L8 := Lib.hid (Lies.own hown8 (Nat.le_refl _))
                      have BW8 := Lib.hid (B7.out.trans hb8)
                      clear hown8 hb8
                      refine hK.out _ _ trivial (fun hHeld => ?_)
                      clear hK K hHeld
                      try simp only [Act.put, List.setIfInBounds_toArray, List.set_cons_zero, List.set_cons_succ]
                      obtain ⟨o, ho⟩ : ∃ o : Obj, o = .cells #[.slice AR raw.length cR, .slice A6 T.length c6, .slice (some ⟨g4, o4 + 1, none⟩) M (c4 - 1), .slice A8 (T.length + 1) c8] 26 := ⟨_, rfl⟩
                      have BO : Below wr.heap.size wr (w8.alloc o) := BW8.out.alloc BW8.out.size o
                      have zo := BO.size
                      obtain ⟨XA, XN, XC, hxq, hcq⟩ : ∃ XA XN XC, (w8.alloc o).cell? ⟨w8.heap.size, q, none⟩ = some (.slice XA XN XC) ∧ CAsked wr (.slice XA XN XC) (w8.alloc o) := by
                        have WL : Whole (w8.alloc o) w8.heap.size 26 #[.slice AR raw.length cR, .slice A6 T.length c6, .slice (some ⟨g4, o4 + 1, none⟩) M (c4 - 1), .slice A8 (T.length + 1) c8] := by rw [ho]; exact Whole.new _ _ _
                        rw [WL.cell]
                        rcases hq4 with rfl | rfl | rfl | rfl | rfl
                        · refine ⟨_, _, _, rfl, ?_⟩
                          exact ⟨AR, raw, cR, rfl, hrc, hrm, by omega, ((RX.out.below (BQ.out.mono (by omega))).below (BO.mono (by omega))).more (by omega), BO⟩
                        · refine ⟨_, _, _, rfl, ?_⟩
                          exact ⟨A6, X, c6, by rw [HXL.out]; try rfl, by rw [HXL.out]; exact hc6, hm6, by rw [HXL.out]; first | omega | simp, ((LXx.out.below BQ.out).below (BO.mono hzq)).more (by omega), BO⟩
                        · refine ⟨_, _, _, rfl, ?_⟩
                          exact ⟨some ⟨g4, o4 + 1, none⟩, T.take M, c4 - 1, by rw [List.length_take, Nat.min_eq_left hM'], by rw [List.length_take]; omega, by unfold maxLen; omega, by rw [List.length_take]; omega, by
                            have h := (((LTx.out.below (BQ.out.mono hzx)).below (BO.mono (by omega))).more (show w4.heap.size ≤ (w8.alloc o).heap.size by omega)).take M
                            rw [B8, ← List.map_take] at h
                            exact h, BO⟩
                        · refine ⟨_, _, _, rfl, ?_⟩
                          exact ⟨A8, T ++ [y], c8, by rw [List.length_append]; rfl, by rw [List.length_append]; exact hc8, hm8, by rw [List.length_append]; first | (simp; done) | (simp; omega), (L8.out.alloc (Nat.le_refl _) o).more (by simp), BO⟩
                        · exact absurd rfl hq3
                      have DQ := Lib.hid hcq
                      rw [ho] at hxq
                      have HO := Lib.hid ho
                      clear hcq ho BO zo
                      refine wpAnyH_ready (rs := [17]) (by kernel_rfl) (by simp) ?_
                      refine AllReadyH.cons (o := ⟨some 111, _, _, _, _, _⟩) rfl (fun K hK => ?_) AllReadyH.nil
                      go_simp
                      refine hK.out _ _ trivial (fun hHeld => ?_)
                      clear hK K hHeld
                      try simp only [Act.put, List.setIfInBounds_toArray, List.set_cons_zero, List.set_cons_succ]
                      refine wpAnyH_take (i := 19) (oi := ⟨some 113, _, _, _, _, _⟩) (v := ?_) rfl (by kernel_rfl) (by kernel_rfl) (by kernel_rfl) (fun _ _ _ h => h) (Or.inl ⟨by rfl, ?_⟩) trivial ?_
                      rotate_left
                      · (intro wS hSw; go_simp); all_goals (with_reducible rfl)
                      try simp only [Act.put, List.setIfInBounds_toArray, List.set_cons_zero, List.set_cons_succ]
                      refine wpAnyH_ready (rs := [20]) (by kernel_rfl) (by simp) ?_
                      refine AllReadyH.cons (o := ⟨some 114, _, _, _, _, _⟩) rfl (fun K hK => ?_) AllReadyH.nil
                      go_simp
                      refine hK.out _ _ trivial (fun hHeld => ?_)
                      clear hK K hHeld
                      try simp only [Act.put, List.setIfInBounds_toArray, List.set_cons_zero, List.set_cons_succ]
                      refine wpAnyH_take (i := 21) (oi := ⟨some 22, _, _, _, _, _⟩) (v := ?_) rfl (by kernel_rfl) (by kernel_rfl) (by kernel_rfl) (fun _ _ _ h => h) (Or.inl ⟨by rfl, ?_⟩) trivial ?_
                      rotate_left
                      · (intro wS hSw; go_simp); all_goals (with_reducible rfl)
                      try simp only [Act.put, List.setIfInBounds_toArray, List.set_cons_zero, List.set_cons_succ]
                      refine wpAnyH_done (by kernel_rfl) ?_ _
                      go_wp2_with fail
                      go_meet
                      rw [← HO.out]
                      exact DQ.out
                    exact AllReadyH.nil
                  refine AllReadyH.cons (o := ⟨some 109, _, _, _, _, _⟩) rfl (fun K hK => ?_) ?_
                  · go_simp
                    rw [← HWE.out]
                    refine hK.out _ _ trivial (fun hHeld => ?_)
                    clear hK K hHeld
                    try simp only [Act.put, List.setIfInBounds_toArray, List.set_cons_zero, List.set_cons_succ]
                    refine wpAnyH_ready (rs := [10]) (by kernel_rfl) (by simp) ?_
                    refine AllReadyH.cons (o := ⟨some 104, _, _, _, _, _⟩) rfl (fun K hK => ?_) AllReadyH.nil
                    go_simp
                    try rw [HSE.out]
                    rw [← HWD3.out]
                    refine hK.out _ _ trivial (fun hHeld => ?_)
                    clear hK K hHeld
                    try simp only [Act.put, List.setIfInBounds_toArray, List.set_cons_zero, List.set_cons_succ]
                    refine wpAnyH_ready (rs := [13]) (by kernel_rfl) (by simp) ?_
                    refine AllReadyH.cons (o := ⟨some 107, _, _, _, _, _⟩) rfl (fun K hK => ?_) AllReadyH.nil
                    refine step_append_own2 rfl _ _ 26 rfl wr.heap.size 5 i0 (.int .u8 0) 1 1 Try.underlying26 HI.out G0.out G1.out G2.out rfl (by omega) (.slice (some ⟨wr.heap.size + 1, 0, none⟩) 0 0) 0 [] (by rfl) HOR3.out w4.heap.size (some ⟨g4, o4 + 1, none⟩) T.length (c4 - 1) (B8 T) (by rfl) LTR3.out (B8_len1 T) (B8_one T) (room63 hs1) (room1 hs1) zd3 ?_
                    intro v7 w7 hown7 hg7 _
                    rw [Nat.zero_add, List.nil_append] at hown7
                    have HO7 := Lib.hid hown7
                    have B7 := Lib.hid (BD3.out.grown hg7 zd3 (fun k hk => by cases hk; exact Nat.le_succ _))
                    have LBY := Lib.hid (Lies.of_whole (WB3.out.grown hg7 (by intro e; have e2 : wr.heap.size = wr.heap.size + 1 := Option.some.inj e; omega)) w7.heap.size (WB3.out.grown hg7 (by intro e; have e2 : wr.heap.size = wr.heap.size + 1 := Option.some.inj e; omega)).lt)
                    clear hown7 hg7
                    refine hK.out _ _ trivial (fun hHeld => ?_)
                    clear hK K hHeld
                    try simp only [Act.put, List.setIfInBounds_toArray, List.set_cons_zero, List.set_cons_succ]
                    refine wpAnyH_ready (rs := [16]) (by kernel_rfl) (by simp) ?_
                    refine AllReadyH.cons (o := ⟨some 110, _, _, _, _, _⟩) rfl (fun K hK => ?_) AllReadyH.nil
                    refine step_append_cells rfl _ _ 26 rfl wr.heap.size 5 i0 (.int .u8 0) 1 1 Try.underlying26 HI.out G0.out G1.out G2.out rfl (by omega) _ T.length (B8 T) (by rfl) HO7.out w7.heap.size (some ⟨wr.heap.size, 0, none⟩) 1 1 [.int .u8 (y.toNat : Int)] (by rfl) LBY.out rfl (by simp [Value.oneCell']) (room63 hs2) (room1 hs2) B7.out.size ?_
                    intro v8 w8 hown8 hb8
                    rw [show B8 T ++ [Value.int .u8 (y.toNat : Int)] = B8 (T ++ [y]) from by rw [B8_append]; rfl] at hown8
                    obtain ⟨A8, c8, rfl, hc8, hm8⟩ := own_form hown8
                    have L8 := Lib.hid (Lies.own hown8 (Nat.le_refl _))
                    have BW8 := Lib.hid (B7.out.trans hb8)
                    clear hown8 hb8
                    refine hK.out _ _ trivial (fun hHeld => ?_)
                    clear hK K hHeld
                    try simp only [Act.put, List.setIfInBounds_toArray, List.set_cons_zero, List.set_cons_succ]
                    obtain ⟨o, ho⟩ : ∃ o : Obj, o = .cells #[.slice AR raw.length cR, .slice A6 T.length c6, .slice (some ⟨g4, o4 + 1, none⟩) M (c4 - 1), .slice A8 (T.length + 1) c8] 26 := ⟨_, rfl⟩
                    have BO : Below wr.heap.size wr (w8.alloc o) := BW8.out.alloc BW8.out.size o
                    have zo := BO.size
                    obtain ⟨XA, XN, XC, hxq, hcq⟩ : ∃ XA XN XC, (w8.alloc o).cell? ⟨w8.heap.size, q, none⟩ = some (.slice XA XN XC) ∧ CAsked wr (.slice XA XN XC) (w8.alloc o) := by
                      have WL : Whole (w8.alloc o) w8.heap.size 26 #[.slice AR raw.length cR, .slice A6 T.length c6, .slice (some ⟨g4, o4 + 1, none⟩) M (c4 - 1), .slice A8 (T.length + 1) c8] := by rw [ho]; exact Whole.new _ _ _
                      rw [WL.cell]
                      rcases hq4 with rfl | rfl | rfl | rfl | rfl
                      · refine ⟨_, _, _, rfl, ?_⟩
                        exact ⟨AR, raw, cR, rfl, hrc, hrm, by omega, ((RX.out.below (BQ.out.mono (by omega))).below (BO.mono (by omega))).more (by omega), BO⟩
                      · refine ⟨_, _, _, rfl, ?_⟩
                        exact ⟨A6, X, c6, by rw [HXL.out]; try rfl, by rw [HXL.out]; exact hc6, hm6, by rw [HXL.out]; first | omega | simp, ((LXx.out.below BQ.out).below (BO.mono hzq)).more (by omega), BO⟩
                      · refine ⟨_, _, _, rfl, ?_⟩
                        exact ⟨some ⟨g4, o4 + 1, none⟩, T.take M, c4 - 1, by rw [List.length_take, Nat.min_eq_left hM'], by rw [List.length_take]; omega, by unfold maxLen; omega, by rw [List.length_take]; omega, by
                          have h := (((LTx.out.below (BQ.out.mono hzx)).below (BO.mono (by omega))).more (show w4.heap.size ≤ (w8.alloc o).heap.size by omega)).take M
                          rw [B8, ← List.map_take] at h
                          exact h, BO⟩
                      · refine ⟨_, _, _, rfl, ?_⟩
                        exact ⟨A8, T ++ [y], c8, by rw [List.length_append]; rfl, by rw [List.length_append]; exact hc8, hm8, by rw [List.length_append]; first | (simp; done) | (simp; omega), (L8.out.alloc (Nat.le_refl _) o).more (by simp), BO⟩
                      · exact absurd rfl hq3
                    have DQ := Lib.hid hcq
                    rw [ho] at hxq
                    have HO := Lib.hid ho
                    clear hcq ho BO zo
                    refine wpAnyH_ready (rs := [17]) (by kernel_rfl) (by simp) ?_
                    refine AllReadyH.cons (o := ⟨some 111, _, _, _, _, _⟩) rfl (fun K hK => ?_) AllReadyH.nil
                    go_simp
                    refine hK.out _ _ trivial (fun hHeld => ?_)
                    clear hK K hHeld
                    try simp only [Act.put, List.setIfInBounds_toArray, List.set_cons_zero, List.set_cons_succ]
                    refine wpAnyH_take (i := 19) (oi := ⟨some 113, _, _, _, _, _⟩) (v := ?_) rfl (by kernel_rfl) (by kernel_rfl) (by kernel_rfl) (fun _ _ _ h => h) (Or.inl ⟨by rfl, ?_⟩) trivial ?_
                    rotate_left
                    · (intro wS hSw; go_simp); all_goals (with_reducible rfl)
                    try simp only [Act.put, List.setIfInBounds_toArray, List.set_cons_zero, List.set_cons_succ]
                    refine wpAnyH_ready (rs := [20]) (by kernel_rfl) (by simp) ?_
                    refine AllReadyH.cons (o := ⟨some 114, _, _, _, _, _⟩) rfl (fun K hK => ?_) AllReadyH.nil
                    go_simp
                    refine hK.out _ _ trivial (fun hHeld => ?_)
                    clear hK K hHeld
                    try simp only [Act.put, List.setIfInBounds_toArray, List.set_cons_zero, List.set_cons_succ]
                    refine wpAnyH_take (i := 21) (oi := ⟨some 22, _, _, _, _, _⟩) (v := ?_) rfl (by kernel_rfl) (by kernel_rfl) (by kernel_rfl) (fun _ _ _ h => h) (Or.inl ⟨by rfl, ?_⟩) trivial ?_
                    rotate_left
                    · (intro wS hSw; go_simp); all_goals (with_reducible rfl)
                    try simp only [Act.put, List.setIfInBounds_toArray, List.set_cons_zero, List.set_cons_succ]
                    refine wpAnyH_done (by kernel_rfl) ?_ _
                    go_wp2_with fail
                    go_meet
                    rw [← HO.out]
                    exact DQ.out
                  exact AllReadyH.nil
                case rest =>
                  obtain ⟨Ay, Y, cy, rfl, hy1, hy2, hy3, hy4, hy5⟩ := hcut
                  have BC := Lib.hid (BQ.out.trans (hy5.mono hzq))
                  have hzc := hy5.size
                  have LY := Lib.hid hy4
                  clear hq4 hq3 hy4 hy5
                  go_wp2_with fail
                  cases hP : headP Y with
                  | none =>
                    have HP := Lib.hid hP
                    refine (cparse_no Ay cy Y.length Y wc.heap.size _ rfl LY.out (Nat.le_refl _) (by omega) hP).mono ?_
                    rintro e w7 ⟨rfl, hb7⟩
                    clear hP
                    obtain ⟨w7a, hw7a⟩ : ∃ w7a, w7a = w7.alloc (.cells #[.int .u64 0, .int .i64 0, .string ⟨#[]⟩] 25) := ⟨_, rfl⟩
                    have hbc : Below wc.heap.size wc w7a := by rw [hw7a]; exact hb7.alloc hb7.size _
                    have WG : Hid (Whole w7a w7.heap.size 25 #[.int .u64 0, .int .i64 0, .string ⟨#[]⟩]) := Lib.hid (by rw [hw7a]; exact Whole.new _ _ _)
                    have LY7 := Lib.hid (LY.out.below hbc)
                    have BC7 := Lib.hid (BC.out.trans (hbc.mono (by omega)))
                    have z7 := hbc.size
                    have HW7 := Lib.hid hw7a
                    clear hb7 hbc hw7a
                    go_wp2_with fail
                    rw [← HW7.out]
                    refine (rheadof_no Ay cy Y.length Y wc.heap.size _ rfl LY7.out (by omega) (by omega) hy1 hy2 HP.out).mono ?_
                    rintro e w8 ⟨rfl, hb8⟩
                    obtain ⟨w8a, hw8a⟩ : ∃ w8a, w8a = w8.alloc (.cells #[.int .u64 0, .int .i64 0, .string ⟨#[]⟩] 25) := ⟨_, rfl⟩
                    have hbd : Below w7a.heap.size w7a w8a := by rw [hw8a]; exact hb8.alloc hb8.size _
                    have WH : Hid (Whole w8a w8.heap.size 25 #[.int .u64 0, .int .i64 0, .string ⟨#[]⟩]) := Lib.hid (by rw [hw8a]; exact Whole.new _ _ _)
                    have WG8 := Lib.hid (WG.out.below hbd WG.out.lt)
                    have BC8 := Lib.hid (BC7.out.trans (hbd.mono (by omega)))
                    have e0 : w8a.cell? ⟨w7.heap.size, 0, none⟩ = some (.int .u64 0) := WG8.out.cell 0
                    have e1 : w8a.cell? ⟨w7.heap.size, 1, none⟩ = some (.int .i64 0) := WG8.out.cell 1
                    have e2 : w8a.cell? ⟨w7.heap.size, 2, none⟩ = some (.string ⟨#[]⟩) := WG8.out.cell 2
                    have DN : Hid (∀ wx, wx = w8a → ∃ q' : Nat, q' ≤ 4 ∧ Value.int .i64 ((q : Int) + 1) = .int .i64 (q' : Nat) ∧ Below wq.heap.size wq wx) := Lib.hid (fun wx h => ⟨q + 1, by omega, by go_num, by rw [h]; exact BC8.out⟩)
                    have HW8 := Lib.hid hw8a
                    rw [hw8a] at e0 e1 e2
                    clear hb8 hbd hw8a
                    go_wp2_with fail
                    go_roundw
                    case rel => exact DN.out _ HW8.out.symm
                    case measure => simp [intOf]; omega
                  | some p =>
                    obtain ⟨sp, mp, tp⟩ := p
                    have HP := Lib.hid hP
                    refine (cparse_yes Ay cy Y.length Y wc.heap.size _ sp mp tp rfl LY.out (Nat.le_refl _) (by omega) hP).mono ?_
                    rintro e w7 ⟨rfl, hb7⟩
                    clear hP
                    obtain ⟨w7a, hw7a⟩ : ∃ w7a, w7a = w7.alloc (.cells #[.int .u64 sp, .int .i64 mp, .string ⟨tp.toArray⟩] 25) := ⟨_, rfl⟩
                    have hbc : Below wc.heap.size wc w7a := by rw [hw7a]; exact hb7.alloc hb7.size _
                    have WG : Hid (Whole w7a w7.heap.size 25 #[.int .u64 sp, .int .i64 mp, .string ⟨tp.toArray⟩]) := Lib.hid (by rw [hw7a]; exact Whole.new _ _ _)
                    have LY7 := Lib.hid (LY.out.below hbc)
                    have BC7 := Lib.hid (BC.out.trans (hbc.mono (by omega)))
                    have z7 := hbc.size
                    have HW7 := Lib.hid hw7a
                    clear hb7 hbc hw7a
                    go_wp2_with fail
                    rw [← HW7.out]
                    refine (rheadof_yes Ay cy Y.length Y wc.heap.size _ sp mp tp rfl LY7.out (by omega) (by omega) hy1 hy2 HP.out).mono ?_
                    rintro e w8 ⟨rfl, hb8⟩
                    obtain ⟨w8a, hw8a⟩ : ∃ w8a, w8a = w8.alloc (.cells #[.int .u64 sp, .int .i64 mp, .string ⟨tp.toArray⟩] 25) := ⟨_, rfl⟩
                    have hbd : Below w7a.heap.size w7a w8a := by rw [hw8a]; exact hb8.alloc hb8.size _
                    have WG8 := Lib.hid (WG.out.below hbd WG.out.lt)
                    have BC8 := Lib.hid (BC7.out.trans (hbd.mono (by omega)))
                    have e0 : w8a.cell? ⟨w7.heap.size, 0, none⟩ = some (.int .u64 sp) := WG8.out.cell 0
                    have e1 : w8a.cell? ⟨w7.heap.size, 1, none⟩ = some (.int .i64 mp) := WG8.out.cell 1
                    have e2 : w8a.cell? ⟨w7.heap.size, 2, none⟩ = some (.string ⟨tp.toArray⟩) := WG8.out.cell 2
                    have DN : Hid (∀ wx, wx = w8a → ∃ q' : Nat, q' ≤ 4 ∧ Value.int .i64 ((q : Int) + 1) = .int .i64 (q' : Nat) ∧ Below wq.heap.size wq wx) := Lib.hid (fun wx h => ⟨q + 1, by omega, by go_num, by rw [h]; exact BC8.out⟩)
                    have HW8 := Lib.hid hw8a
                    rw [hw8a] at e0 e1 e2
                    clear hb8 hbd hw8a
                    go_wp2_with fail
                    go_roundw
                    case rel => exact DN.out _ HW8.out.symm
                    case measure => simp [intOf]; omega
end Go.Proofs.Ytfajkbegmmlmjaa
