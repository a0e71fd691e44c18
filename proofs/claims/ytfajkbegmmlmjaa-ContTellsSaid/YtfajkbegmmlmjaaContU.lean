/- Contracts of the document's own answer for layer 5: a content's frames. -/
import Derived.Test.YtfajkbegmmlmjaaContT
import Derived.Test.YtfajkbegmmlmjaaContH
import Derived.Test.YtfajkbegmmlmjaaRefF
namespace Go.Proofs.Ytfajkbegmmlmjaa
open Go.RowKit
set_option maxRecDepth 100000
set_option linter.unusedSimpArgs false
set_option linter.unusedVariables false

/-- what stands behind j of the parts -/
def ContI (w : World) (cc : Nat) (H l body : List UInt8) (vb vx : Value) (wr : World) : Prop :=
  ∃ j A c X A2 c2, j ≤ pcount body.length ∧ X ++ restB cc body j = l ++ contB cc H body ∧ X.length ≤ l.length + 300 + j * 4096 ∧ vb = .slice A X.length c ∧ wr.ownsRow w.heap.size 5 1 vb X.length (B8 X) ∧
    vx = .slice A2 (body.drop (4088 * j)).length c2 ∧ (body.drop (4088 * j)).length ≤ c2 ∧ c2 ≤ maxLen ∧ Lies wr w.heap.size A2 (B8 (body.drop (4088 * j))) ∧ Below w.heap.size w wr

theorem rframe_at (A : Option Addr) (c n m : Nat) (l : List UInt8) (B : Nat) (k ch : Nat) (A2 : Option Addr) (b : List UInt8) (c2 : Nat) (w : World) (hn : n = l.length) (hm : m = b.length) (hl : Lies w B A (B8 l)) (hB : B ≤ w.heap.size) (hs : l.length ≤ 70368744177664) (hb : Lies w B A2 (B8 b)) (h3 : b.length ≤ 5000) (hk8 : k ≤ 8) (hch : ch ≤ 65535) :
    Calls Try.prog 30 #[.slice A n c, .agg #[.int .i64 k, .int .i64 ch, .slice A2 m c2]] w (NewOcts w.heap.size (l ++ frameB k ch b) w) := by
  subst hm
  exact rframe_any A c n l B k ch A2 b c2 w hn hl hB hs hb h3 hk8 hch

set_option maxHeartbeats 4000000 in
theorem rcontent_any (A : Option Addr) (c n : Nat) (l : List UInt8) (B : Nat) (cc : Nat) (s : Nat) (m : Int) (t : List UInt8) (AB : Option Addr) (nB : Nat) (body : List UInt8) (cB : Nat) (w : World) (hn : n = l.length) (hnB : nB = body.length) (hl : Lies w B A (B8 l)) (hB : B ≤ w.heap.size) (hs : l.length ≤ 1000) (hbl : Lies w B AB (B8 body)) (hbn : body.length ≤ 20000) (hbc : body.length ≤ cB) (hcm : cB ≤ maxLen) (hok : headOk m t = true) (hcc : cc ≤ 65535) :
    Calls Try.prog 15 #[.slice A n c, .int .i64 cc, .agg #[.int .u64 s, .int .i64 m, .string ⟨t.toArray⟩], .slice AB nB cB] w (NewOcts w.heap.size (l ++ contB cc (headB body.length m t) body) w) := by
  subst hn hnB
  have kw := u64_nat body.length (by omega)
  obtain ⟨H, hH⟩ : ∃ H, H = headB body.length m t := ⟨_, rfl⟩
  have hHl : H.length ≤ 271 := by
    have h := hok
    unfold headOk at h
    simp only [decide_eq_true_eq] at h
    rw [hH, headB_length]
    split <;> split <;> omega
  rw [← hH]
  obtain ⟨Z, hZ⟩ : ∃ Z, Z = l ++ contB cc H body := ⟨_, rfl⟩
  have hpc : pcount body.length ≤ 5 := by unfold pcount; omega
  have HPC := Lib.hid hpc
  have HH := Lib.hid hH
  have HOK := Lib.hid hok
  obtain ⟨W, hW⟩ : ∃ W, W = w.alloc (.cells #[.int .u64 body.length, .int .i64 m, .string ⟨t.toArray⟩] 25) := ⟨_, rfl⟩
  have hb : Below w.heap.size w W := by rw [hW]; exact (Below.refl _ _).alloc (Nat.le_refl _) _
  have hz : W.heap.size = w.heap.size + 1 := by rw [hW]; simp
  have B0 := Lib.hid hb
  have Z0 := Lib.hid hz
  have HL := Lib.hid (hl.below (hb.mono hB))
  have HBL := Lib.hid (hbl.below (hb.mono hB))
  have HW := Lib.hid hW
  clear hpc hH hok hb hz hl hbl hW
  go_enter Try.func15, Try.ntmps15
  go_wp2_with fail
  rw [← HW.out]
  refine (rhead_any none 0 0 [] W.heap.size body.length m t _ rfl (Lies.empty _ _ _) (Nat.le_refl _) (by simp) HOK.out).mono ?_
  rintro e w1 ⟨v1, rfl, ho, hb1⟩
  rw [List.nil_append, ← HH.out] at ho
  obtain ⟨A1, c1, rfl, hc1, hm1⟩ := own_form ho
  have L1 := Lib.hid (Lies.own ho (Nat.le_refl _))
  have B1 := Lib.hid (B0.out.trans (hb1.mono (by rw [Z0.out]; omega)))
  have z1 := B1.out.size
  have LL1 := Lib.hid (HL.out.below (hb1.mono (by rw [Z0.out]; omega)))
  have LB1 := Lib.hid (HBL.out.below (hb1.mono (by rw [Z0.out]; omega)))
  clear ho hb1
  go_wp2_with fail
  obtain ⟨X0, hX0⟩ : ∃ X0, X0 = l ++ frameB 2 cc H := ⟨_, rfl⟩
  have x0 : X0.length = l.length + H.length + 8 := by rw [hX0, List.length_append, frameB_length]; omega
  have HX0 := Lib.hid hX0
  have E0 := Lib.hid x0
  clear hX0 x0
  refine (rframe_any A c l.length l w1.heap.size 2 cc A1 H c1 _ rfl (LL1.out.more (by omega)) (Nat.le_refl _) (by omega) L1.out (by omega) (by omega) hcc).mono ?_
  rintro e w2 ⟨v2, rfl, ho, hb2⟩
  rw [← HX0.out] at ho
  have B2 := Lib.hid (B1.out.trans (hb2.mono z1))
  have O2 := Lib.hid (own_at_base (b' := w.heap.size) ho z1)
  have LB2 := Lib.hid ((LB1.out.below (hb2.mono (by omega))).more hB)
  obtain ⟨A2, c2, rfl, _, _⟩ := own_form ho
  have HZZ := Lib.hid hZ
  have GOAL : Hid (∀ (v : Value) (wx : World), wx.ownsRow w.heap.size 5 1 v Z.length (B8 Z) → Below w.heap.size w wx → NewOcts w.heap.size (l ++ contB cc H body) w (.returned v) wx) := Lib.hid (fun v wx h1 h2 => ⟨v, rfl, by rw [← HZZ.out]; exact h1, h2⟩)
  clear ho hb2 hZ
  go_wp2_with fail
  go_loopw [0, 3] (fun vb vx wr => ContI w cc H l body vb vx wr) (fun _ vx _ => match vx with | .slice _ n _ => n | _ => 0)
  case atStart =>
    exact ⟨0, A2, c2, X0, AB, cB, Nat.zero_le _, by rw [contB_eq, HX0.out, List.append_assoc], by rw [E0.out]; omega, rfl, O2.out, by simp, by simpa using hbc, hcm, by simpa using LB2.out, B2.out⟩
  case round =>
    obtain ⟨j, A3, c3, X, A4, c4, hj, hX, hXl, rfl, hox, rfl, hc4, hm4, hlx, hbr⟩ := hrel
    obtain ⟨Y, hY⟩ : ∃ Y, Y = body.drop (4088 * j) := ⟨_, rfl⟩
    rw [← hY] at hc4 hlx ⊢
    have hYl : Y.length = body.length - 4088 * j := by rw [hY, List.length_drop]
    have HYL := Lib.hid hYl
    have HX := Lib.hid hX
    have OX := Lib.hid hox
    have LX := Lib.hid hlx
    have BR := Lib.hid hbr
    have HY := Lib.hid hY
    have hzr := hbr.size
    have L3 := Lib.hid (Lies.own hox (Nat.le_refl _))
    have hj5 : j ≤ 5 := Nat.le_trans hj HPC.out
    clear hX hox hlx hbr hY
    by_cases hlt : j < pcount body.length
    · obtain ⟨P, hP⟩ : ∃ P, P = part body j := ⟨_, rfl⟩
      obtain ⟨Y2, hY2⟩ : ∃ Y2, Y2 = body.drop (4088 * (j + 1)) := ⟨_, rfl⟩
      have hY2l : Y2.length = body.length - 4088 * (j + 1) := by rw [hY2, List.length_drop]
      obtain ⟨X4, hX4⟩ : ∃ X4, X4 = X ++ frameB 3 cc P := ⟨_, rfl⟩
      have HP := Lib.hid hP
      have HY2 := Lib.hid hY2
      have HY2L := Lib.hid hY2l
      have HX4 := Lib.hid hX4
      have hY0 : 0 < Y.length := by unfold pcount at hlt; omega
      have hYi : (0 : Int) < (Y.length : Int) := by omega
      clear hP hY2 hY2l hX4 hYl
      by_cases h88 : Y.length ≤ 4088
      · have hm : (Y.length : Int) ≤ 4088 := by omega
        have hpe : P.length = Y.length := by rw [HP.out, part_length]; unfold plen; have := HYL.out; omega
        have HPE := Lib.hid hpe
        have LPx : Hid (Lies wr w.heap.size A4 (B8 P)) := Lib.hid (by
          have h := LX.out.take Y.length
          rw [B8, ← List.map_take, show Y.take Y.length = P from by rw [HY.out, HP.out]; unfold part; rw [List.take_length, List.take_of_length_le (by rw [← HY.out]; exact h88)]] at h
          exact h)
        clear hpe
        go_wp2_with fail
        refine (rframe_at A3 c3 X.length Y.length X wr.heap.size 3 cc A4 P c4 _ rfl HPE.out.symm L3.out (Nat.le_refl _) (by omega) (LPx.out.more hzr) (by rw [HPE.out]; omega) (by omega) hcc).mono ?_
        rintro e w4 ⟨v4, rfl, ho4, hb4⟩
        rw [← HX4.out] at ho4
        obtain ⟨A5, c5, rfl, _, _⟩ := own_form ho4
        have DQ : Hid (∀ (A' : Option Addr) (m k : Nat), A' = (if c4 = Y.length then A4 else A4.map (·.add Y.length)) → m = Y2.length → k = c4 - Y.length → ContI w cc H l body (.slice A5 X4.length c5) (.slice A' m k) w4) := Lib.hid (by
          rintro A' m k hA rfl rfl
          have h := (LX.out.below (hb4.mono hzr)).drop Y.length c4 (by rw [B8_length]; omega) (by rw [B8_length]; exact hc4)
          rw [B8, ← List.map_drop, show Y.drop Y.length = Y2 from by rw [List.drop_length]; exact (List.eq_nil_of_length_eq_zero (by rw [HY2L.out]; have := HYL.out; omega)).symm, ← hA] at h
          refine ⟨j + 1, A5, c5, X4, A', c4 - Y.length, by omega, ?_, ?_, rfl, own_at_base ho4 hzr, by rw [HY2.out], ?_, by unfold maxLen at *; omega, by rw [← HY2.out]; exact h, BR.out.trans (hb4.mono hzr)⟩
          · rw [HX4.out, List.append_assoc, HP.out, ← restB_step cc body j hlt]
            exact HX.out
          · rw [HX4.out, List.length_append, frameB_length, HPE.out]; omega
          · rw [← HY2.out, HY2L.out]; have := HYL.out; omega)
        have HYm : Hid (Y.length - Y.length = Y2.length) := Lib.hid (by rw [HY2L.out]; have := HYL.out; omega)
        clear ho4 hb4
        have hm4' := hm4
        unfold maxLen at hm4'
        by_cases hcn : c4 = Y.length
        · have DD := Lib.hid (DQ.out A4 0 0 (by rw [if_pos hcn]) (by have := HYm.out; omega) (by omega))
          subst hcn
          go_wp2_with fail
          go_roundw
          case rel => exact DD.out
          case measure => simp; omega
        · have DD := Lib.hid (DQ.out _ 0 (c4 - Y.length) (by rw [if_neg hcn]) (by have := HYm.out; omega) rfl)
          go_wp2_with fail
          go_roundw
          case rel => exact DD.out
          case measure => simp; omega
      · have hm : (4088 : Int) < (Y.length : Int) := by omega
        have hpe : P.length = 4088 := by rw [HP.out, part_length]; unfold plen; have := HYL.out; omega
        have HPE := Lib.hid hpe
        have LPx : Hid (Lies wr w.heap.size A4 (B8 P)) := Lib.hid (by
          have h := LX.out.take 4088
          rw [B8, ← List.map_take, show Y.take 4088 = P from by rw [HY.out, HP.out]; unfold part; rw [show (4088 : Nat) = 4088 from rfl]] at h
          exact h)
        clear hpe
        go_wp2_with fail
        refine (rframe_at A3 c3 X.length 4088 X wr.heap.size 3 cc A4 P c4 _ rfl HPE.out.symm L3.out (Nat.le_refl _) (by omega) (LPx.out.more hzr) (by rw [HPE.out]; omega) (by omega) hcc).mono ?_
        rintro e w4 ⟨v4, rfl, ho4, hb4⟩
        rw [← HX4.out] at ho4
        obtain ⟨A5, c5, rfl, _, _⟩ := own_form ho4
        have DQ : Hid (∀ (A' : Option Addr) (m k : Nat), A' = (if c4 = 4088 then A4 else A4.map (·.add 4088)) → m = Y2.length → k = c4 - 4088 → ContI w cc H l body (.slice A5 X4.length c5) (.slice A' m k) w4) := Lib.hid (by
          rintro A' m k hA rfl rfl
          have h := (LX.out.below (hb4.mono hzr)).drop 4088 c4 (by rw [B8_length]; omega) (by rw [B8_length]; exact hc4)
          rw [B8, ← List.map_drop, show Y.drop 4088 = Y2 from by rw [HY.out, HY2.out, List.drop_drop]; congr 1, ← hA] at h
          refine ⟨j + 1, A5, c5, X4, A', c4 - 4088, by omega, ?_, ?_, rfl, own_at_base ho4 hzr, by rw [HY2.out], ?_, by unfold maxLen at *; omega, by rw [← HY2.out]; exact h, BR.out.trans (hb4.mono hzr)⟩
          · rw [HX4.out, List.append_assoc, HP.out, ← restB_step cc body j hlt]
            exact HX.out
          · rw [HX4.out, List.length_append, frameB_length, HPE.out]; omega
          · rw [← HY2.out, HY2L.out]; have := HYL.out; omega)
        have HYm : Hid (Y.length - 4088 = Y2.length) := Lib.hid (by rw [HY2L.out]; have := HYL.out; omega)
        clear ho4 hb4
        have hm4' := hm4
        unfold maxLen at hm4'
        by_cases hcn : c4 = 4088
        · have DD := Lib.hid (DQ.out A4 (Y.length - 4088) (c4 - 4088) (by rw [if_pos hcn]) HYm.out rfl)
          subst hcn
          go_wp2_with fail
          go_roundw
          case rel => exact DD.out
          case measure => simp; omega
        · have DD := Lib.hid (DQ.out _ (Y.length - 4088) (c4 - 4088) (by rw [if_neg hcn]) HYm.out rfl)
          go_wp2_with fail
          go_roundw
          case rel => exact DD.out
          case measure => simp; omega
    · obtain rfl : j = pcount body.length := by omega
      have hY0 : Y.length = 0 := by unfold pcount at hYl; omega
      have hXZ : X = Z := by
        have h := HX.out
        rw [restB_end, List.append_nil] at h
        rw [h, HZZ.out]
      subst hXZ
      have D := Lib.hid (GOAL.out _ _ OX.out BR.out)
      clear GOAL
      obtain rfl : Y = [] := List.eq_nil_of_length_eq_zero hY0
      go_wp2_with fail
      go_ret
      exact D.out
end Go.Proofs.Ytfajkbegmmlmjaa
