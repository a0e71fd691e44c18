/- Contracts of the document's own answer for layer 6: whether a pattern matches. -/
import Derived.Test.YtphjpadjlmdfcaaDoorTopcR
import Derived.Deep.OwnRows
namespace Go.Proofs.YtphjpadjlmdfcaaDoor
open Go.RowKit
set_option maxRecDepth 100000
set_option linter.unusedSimpArgs false
set_option linter.unusedVariables false

/-- yes and no as cells -/
def B1 (l : List Bool) : List Value := l.map Value.bool
theorem B1_set (l : List Bool) (j : Nat) (v : Bool) : (B1 l).toArray.setIfInBounds j (.bool v) = (B1 (l.set j v)).toArray := by
  simp [B1, List.map_set]
theorem made_list (n : Nat) (z : Value) : madeCells #[z] n = (List.replicate n z).toArray := by
  apply Array.ext
  · simp [madeCells]
  · intro i h1 h2
    simp [madeCells, Nat.mod_one]
theorem made_row (f : Nat → Bool) (n : Nat) : madeCells #[.bool false] n = (B1 (rowUp f 0 n)).toArray := by
  rw [made_list, rowUp_none]
  simp [B1]
theorem bool_info : (Tryd.prog.info? 4).map (fun i => (i.zero, i.size, i.bytes)) = some (some (.bool false), 1, 1) := by kernel_rfl
theorem make_bools (n : Nat) (hn : n ≤ 1000001) (w : World) : (Instr.makeSlice 32 (.int .i64 ((n : Int) + 1)) (.int .i64 ((n : Int) + 1))).run Tryd.prog w = .ok (.slice (some ⟨w.heap.size, 0, none⟩) (n + 1) (n + 1)) (w.alloc (.cells (madeCells #[.bool false] (n + 1)) 4)) :=
  run_make_row' (P := Tryd.prog) 32 4 (.bool false) 1 Tryd.underlying32 bool_info rfl .i64 .i64 (n + 1) (by omega) (by omega) w
theorem Whole.bool_at {w : World} {g n m c : Nat} {f : Nat → Bool} (h : Whole w g 4 (B1 (rowUp f c n)).toArray) (hc : n ≤ c) (hm : m < n) : w.cell? ⟨g, m, none⟩ = some (.bool (f m)) := by
  rw [h.cell, List.getElem?_toArray, B1, List.getElem?_map, rowUp_full f c n m hc hm]; rfl
theorem Whole.some_at {w : World} {g n m c : Nat} {f : Nat → Bool} (h : Whole w g 4 (B1 (rowUp f c n)).toArray) (hm : m < n) : ∃ b, w.cell? ⟨g, m, none⟩ = some (.bool b) := by
  refine ⟨decide (m < c) && f m, ?_⟩
  rw [h.cell, List.getElem?_toArray, B1, List.getElem?_map, rowUp_get f c n m hm]; rfl
theorem rwords_at (s : List UInt8) (P : List (List UInt8)) (w : World) (hs : s.length ≤ 1000000) (hP : P = wsL s) :
    Calls Tryd.prog 14 #[.string ⟨s.toArray⟩] w fun e w' => ∃ b o c, e = .returned (.slice (some ⟨b, o, none⟩) P.length c) ∧ P.length ≤ c ∧ c ≤ maxLen ∧ b < w'.heap.size ∧ Lies w' w'.heap.size (some ⟨b, o, none⟩) (S8 P) ∧ Below w.heap.size w w' := by
  subst hP
  refine (rwords_any s w hs).mono ?_
  rintro e w' ⟨A, c, rfl, hc, hm, hl, hb⟩
  obtain ⟨b, o, rfl, hbb⟩ := hl.texts_some (by have := wsL_ne s; cases h : wsL s with | nil => exact absurd h this | cons _ _ => simp)
  exact ⟨b, o, c, rfl, hc, hm, hbb, hl, hb⟩

/-- what stands ahead of a round of the inner loop -/
structure RI (P K : List (List UInt8)) (i j g gn N : Nat) (y : List UInt8) (w5 wx : World) : Prop where
  hj : j ≤ N
  at_ : Whole wx g 4 (B1 (rowUp (rv P K i) N N)).toArray
  next : Whole wx gn 4 (B1 (rowUp (rv P K (i + 1)) (if y = [35] then j else j + 1) N)).toArray
  bel : Below gn w5 wx

theorem RI.keep {P K : List (List UInt8)} {i j g gn : Nat} {y : List UInt8} {w5 wx : World} (h : RI P K i j g gn (K.length + 1) y w5 wx) (hg : g < gn) (hy : y ≠ [35]) (hj : j ≤ K.length) (hf : j < K.length → rv P K (i + 1) (j + 1) = false) (n : Nat) : RI P K i (j + 1) g gn (K.length + 1) y w5 (wx.drewN n) := by
  refine ⟨by omega, ?_, ?_, below_drewN h.bel n⟩
  · exact h.at_.below (below_drewN (Below.refl gn wx) n) hg
  · have hn := h.next
    rw [if_neg hy] at hn ⊢
    rw [← rowUp_skip (fun hc => hf (by omega))]
    exact hn.below (below_drewN (Below.refl (gn + 1) wx) n) (Nat.lt_succ_self gn)
theorem RI.put {P K : List (List UInt8)} {i j g gn : Nat} {y : List UInt8} {w5 wx : World} (h : RI P K i j g gn (K.length + 1) y w5 wx) (hg : g < gn) (hy : y ≠ [35]) (hj : j < K.length) (hf : rv P K (i + 1) (j + 1) = true) (n : Nat) : RI P K i (j + 1) g gn (K.length + 1) y w5 ((wx.drewN n).setCell ⟨gn, j + 1, none⟩ (.bool true)) := by
  have hb : Below gn wx ((wx.drewN n).setCell ⟨gn, j + 1, none⟩ (.bool true)) := (below_drewN (Below.refl gn wx) n).setCell (Nat.le_refl _) _
  refine ⟨by omega, h.at_.below hb hg, ?_, h.bel.trans hb⟩
  have hn := h.next
  rw [if_neg hy] at hn ⊢
  have hp := (show Whole (wx.drewN n) gn 4 _ from hn.below (below_drewN (Below.refl (gn + 1) wx) n) (Nat.lt_succ_self gn)).put (j + 1) (.bool true)
  rw [B1_set, rowUp_set hf] at hp
  exact hp
theorem RI.hash {P K : List (List UInt8)} {i j g gn : Nat} {y : List UInt8} {w5 wx : World} {a : Bool} (h : RI P K i j g gn (K.length + 1) y w5 wx) (hg : g < gn) (hy : y = [35]) (hj : j ≤ K.length) (hf : rv P K (i + 1) j = a) : RI P K i (j + 1) g gn (K.length + 1) y w5 (wx.setCell ⟨gn, j, none⟩ (.bool a)) := by
  have hb : Below gn wx (wx.setCell ⟨gn, j, none⟩ (.bool a)) := (Below.refl gn wx).setCell (Nat.le_refl _) _
  refine ⟨by omega, h.at_.below hb hg, ?_, h.bel.trans hb⟩
  have hn := h.next
  rw [if_pos hy] at hn ⊢
  have hp := hn.put j (.bool a)
  rw [B1_set, rowUp_set hf] at hp
  exact hp
theorem RI.whole {P K : List (List UInt8)} {i g gn : Nat} {y : List UInt8} {w5 wx : World} (h : RI P K i (K.length + 1) g gn (K.length + 1) y w5 wx) : Whole wx gn 4 (B1 (rowUp (rv P K (i + 1)) (K.length + 1) (K.length + 1))).toArray := by
  have hn := h.next
  by_cases hy : y = [35]
  · rw [if_pos hy] at hn; exact hn
  · rw [if_neg hy, rowUp_cut _ (Nat.le_succ _)] at hn; exact hn

set_option maxHeartbeats 4000000 in
theorem rmatch_any (P0 K0 : List UInt8) (w : World) (hp : P0.length ≤ 1000000) (hk : K0.length ≤ 1000000) :
    Calls Tryd.prog 11 #[.string ⟨P0.toArray⟩, .string ⟨K0.toArray⟩] w fun e w' => e = .returned (.bool (mtT P0 K0)) ∧ Below w.heap.size w w' := by
  obtain ⟨P, hP⟩ : ∃ P, P = wsL P0 := ⟨_, rfl⟩
  obtain ⟨K, hK⟩ : ∃ K, K = wsL K0 := ⟨_, rfl⟩
  obtain ⟨Z, hZ⟩ : ∃ Z, Z = mtT P0 K0 := ⟨_, rfl⟩
  have hpl := wsL_len_le P0
  have hkl := wsL_len_le K0
  rw [← hZ]
  unfold mtT at hZ
  rw [← hP] at hpl hZ
  rw [← hK] at hkl hZ
  have HP := Lib.hid hP
  have HK := Lib.hid hK
  have HZ := Lib.hid hZ
  have hP1 : P.length ≤ 1000001 := by omega
  have hK1 : K.length ≤ 1000001 := by omega
  have mk := make_bools K.length hK1
  clear hP hK hZ hpl hkl
  go_enter Tryd.func11, Tryd.ntmps11
  go_wp2_with fail
  refine (rwords_at P0 P _ hp HP.out).mono ?_
  rintro e w1 ⟨bp, op, cp, rfl, hcp, hmp, hbp, hl1, hb1⟩
  have L1 := Lib.hid hl1
  have B1' := Lib.hid hb1
  have z1 := hb1.size
  clear hl1 hb1
  go_wp2_with fail
  refine (rwords_at K0 K _ hk HK.out).mono ?_
  rintro e w2 ⟨bk, ok, ck, rfl, hck, hmk, hbk, hl2, hb2⟩
  have L2 := Lib.hid ((L1.out.below hb2).more hb2.size)
  have K2 := Lib.hid hl2
  have B2 := Lib.hid (B1'.out.trans (hb2.mono z1))
  have z2 := B2.out.size
  have zbp : bp < w2.heap.size := Nat.lt_of_lt_of_le hbp hb2.size
  obtain ⟨g0, hg0⟩ : ∃ g0, g0 = w2.heap.size := ⟨_, rfl⟩
  obtain ⟨w3, hw3⟩ : ∃ w3, w3 = w2.alloc (.cells (madeCells #[.bool false] (K.length + 1)) 4) := ⟨_, rfl⟩
  have hk3 : Whole w3 g0 4 (B1 (rowUp (rv P K 0) 0 (K.length + 1))).toArray := by rw [hw3, hg0, made_row (rv P K 0)]; exact Whole.new _ _ _
  have hb3 : Below g0 w2 w3 := by rw [hw3, hg0]; exact (Below.refl _ _).alloc (Nat.le_refl _) _
  have K3 := Lib.hid hk3
  have B3 := Lib.hid hb3
  have HW3 := Lib.hid hw3
  have HG0 := Lib.hid hg0
  have f3 := hk3.frozen 0
  obtain ⟨b3, c3⟩ := hk3.some_at (m := 0) (by omega)
  clear hl2 hb2 L1 B1' z1 hbp hk3 hb3 hw3 hg0
  go_upto_region 3 with fail
  rw [← HW3.out, ← HG0.out]
  have D0 : Hid (Whole (w3.setCell ⟨g0, 0, none⟩ (.bool true)) g0 4 (B1 (rowUp (rv P K 0) (K.length + 1) (K.length + 1))).toArray) := Lib.hid (by
    have h := K3.out.put 0 (.bool true)
    rw [B1_set, rowUp_set (f := rv P K 0) (c := 0) (v := true) (by rw [rv_zero _ _ _ (Nat.zero_le _)]; rfl)] at h
    have e : rowUp (rv P K 0) (0 + 1) (K.length + 1) = rowUp (rv P K 0) (K.length + 1) (K.length + 1) := by
      apply List.ext_getElem?
      intro m
      rcases Nat.lt_or_ge m (K.length + 1) with hm | hm
      · rw [rowUp_get _ _ _ _ hm, rowUp_full _ _ _ _ (Nat.le_refl _) hm, rv_zero _ _ _ (by omega)]
        cases m <;> simp
      · rw [List.getElem?_eq_none (by rw [rowUp_length]; exact hm), List.getElem?_eq_none (by rw [rowUp_length]; exact hm)]
    rw [e] at h
    exact h)
  have BD0 : Hid (Below w2.heap.size w2 (w3.setCell ⟨g0, 0, none⟩ (.bool true))) := Lib.hid (by rw [← HG0.out]; exact B3.out.setCell (Nat.le_refl _) _)
  go_wp2_with fail
  clear f3 c3
  go_loopw [7, 8] (fun v vi wr => ∃ (i g : Nat), vi = .int .i64 i ∧ i ≤ P.length ∧ v = .slice (some ⟨g, 0, none⟩) (K.length + 1) (K.length + 1) ∧ w2.heap.size ≤ g ∧ Whole wr g 4 (B1 (rowUp (rv P K i) (K.length + 1) (K.length + 1))).toArray ∧ Below w2.heap.size w2 wr) (fun _ vi _ => P.length - (intOf vi).toNat)
  case atStart => exact ⟨0, g0, rfl, Nat.zero_le _, rfl, by rw [HG0.out]; exact Nat.le_refl _, D0.out, BD0.out⟩
  case round =>
    obtain ⟨i, g, rfl, hi, rfl, hg2, hwg, hbr⟩ := hrel
    have WG := Lib.hid hwg
    have BR := Lib.hid hbr
    have zr := hbr.size
    have hgr := hwg.lt
    clear hwg hbr
    by_cases hip : i < P.length
    · have qi : (i : Int) < (P.length : Int) := by omega
      have qi0 : (0 : Int) ≤ (i : Int) := by omega
      obtain ⟨y, hy⟩ : ∃ y, y = P[i] := ⟨_, rfl⟩
      obtain ⟨gn, hgn⟩ : ∃ gn, gn = wr.heap.size := ⟨_, rfl⟩
      obtain ⟨w5, hw5⟩ : ∃ w5, w5 = wr.alloc (.cells (madeCells #[.bool false] (K.length + 1)) 4) := ⟨_, rfl⟩
      have hk5 : Whole w5 gn 4 (B1 (rowUp (rv P K (i + 1)) 0 (K.length + 1))).toArray := by rw [hw5, hgn, made_row (rv P K (i + 1))]; exact Whole.new _ _ _
      have hb5 : Below wr.heap.size wr w5 := by rw [hw5]; exact (Below.refl _ _).alloc (Nat.le_refl _) _
      have h50 : Whole w5 gn 4 (B1 (rowUp (rv P K (i + 1)) (if y = [35] then 0 else 0 + 1) (K.length + 1))).toArray := by
        by_cases h : y = [35]
        · rw [if_pos h]; exact hk5
        · rw [if_neg h, ← rowUp_skip (fun _ => rv_word_zero hip (by rw [← hy]; exact h))]; exact hk5
      have S0 : Hid (RI P K i 0 g gn (K.length + 1) y w5 w5) := Lib.hid ⟨Nat.zero_le _, WG.out.below hb5 hgr, h50, Below.refl _ _⟩
      have B5 := Lib.hid (BR.out.trans (hb5.mono zr))
      have HW5 := Lib.hid hw5
      have HGN := Lib.hid hgn
      have HY := Lib.hid hy
      have hgg : g < gn := by omega
      have hg2n : w2.heap.size ≤ gn := by omega
      clear hk5 hb5 h50 hw5 hgn hy
      go_upto_region 8 with fail
      rw [← HW5.out, ← HGN.out]
      go_wp2_with fail
      go_loopw [10, 11] (fun va vj wx => ∃ j : Nat, vj = .int .i64 j ∧ va = .bool (anyUp (rv P K i) j) ∧ RI P K i j g gn (K.length + 1) y w5 wx) (fun _ vj _ => K.length + 1 - (intOf vj).toNat)
      case atStart => exact ⟨0, rfl, rfl, S0.out⟩
      case round =>
        obtain ⟨j, rfl, rfl, hri⟩ := hrel
        have hj := hri.hj
        have RR := Lib.hid hri
        have zx := hri.bel.size
        have BX := Lib.hid (B5.out.trans (hri.bel.mono hg2n))
        have hgnx := hri.next.lt
        clear hri
        by_cases hlt : j ≤ K.length
        · have q1 : (j : Int) ≤ (K.length : Int) := by omega
          have q0 : (0 : Int) ≤ (j : Int) := by omega
          have q2 : (j : Int) < (K.length : Int) + 1 := by omega
          have hcj := RR.out.at_.bool_at (m := j) (Nat.le_refl _) (by omega)
          obtain ⟨rj, hrj⟩ : ∃ rj, rj = rv P K i j := ⟨_, rfl⟩
          obtain ⟨a, ha⟩ : ∃ a, a = anyUp (rv P K i) j := ⟨_, rfl⟩
          obtain ⟨a2, ha2⟩ : ∃ a2, a2 = anyUp (rv P K i) (j + 1) := ⟨_, rfl⟩
          have haa : a2 = (a || rj) := by rw [ha2, ha, hrj]; rfl
          have hcy := (L2.out.below BX.out).texts_at hip
          rw [← hrj] at hcj
          rw [← HY.out] at hcy
          rw [← ha]
          have HRJ := Lib.hid hrj
          have HA2 := Lib.hid ha2
          have HAA := Lib.hid haa
          clear hrj ha ha2 haa
          go_upto_region 12 with fail
          go_cut [10] (fun s10 wz => s10 = .bool a2 ∧ wz = wr)
          case first =>
            cases a with
            | true =>
              obtain rfl : a2 = true := HAA.out
              go_wp2_with fail
              go_meet
              exact ⟨rfl, rfl⟩
            | false =>
              obtain rfl : a2 = rj := HAA.out
              go_wp2_with fail
              go_meet
              exact ⟨rfl, rfl⟩
          case rest =>
            obtain ⟨rfl, hwc⟩ := hcut
            subst wc
            by_cases h35 : y = [35]
            · have e35 : (y == [35]) = true := by simp [h35]
              have D := Lib.hid (RR.out.hash hgg h35 hlt (a := a2) (by rw [HA2.out]; exact rv_hash hip (by rw [← HY.out]; exact h35) hlt))
              have hfz := RR.out.next.frozen j
              obtain ⟨ob, hcn⟩ := RR.out.next.some_at (m := j) (by omega)
              clear h35
              go_wp2_with fail
              go_roundw
              case rel => exact ⟨j + 1, by go_num, by rw [HA2.out], D.out⟩
              case measure => first | (simp [intOf]; done) | (simp [intOf]; omega)
            · have e35 : (y == [35]) = false := by simp [h35]
              have N35 := Lib.hid h35
              have P35 : Hid (P[i] ≠ [35]) := Lib.hid (by rw [← HY.out]; exact h35)
              clear h35
              by_cases hjk : j < K.length
              · have q3 : (j : Int) < (K.length : Int) := by omega
                obtain ⟨x, hx⟩ : ∃ x, x = K[j] := ⟨_, rfl⟩
                have hcx := (K2.out.below BX.out).texts_at hjk
                rw [← hx] at hcx
                have HF : Hid (rv P K (i + 1) (j + 1) = (rj && fitW y x)) := Lib.hid (by rw [rv_word hip P35.out hjk, HRJ.out, HY.out, hx])
                have hfz := RR.out.next.frozen (j + 1)
                obtain ⟨ob, hcn⟩ := RR.out.next.some_at (m := j + 1) (by omega)
                clear hx
                cases rj with
                | false =>
                  have D := Lib.hid (RR.out.keep hgg N35.out hlt (fun _ => by rw [HF.out]; rfl))
                  go_wp2_with fail
                  go_quiet (fail)
                  go_wp2_with fail
                  go_roundw
                  case rel => exact ⟨j + 1, by go_num, by rw [HA2.out], D.out _⟩
                  case measure => first | (simp [intOf]; done) | (simp [intOf]; omega)
                | true =>
                  by_cases h42 : y = [42]
                  · have e42 : (y == [42]) = true := by simp [h42]
                    have D := Lib.hid (RR.out.put hgg N35.out hjk (by rw [HF.out, h42]; simp [fitW]))
                    clear h42
                    go_wp2_with fail
                    go_quiet (fail)
                    go_wp2_with fail
                    go_roundw
                    case rel => exact ⟨j + 1, by go_num, by rw [HA2.out], D.out _⟩
                    case measure => first | (simp [intOf]; done) | (simp [intOf]; omega)
                  · have e42 : (y == [42]) = false := by simp [h42]
                    by_cases hyx : y = x
                    · have eyx : (y == x) = true := by simp [hyx]
                      have D := Lib.hid (RR.out.put hgg N35.out hjk (by rw [HF.out, hyx]; simp [fitW]))
                      clear h42 hyx
                      go_wp2_with fail
                      go_quiet (fail)
                      go_wp2_with fail
                      go_roundw
                      case rel => exact ⟨j + 1, by go_num, by rw [HA2.out], D.out _⟩
                      case measure => first | (simp [intOf]; done) | (simp [intOf]; omega)
                    · have eyx : (y == x) = false := by simp [hyx]
                      have D := Lib.hid (RR.out.keep hgg N35.out hlt (fun _ => by rw [HF.out]; simp [fitW, h42, hyx]))
                      clear h42 hyx
                      go_wp2_with fail
                      go_quiet (fail)
                      go_wp2_with fail
                      go_roundw
                      case rel => exact ⟨j + 1, by go_num, by rw [HA2.out], D.out _⟩
                      case measure => first | (simp [intOf]; done) | (simp [intOf]; omega)
              · have q3 : decide ((j : Int) < (K.length : Int)) = false := decide_eq_false (by omega)
                have D := Lib.hid (RR.out.keep hgg N35.out hlt (fun h => absurd h hjk))
                go_wp2_with fail
                go_quiet (fail)
                go_wp2_with fail
                go_roundw
                case rel => exact ⟨j + 1, by go_num, by rw [HA2.out], D.out _⟩
                case measure => first | (simp [intOf]; done) | (simp [intOf]; omega)
        · obtain rfl : j = K.length + 1 := by omega
          have D := Lib.hid RR.out.whole
          have q1 : ¬ (K.length : Int) + 1 ≤ (K.length : Int) := by omega
          go_wp2_with fail
          go_roundw
          case rel => exact ⟨i + 1, gn, by go_num, by omega, rfl, hg2n, D.out, BX.out⟩
          case measure => first | (simp [intOf]; done) | (simp [intOf]; omega)
    · obtain rfl : i = P.length := by omega
      have hc := WG.out.bool_at (m := K.length) (Nat.le_refl _) (by omega)
      rw [rv_all, ← HZ.out] at hc
      have BE := Lib.hid (B2.out.trans (BR.out.mono z2))
      have q1 : (K.length : Int) < (K.length : Int) + 1 := by omega
      go_wp2_with fail
      go_ret
      exact ⟨rfl, BE.out⟩
end Go.Proofs.YtphjpadjlmdfcaaDoor
