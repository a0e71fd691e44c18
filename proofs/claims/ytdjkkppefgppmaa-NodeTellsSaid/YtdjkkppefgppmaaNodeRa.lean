/- The document's own answer to what a node may be. -/
import Derived.Test.YtdjkkppefgppmaaNodeW
import Derived.Test.YtdjkkppefgppmaaNodeTm
import Derived.BigQuiet
import Derived.Deep.QuietTactic
import Derived.Deep.DeepCutAuto
namespace Go.Proofs.Ytdjkkppefgppmaa
open Go.RowKit
set_option maxRecDepth 100000
set_option linter.unusedSimpArgs false
set_option linter.unusedVariables false

/-- the walk's place in NodeOk -/
def RokAt (leaf : Bool) (l : List Rw) (iv : Value) : Prop := ∃ j : Nat, j ≤ l.length ∧ iv = .int .i64 (j : Int) ∧ okR leaf [] l = okR leaf (lastK [] (l.take j)) (l.drop j)
theorem lastK_take (l : List Rw) (j : Nat) (h : j < l.length) : lastK [] (l.take (j + 1)) = l[j].key := by
  rw [List.take_succ_eq_append_getElem h, lastK_snoc]

set_option maxHeartbeats 2000000 in
theorem rok_any (leaf : Bool) (l : List Rw) (A : Option Addr) (c B : Nat) (w : World) (ht : RowsAt w B l A c) (hB : B ≤ w.heap.size) (hf : Few l) :
    Calls Try.prog 11 #[.agg #[.bool leaf, .slice A l.length c]] w fun e w' => OkAt w w' e (okN leaf l) := by
  obtain ⟨hlc, hcm, hl⟩ := ht
  have hll := hf.1
  have hb0 := (Below.refl w.heap.size w).alloc (Nat.le_refl _) (.cells #[.bool leaf, .slice A l.length c] 26)
  have BX := Lib.hid hb0
  have WX := Lib.hid (Whole.new w 26 #[.bool leaf, .slice A l.length c])
  have HL := Lib.hid hl
  have HF := Lib.hid hf
  unfold maxLen at hcm
  clear hb0 hl hf
  go_enter Try.func11, Try.ntmps11
  go_wp2_with fail
  go_loopw [3] (fun iv wr => RokAt leaf l iv ∧ Below w.heap.size w wr ∧ BoxN wr w.heap.size leaf A l.length c) (fun iv _ => l.length - (intOf iv).toNat)
  case atStart => exact ⟨⟨0, Nat.zero_le _, rfl, rfl⟩, BX.out, WX.out⟩
  case round =>
    obtain ⟨⟨j, hj, rfl, hst⟩, hbel, hbox⟩ := hrel
    have HB := Lib.hid hbel
    have HX := Lib.hid hbox
    have HS := Lib.hid hst
    have x1 : wr.cell? ⟨w.heap.size, 1, none⟩ = some (.slice A l.length c) := hbox.cell 1
    have x0 : wr.cell? ⟨w.heap.size, 0, none⟩ = some (.bool leaf) := hbox.cell 0
    have hz := hbox.lt
    clear hbel hbox hst
    by_cases hlt : j < l.length
    · obtain ⟨b, o, rfl, hb, c0, c1, c2⟩ := lies_rw (HL.out.below (HB.out.mono hB)) j hlt
      obtain ⟨r, hr⟩ : ∃ r, r = l[j] := ⟨_, rfl⟩
      have hrk := HF.out.at j hlt
      obtain ⟨p, hp⟩ : ∃ p, p = lastK [] (l.take j) := ⟨_, rfl⟩
      have hst : okR leaf [] l = ((ltL p r.key && fitR leaf r) && okR leaf r.key (l.drop (j + 1))) := by rw [HS.out, List.drop_eq_getElem_cons hlt, ← hr, ← hp]; rfl
      have hnx : lastK [] (l.take (j + 1)) = r.key := by rw [lastK_take l j hlt, hr]
      rw [← hr] at c0 c1 c2 hrk
      have HST := Lib.hid hst
      have HNX := Lib.hid hnx
      have HP := Lib.hid hp
      have HR := Lib.hid hr
      obtain ⟨hk, hv⟩ := hrk
      have s1 := size_arr r.key
      have s2 := size_arr r.val
      obtain ⟨W1, hW1⟩ : ∃ W1, W1 = wr.alloc (.cells #[.string ⟨r.key.toArray⟩, .string ⟨r.val.toArray⟩, .int .i64 r.page] 23) := ⟨_, rfl⟩
      have b1 : Below wr.heap.size wr W1 := by rw [hW1]; exact (Below.refl _ _).alloc (Nat.le_refl _) _
      have HB1 := Lib.hid (HB.out.trans (b1.mono (by omega)))
      have HX1 := Lib.hid (HX.out.below b1 hz)
      have Y1 : Whole W1 wr.heap.size 23 #[.string ⟨r.key.toArray⟩, .string ⟨r.val.toArray⟩, .int .i64 r.page] := by rw [hW1]; exact Whole.new _ _ _
      have d0 : W1.cell? ⟨wr.heap.size, 0, none⟩ = some (.string ⟨r.key.toArray⟩) := Y1.cell 0
      have d1 : W1.cell? ⟨wr.heap.size, 1, none⟩ = some (.string ⟨r.val.toArray⟩) := Y1.cell 1
      have d2 : W1.cell? ⟨wr.heap.size, 2, none⟩ = some (.int .i64 r.page) := Y1.cell 2
      have w1 : W1.cell? ⟨w.heap.size, 1, none⟩ = some (.slice (some ⟨b, o, none⟩) l.length c) := HX1.out.cell 1
      have LL : Lies W1 B (some ⟨b, o, none⟩) (cellsRws l) := HL.out.below (HB1.out.mono hB)
      have HLL := Lib.hid LL
      have HY1 := Lib.hid Y1
      clear hr hst hnx hp LL b1 Y1
      go_upto_region 5 with fail
      rw [← hW1]
      clear hW1 x0 x1 c0 c1 c2
      go_cut [42] (fun v wx => v = .bool (!(ltL p r.key && decide (r.key.length ≤ 130))) ∧ ∃ q, wx = W1.drewN q)
      case first =>
        rcases Nat.lt_or_ge r.key.length 1 with k0 | k0
        · have e : Hid (ltL p r.key = false) := Lib.hid (by
            have : r.key = [] := List.eq_nil_of_length_eq_zero (by omega)
            rw [this]
            cases e : ltL p []
            · rfl
            · simp [ltL] at e)
          have h1 : decide ((r.key.length : Int) < 1) = true := decide_eq_true (by omega)
          have h1' : decide (r.key.length < 1) = true := decide_eq_true (by omega)
          clear k0
          go_quiet (fail)
          go_wp2_with fail
          go_meet
          exact ⟨by rw [e.out]; rfl, _, rfl⟩
        · have q0 : decide ((r.key.length : Int) < 1) = false := decide_eq_false (by omega)
          have q0' : decide (r.key.length < 1) = false := decide_eq_false (by omega)
          by_cases k1 : r.key.length ≤ 130
          · have q1 : decide ((130 : Int) < (r.key.length : Int)) = false := decide_eq_false (by omega)
            have q1' : decide (130 < r.key.length) = false := decide_eq_false (by omega)
            have T130 : Hid (decide (r.key.length ≤ 130) = true) := Lib.hid (decide_eq_true k1)
            rcases Nat.eq_zero_or_pos j with hj0 | hj0
            · have e : Hid (ltL p r.key = true) := Lib.hid (by rw [HP.out, hj0, List.take_zero, lastK, ltL_nil]; exact decide_eq_true (by omega))
              have g1 : decide ((0 : Int) < (j : Int)) = false := decide_eq_false (by omega)
              have g1' : decide (0 < j) = false := decide_eq_false (by omega)
              clear k0 k1 hj0 hj
              go_quiet (fail)
              go_wp2_with fail
              go_meet
              exact ⟨by rw [e.out, T130.out]; rfl, _, rfl⟩
            · obtain ⟨n, hn⟩ : ∃ n, n = j - 1 := ⟨_, rfl⟩
              have hnl : n < l.length := by omega
              have hp2 : p = l[n].key := by
                rw [HP.out, show j = n + 1 by omega]
                exact lastK_take l n hnl
              obtain ⟨b', o', hA, hbb', e0, e1', e2'⟩ := lies_rw HLL.out n hnl
              injection hA with hA
              injection hA with hA1 hA2
              subst hA1 hA2
              rw [← hp2] at e0
              have lq := Lib.hid (less_is p r.key)
              have g1 : decide ((0 : Int) < (j : Int)) = true := decide_eq_true (by omega)
              have g1' : decide (0 < j) = true := decide_eq_true (by omega)
              have hw : IntKind.i64.wrap ((j : Int) - 1) = (n : Int) := by rw [IntWalk.i64_in _ ⟨by omega, by omega⟩]; omega
              have hw2 : IntKind.i64.wrap (n : Int) = (n : Int) := IntWalk.i64_in _ ⟨by omega, by omega⟩
              have hn0 : (0 : Int) ≤ (n : Int) := by omega
              have hn1 : (n : Int) < (l.length : Int) := by omega
              clear k0 k1 hj0 hj hp2 hn e1' e2' hbb'
              go_quiet (fail)
              go_wp2_with fail
              go_meet
              exact ⟨by rw [T130.out, Bool.and_true, ← lq.out], _, rfl⟩
          · have e : Hid (decide (r.key.length ≤ 130) = false) := Lib.hid (decide_eq_false k1)
            have q1 : decide ((130 : Int) < (r.key.length : Int)) = true := decide_eq_true (by omega)
            have q1' : decide (130 < r.key.length) = true := decide_eq_true (by omega)
            clear k0 k1
            go_quiet (fail)
            go_wp2_with fail
            go_meet
            exact ⟨by rw [e.out, Bool.and_false]; rfl, _, rfl⟩
      case rest =>
        obtain ⟨rfl, q, hq⟩ := hcut
        have BC := Lib.hid (show Below w.heap.size w wc by rw [hq]; exact below_drewN HB1.out q)
        have XC := Lib.hid (show Whole wc w.heap.size 26 #[.bool leaf, .slice (some ⟨b, o, none⟩) l.length c] by rw [hq]; exact HX1.out)
        have YC : Whole wc wr.heap.size 23 #[.string ⟨r.key.toArray⟩, .string ⟨r.val.toArray⟩, .int .i64 r.page] := by rw [hq]; exact HY1.out
        have x0 : wc.cell? ⟨w.heap.size, 0, none⟩ = some (.bool leaf) := XC.out.cell 0
        have d1 : wc.cell? ⟨wr.heap.size, 1, none⟩ = some (.string ⟨r.val.toArray⟩) := YC.cell 1
        have d2 : wc.cell? ⟨wr.heap.size, 2, none⟩ = some (.int .i64 r.page) := YC.cell 2
        obtain ⟨t5, ht5⟩ : ∃ t5, t5 = (ltL p r.key && decide (r.key.length ≤ 130)) := ⟨_, rfl⟩
        rw [← ht5]
        have HT5 := Lib.hid ht5
        clear hq YC ht5 w1
        cases t5 with
        | false =>
          have E : Hid (okN leaf l = false) := Lib.hid (by
            have h5 := HT5.out
            have h6 : (ltL p r.key && fitR leaf r) = false := by
              cases e1 : ltL p r.key
              · rfl
              · rw [e1, Bool.true_and] at h5
                rw [Bool.true_and, fitR, ← h5, Bool.false_and]
            rw [okN, HST.out, h6, Bool.false_and, Bool.and_false])
          go_wp2_with fail
          go_ret
          exact OkAt.of E.out.symm BC.out
        | true =>
          have h5 := HT5.out
          have h51 : ltL p r.key = true := by cases e : ltL p r.key <;> simp [e] at h5 ⊢
          have h52 : r.key.length ≤ 130 := by
            rw [h51, Bool.true_and] at h5
            simpa using h5.symm
          obtain ⟨k, v, pg⟩ := r
          simp only at *
          have NO : Hid (fitR leaf ⟨k, v, pg⟩ = false → okN leaf l = false) := Lib.hid (fun h => by rw [okN, HST.out, h]; simp)
          have YES : Hid (fitR leaf ⟨k, v, pg⟩ = true → RokAt leaf l (.int .i64 ((j : Int) + 1))) := Lib.hid (fun h => ⟨j + 1, by omega, by go_num, by rw [HST.out, HNX.out, h51, h]; rfl⟩)
          clear h5 h51
          cases leaf with
          | true =>
            by_cases h2 : v.length ≤ 20
            · by_cases h3 : pg = 0
              · subst h3
                have Y := Lib.hid (YES.out (by simp [fitR, h52, h2]))
                clear h52
                go_wp2_with fail
                go_roundw
                case rel => exact ⟨Y.out, BC.out, XC.out⟩
                case measure => simp [intOf]; omega
              · have Nn := Lib.hid (NO.out (by simp [fitR, h52, h2, h3]))
                have h3' : (pg != 0) = true := bne_iff_ne.2 h3
                clear h52
                go_wp2_with fail
                go_ret
                exact OkAt.of Nn.out.symm BC.out
            · have Nn := Lib.hid (NO.out (by simp [fitR, h52, h2]))
              have h2' : 20 < v.length := by omega
              clear h52
              go_wp2_with fail
              go_ret
              exact OkAt.of Nn.out.symm BC.out
          | false =>
            rcases v with _ | ⟨v0, v⟩
            · by_cases h2 : 2 ≤ pg
              · by_cases h3 : pg ≤ 4294967295
                · have Y := Lib.hid (YES.out (by simp [fitR, h52, h2, h3]))
                  clear h52
                  go_wp2_with fail
                  go_roundw
                  case rel => exact ⟨Y.out, BC.out, XC.out⟩
                  case measure => simp [intOf]; omega
                · have Nn := Lib.hid (NO.out (by simp [fitR, h52, h2, h3]))
                  have h3' : 4294967295 < pg := by omega
                  clear h52
                  go_wp2_with fail
                  go_ret
                  exact OkAt.of Nn.out.symm BC.out
              · have Nn := Lib.hid (NO.out (by simp [fitR, h52, h2]))
                have h2' : pg < 2 := by omega
                clear h52
                go_wp2_with fail
                go_ret
                exact OkAt.of Nn.out.symm BC.out
            · have Nn := Lib.hid (NO.out (by simp [fitR, h52]))
              clear h52
              go_wp2_with fail
              go_ret
              exact OkAt.of Nn.out.symm BC.out
    · obtain rfl : j = l.length := by omega
      have hok : okR leaf [] l = true := by rw [HS.out, List.drop_length]; rfl
      have HO : Hid (okN leaf l = !((!leaf && decide (l.length = 0)) || decide (512 < sizeN leaf l))) := Lib.hid (by rw [okN, hok, Bool.and_true])
      clear hok
      go_wp2_with fail
      refine (rsize_is leaf l A l.length c B _ rfl ⟨hlc, by unfold maxLen; omega, HL.out.below (HB.out.mono hB)⟩ (Nat.le_trans hB HB.out.size) HF.out).mono ?_
      rintro e w9 ⟨rfl, b9⟩
      have B9 := Lib.hid (HB.out.trans (b9.mono HB.out.size))
      have X9 := HX.out.below b9 hz
      have y0 : w9.cell? ⟨w.heap.size, 0, none⟩ = some (.bool leaf) := X9.cell 0
      have y1 : w9.cell? ⟨w.heap.size, 1, none⟩ = some (.slice A l.length c) := X9.cell 1
      obtain ⟨Z, hZ⟩ : ∃ Z, Z = sizeN leaf l := ⟨_, rfl⟩
      rw [← hZ]
      rw [← hZ] at HO
      clear b9 X9 hZ x0 x1
      by_cases h512 : Z ≤ 512
      · have e5 : decide (512 < Z) = false := decide_eq_false (by omega)
        cases leaf with
        | true =>
          have E : Hid (okN true l = true) := Lib.hid (by rw [HO.out, e5]; rfl)
          clear e5
          go_wp2_with fail
          go_ret
          exact OkAt.of E.out.symm B9.out
        | false =>
          rcases Nat.eq_zero_or_pos l.length with h0 | h0
          · have E : Hid (okN false l = false) := Lib.hid (by rw [HO.out, e5, h0]; rfl)
            have h0' : ¬ (0 < l.length) := by omega
            clear e5
            go_wp2_with fail
            go_ret
            exact OkAt.of E.out.symm B9.out
          · have E : Hid (okN false l = true) := Lib.hid (by rw [HO.out, e5, decide_eq_false (by omega)]; rfl)
            clear e5
            go_wp2_with fail
            go_ret
            exact OkAt.of E.out.symm B9.out
      · have E : Hid (okN leaf l = false) := Lib.hid (by rw [HO.out, decide_eq_true (show 512 < Z by omega), Bool.or_true]; rfl)
        go_wp2_with fail
        go_ret
        exact OkAt.of E.out.symm B9.out
end Go.Proofs.Ytdjkkppefgppmaa
