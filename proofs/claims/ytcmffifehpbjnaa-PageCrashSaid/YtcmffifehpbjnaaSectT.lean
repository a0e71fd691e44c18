/- Layer 7: shorten. -/
import Derived.Test.YtcmffifehpbjnaaSectQ
import Derived.Deep.CutBlock
namespace Go.Proofs.Ytcmffifehpbjnaa
open Go.RowKit Go.Maps
set_option maxRecDepth 100000
set_option linter.unusedSimpArgs false
set_option linter.unusedVariables false
section
variable {K : Nat → Prop} {w w' : World} {g : Nat} {b1 b2 b3 : Nat} {S : Dv} {sv : Nm → Value}
theorem Raw.lasting {mo us le : Int} {ff : Nm → Option Value} {lf rf : Nm × Nat → Option Value} (h : Raw K w g mo us le b1 b2 b3 ff lf rf) (T : Dv) (hl : ∀ x, lf x = (T.la x).map laV) (x : Nm × Nat) (hx : plOk x) :
    Calls Try.prog 60 #[ptr g, plV x] w fun e w' => e = .returned (.bool (T.la x).isSome) ∧ Below w.heap.size w w' := by
  obtain ⟨nm, k⟩ := x
  obtain ⟨c0, c1, c2, c3, c4, c5⟩ := h.cell
  have hg := h.glt
  obtain ⟨A1, hA⟩ : ∃ A1 : Obj, A1 = .cells #[.string ⟨nm.toArray⟩, .int .i64 (k : Int)] 86 := ⟨_, rfl⟩
  have e1 := ((h.alloc A1).drew.look_la hx).1
  have e2 := (((h.alloc A1).alloc (.cells Try.zeroCells88 88)).drew.look_la hx).1
  rw [hl, getD_laV, Option.isSome_map] at e1 e2
  have e3 := sc_new (w.alloc A1) 88 Try.zeroCells88 (csL ((T.la (nm, k)).getD (zSec, false))) (by rw [csL_size, z79_size]) (csL_one _)
  have e4 := csL_size ((T.la (nm, k)).getD (zSec, false))
  rw [show (w.alloc A1).heap.size = w.heap.size + 1 from by simp] at e3
  subst hA
  unfold plV at e1 e2 ⊢
  simp only [] at e1 e2 ⊢
  obtain ⟨cs, hcs⟩ : ∃ cs, cs = csL ((T.la (nm, k)).getD (zSec, false)) := ⟨_, rfl⟩
  obtain ⟨bo, hbo⟩ : ∃ bo, bo = (T.la (nm, k)).isSome := ⟨_, rfl⟩
  rw [← hcs] at e1 e2 e3 e4
  rw [← hbo] at e1 e2 ⊢
  clear h hcs hbo
  go_enter Try.func60, Try.ntmps60
  go_wp2
  go_region
  all_goals
    go_wp2
    go_ret
    exact ⟨rfl, (((Below.refl _ w).alloc (Nat.le_refl _) _).alloc (by simp) _).drew⟩
/-- a world in shorten -/
structure ShI (K : Nat → Prop) (w : World) (g : Nat) (S : Dv) (b1 b2 b3 : Nat) (sv : Nm → Value) (nm : Nm) (us : Int) (n : Int) (v : Value) (ks : List Nat) (F2 : Fil) (W : World) : Prop where
  raw : Raw K W g S.most us S.left b1 b2 b3 (fun nm => (fnd S.fs nm).map fun F => flV F.l.length (sv nm)) (fun x => ((S.put nm F2).la x).map laV) (fun x => ((S.put nm F2).fr x).map frV)
  T : Turn (fun i => i = b2) w W
  box : Whole W w.heap.size 91 #[.int .i64 n, v]
  row : W.ownsRow 0 3 1 v ks.length (I64 ks)
theorem ShI.below {nm : Nm} {us n : Int} {v : Value} {ks : List Nat} {F2 : Fil} {W W' : World} (h : ShI K w g S b1 b2 b3 sv nm us n v ks F2 W) (hb : Below W.heap.size W W') : ShI K w g S b1 b2 b3 sv nm us n v ks F2 W' :=
  ⟨h.raw.below hb, h.T.trans (Turn.of_below hb), h.box.below hb h.box.lt, row_block h.row (fun i hi => by
    obtain ⟨cur, hc⟩ := sv_row h.row hi
    exact hb.block i (Array.getElem?_eq_some_iff.1 hc).1)⟩
theorem la_in (nm : Nm) (F : Fil) (k : Nat) : (S.put nm F).la (nm, k) = F.l[k]?.bind (·.la) := by rw [la_put, if_pos rfl]
theorem put_bd (nm : Nm) (F : Fil) (n k : Nat) (hk : k < n) (hkl : k < F.l.length) (hn : (F.l[k]?.bind (·.la)).isSome = false) :
    (upd (fun x => ((S.put nm F).la x).map laV) (nm, k) (some (laV (zSec, true))) = fun x => ((S.put nm (bd n F k)).la x).map laV) ∧ ((fun x => ((S.put nm F).fr x).map frV) = fun x => ((S.put nm (bd n F k)).fr x).map frV) := by
  constructor
  · funext x
    obtain ⟨a, b⟩ := x
    by_cases e : (a, b) = (nm, k)
    · cases e
      rw [upd_self, la_in]
      unfold bd
      rw [if_pos ⟨hk, hn⟩, setF_get, if_pos rfl, List.getElem?_eq_getElem hkl]
      rfl
    · rw [upd_other _ _ _ _ e, la_put, la_put]
      by_cases h1 : a = nm
      · have h2 : b ≠ k := fun h2 => e (by rw [h1, h2])
        rw [if_pos h1, if_pos h1, bd_get _ _ _ _ (.inr h2)]
      · rw [if_neg h1, if_neg h1]
  · funext x
    obtain ⟨a, b⟩ := x
    rw [fr_put, fr_put]
    by_cases h1 : a = nm
    · rw [if_pos h1, if_pos h1]
      exact congrArg _ (bd_fr n F k b).symm
    · rw [if_neg h1, if_neg h1]
theorem places_put (hr : Rising S.fs) (nm : Nm) (F F2 : Fil) (hf : fnd S.fs nm = some F) (hl : F2.l.length = F.l.length) : (S.put nm F2).places.length = S.used := by
  rw [places_length]
  have := used_put hr nm F2
  have e : S.len nm = F.l.length := by simp [Dv.len, hf]
  omega
set_option maxHeartbeats 16000000 in
theorem shorten_any (H0 : DevAt K w g S b1 b2 b3 sv) (hO : Ok S) (nm : Nm) (h20 : nm.length ≤ 20) (F F1 : Fil) (hf : fnd S.fs nm = some F) (hl1 : F1.l.length = F.l.length) (ks : List Nat) (hks : ∀ k ∈ ks, k < F.l.length) (v : Value) {W : World}
    (R : Raw K W g S.most S.used S.left b1 b2 b3 (fun nm => (fnd S.fs nm).map fun F => flV F.l.length (sv nm)) (fun x => ((S.put nm F1).la x).map laV) (fun x => ((S.put nm F1).fr x).map frV))
    (hrow : W.ownsRow 0 3 1 v ks.length (I64 ks)) (hfr : ∀ k : Nat, (F1.l[k]?.bind (fun s : Sct => s.fr)) = none) (hkl : ks.length ≤ 100000) :
    Calls Try.prog 48 #[ptr g, nmV nm, .agg #[.int .i64 (F.l.length : Int), v]] W fun e w' => e = .returned (.tuple #[]) ∧
      Raw K w' g S.most (S.used - F.l.length + (shF F1 ks).l.length) S.left b1 b2 b3 (upd (fun nm => (fnd S.fs nm).map fun F => flV F.l.length (sv nm)) nm (some (.agg #[.int .i64 ((shF F1 ks).l.length : Int), .slice none 0 0]))) (fun x => ((S.put nm (shF F1 ks)).la x).map laV) (fun x => ((S.put nm (shF F1 ks)).fr x).map frV) ∧
      Turn (fun i => i = g ∨ i = b1 ∨ i = b2) W w' := by
  have hn : nm.length ≤ maxLen := by unfold maxLen; omega
  have hu4 : S.used ≤ 100000 := by have := hO.most; have := hO.room; omega
  have hFu := fil_le hO hf
  obtain ⟨sa, sc, rfl, hsc1, hsc2⟩ := own_form hrow
  obtain ⟨n, hnn⟩ : ∃ n, n = F.l.length := ⟨_, rfl⟩
  obtain ⟨sl, hsl⟩ : ∃ sl, sl = ks.length := ⟨_, rfl⟩
  obtain ⟨q, hq⟩ : ∃ q, q = lastN F1.l n := ⟨_, rfl⟩
  have hsh : (shF F1 ks).l.length = q := by rw [shF_length, hl1, ← hnn, hq]
  rw [hsh]
  have hqn : q ≤ n := by rw [hq]; exact lastN_le _ _
  rw [← hnn] at hl1 hks hFu ⊢
  rw [← hsl] at hkl
  have hg := R.glt
  have hb2l := R.lasts.lt
  have hb1l := R.files.lt
  have HO := Lib.hid hO
  have HF := Lib.hid hf
  have HQ := Lib.hid hq
  have HSL := Lib.hid hsl
  have HNN := Lib.hid hnn
  have HKS := Lib.hid hks
  have HL1 := Lib.hid hl1
  have HFR := Lib.hid hfr
  have hI0 : ShI K W g S b1 b2 b3 sv nm S.used (n : Int) (.slice sa sl sc) ks F1 (W.alloc (.cells #[.int .i64 (n : Int), .slice sa sl sc] 91)) := by
    refine ⟨R.alloc _, Turn.of_below ((Below.refl _ _).alloc (Nat.le_refl _) _), Whole.new _ _ _, ?_⟩
    rw [hsl]; exact hrow.alloc _
  have HI0 := Lib.hid hI0
  unfold nmV
  rw [← hsl]
  clear hI0 R hrow hfr hO hf hq hks hl1 hnn hsl hsh H0
  go_enter Try.func48, Try.ntmps48
  go_upto_block 0 with fail
  go_cut [6] (fun s6 X => s6 = .int .i64 (q : Int) ∧ ShI K W g S b1 b2 b3 sv nm S.used (n : Int) (.slice sa sl sc) ks F1 X)
  case first =>
    go_wp2_with fail
    go_loopw [6] (fun vi X => ∃ k : Nat, k ≤ n ∧ q ≤ k ∧ vi = .int .i64 (k : Int) ∧ lastN F1.l k = q ∧ ShI K W g S b1 b2 b3 sv nm S.used (n : Int) (.slice sa sl sc) ks F1 X) (fun vi _ => (intOf vi).toNat)
    case atStart => exact ⟨n, Nat.le_refl _, hqn, rfl, HQ.out.symm, HI0.out⟩
    case round =>
      obtain ⟨k, hk, hqk, rfl, hlast, hI⟩ := hrel
      have HI := Lib.hid hI
      by_cases h0 : 0 < k
      · obtain ⟨j, rfl⟩ : ∃ j, k = j + 1 := ⟨k - 1, by omega⟩
        have hx : plOk (nm, j) := ⟨h20, by show j ≤ 1000000; omega⟩
        have HX := Lib.hid hx
        have hd : decide (0 < ((j + 1 : Nat) : Int)) = true := by first | (simp; done) | (simp; omega)
        have hj1 : ((j + 1 : Nat) : Int) - 1 = (j : Int) := by omega
        have hj2 : ((j : Int) + 1) - 1 = (j : Int) := by omega
        have HJ := Lib.hid (show lastN F1.l (j + 1) = if (F1.l[j]?.bind (·.la)).isSome then j + 1 else lastN F1.l j from rfl)
        have HLA := Lib.hid (show (S.put nm F1).la (nm, j) = F1.l[j]?.bind (·.la) from la_in nm F1 j)
        have HLS := Lib.hid hlast
        obtain ⟨bo, hbo⟩ : ∃ bo, bo = (F1.l[j]?.bind (·.la)).isSome := ⟨_, rfl⟩
        have HBO := Lib.hid hbo
        have hc : Calls Try.prog 60 #[ptr g, .agg #[.string ⟨nm.toArray⟩, .int .i64 (j : Int)]] wr fun e w' => e = .returned (.bool bo) ∧ Below wr.heap.size wr w' := by
          have := HI.out.raw.lasting (S.put nm F1) (fun _ => rfl) (nm, j) HX.out
          rw [HLA.out, ← HBO.out] at this
          exact this
        have HC := Lib.hid hc
        clear hx hlast hI hbo hc
        rcases Bool.eq_false_or_eq_true bo with hb | hb
        · subst hb
          have HQE := Lib.hid (show q = j + 1 by rw [← HLS.out, HJ.out, ← HBO.out]; rfl)
          go_wp2_with (go_at_call 60; go_must (refine HC.out.mono ?_); rintro e wl ⟨rfl, hbl⟩; have BL := Lib.hid hbl; clear hbl)
          go_meet
          exact ⟨by rw [HQE.out]; first | rfl | simp, HI.out.below BL.out⟩
        · subst hb
          have HQE := Lib.hid (show lastN F1.l j = q by rw [← HLS.out, HJ.out, ← HBO.out]; rfl)
          go_wp2_with (go_at_call 60; go_must (refine HC.out.mono ?_); rintro e wl ⟨rfl, hbl⟩; have BL := Lib.hid hbl; clear hbl)
          go_roundw
          case rel => exact ⟨j, by omega, by rw [← HQE.out]; exact lastN_le _ _, by first | rfl | go_num | simp, HQE.out, HI.out.below BL.out⟩
          case measure => simp [intOf]
      · have hk0 : k = 0 := by omega
        subst hk0
        have hq0 : q = 0 := by omega
        clear hlast hI
        go_wp2_with fail
        go_meet
        exact ⟨by rw [hq0], HI.out⟩
  case rest =>
    obtain ⟨rfl, hI⟩ := hcut
    have HI := Lib.hid hI
    have bx0 : wc.cell? ⟨W.heap.size, 0, none⟩ = some (.int .i64 (n : Int)) := hI.box.cell 0
    have bx1 : wc.cell? ⟨W.heap.size, 1, none⟩ = some (.slice sa sl sc) := hI.box.cell 1
    clear hI
    go_wp2_with fail
    go_loopw [28] (fun vi X => ∃ i : Nat, i ≤ sl ∧ vi = .int .i64 (i : Int) ∧ ShI K W g S b1 b2 b3 sv nm S.used (n : Int) (.slice sa sl sc) ks (bdAll q F1 (ks.take i)) X) (fun vi _ => sl - (intOf vi).toNat)
    case atStart => exact ⟨0, Nat.zero_le _, rfl, HI.out⟩
    case round =>
      obtain ⟨i, hi, rfl, hI⟩ := hrel
      by_cases hlt : i < sl
      · obtain ⟨gb, rfl, hcell, hgb⟩ := row_cell hI.row (i := i) (by rw [← HSL.out]; exact hlt)
        obtain ⟨p, hp⟩ : ∃ p, p = ks[i]'(by rw [← HSL.out]; exact hlt) := ⟨_, rfl⟩
        rw [← hp] at hcell
        have hpn : p < n := HKS.out p (by rw [hp]; exact List.getElem_mem _)
        have htake : ks.take (i + 1) = ks.take i ++ [p] := by
          rw [List.take_succ_eq_append_getElem (by rw [← HSL.out]; exact hlt), hp]
        have hx : plOk (nm, p) := ⟨h20, by show p ≤ 1000000; omega⟩
        obtain ⟨F2, hF2⟩ : ∃ F2, F2 = bdAll q F1 (ks.take i) := ⟨_, rfl⟩
        have hstep : bdAll q F1 (ks.take (i + 1)) = bd q F2 p := by rw [htake, bdAll_snoc, hF2]
        have hl2 : F2.l.length = n := by rw [hF2, bdAll_length]; exact HL1.out
        rw [← hF2] at hI
        have HSTEP := Lib.hid hstep
        have HL2 := Lib.hid hl2
        have HX := Lib.hid hx
        obtain ⟨bo, hbo⟩ : ∃ bo, bo = (F2.l[p]?.bind (·.la)).isSome := ⟨_, rfl⟩
        have HBO := Lib.hid hbo
        obtain ⟨A1, hA1⟩ : ∃ A1 : Obj, A1 = .cells #[.string ⟨nm.toArray⟩, .int .i64 (p : Int)] 86 := ⟨_, rfl⟩
        obtain ⟨W1, hW1⟩ : ∃ W1, W1 = wr.alloc A1 := ⟨_, rfl⟩
        have hB := box_cells wr (.string ⟨nm.toArray⟩) (.int .i64 (p : Int)) 86
        rw [← hA1, ← hW1] at hB
        obtain ⟨k1, k2⟩ := hB
        have hz : wr.heap.size < W1.heap.size := by rw [hW1]; simp
        have hBel : Below wr.heap.size wr W1 := by rw [hW1]; exact (Below.refl _ _).alloc (Nat.le_refl _) _
        have I1 := Lib.hid (hI.below hBel)
        have hwsz := hI.T.size
        have hc : Calls Try.prog 60 #[ptr g, .agg #[.string ⟨nm.toArray⟩, .int .i64 (p : Int)]] W1 fun e w' => e = .returned (.bool bo) ∧ Below W1.heap.size W1 w' := by
          have := I1.out.raw.lasting (S.put nm F2) (fun _ => rfl) (nm, p) HX.out
          rw [la_in, ← HBO.out] at this
          exact this
        have HC := Lib.hid hc
        have HP := Lib.hid hp
        have h_no : ¬ (p < q ∧ bo = false) → bd q F2 p = F2 := fun h => by
          unfold bd
          rw [if_neg (fun e => h ⟨e.1, by rw [HBO.out]; exact e.2⟩)]
        have HNO := Lib.hid h_no
        clear hx hstep hl2 hbo hI hc hF2 htake hp h_no bx0 bx1
        by_cases hpq : p < q
        · have hpq2 : (p : Int) < (q : Int) := by omega
          have hpq3 : decide (p < q) = true := by simpa using hpq
          rcases Bool.eq_false_or_eq_true bo with hb | hb
          · subst hb
            have HE := Lib.hid (HNO.out (by simp))
            subst hW1
            subst hA1
            clear hBel
            go_wp2_with (go_at_call 60; go_must (refine HC.out.mono ?_); rintro e wl ⟨rfl, hbl⟩; have BL := Lib.hid hbl; clear hbl)
            go_roundw
            case rel => exact ⟨i + 1, by omega, by go_num, by rw [HSTEP.out, HE.out]; exact I1.out.below BL.out⟩
            case measure => simp [intOf]; omega
          · subst hb
            subst hW1
            subst hA1
            clear hBel
            go_upto_region 9 with (go_at_call 60; go_must (refine HC.out.mono ?_); rintro e wl ⟨rfl, hbl⟩; have BL := Lib.hid hbl; have m1 := (hbl.cell (p := ⟨wr.heap.size, 0, none⟩) hz).trans k1; have m2 := (hbl.cell (p := ⟨wr.heap.size, 1, none⟩) hz).trans k2; clear hbl k1 k2)
            have I2 := Lib.hid (I1.out.below BL.out)
            obtain ⟨x0, x1, x2, x3, x4, x5⟩ := I2.out.raw.cell
            obtain ⟨w2, r2, R2, t2⟩ := I2.out.raw.drew.put_la HX.out (.agg (csL (zSec, true))) (S.put nm F2).places (fun y hy => la_place (by simpa using hy)) (by rw [places_put HO.out.rising nm F F2 HF.out (by rw [HL2.out, HNN.out])]; unfold maxLen; omega)
            obtain ⟨u1, u2⟩ := put_bd (S := S) nm F2 q p hpq (by rw [HL2.out]; exact hpn) (by rw [← HBO.out])
            rw [laV_eq] at u1
            rw [u1, u2] at R2
            have e5 : Try.zeroCells88.setIfInBounds 64 (.bool true) = csL (zSec, true) := by kernel_rfl
            have hI3 : ShI K W g S b1 b2 b3 sv nm S.used (n : Int) (.slice (some ⟨gb, 0, none⟩) sl sc) ks (bdAll q F1 (ks.take (i + 1))) w2 := by
              rw [HSTEP.out]
              have hgbl : gb < wl.heap.size := by have := BL.out.size; omega
              have hgb2 : gb ≠ b2 := by
                obtain ⟨cur, hc⟩ := sv_row I2.out.row (i := gb) rfl
                rintro rfl
                obtain ⟨es, cl, hb⟩ := I2.out.raw.lasts.is
                rw [hb] at hc; cases hc
              refine ⟨R2, I2.out.T.trans (turn_map (K := More (fun i => i = b2) W) t2 (.inl rfl)).after', ?_, ?_⟩
              · have hh := turned_block t2 (show W.heap.size ≠ b2 by omega) (show W.heap.size < wl.drew.heap.size from I2.out.box.lt)
                exact hh.trans I2.out.box
              · refine row_block I2.out.row (fun z hz => ?_)
                cases hz
                have hh := turned_block t2 hgb2 (show gb < wl.drew.heap.size from hgbl)
                exact hh
            have HI3 := Lib.hid hI3
            unfold plV at r2
            clear hI3 R2 t2 u1 u2
            go_region
            all_goals
              go_wp2
              go_roundw
              case rel => exact ⟨i + 1, by omega, by go_num, HI3.out⟩
              case measure => simp [intOf]; omega
        · have hpq2 : ¬ (p : Int) < (q : Int) := by omega
          have hpq3 : decide (p < q) = false := by simpa using hpq
          have HE := Lib.hid (HNO.out (fun e => hpq e.1))
          subst hW1
          subst hA1
          clear hBel
          go_wp2
          go_roundw
          case rel => exact ⟨i + 1, by omega, by go_num, by rw [HSTEP.out, HE.out]; exact I1.out⟩
          case measure => simp [intOf]; omega
      · have hkn : i = sl := by omega
        subst hkn
        have htk : ks.take i = ks := List.take_of_length_le (by rw [HSL.out]; exact Nat.le_refl _)
        rw [htk] at hI
        have hqn2 : (q : Int) ≤ (n : Int) := by omega
        have hnu : (n : Int) ≤ (S.used : Int) := by omega
        have hu5 : (S.used : Int) ≤ 100000 := by omega
        have hwsz := hI.T.size
        obtain ⟨x0, x1, x2, x3, x4, x5⟩ := hI.raw.cell
        have xf := hI.raw.frozen 1
        have z0 : wr.cell? ⟨W.heap.size, 0, none⟩ = some (.int .i64 (n : Int)) := hI.box.cell 0
        have R2 := hI.raw.drew.set ((S.used : Int) - ((n : Int) - (q : Int)))
        obtain ⟨w4, r4, R4, t4⟩ := R2.put_fl hn (.agg #[.int .i64 (q : Int), .slice none 0 0]) (S.fs.map (·.1)) names_all (by have := HO.out.few; simp; unfold maxLen; omega)
        obtain ⟨y0, y1, y2, y3, y4, y5⟩ := R2.cell
        have hT : Turn (fun i => i = g ∨ i = b1 ∨ i = b2) W w4 := by
          refine (((hI.T.mono (fun z _ hz => .inr (.inr hz))).trans (turn_cell (K := More (fun i => i = g ∨ i = b1 ∨ i = b2) W) (w := wr.drew) (g := g) (i := 1) (.inl (.inl rfl)) (.int .i64 ((S.used : Int) - ((n : Int) - (q : Int))))).after').trans (turn_map (K := More (fun i => i = g ∨ i = b1 ∨ i = b2) W) t4 (.inl (.inr (.inl rfl)))))
        have HT := Lib.hid hT
        have eu : (S.used : Int) - ((n : Int) - (q : Int)) = (S.used : Int) - (n : Int) + (q : Int) := by omega
        have hfin : Raw K w4 g S.most ((S.used : Int) - (n : Int) + (q : Int)) S.left b1 b2 b3 (upd (fun nm => (fnd S.fs nm).map fun F => flV F.l.length (sv nm)) nm (some (.agg #[.int .i64 (q : Int), .slice none 0 0]))) (fun x => ((S.put nm (shF F1 ks)).la x).map laV) (fun x => ((S.put nm (shF F1 ks)).fr x).map frV) := by
          rw [← eu]
          have hla : (fun x => ((S.put nm (bdAll q F1 ks)).la x).map laV) = fun x => ((S.put nm (shF F1 ks)).la x).map laV := by
            funext x
            rw [la_put, la_put]
            by_cases e : x.1 = nm
            · rw [if_pos e, if_pos e, shF_get, HL1.out, ← HQ.out]
              by_cases h1 : x.2 < q
              · rw [if_pos h1]
              · rw [if_neg h1]
                by_cases h2 : x.2 < n
                · have h3 := lastN_none F1.l n x.2 (by rw [← HQ.out]; omega) h2
                  rw [bdAll_get q ks F1 x.2 (by omega)]
                  cases hh : (F1.l[x.2]?.bind fun s => s.la) with
                  | none => rfl
                  | some y => rw [hh] at h3; cases h3
                · rw [List.getElem?_eq_none (by rw [bdAll_length, HL1.out]; omega)]
            · rw [if_neg e, if_neg e]
          have hfr2 : (fun x => ((S.put nm (bdAll q F1 ks)).fr x).map frV) = fun x => ((S.put nm (shF F1 ks)).fr x).map frV := by
            funext x
            rw [fr_put, fr_put]
            by_cases e : x.1 = nm
            · rw [if_pos e, if_pos e, shF_get, HL1.out, ← HQ.out]
              by_cases h1 : x.2 < q
              · rw [if_pos h1]
              · rw [if_neg h1, bdAll_fr, HFR.out]; rfl
            · rw [if_neg e, if_neg e]
          rw [← hla, ← hfr2]
          exact R4
        have HFIN := Lib.hid hfin
        unfold nmV at r4
        have r4' : (Instr.mapUpdate 71 (.map (some b1)) (.string ⟨nm.toArray⟩) (.agg #[.int .i64 (q : Int), .slice none 0 0])).run Try.prog (wr.setCell ⟨g, 1, none⟩ (.int .i64 ((S.used : Int) - ((n : Int) - (q : Int))))).drew = .ok () w4 := r4
        clear hI hfin hT R2 R4 t4 htk eu bx0 bx1
        go_wp2
        go_region
        all_goals
          go_wp2
          go_end0
          exact ⟨rfl, HFIN.out, HT.out⟩
end
end Go.Proofs.Ytcmffifehpbjnaa
