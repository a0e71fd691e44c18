/- The law UnitTells, walked. -/
import Derived.Test.YtflbjmpbkcjdhaaUnV
import Derived.Deep.DeepCutAuto
import Derived.Deep.DeepMust
namespace Go.Proofs.Ytflbjmpbkcjdhaa
open Go.RowKit
set_option maxRecDepth 100000
set_option linter.unusedSimpArgs false
set_option linter.unusedVariables false

/-- the octets of ops, or none -/
def zO (l : List Opx) : List UInt8 := if unitOk l then opsB l else []
theorem zO_len (l : List Opx) : (zO l).length ≤ 190000 := by
  unfold zO
  split
  · rename_i h
    unfold unitOk at h
    rw [Bool.and_eq_true] at h
    exact of_decide_eq_true h.2
  · exact Nat.zero_le _
theorem app_two {l : List Opx} {w w' : World} {e : Ending} {u : Bool} {O : List UInt8} (hu : u = unitOk l) (hO : O = zO l) (h : AppU l w e w') : ∃ A c, e = .returned (.tuple #[.slice A O.length c, .bool u]) ∧ O.length ≤ c ∧ c ≤ maxLen ∧ Lies w' w'.heap.size A (B8 O) ∧ Below w.heap.size w w' := by
  subst hu hO
  obtain ⟨hb, h⟩ := h
  unfold zO
  cases e1 : unitOk l with
  | true =>
    rw [e1, if_pos rfl] at h
    obtain ⟨v, rfl, ho⟩ := h
    obtain ⟨A, c, rfl, hc, hm⟩ := own_form ho
    exact ⟨A, c, by simp, by simpa using hc, hm, by simpa using own_lies ho (Nat.le_refl _), hb⟩
  | false =>
    rw [e1] at h
    simp only [Bool.false_eq_true, if_false] at h
    subst h
    exact ⟨none, 0, rfl, Nat.le_refl _, Nat.zero_le _, .inl rfl, hb⟩
theorem parse_two {r : Option (List Tl)} {w w' : World} {e : Ending} {s : Bool} {ts : List Tl} (hs : s = r.isSome) (hts : ts = r.getD []) (h : ParseU r w e w') : ∃ acc A c, e = .returned (.tuple #[.slice A ts.length c, .bool s]) ∧ acc.length = ts.length ∧ pl acc = ts.map (·.o) ∧ OpsAt w' w'.heap.size acc A c ∧ Below w.heap.size w w' := by
  subst hs hts
  obtain ⟨hb, h⟩ := h
  cases r with
  | none =>
    subst h
    exact ⟨[], none, 0, rfl, rfl, rfl, ⟨Nat.le_refl _, Nat.zero_le _, .inl rfl, by simp⟩, hb⟩
  | some ts =>
    obtain ⟨acc, A, c, e1, rfl, h3⟩ := h
    have e2 : acc.length = ts.length := by rw [← pl_length, e1, List.length_map]
    exact ⟨acc, A, c, by rw [e2]; rfl, e2, e1, h3, hb⟩
theorem places_two {r : Option (List Tl)} {w w' : World} {e : Ending} {s : Bool} {ts : List Tl} (hs : s = r.isSome) (hts : ts = r.getD []) (h : PlacesU r w e w') : ∃ A c, e = .returned (.tuple #[.slice A ts.length c, .bool s]) ∧ ts.length ≤ c ∧ c ≤ maxLen ∧ Lies w' w'.heap.size A (cellsPls ts) ∧ Below w.heap.size w w' := by
  subst hs hts
  obtain ⟨hb, h⟩ := h
  cases r with
  | none =>
    subst h
    exact ⟨none, 0, rfl, Nat.le_refl _, Nat.zero_le _, .inl rfl, hb⟩
  | some ts =>
    obtain ⟨A, c, rfl, h1, h2, h3⟩ := h
    exact ⟨A, c, rfl, h1, h2, h3, hb⟩
theorem told_few {b : List UInt8} {ts : List Tl} (h : ts = (unitP b).getD []) : ts.length ≤ 190000 := by
  subst h
  cases e : unitP b with
  | none => exact Nat.zero_le _
  | some ts =>
    obtain ⟨h1, h2, _⟩ := unitP_at e
    exact Nat.le_trans h2 h1
/-- octets in memory -/
def GSu (w : World) (v : Value) : Prop := ∃ (A : Option Addr) (Y : List UInt8) (c : Nat), v = .slice A Y.length c ∧ Y.length ≤ c ∧ c ≤ maxLen ∧ Lies w w.heap.size A (B8 Y)
theorem GSu.below {w w' : World} {v : Value} (h : GSu w v) (hb : Below w.heap.size w w') : GSu w' v := by
  obtain ⟨A, Y, c, e, h1, h2, h4⟩ := h
  exact ⟨A, Y, c, e, h1, h2, (h4.below hb).more hb.size⟩
/-- which of the four is asked -/
theorem gsu_sel (W : World) {v0 v1 v2 v3 : Value} {k : Nat} (h0 : GSu W v0) (h1 : GSu W v1) (h2 : GSu W v2) (h3 : GSu W v3) (hk : k < 4) :
    ∃ YV, (W.alloc (.cells #[v0, v1, v2, v3] 22)).cell? ⟨W.heap.size, k, none⟩ = some YV ∧ GSu (W.alloc (.cells #[v0, v1, v2, v3] 22)) YV := by
  have hW := (Below.refl W.heap.size W).alloc (Nat.le_refl _) (.cells #[v0, v1, v2, v3] 22)
  have hw := Whole.new W 22 #[v0, v1, v2, v3]
  rcases (show k = 0 ∨ k = 1 ∨ k = 2 ∨ k = 3 by omega) with rfl | rfl | rfl | rfl
  · exact ⟨v0, hw.cell 0, h0.below hW⟩
  · exact ⟨v1, hw.cell 1, h1.below hW⟩
  · exact ⟨v2, hw.cell 2, h2.below hW⟩
  · exact ⟨v3, hw.cell 3, h3.below hW⟩
def YAt (W : World) (v : Value) (wx : World) : Prop := GSu wx v ∧ Below W.heap.size W wx
def UTurned (B : Nat) (w0 : World) (T : List UInt8) (A : Option Addr) (w : World) : Prop := ∃ X, X.length = T.length ∧ Below B w0 w ∧ Lies w w.heap.size A (B8 X)
/-- where the walk stands -/
structure UtAt (w wr : World) (L : List Om) (A : Option Addr) (c : Nat) : Prop where
  ops : OpsAt wr wr.heap.size L A c
  few : Few L
  bel : Below w.heap.size w wr
set_option maxHeartbeats 2000000 in
theorem utells_law (l : List Om) (A : Option Addr) (c B : Nat) (raw : List UInt8) (A1 : Option Addr) (c1 : Nat) (at_ : Int) (y : UInt8) (cut : Int) (w : World)
    (ht : OpsAt w B l A c) (hB : B ≤ w.heap.size) (hbe : BearO l) (hr : Lies w w.heap.size A1 (B8 raw)) (hrc : raw.length ≤ c1) (hrm : c1 ≤ maxLen) :
    Calls Try.prog 4 #[.slice A l.length c, .slice A1 raw.length c1, .int .i64 at_, .int .u8 (y.toNat : Int), .int .i64 cut] w fun e w' => e = .returned (.bool true) ∧ Below w.heap.size w w' := by
  obtain ⟨i0, hi, hz0, hz1, hz2⟩ := info_parts u8_info
  have HI := Lib.hid hi
  have H0 := Lib.hid hz0
  have H1 := Lib.hid hz1
  have H2 := Lib.hid hz2
  have HT := Lib.hid ht
  have HBE := Lib.hid hbe.2
  have HRAW := Lib.hid hr
  have HRM := Lib.hid hrm
  have hlc := ht.1
  have hcm := ht.2.1
  unfold maxLen at hcm hrm
  obtain ⟨s, hs⟩ : ∃ s, s = smallO (pl l) := ⟨_, rfl⟩
  have HS := Lib.hid hs
  clear ht hbe hs hr hi hz0 hz1 hz2
  go_enter Try.func4, Try.ntmps4
  go_wp2_with fail
  refine (usmall_any l A _ c B _ rfl HT.out hB HBE.out).mono ?_
  rintro e w1 ⟨rfl, hb1⟩
  rw [← HS.out]
  have B1 := Lib.hid hb1
  clear hb1
  by_cases hgo : s = true ∧ raw.length ≤ 600
  · obtain ⟨rfl, hraw⟩ := hgo
    have hraw' : ¬ (600 : Int) < (raw.length : Int) := by omega
    have HF := Lib.hid (small_few HS.out.symm)
    have HU1 : Hid (UtAt w w1 l A c) := Lib.hid ⟨(HT.out.below (B1.out.mono hB)).more (Nat.le_trans hB B1.out.size), HF.out, B1.out⟩
    clear HS
    go_wp2_with fail
    go_loopw [0, 11] (fun lv i wr => ∃ (j : Nat) (L : List Om) (AL : Option Addr) (cL : Nat), j ≤ 2 ∧ i = .int .i64 j ∧ lv = .slice AL L.length cL ∧ UtAt w wr L AL cL) (fun _ i _ => 2 - (intOf i).toNat)
    case atStart => exact ⟨0, l, A, c, by omega, rfl, rfl, HU1.out⟩
    case round =>
      obtain ⟨j, L, AL, cL, hj, rfl, rfl, hU⟩ := hrel
      obtain ⟨wo, hwo⟩ : ∃ wo : World, wo = wr := ⟨_, rfl⟩
      subst hwo
      have HU := Lib.hid hU
      have hLc := hU.ops.1
      have hcLm := hU.ops.2.1
      have hLf := hU.few.1
      unfold maxLen at hcLm
      clear hU
      by_cases h2 : j < 2
      · have h2' : (j : Int) < 2 := by omega
        obtain ⟨u, hu⟩ : ∃ u, u = unitOk (pl L) := ⟨_, rfl⟩
        obtain ⟨O, hO⟩ : ∃ O, O = zO (pl L) := ⟨_, rfl⟩
        have hOl : O.length ≤ 190000 := by rw [hO]; exact zO_len _
        have HUU := Lib.hid hu
        have HO := Lib.hid hO
        clear hu hO
        go_wp2_with fail
        refine (uappend_any L AL _ cL _ _ rfl HU.out.ops (Nat.le_refl _) HU.out.few).mono ?_
        intro e w2 h
        obtain ⟨A2, c2, rfl, hc2, hm2, l2, hb2⟩ := app_two HUU.out HO.out h
        have L2 := Lib.hid l2
        have B2 := Lib.hid hb2
        have T2 := Lib.hid ((HU.out.ops.below hb2).more hb2.size)
        clear h l2 hb2
        go_wp2_with fail
        refine (runit_any L AL _ cL _ _ rfl T2.out (Nat.le_refl _) HU.out.few).mono ?_
        intro e w4 h
        obtain ⟨AW, cW, rfl, hcW, hmW, hl4, hb4⟩ := app_two HUU.out HO.out h
        have L5 := Lib.hid hl4
        have L24 := Lib.hid (L2.out.below hb4)
        have B4 := Lib.hid (B2.out.trans (hb4.mono B2.out.size))
        have TW := Lib.hid ((T2.out.below hb4).more hb4.size)
        have cvA := run_octets_string (P := Try.prog) 22 9 5 Try.underlying22 Try.underlying5 Try.underlying9 L24.out c2
        have cvB := run_octets_string (P := Try.prog) 22 9 5 Try.underlying22 Try.underlying5 Try.underlying9 L5.out cW
        have hmW' := hmW
        unfold maxLen at hmW'
        clear h hl4 hb4
        go_upto_region 10 with fail
        clear cvA cvB
        have ho0 : (w4.alloc (.cells #[] 5)).ownsRow w4.heap.size 5 1 (.slice (some ⟨w4.heap.size, 0, none⟩) 0 0) 0 [] := World.ownsRow_made w4 #[] 0 (Nat.le_refl _) (Nat.zero_le _) rfl
        have HO0 := Lib.hid ho0
        have BA4 : Hid (Below w4.heap.size w4 (w4.alloc (.cells #[] 5))) := Lib.hid ((Below.refl _ _).alloc (Nat.le_refl _) _)
        have za : w4.heap.size ≤ (w4.alloc (.cells #[] 5)).heap.size := by simp
        have ZA := Lib.hid za
        have ho1 : 0 + O.length ≤ 140737488355328 := by omega
        clear ho0 za
        go_upto_if 66 with (at_builtin; refine wpList_append_cells rfl _ _ 22 rfl w4.heap.size 5 i0 (.int .u8 0) 1 1 Try.underlying22 HI.out H0.out H1.out H2.out rfl (by omega) _ 0 [] rfl HO0.out _ AW O.length cW (B8 O) rfl (L5.out.below BA4.out) (B8_len1 O) (B8_one O) (room63 ho1) (room1 ho1) ZA.out ?_; intro v6 w6 hown6 hb6; rw [Nat.zero_add, List.nil_append] at hown6; obtain ⟨AX, cX, rfl, hcX, hmX⟩ := own_form hown6; have HB6 := Lib.hid (BA4.out.trans hb6); have HO6 := Lib.hid hown6; have L6 := Lib.hid (Lies.own hown6 (Nat.le_refl _)); clear hown6 hb6)
        go_cut [] (fun wx => UTurned w4.heap.size w4 O AX wx)
        case first =>
          by_cases hlen : O.length = 0
          · have hlt0 : ¬ (0 : Int) < (O.length : Int) := by omega
            have D : Hid (UTurned w4.heap.size w4 O AX w6) := Lib.hid ⟨O, rfl, HB6.out, L6.out⟩
            clear hlen
            go_wp2_with fail
            go_meet
            exact D.out
          · have hT0' : 0 < O.length := by omega
            have hlt0 : (0 : Int) < (O.length : Int) := by omega
            obtain ⟨g6, rfl, hg6, hg6', hfr⟩ := own_head HO6.out hT0'
            obtain ⟨J, hJ, hJe⟩ := turn_at at_ O.length hT0'
            have hc : w6.cell? ⟨g6, 0 + J, none⟩ = some (.int .u8 ((O.getD J 0).toNat : Int)) := by
              rcases L6.out.octets with h | ⟨b, o, e, _, hc⟩
              · rw [h] at hT0'; simp at hT0'
              · injection e with e
                injection e with e1 e2 e3
                subst e1 e2
                rw [hc J hJ]
                simp [List.getD, hJ]
            rw [Nat.zero_add] at hc
            have hf := hfr J
            have hx := u8_flip (O.getD J 0) y
            have D : Hid (UTurned w4.heap.size w4 O (some ⟨g6, 0, none⟩) (w6.setCell ⟨g6, J, none⟩ (.int .u8 ((O.getD J 0 ^^^ y).toNat : Int)))) := Lib.hid ⟨flip O J y, flip_length O J y, HB6.out.setCell hg6 _, by
              rw [show (w6.setCell ⟨g6, J, none⟩ (.int .u8 ((O.getD J 0 ^^^ y).toNat : Int))).heap.size = w6.heap.size from by simp [World.setCell], show (⟨g6, J, none⟩ : Addr) = ⟨g6, 0 + J, none⟩ from by rw [Nat.zero_add]]
              exact flip_lies L6.out J hJ y⟩
            generalize O.getD J 0 = q at *
            generalize (q ^^^ y) = z' at *
            clear hfr hlen
            go_wp2_with fail
            go_meet
            exact D.out
        case rest =>
          obtain ⟨wq, hwq⟩ : ∃ wq : World, wq = wc := ⟨_, rfl⟩
          subst hwq
          obtain ⟨X, hXl, hbx, hlx⟩ := hcut
          have hzx := hbx.size
          have LWq := Lib.hid ((L5.out.below hbx).more hzx)
          have TQ := Lib.hid ((TW.out.below hbx).more hzx)
          have BQ0 := Lib.hid (HU.out.bel.trans ((B4.out.trans (hbx.mono B4.out.size)).mono HU.out.bel.size))
          have LXq := Lib.hid hlx
          have HXL := Lib.hid hXl
          clear hbx hlx hXl hzx
          go_wp2_with fail
          go_loopw [17] (fun kv wr => ∃ k : Nat, k ≤ 4 ∧ kv = .int .i64 k ∧ Below wq.heap.size wq wr) (fun kv _ => 4 - (intOf kv).toNat)
          case atStart => exact ⟨0, by omega, rfl, Below.refl _ _⟩
          case round =>
            obtain ⟨k, hk, rfl, hbk⟩ := hrel
            obtain ⟨wp, hwp⟩ : ∃ wp : World, wp = wr := ⟨_, rfl⟩
            subst hwp
            have BK := Lib.hid hbk
            have hzk := hbk.size
            have TK := Lib.hid ((TQ.out.below hbk).more hzk)
            have BKW := Lib.hid (BQ0.out.trans (hbk.mono BQ0.out.size))
            clear hbk
            by_cases hk4 : k < 4
            · have hk4' : (k : Int) < 4 := by omega
              have LO := Lib.hid ((LWq.out.below BK.out).more hzk)
              have GR : Hid (GSu wp (.slice A1 raw.length c1)) := Lib.hid ⟨A1, raw, c1, rfl, hrc, HRM.out, (HRAW.out.below BKW.out).more BKW.out.size⟩
              have GX : Hid (GSu wp (.slice AX O.length cX)) := Lib.hid ⟨AX, X, cX, by rw [HXL.out], by rw [HXL.out]; exact hcX, hmX, (LXq.out.below BK.out).more hzk⟩
              obtain ⟨jc, hjc, hjce⟩ := turn_at cut (O.length + 1) (by omega)
              have hjz : (bits .and .i64 cut 65535).tmod ((O.length : Int) + 1) = (jc : Int) := by rw [← hjce, Int.natCast_add]; rfl
              have hjc' : jc ≤ O.length := by omega
              have GW : Hid (GSu wp (.slice AW jc cW)) := Lib.hid ⟨AW, O.take jc, cW, by rw [List.length_take, Nat.min_eq_left hjc'], by rw [List.length_take]; omega, hmW, by
                have h := LO.out.take jc
                rw [B8, ← List.map_take] at h
                exact h⟩
              have GO : Hid (GSu wp (.slice AW O.length cW)) := Lib.hid ⟨AW, O, cW, rfl, hcW, hmW, LO.out⟩
              obtain ⟨YV, hYV, hgs⟩ := gsu_sel wp GR.out GX.out GW.out GO.out hk4
              have D : Hid (YAt wp YV (wp.alloc (.cells #[.slice A1 raw.length c1, .slice AX O.length cX, .slice AW jc cW, .slice AW O.length cW] 22))) := Lib.hid ⟨hgs, (Below.refl _ _).alloc (Nat.le_refl _) _⟩
              have hwl : IntKind.i64.wrap ((O.length : Int) + 1) = (O.length : Int) + 1 := IntWalk.i64_in _ (by omega)
              have hn0 : ¬ ((O.length : Int) + 1 = 0) := by omega
              have hj1 : (0 : Int) ≤ (jc : Int) := by omega
              have hj2 : (jc : Int) ≤ (cW : Int) := by omega
              clear hjce hgs
              go_upto_region 16 with fail
              go_cut [18] (fun v wx => YAt wp v wx)
              case first =>
                go_wp2_with fail
                go_meet
                exact D.out
              case rest =>
                obtain ⟨wy, hwy⟩ : ∃ wy : World, wy = wc := ⟨_, rfl⟩
                subst hwy
                obtain ⟨⟨AY, Y, cY, rfl, hcY, hmY, hlY⟩, hby⟩ := hcut
                have LY := Lib.hid hlY
                have BY := Lib.hid hby
                obtain ⟨sm, hsm⟩ : ∃ x, x = (unitP Y).isSome := ⟨_, rfl⟩
                obtain ⟨ts, hts⟩ : ∃ x, x = (unitP Y).getD [] := ⟨_, rfl⟩
                have htl := told_few hts
                have HSM := Lib.hid hsm
                have HTS := Lib.hid hts
                clear hlY hby hsm hts hYV D
                go_wp2_with fail
                refine (uparse_any AY _ cY _ Y _ rfl LY.out (Nat.le_refl _) hcY hmY).mono ?_
                intro e w7 h
                obtain ⟨m7, A7, c7, rfl, n7, p7, t7, b7⟩ := parse_two HSM.out HTS.out h
                have T7 := Lib.hid t7
                have P7 := Lib.hid p7
                have N7 := Lib.hid n7
                have B7 := Lib.hid (BY.out.trans (b7.mono BY.out.size))
                have LY7 := Lib.hid ((LY.out.below b7).more b7.size)
                clear h t7 b7 p7 n7
                go_wp2_with fail
                refine (rops_any AY _ cY _ Y _ rfl LY7.out (Nat.le_refl _) hcY hmY).mono ?_
                intro e w8 h
                obtain ⟨m8, A8, c8, rfl, n8, p8, t8, b8⟩ := parse_two HSM.out HTS.out h
                have T8 := Lib.hid t8
                have P8 := Lib.hid p8
                have N8 := Lib.hid n8
                have B8' := Lib.hid (B7.out.trans (b8.mono B7.out.size))
                have LY8 := Lib.hid ((LY7.out.below b8).more b8.size)
                have T78 := Lib.hid ((T7.out.below b8).more b8.size)
                clear h t8 b8 p8 n8
                go_wp2_with fail
                refine (uplaces_any AY _ cY _ Y _ rfl LY8.out (Nat.le_refl _) hcY hmY).mono ?_
                intro e w9 h
                obtain ⟨A9, c9, rfl, hc9, hm9, l9, b9⟩ := places_two HSM.out HTS.out h
                have L9 := Lib.hid l9
                have B9 := Lib.hid (B8'.out.trans (b9.mono B8'.out.size))
                have LY9 := Lib.hid ((LY8.out.below b9).more b9.size)
                have T79 := Lib.hid ((T78.out.below b9).more b9.size)
                have T89 := Lib.hid ((T8.out.below b9).more b9.size)
                clear h l9 b9
                go_wp2_with fail
                refine (rplaces_any AY _ cY _ Y _ rfl LY9.out (Nat.le_refl _) hcY hmY).mono ?_
                intro e w10 h
                obtain ⟨A10, c10, rfl, hc10, hm10, l10, b10⟩ := places_two HSM.out HTS.out h
                have L10 := Lib.hid l10
                have B10 := Lib.hid (B9.out.trans (b10.mono B9.out.size))
                have L910 := Lib.hid ((L9.out.below b10).more b10.size)
                have T710 := Lib.hid ((T79.out.below b10).more b10.size)
                have T810 := Lib.hid ((T89.out.below b10).more b10.size)
                have hm9' := hm9
                have hm10' := hm10
                unfold maxLen at hm9' hm10'
                clear h l10 b10
                go_wp2_with fail
                refine (same_ops m7 m8 A7 A8 _ _ c7 c8 _ _ N7.out.symm N8.out.symm T710.out T810.out (Nat.le_refl _) (by rw [N7.out]; omega) (by rw [P7.out, P8.out])).mono ?_
                rintro e w11 ⟨rfl, b11⟩
                have B11 := Lib.hid (B10.out.trans (b11.mono B10.out.size))
                have L911 := Lib.hid ((L910.out.below b11).more b11.size)
                have L1011 := Lib.hid ((L10.out.below b11).more b11.size)
                clear b11
                go_wp2_with fail
                go_loopw [27] (fun kv wr => ∃ n : Nat, n ≤ ts.length ∧ kv = .int .i64 n ∧ Below w11.heap.size w11 wr) (fun kv _ => ts.length - (intOf kv).toNat)
                case atStart => exact ⟨0, Nat.zero_le _, rfl, Below.refl _ _⟩
                case round =>
                  obtain ⟨n, hn, rfl, hbn⟩ := hrel
                  have BN := Lib.hid hbn
                  by_cases hlt : n < ts.length
                  · obtain ⟨t, hte⟩ : ∃ t, t = ts[n] := ⟨_, rfl⟩
                    have hq : ts[n]? = some t := by rw [hte]; exact List.getElem?_eq_getElem hlt
                    obtain ⟨b9, o9, rfl, hb9, d0, d1, d2, d3⟩ := lies_pl (L911.out.below hbn) n t hq
                    obtain ⟨b10, o10, rfl, hb10, f0, f1, f2, f3⟩ := lies_pl (L1011.out.below hbn) n t hq
                    have NP := fun k d p n w => neq_place k d p n w
                    have GP := fun op x y xs ys w => guard_place op x y xs ys w
                    have hn0' : (0 : Int) ≤ (n : Int) := by omega
                    have hlt' : (n : Int) < (ts.length : Int) := by omega
                    clear hte hq hbn
                    go_upto_region 26 with fail
                    refine wp_region_held_drew (S := (fun w' => (w'.cell? ⟨b9, o9 + n * 4, none⟩ = some (.string ⟨t.o.key.toArray⟩) ∧ w'.cell? ⟨b9, o9 + n * 4 + 1, none⟩ = some (.bool t.o.del) ∧ w'.cell? ⟨b9, o9 + n * 4 + 2, none⟩ = some (.int .i64 t.pos) ∧ w'.cell? ⟨b9, o9 + n * 4 + 3, none⟩ = some (.int .i64 t.o.val.length)) ∧ (w'.cell? ⟨b10, o10 + n * 4, none⟩ = some (.string ⟨t.o.key.toArray⟩) ∧ w'.cell? ⟨b10, o10 + n * 4 + 1, none⟩ = some (.bool t.o.del) ∧ w'.cell? ⟨b10, o10 + n * 4 + 2, none⟩ = some (.int .i64 t.pos) ∧ w'.cell? ⟨b10, o10 + n * 4 + 3, none⟩ = some (.int .i64 t.o.val.length)))) (by kernel_rfl) ⟨⟨d0, d1, d2, d3⟩, ⟨f0, f1, f2, f3⟩⟩ (fun hS0 => ?_)
                    refine wpAnyH_take (i := 0) (oi := ⟨some 144, _, _, _, _, _⟩) (v := ?_) rfl (by kernel_rfl) (by kernel_rfl) (by kernel_rfl) (fun _ _ _ h => h) (Or.inl ⟨by rfl, ?_⟩) hS0 ?_
                    rotate_left
                    · (intro wS hSw; (try dsimp only at hSw); go_simp); all_goals (with_reducible rfl)
                    try simp only [Act.put, List.setIfInBounds_toArray, List.set_cons_zero, List.set_cons_succ]
                    refine wpAnyH_take (i := 1) (oi := ⟨some 145, _, _, _, _, _⟩) (v := ?_) rfl (by kernel_rfl) (by kernel_rfl) (by kernel_rfl) (fun _ _ _ h => h) (Or.inl ⟨by rfl, ?_⟩) hS0 ?_
                    rotate_left
                    · (intro wS hSw; (try dsimp only at hSw); go_simp); all_goals (with_reducible rfl)
                    try simp only [Act.put, List.setIfInBounds_toArray, List.set_cons_zero, List.set_cons_succ]
                    refine wpAnyH_take (i := 2) (oi := ⟨some 146, _, _, _, _, _⟩) (v := ?_) rfl (by kernel_rfl) (by kernel_rfl) (by kernel_rfl) (fun _ _ _ h => h) (Or.inl ⟨by rfl, ?_⟩) hS0 ?_
                    rotate_left
                    · (intro wS hSw; (try dsimp only at hSw); go_simp); all_goals (with_reducible rfl)
                    try simp only [Act.put, List.setIfInBounds_toArray, List.set_cons_zero, List.set_cons_succ]
                    refine wpAnyH_take (i := 3) (oi := ⟨some 147, _, _, _, _, _⟩) (v := ?_) rfl (by kernel_rfl) (by kernel_rfl) (by kernel_rfl) (fun _ _ _ h => h) (Or.inl ⟨by rfl, ?_⟩) hS0 ?_
                    rotate_left
                    · (intro wS hSw; (try dsimp only at hSw); go_simp); all_goals (with_reducible rfl)
                    try simp only [Act.put, List.setIfInBounds_toArray, List.set_cons_zero, List.set_cons_succ]
                    refine wpAnyH_take (i := 4) (oi := ⟨some 148, _, _, _, _, _⟩) (v := ?_) rfl (by kernel_rfl) (by kernel_rfl) (by kernel_rfl) (fun _ _ _ h => h) (Or.inl ⟨by rfl, ?_⟩) hS0 ?_
                    rotate_left
                    · (intro wS hSw; (try dsimp only at hSw); go_simp); all_goals (with_reducible rfl)
                    try simp only [Act.put, List.setIfInBounds_toArray, List.set_cons_zero, List.set_cons_succ]
                    refine wpAnyH_take (i := 5) (oi := ⟨some 149, _, _, _, _, _⟩) (v := ?_) rfl (by kernel_rfl) (by kernel_rfl) (by kernel_rfl) (fun _ _ _ h => h) (Or.inl ⟨by rfl, ?_⟩) hS0 ?_
                    rotate_left
                    · (intro wS hSw; (try dsimp only at hSw); go_simp); all_goals (with_reducible rfl)
                    try simp only [Act.put, List.setIfInBounds_toArray, List.set_cons_zero, List.set_cons_succ]
                    refine wpAnyH_take (i := 6) (oi := ⟨some 150, _, _, _, _, _⟩) (v := ?_) rfl (by kernel_rfl) (by kernel_rfl) (by kernel_rfl) (fun _ _ _ h => h) (Or.inl ⟨by rfl, ?_⟩) hS0 ?_
                    rotate_left
                    · (intro wS hSw; (try dsimp only at hSw); go_simp); all_goals (with_reducible rfl)
                    try simp only [Act.put, List.setIfInBounds_toArray, List.set_cons_zero, List.set_cons_succ]
                    refine wpAnyH_take (i := 7) (oi := ⟨some 151, _, _, _, _, _⟩) (v := ?_) rfl (by kernel_rfl) (by kernel_rfl) (by kernel_rfl) (fun _ _ _ h => h) (Or.inl ⟨by rfl, ?_⟩) hS0 ?_
                    rotate_left
                    · (intro wS hSw; (try dsimp only at hSw); go_simp); all_goals (with_reducible rfl)
                    try simp only [Act.put, List.setIfInBounds_toArray, List.set_cons_zero, List.set_cons_succ]
                    refine wpAnyH_take (i := 8) (oi := ⟨some 152, _, _, _, _, _⟩) (v := ?_) rfl (by kernel_rfl) (by kernel_rfl) (by kernel_rfl) (fun _ _ _ h => h) (Or.inl ⟨by rfl, ?_⟩) hS0 ?_
                    rotate_left
                    · (intro wS hSw; (try dsimp only at hSw); go_simp); all_goals (with_reducible rfl)
                    try simp only [Act.put, List.setIfInBounds_toArray, List.set_cons_zero, List.set_cons_succ]
                    refine wpAnyH_done (by kernel_rfl) ?_ _
                    go_wp2_with fail
                    go_roundw
                    case rel => exact ⟨n + 1, by omega, by go_num, BN.out.drew⟩
                    case measure => simp [intOf]; omega
                  · obtain rfl : n = ts.length := by omega
                    have BE := Lib.hid (BK.out.trans ((B11.out.trans (hbn.mono B11.out.size)).mono hzk))
                    have kw : IntKind.i64.wrap ((k : Int) + 1) = (k : Int) + 1 := IntWalk.i64_in _ (by omega)
                    clear hbn
                    go_wp2_with fail
                    go_roundw
                    case rel => exact ⟨k + 1, by omega, by go_num, BE.out⟩
                    case measure => simp [intOf]; omega
            · have hk4' : k = 4 := by omega
              subst hk4'
              go_wp2_with fail
              refine (utame_any L AL _ cL _ _ rfl TK.out (Nat.le_refl _) HU.out.few).mono ?_
              rintro e w9 ⟨A9, c9, rfl, t9, b9⟩
              have D : Hid (UtAt w w9 (tameM L) A9 c9) := Lib.hid ⟨t9, tameM_few L, BKW.out.trans (b9.mono BKW.out.size)⟩
              have iw : IntKind.i64.wrap ((j : Int) + 1) = (j : Int) + 1 := IntWalk.i64_in _ (by omega)
              clear t9 b9
              go_wp2_with fail
              go_roundw
              case rel => exact ⟨j + 1, tameM L, A9, c9, by omega, by go_num, rfl, D.out⟩
              case measure => simp [intOf]; omega
      · have h2' : j = 2 := by omega
        subst h2'
        go_wp2_with fail
        refine (uawake_any _).mono ?_
        rintro e w5 ⟨rfl, b5⟩
        have B5 := Lib.hid (HU.out.bel.trans (b5.mono HU.out.bel.size))
        clear b5
        go_wp2_with fail
        go_ret
        exact ⟨rfl, B5.out⟩
  · cases s with
    | false =>
      go_wp2_with fail
      refine (uawake_any _).mono ?_
      rintro e w2 ⟨rfl, hb2⟩
      have D := Lib.hid (B1.out.trans (hb2.mono B1.out.size))
      clear hb2
      go_wp2_with fail
      go_ret
      exact ⟨rfl, D.out⟩
    | true =>
      have hraw' : (600 : Int) < (raw.length : Int) := by
        have : ¬ raw.length ≤ 600 := fun h => hgo ⟨rfl, h⟩
        omega
      go_wp2_with fail
      refine (uawake_any _).mono ?_
      rintro e w2 ⟨rfl, hb2⟩
      have D := Lib.hid (B1.out.trans (hb2.mono B1.out.size))
      clear hb2
      go_wp2_with fail
      go_ret
      exact ⟨rfl, D.out⟩
end Go.Proofs.Ytflbjmpbkcjdhaa
