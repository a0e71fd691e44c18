/- The law on frames behind each other: its walk. -/
import Derived.Test.YtplijhhjclfhaaaFrms
import Derived.Test.YtplijhhjclfhaaaFramR
import Derived.Deep.DeepCutAuto
import Derived.Deep.RegionHeld3
import Derived.Deep.DeepMust
namespace Go.Proofs.Ytplijhhjclfhaaa
open Go.RowKit

theorem frame_info : (Try.prog.info? 37).map (fun i => (i.zero, i.size, i.bytes)) = some (some (.agg #[.int .i64 0, .int .i64 0, .slice none 0 0]), 3, 40) := by kernel_rfl
theorem frame_zero : (Value.agg #[.int .i64 0, .int .i64 0, .slice none 0 0]).cells.size = 3 := rfl
/-- what is written so far, and what was taken: behind j of them -/
def Rows1 (w : World) (l : List Frm) (vb va iv : Value) (wr : World) : Prop :=
  ∃ j X G, j ≤ l.length ∧ j ≤ 8 ∧ iv = .int .i64 (j : Nat) ∧ G = (l.take j).filter okF ∧ X = octsF G ∧ Below w.heap.size w wr ∧
    (∃ A c, vb = .slice A X.length c ∧ X.length ≤ c ∧ c ≤ maxLen ∧ Lies wr wr.heap.size A (B8 X)) ∧ wr.ownsRow w.heap.size 37 3 va G.length (cellsFs G)

/-- what is left to be read: behind j of them -/
def Rows2 (w : World) (G : List Frm) (vb iv : Value) (wr : World) : Prop :=
  ∃ j A c R, j ≤ G.length ∧ iv = .int .i64 (j : Nat) ∧ R = octsF (G.drop j) ∧ Below w.heap.size w wr ∧ vb = .slice A R.length c ∧ R.length ≤ c ∧ c ≤ maxLen ∧ Lies wr wr.heap.size A (B8 R)

set_option maxHeartbeats 4000000 in
set_option maxRecDepth 100000 in
theorem frows_any (l : List Frm) (A : Option Addr) (c : Nat) (w : World) (ht : FrmsAt w w.heap.size l A c) :
    Calls Try.prog 4 #[.slice A l.length c] w fun e w' => e = .returned (.bool true) ∧ Below w.heap.size w w' := by
  obtain ⟨hlc, hcm, hcl, hfr⟩ := ht
  have hcm' := hcm
  unfold maxLen at hcm'
  have HC := Lib.hid hcl
  have HF := Lib.hid hfr
  obtain ⟨i0, hi, hz0, hz1, hz2⟩ := info_parts frame_info
  have HI := Lib.hid hi
  have G0 := Lib.hid hz0
  have G1 := Lib.hid hz1
  have G2 := Lib.hid hz2
  clear hcl hfr hi hz0 hz1 hz2
  go_enter Try.func4, Try.ntmps4
  go_wp2_with fail
  go_loopw [3, 4, 5] (fun vb va iv wr => Rows1 w l vb va iv wr) (fun _ _ i _ => 8 - (intOf i).toNat)
  case atStart => exact ⟨0, [], [], Nat.zero_le _, by omega, rfl, by simp, rfl, Below.refl _ _, ⟨none, 0, rfl, Nat.le_refl _, Nat.zero_le _, Lies.empty _ _ _⟩, World.ownsRow_nil _ _ _ _⟩
  case round =>
    obtain ⟨j, X, G, hj, hj8, rfl, hG, hX, hbr, ⟨Ab, cb, rfl, hcb, hmb, hlb⟩, hown⟩ := hrel
    have BR := Lib.hid hbr
    have hzr := hbr.size
    have LB := Lib.hid hlb
    have HO := Lib.hid hown
    have EG := Lib.hid hG
    have EX := Lib.hid hX
    have hGl : G.length ≤ j := by rw [hG]; exact Nat.le_trans (List.length_filter_le _ _) (by rw [List.length_take]; omega)
    have hGo : Hid (∀ f ∈ G, okF f = true) := Lib.hid (by rw [hG]; exact good_ok _)
    have hXl : X.length ≤ 32768 := by rw [hX]; have := octsF_length G hGo.out; omega
    clear hbr hlb hown hG hX
    by_cases hlt : j < l.length ∧ j < 8
    · obtain ⟨hlt1, hlt2⟩ := hlt
      have hi1 : (j : Int) < l.length := by omega
      have hi2 : (j : Int) < 8 := by omega
      obtain ⟨b0, o0, rfl, hb0, c0, c1, c2⟩ := lies_frm HC.out j hlt1
      obtain ⟨f, hf⟩ : ∃ f, f = l[j] := ⟨_, rfl⟩
      rw [← hf] at c0 c1 c2
      have hfa := HF.out f (by rw [hf]; exact List.getElem_mem hlt1)
      have GN : Hid ((l.take (j + 1)).filter okF = G ++ (if okF f = true then [f] else [])) := Lib.hid (by rw [good_next l j hlt1, ← EG.out, ← hf])
      obtain ⟨fk, fch, fA, fc, fb⟩ := f
      have d0 : wr.cell? ⟨b0, o0 + j * 3, none⟩ = some (.int .i64 fk) := (BR.out.cell (p := ⟨b0, o0 + j * 3, none⟩) hb0).trans c0
      have d1 : wr.cell? ⟨b0, o0 + j * 3 + 1, none⟩ = some (.int .i64 fch) := (BR.out.cell (p := ⟨b0, o0 + j * 3 + 1, none⟩) hb0).trans c1
      have d2 : wr.cell? ⟨b0, o0 + j * 3 + 2, none⟩ = some (.slice fA fb.length fc) := (BR.out.cell (p := ⟨b0, o0 + j * 3 + 2, none⟩) hb0).trans c2
      obtain ⟨hfl, hfc, hfm⟩ := hfa
      have hfb : fb.length ≤ 9223372036854775807 := by have := hfc; have := hfm; unfold maxLen at *; simp at *; omega
      have LF := Lib.hid (hfl.below BR.out)
      clear hf hfl
      by_cases h42 : 4200 < fb.length
      · have h42' : (4200 : Int) < fb.length := by omega
        go_wp2_with fail
        refine (awake3_any _).mono ?_
        rintro e w9 ⟨rfl, hb9⟩
        have HB9 := Lib.hid (BR.out.trans (hb9.mono hzr))
        clear hb9
        go_wp2_with fail
        go_ret
        exact ⟨rfl, HB9.out⟩
      · have h42' : (fb.length : Int) ≤ 4200 := by omega
        go_wp2_with fail
        obtain ⟨r, hr⟩ : ∃ r, r = frameOk fk fch fb.length := ⟨_, rfl⟩
        have HR := Lib.hid hr
        clear hr d0 d1 d2
        cases r with
        | false =>
          refine (fappend_at Ab cb X.length X wr.heap.size fk fch fA fb.length fb fc _ false X rfl LB.out (Nat.le_refl _) (by omega) rfl (LF.out.more hzr) (by unfold maxLen; omega) HR.out.symm (by unfold fappB; rw [← HR.out]; rfl)).mono ?_
          rintro e w2 ⟨v2, rfl, hown, hb⟩
          obtain ⟨A2, c2, rfl, hc2, hm2⟩ := own_form hown
          have D : Hid (Rows1 w l (.slice A2 X.length c2) u4 (.int .i64 ((j : Int) + 1)) w2) := Lib.hid ⟨j + 1, X, G, by omega, by omega, by go_num, by rw [GN.out]; simp [okF, ← HR.out], EX.out, BR.out.trans (hb.mono hzr), ⟨A2, c2, rfl, hc2, hm2, Lies.own hown (Nat.le_refl _)⟩, HO.out.kept (only_below hb none) (by cases hv : u4.ownBlock <;> simp)⟩
          clear hown hb
          go_wp2_with fail
          go_roundw
          case rel => exact D.out
          case measure => simp [intOf]; omega
        | true =>
          obtain ⟨Z, hZ⟩ : ∃ Z, Z = X ++ octF ⟨fk, fch, fA, fc, fb⟩ := ⟨_, rfl⟩
          have hZl : Z.length = X.length + (fb.length + 8) := by rw [hZ, List.length_append, octF_length]
          have HZ := Lib.hid hZ
          have HZL := Lib.hid hZl
          have hXZ : (X.length : Int) < (Z.length : Int) := by omega
          clear hZ hZl
          refine (fappend_at Ab cb X.length X wr.heap.size fk fch fA fb.length fb fc _ true Z rfl LB.out (Nat.le_refl _) (by omega) rfl (LF.out.more hzr) (by unfold maxLen; omega) HR.out.symm (by unfold fappB; rw [← HR.out, HZ.out]; rfl)).mono ?_
          rintro e w2 ⟨v2, rfl, hown, hb⟩
          obtain ⟨A2, c2', rfl, hc2, hm2⟩ := own_form hown
          have z2 := hb.size
          have B2 := Lib.hid (BR.out.trans (hb.mono hzr))
          have OA := Lib.hid hown
          have HO2 := Lib.hid (HO.out.kept (only_below hb none) (by cases hv : u4.ownBlock <;> simp))
          have d0 : w2.cell? ⟨b0, o0 + j * 3, none⟩ = some (.int .i64 fk) := (B2.out.cell (p := ⟨b0, o0 + j * 3, none⟩) hb0).trans c0
          have d1 : w2.cell? ⟨b0, o0 + j * 3 + 1, none⟩ = some (.int .i64 fch) := (B2.out.cell (p := ⟨b0, o0 + j * 3 + 1, none⟩) hb0).trans c1
          have d2 : w2.cell? ⟨b0, o0 + j * 3 + 2, none⟩ = some (.slice fA fb.length fc) := (B2.out.cell (p := ⟨b0, o0 + j * 3 + 2, none⟩) hb0).trans c2
          have hs1 : G.length + 1 ≤ maxLen := by unfold maxLen; omega
          have hs2 : (G.length + 1) * 40 ≤ 140737488355328 := by omega
          have hlit := Lies.lit w2 37 (cells3 fk fch (.slice fA fb.length fc))
          have HLIT := Lib.hid hlit
          have hlen3 : (cellsFs G).length = G.length * 3 := cellsFs_length G
          have HS1 := Lib.hid hs1
          have HS2 := Lib.hid hs2
          have hone : ∀ u ∈ cells3 fk fch (.slice fA fb.length fc), u.oneCell' = true := by
            intro u hu
            simp only [cells3, List.mem_cons, List.not_mem_nil, or_false] at hu
            rcases hu with rfl | rfl | rfl <;> rfl
          have HONE := Lib.hid hone
          have zl : w.heap.size ≤ (w2.alloc (.cells (cells3 fk fch (.slice fA fb.length fc)).toArray 37)).heap.size := by simp; omega
          have ZL := Lib.hid zl
          clear hown hb hs1 hs2 hlit hlen3 hone zl
          go_wp2_with (at_builtin; go_must (refine wpList_append_apart rfl _ _ 35 rfl w.heap.size 37 i0 _ 3 40 Try.underlying35 HI.out G0.out G1.out G2.out frame_zero (by omega) _ G.length (cellsFs G) rfl (HO2.out.alloc _) _ _ 1 1 (cells3 fk fch (.slice fA fb.length fc)) rfl HLIT.out rfl HONE.out HS1.out HS2.out ZL.out ?_); intro v3 w3 hown3 hb3; have HO3 := Lib.hid hown3; have HB3 := Lib.hid hb3; clear hown3 hb3)
          have hb3 : Below w.heap.size (w2.alloc (.cells (cells3 fk fch (.slice fA fb.length fc)).toArray 37)) w3 := (Below.refl _ _).grown HB3.out ZL.out (fun q hq => (HO2.out.lt q hq).1)
          have hoa := (OA.out.alloc (.cells (cells3 fk fch (.slice fA fb.length fc)).toArray 37)).kept HB3.out (own_apart OA.out HO.out (Nat.le_refl _))
          have D : Hid (Rows1 w l (.slice A2 Z.length c2') v3 (.int .i64 ((j : Int) + 1)) w3) := Lib.hid ⟨j + 1, Z, G ++ [⟨fk, fch, fA, fc, fb⟩], by omega, by omega, by go_num, by rw [GN.out]; simp [okF, ← HR.out], by rw [octsF_append, ← EX.out, HZ.out]; simp [octsF], (B2.out.alloc B2.out.size _).trans hb3, ⟨A2, c2', rfl, hc2, hm2, Lies.own hoa (Nat.le_refl _)⟩, by
            rw [List.length_append, cellsFs_append]
            exact HO3.out⟩
          clear hb3 hoa
          go_roundw
          case rel => exact D.out
          case measure => simp [intOf]; omega
    · have GF : Hid (∀ f ∈ G, FrmAt w w.heap.size f) := Lib.hid (fun f hf => HF.out f (by
        rw [EG.out] at hf
        exact List.mem_of_mem_take (List.mem_filter.1 hf).1))
      obtain ⟨Aa, ca, rfl, hca, hma⟩ := own_form HO.out
      have LA : Hid (Lies wr wr.heap.size Aa (cellsFs G)) := Lib.hid (Lies.own3 HO.out (Nat.le_refl _))
      obtain ⟨w1, hw1⟩ : ∃ w1 : World, w1 = wr := ⟨_, rfl⟩
      subst hw1
      have hex : ((l.length : Int) ≤ j) ∨ ((j : Int) < l.length ∧ (8 : Int) ≤ j) := by omega
      have hma' := hma
      unfold maxLen at hma'
      clear hlt
      rcases hex with h | ⟨h, h'⟩
      all_goals
        go_wp2_with fail
        go_loopw [3, 8] (fun vb iv w2 => Rows2 w1 G vb iv w2) (fun _ i _ => G.length - (intOf i).toNat)
        case atStart => exact ⟨0, Ab, cb, X, Nat.zero_le _, rfl, by rw [List.drop_zero]; exact EX.out, Below.refl _ _, rfl, hcb, hmb, LB.out⟩
        case round =>
          obtain ⟨j2, A2, c2, R, hj2, rfl, hR, hb2, rfl, hc2, hm2, hl2⟩ := hrel
          have BB := Lib.hid hb2
          have hz2 := hb2.size
          have L2 := Lib.hid hl2
          have ER := Lib.hid hR
          have hm2' := hm2
          unfold maxLen at hm2'
          have hRl : R.length ≤ 32768 := by
            rw [hR]
            have h1 := octsF_length (G.drop j2) (fun f hf => hGo.out f (List.mem_of_mem_drop hf))
            have h2 : (G.drop j2).length = G.length - j2 := List.length_drop
            omega
          clear hb2 hl2 hR
          by_cases hlt2 : j2 < G.length
          · obtain ⟨ba, oa, rfl, hba, c0, c1, c2'⟩ := lies_frm (LA.out.below BB.out) j2 hlt2
            have hfg := GF.out G[j2] (List.getElem_mem hlt2)
            obtain ⟨e1, e2, e3⟩ := okF_nat G[j2] (hGo.out _ (List.getElem_mem hlt2))
            have ES : Hid (R = octF G[j2] ++ octsF (G.drop (j2 + 1))) := Lib.hid (by rw [ER.out]; exact octs_first G j2 hlt2)
            obtain ⟨f, hf⟩ : ∃ f, f = G[j2] := ⟨_, rfl⟩
            rw [← hf] at c0 c1 c2' hfg e1 e2 e3 ES
            obtain ⟨fk, fch, fA, fc, fb⟩ := f
            simp only at c0 c1 c2' e1 e2 e3
            obtain ⟨kn, hkn⟩ : ∃ kn, kn = fk.toNat := ⟨_, rfl⟩
            obtain ⟨cn, hcn⟩ : ∃ cn, cn = fch.toNat := ⟨_, rfl⟩
            rw [← hkn] at e1 e3
            rw [← hcn] at e2 e3
            subst e1 e2
            obtain ⟨R', hR'⟩ : ∃ R', R' = octsF (G.drop (j2 + 1)) := ⟨_, rfl⟩
            have EF : Hid (R = frameB kn cn fb ++ R') := Lib.hid (by rw [ES.out, hR', hkn, hcn]; rfl)
            have hRR : R.length = fb.length + 8 + R'.length := by rw [EF.out, List.length_append, frameB_length]
            have PK : Hid (frameP R = .ok kn cn fb) := Lib.hid (by rw [EF.out]; exact frame_back kn cn fb R' e3)
            have HRR := Lib.hid hRR
            have HR' := Lib.hid hR'
            obtain ⟨hfl, hfc, hfm⟩ := hfg
            have LF := Lib.hid hfl
            have K0 := Lib.hid c0
            have K1 := Lib.hid c1
            have K2 := Lib.hid c2'
            have hj1 : (j2 : Int) < G.length := by omega
            clear hfl hf hkn hcn hRR hR' c0 c1 c2'
            go_wp2_with fail
            refine (fparse_ok A2 c2 R.length R _ _ kn cn fb fb.length rfl L2.out (Nat.le_refl _) hc2 hm2 PK.out rfl).mono ?_
            rintro e w7 ⟨A7, c7, rfl, hc7, hm7, hl7, hb7⟩
            obtain ⟨wz, hwz⟩ : ∃ wz, wz = w7.alloc (.cells #[.int .i64 kn, .int .i64 cn, .slice A7 fb.length c7] 37) := ⟨_, rfl⟩
            have hz7 := hb7.size
            have hbz : Below w7.heap.size w7 wz := by rw [hwz]; exact (Below.refl _ _).alloc (Nat.le_refl _) _
            have hsz : wz.heap.size = w7.heap.size + 1 := by rw [hwz]; simp
            have hV7 : Whole wz w7.heap.size 37 #[.int .i64 kn, .int .i64 cn, .slice A7 fb.length c7] := by rw [hwz]; exact Whole.new _ _ _
            have hbw := hb7.trans (hbz.mono hz7)
            have BZ := Lib.hid hbw
            have VZ := Lib.hid hV7
            have LFZ := Lib.hid (((LF.out.below BR.out).below (BB.out.mono hzr)).below (hbw.mono (by omega)))
            have L7Z := Lib.hid (hl7.below hbz)
            have LRZ := Lib.hid (L2.out.below hbw)
            have SZ := Lib.hid hsz
            have HWZ := Lib.hid hwz
            have hbaz : ba < wr.heap.size := by omega
            have cz : ∀ wx, Below wz.heap.size wz wx → (wx.cell? ⟨ba, oa + j2 * 3, none⟩ = some (.int .i64 kn) ∧ wx.cell? ⟨ba, oa + j2 * 3 + 1, none⟩ = some (.int .i64 cn) ∧ wx.cell? ⟨ba, oa + j2 * 3 + 2, none⟩ = some (.slice fA fb.length fc) ∧ wx.cell? ⟨w7.heap.size, 0, none⟩ = some (.int .i64 kn) ∧ wx.cell? ⟨w7.heap.size, 1, none⟩ = some (.int .i64 cn) ∧ wx.cell? ⟨w7.heap.size, 2, none⟩ = some (.slice A7 fb.length c7)) := fun wx hx => by
              have hk := BZ.out.trans (hx.mono (by have := SZ.out; omega))
              have hV := VZ.out.below hx VZ.out.lt
              exact ⟨(hk.cell (p := ⟨ba, oa + j2 * 3, none⟩) hbaz).trans K0.out, (hk.cell (p := ⟨ba, oa + j2 * 3 + 1, none⟩) hbaz).trans K1.out, (hk.cell (p := ⟨ba, oa + j2 * 3 + 2, none⟩) hbaz).trans K2.out, hV.cell 0, hV.cell 1, hV.cell 2⟩
            have CZ := Lib.hid cz
            have DR : Hid (Below wz.heap.size wz wz.drew) := Lib.hid (Below.refl _ _).drew
            have CD := Lib.hid (cz _ DR.out)
            have hq1 : (((fb.length : Int) + 8) != (8 + (fb.length : Int))) = false := by simp; omega
            have hq2 : decide ((R.length : Int) < (fb.length : Int) + 8) = false := decide_eq_false (by have := HRR.out; omega)
            have a0 : IntKind.i64.wrap (8 + (fb.length : Int)) = 8 + (fb.length : Int) := IntWalk.i64_in _ (by have := HRR.out; omega)
            have hfb0 : (0 : Int) ≤ (j2 : Int) := by omega
            have hj1n : j2 < G.length := hlt2
            clear hwz hbz hsz hV7 hbw cz hl7 hb7
            go_upto_region 18 with fail
            rw [← HWZ.out]
            go_region_held3 (fun w' => w'.cell? ⟨ba, oa + j2 * 3, none⟩ = some (.int .i64 kn) ∧ w'.cell? ⟨ba, oa + j2 * 3 + 1, none⟩ = some (.int .i64 cn) ∧ w'.cell? ⟨ba, oa + j2 * 3 + 2, none⟩ = some (.slice fA fb.length fc) ∧ w'.cell? ⟨w7.heap.size, 0, none⟩ = some (.int .i64 kn) ∧ w'.cell? ⟨w7.heap.size, 1, none⟩ = some (.int .i64 cn) ∧ w'.cell? ⟨w7.heap.size, 2, none⟩ = some (.slice A7 fb.length c7))
              (first | exact CD.out | exact C8)
              ((go_at_call 20; refine (fsame_any kn kn cn cn A7 fA fb fb c7 fc w7.heap.size w.heap.size _ (L7Z.out.below (DR.out.mono (by have := SZ.out; omega))) (LFZ.out.below (DR.out.mono (by have := SZ.out; omega))) (by show w7.heap.size ≤ wz.heap.size; have := SZ.out; omega) (by show w.heap.size ≤ wz.heap.size; have := SZ.out; omega)).mono ?_; rintro e w8 ⟨rfl, hb8⟩; rw [show SameF kn kn cn cn fb fb = true from by unfold SameF; simp]; have B8' := Lib.hid (DR.out.trans hb8); have C8 := CZ.out _ B8'.out; clear hb8))
            have hcR : fb.length + 8 ≤ c2 := by have := HRR.out; omega
            have hRm : R.length - (fb.length + 8) = R'.length := by have := HRR.out; omega
            have D : Hid (∀ (A' : Option Addr) (m k : Nat), A' = (if c2 = fb.length + 8 then A2 else A2.map (·.add (fb.length + 8))) → m = R'.length → k = c2 - (fb.length + 8) → Rows2 w1 G (.slice A' m k) (.int .i64 ((j2 : Int) + 1)) w8) := Lib.hid (by
              rintro A' m k hA rfl rfl
              have hz8 := B8'.out.size
              have h := (LRZ.out.below (B8'.out.mono (by have := SZ.out; omega))).drop (fb.length + 8) c2 (by rw [B8_length]; have := HRR.out; omega) (by rw [B8_length]; exact hc2)
              rw [B8, ← List.map_drop, show R.drop (fb.length + 8) = R' from by rw [EF.out, List.drop_left' (frameB_length kn cn fb)], ← hA] at h
              exact ⟨j2 + 1, A', c2 - (fb.length + 8), R', by omega, by go_num, HR'.out, (BB.out.trans (BZ.out.mono hz2)).trans (B8'.out.mono (by have := SZ.out; omega)), rfl, by have := HRR.out; omega, by unfold maxLen; omega, h.more (by have := SZ.out; omega)⟩)
            have hn1 : (fb.length : Int) + 8 ≤ (R.length : Int) := by have := HRR.out; omega
            have hn2 : fb.length + 8 ≤ R.length := by have := HRR.out; omega
            clear hq1 hq2 a0
            by_cases hcn : c2 = fb.length + 8
            · have DD := Lib.hid (D.out A2 (R.length - (fb.length + 8)) (c2 - (fb.length + 8)) (by rw [if_pos hcn]) hRm rfl)
              subst hcn
              go_wp2_with fail
              go_roundw
              case rel => exact DD.out
              case measure => simp [intOf]; omega
            · have DD := Lib.hid (D.out _ (R.length - (fb.length + 8)) (c2 - (fb.length + 8)) (by rw [if_neg hcn]) hRm rfl)
              go_wp2_with fail
              go_roundw
              case rel => exact DD.out
              case measure => simp [intOf]; omega
          · obtain rfl : j2 = G.length := by omega
            have hR0 : R = [] := by rw [ER.out, List.drop_length]; rfl
            subst hR0
            go_wp2_with fail
            refine (awake3_any _).mono ?_
            rintro e w9 ⟨rfl, hb9⟩
            have HB9 := Lib.hid ((BR.out.trans (BB.out.mono hzr)).trans (hb9.mono (by omega)))
            clear hb9
            go_wp2_with fail
            go_ret
            exact ⟨rfl, HB9.out⟩
end Go.Proofs.Ytplijhhjclfhaaa
