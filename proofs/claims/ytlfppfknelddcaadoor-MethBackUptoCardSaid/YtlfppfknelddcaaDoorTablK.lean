/- Contracts of the document's own answer for layer 2: a table's octets. Contracts of the document's own answer for layer 2: may a table be, and its octets. -/
import Derived.Test.YtlfppfknelddcaaDoorTablG
import Derived.Test.YtlfppfknelddcaaDoorTablI
import Derived.Test.YtlfppfknelddcaaDoorStep
import Derived.Deep.DeepMust
import Derived.Deep.DeepCutAuto
import Derived.Deep.RegionHeld3
namespace Go.Proofs.YtlfppfknelddcaaDoor
section
open Go.RowKit
set_option maxRecDepth 100000

set_option maxHeartbeats 1500000 in
set_option maxRecDepth 100000 in
theorem rrows_any (k : Nat) : RowsOf 29 k := by
  induction k with
  | zero => intro l A c d B w hf; simp [formedB] at hf
  | succ k ih =>
    intro l A c d B w hform ht hB hx
    have ht1 := TabH.succ _ _ _ _ ht
    obtain ⟨hlc, hcm⟩ := TabH.cap ht
    have hat := allB_at l [] hform
    have hxx : ∀ j, ((l.take j).flatMap (rowOf (rowsD k))).length ≤ 70368744177664 := fun j => Nat.le_trans (flat_len _ l j) hx
    obtain ⟨i0, hi, hz0, hz1, hz2⟩ := info_parts u8_info
    have HI := Lib.hid hi
    have H0 := Lib.hid hz0
    have H1 := Lib.hid hz1
    have H2 := Lib.hid hz2
    have HT := Lib.hid ht1
    have IH := Lib.hid ih
    have HA := Lib.hid hat
    have HX := Lib.hid hxx
    have D : ∀ v wr, wr.ownsRow w.heap.size 5 1 v ((l.take l.length).flatMap (rowOf (rowsD k))).length (B8 ((l.take l.length).flatMap (rowOf (rowsD k)))) → Below w.heap.size w wr → NewOcts w.heap.size (rowsD (k + 1) l) w (.returned v) wr := by
      intro v wr h1 h2
      rw [List.take_length] at h1
      exact ⟨v, rfl, h1, h2⟩
    have HD := Lib.hid D
    obtain ⟨Z, hZ⟩ : ∃ Z, Z = rowsD (k + 1) l := ⟨_, rfl⟩
    rw [← hZ] at HD ⊢
    unfold maxLen at hcm
    clear ht ht1 ih hform hx hat hxx hi hz0 hz1 hz2 D hZ
    go_enter Tryd.func29, Tryd.ntmps29
    go_wp2_with fail
    go_loopw [3, 4] (fun v i wr => ∃ j : Nat, j ≤ l.length ∧ i = .int .i64 j ∧ Below w.heap.size w wr ∧ wr.ownsRow w.heap.size 5 1 v ((l.take j).flatMap (rowOf (rowsD k))).length (B8 ((l.take j).flatMap (rowOf (rowsD k))))) (fun _ i _ => l.length - (intOf i).toNat)
    case atStart => exact ⟨0, Nat.zero_le _, rfl, Below.refl _ _, World.ownsRow_nil _ _ _ _⟩
    case round =>
      obtain ⟨j, hj, rfl, hbel, hown⟩ := hrel
      have HB := Lib.hid hbel
      have HO := Lib.hid hown
      have hsz := hbel.size
      clear hbel hown
      by_cases hlt : j < l.length
      · obtain ⟨b, o, A', c', rfl, hb, hheld, htab, hcell⟩ := (HT.out.below (HB.out.mono hB)).at j hlt
        obtain ⟨hm, hk⟩ := HA.out j hlt
        have hfl := flat_take (rowOf (rowsD k)) l j hlt
        have hx1 := HX.out (j + 1)
        rw [hfl, List.length_append] at hx1
        obtain ⟨f, hf⟩ : ∃ f, f = l[j] := ⟨_, rfl⟩
        obtain ⟨R, hR⟩ : ∃ R, R = (l.take j).flatMap (rowOf (rowsD k)) := ⟨_, rfl⟩
        rw [← hf] at hheld htab hcell hm hk hfl hx1
        rw [← hR] at HO hfl hx1
        have hro := rowOf_length (rowsD k) f
        have hnp := may_parts f hm
        have c0 : wr.cell? ⟨b, o + j * 5, none⟩ = some (.string ⟨f.name.toArray⟩) := hcell 0 _ rfl
        have c1 : wr.cell? ⟨b, o + j * 5 + 1, none⟩ = some (.int .u8 (f.kind.toNat : Int)) := hcell 1 _ rfl
        have HK : Hid (∀ w', Below (b + 1) wr w' → w'.cell? ⟨b, o + j * 5, none⟩ = some (.string ⟨f.name.toArray⟩) ∧ w'.cell? ⟨b, o + j * 5 + 1, none⟩ = some (.int .u8 (f.kind.toNat : Int))) :=
          Lib.hid (fun w' hb => ⟨(hb.cell (p := ⟨b, o + j * 5, none⟩) (Nat.lt_succ_self b)).trans c0, (hb.cell (p := ⟨b, o + j * 5 + 1, none⟩) (Nat.lt_succ_self b)).trans c1⟩)
        have HC := Lib.hid hcell
        have HE := Lib.hid hheld
        have HTB := Lib.hid htab
        have HM := Lib.hid hm
        have HKK := Lib.hid hk
        have HFL := Lib.hid hfl
        have HRO := Lib.hid hro
        have hszn : sizeN f ≤ (rowOf (rowsD k) f).length := by rw [hro]; omega
        have hrl : R.length + (rowOf (rowsD k) f).length ≤ 70368744177664 := by omega
        obtain ⟨A3, c3, rfl, _, _⟩ := own_form HO.out
        have l3 := Lies.own HO.out (Nat.le_refl wr.heap.size)
        have L3d := Lib.hid (l3.below (Below.refl _ wr).drew)
        have hbx0 := Lib.hid (((Below.refl wr.heap.size wr).alloc (Nat.le_refl _) (.cells #[.int .u8 (f.kind.toNat : Int)] 5)).drew)
        have L3x := Lib.hid (l3.below hbx0.out)
        have LX0 : Hid (Lies (wr.alloc (.cells #[.int .u8 (f.kind.toNat : Int)] 5)).drew (wr.heap.size + 1) (some ⟨wr.heap.size, 0, none⟩) [.int .u8 (f.kind.toNat : Int)]) := Lib.hid ((Lies.one wr 5 _).below (Below.refl _ _).drew)
        have HONE : Hid (∀ u ∈ [Value.int .u8 (f.kind.toNat : Int)], u.oneCell' = true) := Lib.hid (by simp [Value.oneCell'])
        have hln : (R ++ be 1 f.name.length ++ f.name).length + 1 ≤ 140737488355328 := by
          rw [List.length_append, List.length_append, be_length]
          omega
        have HLN := Lib.hid hln
        have hbw : b + 1 ≤ wr.heap.size := by omega
        have q0 : (0 : Int) ≤ (j : Int) := Int.natCast_nonneg _
        have q1 : (j : Int) < (l.length : Int) := by omega
        obtain ⟨TT, hTT⟩ : ∃ TT, TT = R ++ be 1 f.name.length ++ f.name ++ [f.kind] := ⟨_, rfl⟩
        have hTl : TT.length = R.length + f.name.length + 2 := by rw [hTT]; simp [be_length]; omega
        have HNEW : Hid (∀ v w', w'.ownsRow wr.heap.size 5 1 v ((R ++ be 1 f.name.length ++ f.name).length + 1) (B8 (R ++ be 1 f.name.length ++ f.name) ++ [.int .u8 (f.kind.toNat : Int)]) → Below wr.heap.size wr w' → NewOcts wr.heap.size TT wr (.returned v) w') := by
          refine Lib.hid (fun v w' h1 h2 => ⟨v, rfl, ?_, h2⟩)
          have e1 : B8 (R ++ be 1 f.name.length ++ f.name) ++ [.int .u8 (f.kind.toNat : Int)] = B8 TT := by rw [hTT, B8_append (R ++ be 1 f.name.length ++ f.name)]; rfl
          have e2 : (R ++ be 1 f.name.length ++ f.name).length + 1 = TT.length := by rw [hTT]; simp only [List.length_append, List.length_cons, List.length_nil]
          rw [e1, e2] at h1
          exact h1
        have HTT := Lib.hid hTT
        clear hcell hheld htab hm hk hfl hro hf hR l3 hln hTT c0 c1
        go_wp2_with fail
        go_cut [3] (fun x w' => NewOcts wr.heap.size TT wr (.returned x) w')
        case first =>
          refine wp_region_held_drew (S := fun w' => w'.cell? ⟨b, o + j * 5, none⟩ = some (.string ⟨f.name.toArray⟩) ∧ w'.cell? ⟨b, o + j * 5 + 1, none⟩ = some (.int .u8 (f.kind.toNat : Int))) (by kernel_rfl) (HK.out _ (Below.refl _ wr).drew) (fun hS0 => ?_)
          refine wpAnyH_take (i := 0) (oi := ⟨some 11, _, _, _, _, _⟩) (v := ?_) rfl (by kernel_rfl) (by kernel_rfl) (by kernel_rfl) (fun _ _ _ h => h) (Or.inl ⟨by rfl, ?_⟩) (by assumption) ?_
          rotate_left
          · (intro wS hSw; (try dsimp only at hSw); go_simp); all_goals (with_reducible rfl)
          simp only [Act.put, List.setIfInBounds_toArray, List.set_cons_zero, List.set_cons_succ]
          refine wpAnyH_take (i := 1) (oi := ⟨some 12, _, _, _, _, _⟩) (v := ?_) rfl (by kernel_rfl) (by kernel_rfl) (by kernel_rfl) (fun _ _ _ h => h) (Or.inl ⟨by rfl, ?_⟩) (by assumption) ?_
          rotate_left
          · (intro wS hSw; (try dsimp only at hSw); go_simp); all_goals (with_reducible rfl)
          simp only [Act.put, List.setIfInBounds_toArray, List.set_cons_zero, List.set_cons_succ]
          refine wpAnyH_take (i := 2) (oi := ⟨some 13, _, _, _, _, _⟩) (v := ?_) rfl (by kernel_rfl) (by kernel_rfl) (by kernel_rfl) (fun _ _ _ h => h) (Or.inl ⟨by rfl, ?_⟩) (by assumption) ?_
          rotate_left
          · (intro wS hSw; (try dsimp only at hSw); go_simp); all_goals (with_reducible rfl)
          simp only [Act.put, List.setIfInBounds_toArray, List.set_cons_zero, List.set_cons_succ]
          refine wpAnyH_take (i := 3) (oi := ⟨some 14, _, _, _, _, _⟩) (v := ?_) rfl (by kernel_rfl) (by kernel_rfl) (by kernel_rfl) (fun _ _ _ h => h) (Or.inl ⟨by rfl, ?_⟩) (by assumption) ?_
          rotate_left
          · (intro wS hSw; (try dsimp only at hSw); go_simp); all_goals (with_reducible rfl)
          simp only [Act.put, List.setIfInBounds_toArray, List.set_cons_zero, List.set_cons_succ]
          refine wpAnyH_take (i := 4) (oi := ⟨some 15, _, _, _, _, _⟩) (v := ?_) rfl (by kernel_rfl) (by kernel_rfl) (by kernel_rfl) (fun _ _ _ h => h) (Or.inl ⟨by rfl, ?_⟩) (by assumption) ?_
          rotate_left
          · (intro wS hSw; (try dsimp only at hSw); go_simp); all_goals (with_reducible rfl)
          simp only [Act.put, List.setIfInBounds_toArray, List.set_cons_zero, List.set_cons_succ]
          refine wpAnyH_take (i := 5) (oi := ⟨some 16, _, _, _, _, _⟩) (v := ?_) rfl (by kernel_rfl) (by kernel_rfl) (by kernel_rfl) (fun _ _ _ h => h) (Or.inl ⟨by rfl, ?_⟩) (by assumption) ?_
          rotate_left
          · (intro wS hSw; (try dsimp only at hSw); go_simp); all_goals (with_reducible rfl)
          simp only [Act.put, List.setIfInBounds_toArray, List.set_cons_zero, List.set_cons_succ]
          refine wpAnyH_take (i := 7) (oi := ⟨some 18, _, _, _, _, _⟩) (v := ?_) rfl (by kernel_rfl) (by kernel_rfl) (by kernel_rfl) (fun _ _ _ h => h) (Or.inl ⟨by rfl, ?_⟩) (by assumption) ?_
          rotate_left
          · (intro wS hSw; (try dsimp only at hSw); go_simp); all_goals (with_reducible rfl)
          simp only [Act.put, List.setIfInBounds_toArray, List.set_cons_zero, List.set_cons_succ]
          refine wpAnyH_take (i := 8) (oi := ⟨some 19, _, _, _, _, _⟩) (v := ?_) rfl (by kernel_rfl) (by kernel_rfl) (by kernel_rfl) (fun _ _ _ h => h) (Or.inl ⟨by rfl, ?_⟩) (by assumption) ?_
          rotate_left
          · (intro wS hSw; (try dsimp only at hSw); go_simp); all_goals (with_reducible rfl)
          simp only [Act.put, List.setIfInBounds_toArray, List.set_cons_zero, List.set_cons_succ]
          refine wpAnyH_take (i := 9) (oi := ⟨some 20, _, _, _, _, _⟩) (v := ?_) rfl (by kernel_rfl) (by kernel_rfl) (by kernel_rfl) (fun _ _ _ h => h) (Or.inl ⟨by rfl, ?_⟩) (by assumption) ?_
          rotate_left
          · (intro wS hSw; (try dsimp only at hSw); go_simp); all_goals (with_reducible rfl)
          simp only [Act.put, List.setIfInBounds_toArray, List.set_cons_zero, List.set_cons_succ]
          refine wpAnyH_take (i := 10) (oi := ⟨some 21, _, _, _, _, _⟩) (v := ?_) rfl (by kernel_rfl) (by kernel_rfl) (by kernel_rfl) (fun _ _ _ h => h) (Or.inl ⟨by rfl, ?_⟩) (by assumption) ?_
          rotate_left
          · (intro wS hSw; (try dsimp only at hSw); go_simp); all_goals (with_reducible rfl)
          simp only [Act.put, List.setIfInBounds_toArray, List.set_cons_zero, List.set_cons_succ]
          refine wpAnyH_take (i := 11) (oi := ⟨some 22, _, _, _, _, _⟩) (v := ?_) rfl (by kernel_rfl) (by kernel_rfl) (by kernel_rfl) (fun _ _ _ h => h) (Or.inl ⟨by rfl, ?_⟩) (by assumption) ?_
          rotate_left
          · (intro wS hSw; (try dsimp only at hSw); go_simp); all_goals (with_reducible rfl)
          simp only [Act.put, List.setIfInBounds_toArray, List.set_cons_zero, List.set_cons_succ]
          refine wpAnyH_ready (rs := [6, 12]) (by kernel_rfl) (by simp) ?_
          refine AllReadyH.cons (o := ⟨some 17, _, _, _, _, _⟩) rfl (fun K hK => ?_) (AllReadyH.cons (o := ⟨some 23, _, _, _, _, _⟩) rfl (fun K hK => ?_) AllReadyH.nil)
          · go_simp
            refine (rshort_any A3 c3 R wr.heap.size f.name _ L3d.out (by show wr.heap.size ≤ wr.heap.size; exact Nat.le_refl _) (by omega)).mono ?_
            rintro e w1 ⟨v1, rfl, hown1, hb1⟩
            have hb1' : Below wr.heap.size wr w1 := (Below.refl _ wr).drew.trans hb1
            have HB1 := Lib.hid hb1'
            have hz1 := hb1'.size
            have hbx := Lib.hid (hb1'.alloc hz1 (.cells #[.int .u8 (f.kind.toNat : Int)] 5))
            have HO1 := Lib.hid (own_base (b' := wr.heap.size) hown1 (Nat.le_refl _))
            clear hown1 hb1 hb1'
            go_wp2_with fail
            refine hK.out _ _ ?_ (fun hHeld => ?_)
            · exact HK.out _ (HB1.out.mono (by omega))
            clear hK K
            try simp only [Act.put, List.setIfInBounds_toArray, List.set_cons_zero, List.set_cons_succ]
            refine wpAnyH_ready (rs := [12]) (by kernel_rfl) (by simp) ?_
            refine AllReadyH.cons (o := ⟨some 23, _, _, _, _, _⟩) rfl (fun K hK => ?_) AllReadyH.nil
            go_simp
            go_wp2_with fail
            refine hK.out _ _ ?_ (fun hHeld2 => ?_)
            · exact HK.out _ (hbx.out.mono (by omega))
            clear hK K
            try simp only [Act.put, List.setIfInBounds_toArray, List.set_cons_zero, List.set_cons_succ]
            refine wpAnyH_ready (rs := [13]) (by kernel_rfl) (by simp) ?_
            refine AllReadyH.cons (o := ⟨some 24, _, _, _, _, _⟩) rfl (fun K hK => ?_) AllReadyH.nil
            refine step_append_cells rfl _ _ 24 rfl wr.heap.size 5 i0 (.int .u8 0) 1 1 Tryd.underlying24 HI.out H0.out H1.out H2.out rfl (by omega) v1 _ _ (by rfl) (HO1.out.alloc _) (w1.heap.size + 1) _ 1 1 [.int .u8 (f.kind.toNat : Int)] (by rfl) (Lies.one w1 5 _) rfl HONE.out (room63 HLN.out) (room1 HLN.out) (by simp; omega) ?_
            intro v2 w2 hown2 hb2
            have HO2 := Lib.hid hown2
            have HB2 := Lib.hid (hbx.out.trans hb2)
            clear hown2 hb2
            refine hK.out _ _ ?_ (fun hHeld3 => ?_)
            · exact HK.out _ (HB2.out.mono (by omega))
            clear hK K
            try simp only [Act.put, List.setIfInBounds_toArray, List.set_cons_zero, List.set_cons_succ]
            refine wpAnyH_take (i := 14) (oi := ⟨some 3, _, _, _, _, _⟩) (v := ?_) rfl (by kernel_rfl) (by kernel_rfl) (by kernel_rfl) (fun _ _ _ h => h) (Or.inl ⟨by rfl, ?_⟩) (by assumption) ?_
            rotate_left
            · (intro wS hSw; (try dsimp only at hSw); go_simp); all_goals (with_reducible rfl)
            simp only [Act.put, List.setIfInBounds_toArray, List.set_cons_zero, List.set_cons_succ]
            refine wpAnyH_done (by kernel_rfl) ?_ _
            go_wp2_with fail
            go_meet
            exact HNEW.out _ _ HO2.out HB2.out
          · go_simp
            go_wp2_with fail
            refine hK.out _ _ ?_ (fun hHeld => ?_)
            · exact HK.out _ (hbx0.out.mono (by omega))
            clear hK K
            try simp only [Act.put, List.setIfInBounds_toArray, List.set_cons_zero, List.set_cons_succ]
            refine wpAnyH_ready (rs := [6]) (by kernel_rfl) (by simp) ?_
            refine AllReadyH.cons (o := ⟨some 17, _, _, _, _, _⟩) rfl (fun K hK => ?_) AllReadyH.nil
            go_simp
            refine (rshort_any A3 c3 R wr.heap.size f.name _ L3x.out (by simp) (by omega)).mono ?_
            rintro e w1 ⟨v1, rfl, hown1, hb1⟩
            have hb1' : Below wr.heap.size wr w1 := hbx0.out.trans (hb1.mono (by simp))
            have HB1 := Lib.hid hb1'
            have hz1 := hb1'.size
            have LX := Lib.hid (Lies.below LX0.out (hb1.mono (by simp)))
            have HO1 := Lib.hid (own_base (b' := wr.heap.size) hown1 (by simp))
            clear hown1 hb1 hb1'
            go_wp2_with fail
            refine hK.out _ _ ?_ (fun hHeld2 => ?_)
            · exact HK.out _ (HB1.out.mono (by omega))
            clear hK K
            try simp only [Act.put, List.setIfInBounds_toArray, List.set_cons_zero, List.set_cons_succ]
            refine wpAnyH_ready (rs := [13]) (by kernel_rfl) (by simp) ?_
            refine AllReadyH.cons (o := ⟨some 24, _, _, _, _, _⟩) rfl (fun K hK => ?_) AllReadyH.nil
            refine step_append_cells rfl _ _ 24 rfl wr.heap.size 5 i0 (.int .u8 0) 1 1 Tryd.underlying24 HI.out H0.out H1.out H2.out rfl (by omega) v1 _ _ (by rfl) HO1.out (wr.heap.size + 1) _ 1 1 [.int .u8 (f.kind.toNat : Int)] (by rfl) LX.out rfl HONE.out (room63 HLN.out) (room1 HLN.out) hz1 ?_
            intro v2 w2 hown2 hb2
            have HO2 := Lib.hid hown2
            have HB2 := Lib.hid (HB1.out.trans hb2)
            clear hown2 hb2
            refine hK.out _ _ ?_ (fun hHeld3 => ?_)
            · exact HK.out _ (HB2.out.mono (by omega))
            clear hK K
            try simp only [Act.put, List.setIfInBounds_toArray, List.set_cons_zero, List.set_cons_succ]
            refine wpAnyH_take (i := 14) (oi := ⟨some 3, _, _, _, _, _⟩) (v := ?_) rfl (by kernel_rfl) (by kernel_rfl) (by kernel_rfl) (fun _ _ _ h => h) (Or.inl ⟨by rfl, ?_⟩) (by assumption) ?_
            rotate_left
            · (intro wS hSw; (try dsimp only at hSw); go_simp); all_goals (with_reducible rfl)
            simp only [Act.put, List.setIfInBounds_toArray, List.set_cons_zero, List.set_cons_succ]
            refine wpAnyH_done (by kernel_rfl) ?_ _
            go_wp2_with fail
            go_meet
            exact HNEW.out _ _ HO2.out HB2.out
        case rest =>
          obtain ⟨v1, hv, hown, hb1⟩ := hcut
          cases hv
          obtain ⟨A1, c1', rfl, _, _⟩ := own_form hown
          have L1 := Lib.hid (Lies.own hown (Nat.le_refl wc.heap.size))
          have LD : Hid (∀ w4, Below wc.heap.size wc w4 → Lies w4 w4.heap.size A1 (B8 TT)) := Lib.hid (fun w4 h => Lies.own (own_below hown h) (Nat.le_refl _))
          have hszc := hb1.size
          have HBW := Lib.hid (HB.out.trans (hb1.mono hsz))
          have HO1 := Lib.hid (own_base (b' := w.heap.size) hown hsz)
          have ce : ∀ i u, (cellsF (.slice A' f.t.length c') f)[i]? = some u → wc.cell? ⟨b, o + j * 5 + i, none⟩ = some u := fun i u h => by rw [Nat.add_assoc]; exact (hb1.cell (p := ⟨b, o + (j * 5 + i), none⟩) (by show b < _; omega)).trans (HC.out i u h)
          have d1 : wc.cell? ⟨b, o + j * 5 + 1, none⟩ = some (.int .u8 (f.kind.toNat : Int)) := ce 1 _ rfl
          have d2 : wc.cell? ⟨b, o + j * 5 + 2, none⟩ = some (.int .i64 f.n) := ce 2 _ rfl
          have d3 : wc.cell? ⟨b, o + j * 5 + 3, none⟩ = some (.string ⟨f.s.toArray⟩) := ce 3 _ rfl
          have d4 : wc.cell? ⟨b, o + j * 5 + 4, none⟩ = some (.slice A' f.t.length c') := ce 4 _ rfl
          have HFE : Hid ((l.take (j + 1)).flatMap (rowOf (rowsD k)) = TT ++ tailOf (rowsD k) f) := Lib.hid (by rw [HFL.out, HTT.out]; simp [rowOf, List.append_assoc])
          have hTl2 : TT.length ≤ 70368744177664 + 300 := by omega
          have HTW := Lib.hid (HTB.out.below (hb1.mono (by omega)))
          have HRO1 := HRO.out
          have HTL := Lib.hid hTl
          have hfnl : f.name.length ≤ 128 := hnp.2
          have hRl : R.length + 2 + f.name.length + sizeK f.kind f.s.length ≤ 70368744177664 := by unfold sizeN at hszn; omega
          have HRL := Lib.hid hRl
          clear ce hown hb1 hTl HRO1 hx1 hszn hnp hrl hRl
          rcases kind_cases f.kind with hc | hc | hc | hc | hc | hc | hc
          · have k1 : wc.cell? ⟨b, o + j * 5 + 1, none⟩ = some (.int .u8 116) := by rw [d1, hc]; rfl
            have HT2 : Hid ((l.take (j + 1)).flatMap (rowOf (rowsD k)) = TT ++ be 1 (Go.Proofs.YtlfppfknelddcaaDoor.u64 f.n)) := Lib.hid (by rw [HFE.out]; unfold tailOf; simp [hc])
            clear d1 hc
            go_wp2_with fail
            rw [u64_wrap]
            refine (put_any A1 c1' TT wc.heap.size 1 (Go.Proofs.YtlfppfknelddcaaDoor.u64 f.n) _ L1.out (Nat.le_refl _) (by omega) (by omega) (by omega)).mono ?_
            rintro e w2 ⟨v2, rfl, hown2, hb2⟩
            have HB2 := Lib.hid (HBW.out.trans (hb2.mono (by omega)))
            have HO2 := Lib.hid (own_base (b' := w.heap.size) hown2 (by omega))
            clear hown2 hb2
            go_wp2_with fail
            go_roundw
            case rel =>
              refine ⟨j + 1, by omega, by go_num, HB2.out, ?_⟩
              rw [HT2.out]
              exact HO2.out
            case measure => simp [intOf]; omega
          · have k1 : wc.cell? ⟨b, o + j * 5 + 1, none⟩ = some (.int .u8 73) := by rw [d1, hc]; rfl
            have HT2 : Hid ((l.take (j + 1)).flatMap (rowOf (rowsD k)) = TT ++ be 4 (Go.Proofs.YtlfppfknelddcaaDoor.u64 f.n)) := Lib.hid (by rw [HFE.out]; unfold tailOf; simp [hc])
            clear d1 hc
            go_wp2_with fail
            rw [u64_wrap]
            refine (put_any A1 c1' TT wc.heap.size 4 (Go.Proofs.YtlfppfknelddcaaDoor.u64 f.n) _ L1.out (Nat.le_refl _) (by omega) (by omega) (by omega)).mono ?_
            rintro e w2 ⟨v2, rfl, hown2, hb2⟩
            have HB2 := Lib.hid (HBW.out.trans (hb2.mono (by omega)))
            have HO2 := Lib.hid (own_base (b' := w.heap.size) hown2 (by omega))
            clear hown2 hb2
            go_wp2_with fail
            go_roundw
            case rel =>
              refine ⟨j + 1, by omega, by go_num, HB2.out, ?_⟩
              rw [HT2.out]
              exact HO2.out
            case measure => simp [intOf]; omega
          · have k1 : wc.cell? ⟨b, o + j * 5 + 1, none⟩ = some (.int .u8 108) := by rw [d1, hc]; rfl
            have HT2 : Hid ((l.take (j + 1)).flatMap (rowOf (rowsD k)) = TT ++ be 8 (Go.Proofs.YtlfppfknelddcaaDoor.u64 f.n)) := Lib.hid (by rw [HFE.out]; unfold tailOf; simp [hc])
            clear d1 hc
            go_wp2_with fail
            rw [u64_wrap]
            refine (put_any A1 c1' TT wc.heap.size 8 (Go.Proofs.YtlfppfknelddcaaDoor.u64 f.n) _ L1.out (Nat.le_refl _) (by omega) (by omega) (by omega)).mono ?_
            rintro e w2 ⟨v2, rfl, hown2, hb2⟩
            have HB2 := Lib.hid (HBW.out.trans (hb2.mono (by omega)))
            have HO2 := Lib.hid (own_base (b' := w.heap.size) hown2 (by omega))
            clear hown2 hb2
            go_wp2_with fail
            go_roundw
            case rel =>
              refine ⟨j + 1, by omega, by go_num, HB2.out, ?_⟩
              rw [HT2.out]
              exact HO2.out
            case measure => simp [intOf]; omega
          · have k1 : wc.cell? ⟨b, o + j * 5 + 1, none⟩ = some (.int .u8 83) := by rw [d1, hc]; rfl
            have HT2 : Hid ((l.take (j + 1)).flatMap (rowOf (rowsD k)) = TT ++ (be 4 f.s.length ++ f.s)) := Lib.hid (by rw [HFE.out]; unfold tailOf; simp [hc])
            have hsl : TT.length + f.s.length + 8 ≤ 140737488355328 := by
              have h1 : sizeK f.kind f.s.length = 4 + f.s.length := by unfold sizeK; simp [hc]
              have := HRL.out
              have := HTL.out
              omega
            have cv := Lib.run_convert_string_bytes (P := Tryd.prog) wc 9 24 5 ⟨f.s.toArray⟩ Tryd.underlying9 Tryd.underlying24 Tryd.underlying5
            have LS := Lib.hid (bytes_lie wc 5 f.s)
            have BS := Lib.hid (bytes_below wc 5 ⟨f.s.toArray⟩)
            have HSZ : Hid ((Lib.bytesWorld wc 5 ⟨f.s.toArray⟩).heap.size = wc.heap.size + 1) := Lib.hid (Lib.bytesWorld_size _ _ _)
            generalize Lib.bytesWorld wc 5 ⟨f.s.toArray⟩ = w3 at *
            generalize grownCap wc (ByteArray.size ⟨f.s.toArray⟩) 0 5 = c3 at *
            clear d1 hc
            go_wp2_with fail
            have hz3 := HSZ.out
            have L3 : Lies w3 w3.heap.size A1 (B8 TT) := LD.out _ (BS.out.mono (by omega))
            refine (rlong_any A1 c1' TT w3.heap.size _ c3 f.s _ L3 (by rw [hz3]; exact LS.out) (by omega) hsl).mono ?_
            rintro e w2 ⟨v2, rfl, hown2, hb2⟩
            have HB2 := Lib.hid ((HBW.out.trans (BS.out.mono (by omega))).trans (hb2.mono (by omega)))
            have HO2 : Hid (w2.ownsRow w.heap.size 5 1 v2 (TT ++ (be 4 f.s.length ++ f.s)).length (B8 (TT ++ (be 4 f.s.length ++ f.s)))) := Lib.hid (by rw [← List.append_assoc]; exact own_base hown2 (by omega))
            clear hown2 hb2
            go_wp2_with fail
            go_roundw
            case rel =>
              refine ⟨j + 1, by omega, by go_num, HB2.out, ?_⟩
              rw [HT2.out]
              exact HO2.out
            case measure => simp [intOf]; omega
          · obtain ⟨V, hV⟩ : ∃ V, V = rowsD k f.t := ⟨_, rfl⟩
            have hvl : V.length ≤ 70368744177664 - TT.length := by
              have h1 := HX.out (j + 1)
              rw [HFL.out, List.length_append, HRO.out, if_pos hc, ← hV] at h1
              have h2 := HTL.out
              have h3 : sizeN f = 2 + f.name.length + 4 := by unfold sizeN sizeK; simp [hc]
              omega
            have HV := Lib.hid hV
            have k1 : wc.cell? ⟨b, o + j * 5 + 1, none⟩ = some (.int .u8 70) := by rw [d1, hc]; rfl
            have HT2 : Hid ((l.take (j + 1)).flatMap (rowOf (rowsD k)) = TT ++ (be 4 V.length ++ V)) := Lib.hid (by rw [HFE.out]; unfold tailOf; simp [hc, hV])
            have HF70 := Lib.hid (HKK.out hc)
            clear d1 hV hc
            go_wp2_with fail
            refine (IH.out f.t A' c' d B _ HF70.out HTW.out (by omega) (by rw [← HV.out]; omega)).mono ?_
            rw [← HV.out]
            rintro e w4 ⟨v4, rfl, hown4, hb4⟩
            obtain ⟨A4, c4, rfl, _, _⟩ := own_form hown4
            have L4 := Lib.hid (Lies.own hown4 (Nat.le_refl w4.heap.size))
            have hz4 := hb4.size
            have HB4 := Lib.hid (HBW.out.trans (hb4.mono (by omega)))
            have L5 := Lib.hid (LD.out _ hb4)
            clear hown4 hb4
            go_wp2_with fail
            refine (rlong_any A1 c1' TT w4.heap.size A4 c4 V _ L5.out L4.out (Nat.le_refl _) (by omega)).mono ?_
            rintro e w2 ⟨v2, rfl, hown2, hb2⟩
            have HB2 := Lib.hid (HB4.out.trans (hb2.mono (by omega)))
            have HO2 : Hid (w2.ownsRow w.heap.size 5 1 v2 (TT ++ (be 4 V.length ++ V)).length (B8 (TT ++ (be 4 V.length ++ V)))) := Lib.hid (by rw [← List.append_assoc]; exact own_base hown2 (by omega))
            clear hown2 hb2
            go_wp2_with fail
            go_roundw
            case rel =>
              refine ⟨j + 1, by omega, by go_num, HB2.out, ?_⟩
              rw [HT2.out]
              exact HO2.out
            case measure => simp [intOf]; omega
          · have k1 : wc.cell? ⟨b, o + j * 5 + 1, none⟩ = some (.int .u8 86) := by rw [d1, hc]; rfl
            have HT2 : Hid ((l.take (j + 1)).flatMap (rowOf (rowsD k)) = TT ++ []) := Lib.hid (by rw [HFE.out]; unfold tailOf; simp [hc])
            have HB2 := HBW
            have HO2 : Hid (wc.ownsRow w.heap.size 5 1 (.slice A1 TT.length c1') (TT ++ []).length (B8 (TT ++ []))) := Lib.hid (by rw [List.append_nil]; exact HO1.out)
            clear d1 hc
            go_wp2_with fail
            go_roundw
            case rel =>
              refine ⟨j + 1, by omega, by go_num, HB2.out, ?_⟩
              rw [HT2.out]
              exact HO2.out
            case measure => simp [intOf]; omega
          · obtain ⟨a1, a2, a3, a4, a5, a6⟩ := hc
            have HKC := may_kind f HM.out
            unfold kindB at HKC
            simp [a1, a2, a3, a4, a5, a6] at HKC
      · obtain rfl : j = l.length := by omega
        go_wp2_with fail
        go_ret
        exact HD.out _ _ HO.out HB.out
end
section
open Go.RowKit
set_option maxRecDepth 100000

set_option maxHeartbeats 400000 in
set_option maxRecDepth 100000 in
theorem tableok_any (l : List Fld) (A : Option Addr) (c d B : Nat) (w : World) (ht : TabAt d w B l A c) (hB : B ≤ w.heap.size) (hx : formedB 8 l = true → (rowsD 8 l).length ≤ 70368744177664) :
    Calls Tryd.prog 36 #[.slice A l.length c] w fun e w' => e = .returned (.bool (okB l)) ∧ Below w.heap.size w w' := by
  have HT := Lib.hid ht
  have HX := Lib.hid hx
  have HO : Hid (okB l = (formedB 8 l && decide ((rowsD 8 l).length ≤ 2000))) := Lib.hid rfl
  have HW : Hid (formedB 8 l = true → weightD 8 l ≤ 2000 → (rowsD 8 l).length ≤ weightD 8 l) := Lib.hid (weight_rows 8 l)
  obtain ⟨ok, hok⟩ : ∃ ok, ok = okB l := ⟨_, rfl⟩
  rw [← hok]
  rw [← hok] at HO
  clear ht hx hok
  go_enter Tryd.func36, Tryd.ntmps36
  go_wp2_with fail
  refine (formed_any 8 l A c d B 1 _ (by omega) (by omega) HT.out hB).mono ?_
  rintro e w1 ⟨rfl, hb1⟩
  have HB1 := Lib.hid hb1
  have hz1 := hb1.size
  clear hb1
  cases hf : formedB 8 l with
  | false =>
    have D : Hid (ok = false) := Lib.hid (by rw [HO.out, hf]; rfl)
    clear hf
    go_wp2_with fail
    go_ret
    exact ⟨by rw [D.out]; rfl, HB1.out⟩
  | true =>
    have HF := Lib.hid hf
    have hr := HX.out hf
    obtain ⟨V, hV⟩ : ∃ V, V = weightD 8 l := ⟨_, rfl⟩
    obtain ⟨R, hR⟩ : ∃ R, R = rowsD 8 l := ⟨_, rfl⟩
    have HV := Lib.hid hV
    have HR := Lib.hid hR
    rw [← hR] at hr
    have HWR : Hid (V ≤ 2000 → R.length ≤ V) := Lib.hid (by rw [hV, hR]; exact HW.out hf)
    have HOK : Hid (ok = decide (R.length ≤ 2000)) := Lib.hid (by rw [HO.out, hf, hR]; rfl)
    clear hf hV hR
    go_wp2_with fail
    refine (weight_any 8 l A c d B 1 _ (by omega) (by omega) (HT.out.below (HB1.out.mono hB))).mono ?_
    rintro e w2 ⟨rfl, q, rfl⟩
    rw [← HV.out]
    have HB2 := Lib.hid (below_drewN HB1.out q)
    by_cases h9 : V ≤ 1900
    · have D : Hid (ok = true) := Lib.hid (by rw [HOK.out]; exact decide_eq_true (Nat.le_trans (HWR.out (by omega)) (by omega)))
      have h9' : (V : Int) ≤ 1900 := by omega
      clear h9
      go_wp2_with fail
      go_ret
      exact ⟨by rw [D.out]; rfl, HB2.out⟩
    · have h9' : (1900 : Int) < (V : Int) := by omega
      have hzq := HB2.out.size
      clear h9
      go_wp2_with fail
      refine (rrows_any 8 l A c d B _ HF.out (HT.out.below (HB2.out.mono hB)) (by omega) (by rw [← HR.out]; exact hr)).mono ?_
      rw [← HR.out]
      rintro e w3 ⟨v3, rfl, hown3, hb3⟩
      obtain ⟨A3, c3, rfl, _, _⟩ := own_form hown3
      have HB3 := Lib.hid (HB2.out.trans (hb3.mono (by omega)))
      clear hown3 hb3
      by_cases h2 : R.length ≤ 2000
      · have D : Hid (ok = true) := Lib.hid (by rw [HOK.out]; exact decide_eq_true h2)
        have h2' : (R.length : Int) ≤ 2000 := by omega
        clear h2
        go_wp2_with fail
        go_ret
        exact ⟨by rw [D.out]; rfl, HB3.out⟩
      · have D : Hid (ok = false) := Lib.hid (by rw [HOK.out]; exact decide_eq_false h2)
        have h2' : (2000 : Int) < (R.length : Int) := by omega
        clear h2
        go_wp2_with fail
        go_ret
        refine ⟨?_, HB3.out⟩
        rw [D.out]
        show Ending.returned (Value.bool (decide ((V : Int) ≤ 1900) || decide ((R.length : Int) ≤ 2000))) = _
        rw [decide_eq_false (Int.not_le.mpr h2'), decide_eq_false (Int.not_le.mpr h9')]
        rfl
end
end Go.Proofs.YtlfppfknelddcaaDoor
