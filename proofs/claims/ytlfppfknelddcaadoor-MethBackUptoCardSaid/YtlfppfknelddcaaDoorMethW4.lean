/- Contracts of the writer of package meth: a table that may be. Contracts of the writer of package meth: a table that may not be. -/
import Derived.Test.YtlfppfknelddcaaDoorMethW2
import Derived.RegionTactic
import Derived.Deep.RegionWith
namespace Go.Proofs.YtlfppfknelddcaaDoor
section
open Go.RowKit
set_option maxRecDepth 100000
set_option linter.unusedSimpArgs false
set_option linter.unusedVariables false

theorem wtable_done {base g : Nat} {p : Parts} {c i : Int} {w w1 w2 : World} {vb vN vS vF vT v : Value} {Z : List UInt8} {bad bad' : Bool} {sz : Nat} (hw : Whole w2 g 85 #[vb, .int .i64 c, .int .i64 i, vN, vS, vF, vT, .bool bad]) (hp : PartsAt w1 base p vN vS vF vT) (hbg : base ≤ g) (h1 : Below base w w1) (hB : base ≤ sz)
    (hb : Below base w1 w2) (ho : w2.ownsRow sz 5 1 v Z.length (B8 Z)) :
    Wrote base g { b := Z, p := p, bad := bad' } c i w (.returned (.tuple #[])) ((w2.setCell ⟨g, 0, none⟩ v).setCell ⟨g, 7, none⟩ (.bool bad')) := by
  have hne := own_type ho hw (by decide)
  have ho1 := ownsRow_setCell_other (a := ⟨g, 0, none⟩) ho hne v
  have ho2 := ownsRow_setCell_other (a := ⟨g, 7, none⟩) ho1 hne (.bool bad')
  have hw3 := (hw.set8 0 v rfl).set8 7 (.bool bad') rfl
  have hbb := (hb.setCell (p := ⟨g, 0, none⟩) hbg v).setCell (p := ⟨g, 7, none⟩) hbg (.bool bad')
  exact ⟨rfl, ⟨v, vN, vS, vF, vT, hw3, own_base ho2 hB, hp.below hbb, hbg⟩, h1.trans hbb⟩
theorem appB_len (t : List Fld) : (appB [] t).length ≤ 2000 := by
  unfold appB
  split
  · rename_i h
    rw [List.nil_append]
    exact (okB_parts h).2
  · simp

set_option maxHeartbeats 4000000 in
theorem wtable_tf (base g : Nat) (st : WS) (c i : Int) (w : World) (t : List Fld) (At : Option Addr) (ct dt : Nat) (h : WAt w base g st c i) (hB : base ≤ w.heap.size) (hs : st.b.length + 4096 ≤ 140737488355328) (ht : TabAt dt w base t At ct) (hok : okB t = true) (hbad : st.bad = false) :
    Calls Tryd.prog 57 #[.pointer (some ⟨g, 0, none⟩), .slice At t.length ct] w (Wrote base g { st with b := st.b ++ be 4 (appB [] t).length ++ appB [] t, bad := st.bad || !okB t } c i w) := by
  obtain ⟨vb, vN, vS, vF, vT, hw, hown, hp, hbg⟩ := h
  obtain ⟨A, cp, rfl, hcp, hcm⟩ := own_form hown
  rw [hok, hbad, show (false || !true) = false from rfl]
  rw [hbad] at hw
  have hl := Lies.own hown (Nat.le_refl _)
  have hlen := appB_len t
  obtain ⟨X, hX⟩ : ∃ X, X = appB [] t := ⟨_, rfl⟩
  rw [← hX] at hlen ⊢
  obtain ⟨Z, hZ⟩ : ∃ Z, Z = st.b ++ be 4 X.length ++ X := ⟨_, rfl⟩
  rw [← hZ]
  have HX := Lib.hid hX
  have HZ := Lib.hid hZ
  have HW := Lib.hid hw
  have HO := Lib.hid hown
  have HP := Lib.hid hp
  have HL := Lib.hid hl
  have HT := Lib.hid ht
  have HOK := Lib.hid hok
  clear hX hZ hw hown hp hl ht hok hcp hcm
  go_enter Tryd.func57, Tryd.ntmps57
  go_wp2_with fail
  refine (append_any none 0 [] base At ct dt t _ (Lies.empty _ _ _) hB HT.out (by simp)).mono ?_
  rw [← HX.out, HOK.out]
  rintro e w1 ⟨v, rfl, ho, hb⟩
  obtain ⟨Av, cv, rfl, _, _⟩ := own_form ho
  have hk1 := HW.out.below hb HW.out.lt
  have hl1 := (HL.out.below hb).more hb.size
  have hx1 := Lies.own ho (Nat.le_refl _)
  have g0 : w1.cell? ⟨g, 0, none⟩ = some (.slice A st.b.length cp) := hk1.cell 0
  have g7 : w1.cell? ⟨g, 7, none⟩ = some (.bool false) := hk1.cell 7
  have f0 := hk1.frozen 0
  have f7 := hk1.frozen 7
  have hs1 := hb.size
  have hp1 := HP.out.below (hb.mono hB)
  obtain ⟨wd, hwd⟩ : ∃ wd, wd = w1.drew := ⟨_, rfl⟩
  have HKD : Hid (Whole wd g 85 #[.slice A st.b.length cp, .int .i64 c, .int .i64 i, vN, vS, vF, vT, .bool false]) := Lib.hid (by rw [hwd]; exact hk1)
  have HLD : Hid (Lies wd w1.heap.size A (B8 st.b)) := Lib.hid (by rw [hwd]; exact hl1)
  have HXD : Hid (Lies wd w1.heap.size Av (B8 X)) := Lib.hid (by rw [hwd]; exact hx1)
  have HSD : Hid (wd.heap.size = w1.heap.size) := Lib.hid (by rw [hwd]; rfl)
  have HBD : Hid (Below base w wd) := Lib.hid (by rw [hwd]; exact (hb.mono hB).drew)
  have HPD : Hid (PartsAt wd base st.p vN vS vF vT) := Lib.hid (hp1.below (by rw [hwd]; exact (Below.refl _ _).drew))
  have HWD := Lib.hid hwd
  have HBZ : Hid (base ≤ w1.heap.size) := Lib.hid (by omega)
  clear ho hb hk1 hwd hl1 hx1 hp1
  go_wp2_with fail
  first | go_region_with (go_at_call 54; rw [← HWD.out]; refine (long_any A cp st.b w1.heap.size Av cv X _ HLD.out HXD.out (by rw [HSD.out]; exact Nat.le_refl _) (by omega)).mono ?_; rw [← HZ.out]; rintro e w2 ⟨v2, rfl, ho2, hb2⟩; obtain ⟨A2, c2, rfl, _, _⟩ := own_form ho2; rw [HSD.out] at hb2 ho2; have hk2 := HKD.out.below hb2 (by have := HKD.out.lt; rw [HSD.out] at this; exact this); have d0 : w2.cell? ⟨g, 0, none⟩ = some (.slice A st.b.length cp) := hk2.cell 0; have d7 : w2.cell? ⟨g, 7, none⟩ = some (.bool false) := hk2.cell 7; have e0 := hk2.frozen 0; have e7 := hk2.frozen 7; have HK2 := Lib.hid hk2; have HO2 := Lib.hid ho2; have HB2 := Lib.hid (hb2.mono HBZ.out); clear ho2 hb2 hk2) | fail
  all_goals
    go_wp2_with fail
    go_end0
    exact wtable_done HK2.out HPD.out hbg HBD.out HBZ.out HB2.out HO2.out

set_option maxHeartbeats 4000000 in
theorem wtable_tt (base g : Nat) (st : WS) (c i : Int) (w : World) (t : List Fld) (At : Option Addr) (ct dt : Nat) (h : WAt w base g st c i) (hB : base ≤ w.heap.size) (hs : st.b.length + 4096 ≤ 140737488355328) (ht : TabAt dt w base t At ct) (hok : okB t = true) (hbad : st.bad = true) :
    Calls Tryd.prog 57 #[.pointer (some ⟨g, 0, none⟩), .slice At t.length ct] w (Wrote base g { st with b := st.b ++ be 4 (appB [] t).length ++ appB [] t, bad := st.bad || !okB t } c i w) := by
  obtain ⟨vb, vN, vS, vF, vT, hw, hown, hp, hbg⟩ := h
  obtain ⟨A, cp, rfl, hcp, hcm⟩ := own_form hown
  rw [hok, hbad, show (true || !true) = true from rfl]
  rw [hbad] at hw
  have hl := Lies.own hown (Nat.le_refl _)
  have hlen := appB_len t
  obtain ⟨X, hX⟩ : ∃ X, X = appB [] t := ⟨_, rfl⟩
  rw [← hX] at hlen ⊢
  obtain ⟨Z, hZ⟩ : ∃ Z, Z = st.b ++ be 4 X.length ++ X := ⟨_, rfl⟩
  rw [← hZ]
  have HX := Lib.hid hX
  have HZ := Lib.hid hZ
  have HW := Lib.hid hw
  have HO := Lib.hid hown
  have HP := Lib.hid hp
  have HL := Lib.hid hl
  have HT := Lib.hid ht
  have HOK := Lib.hid hok
  clear hX hZ hw hown hp hl ht hok hcp hcm
  go_enter Tryd.func57, Tryd.ntmps57
  go_wp2_with fail
  refine (append_any none 0 [] base At ct dt t _ (Lies.empty _ _ _) hB HT.out (by simp)).mono ?_
  rw [← HX.out, HOK.out]
  rintro e w1 ⟨v, rfl, ho, hb⟩
  obtain ⟨Av, cv, rfl, _, _⟩ := own_form ho
  have hk1 := HW.out.below hb HW.out.lt
  have hl1 := (HL.out.below hb).more hb.size
  have hx1 := Lies.own ho (Nat.le_refl _)
  have g0 : w1.cell? ⟨g, 0, none⟩ = some (.slice A st.b.length cp) := hk1.cell 0
  have g7 : w1.cell? ⟨g, 7, none⟩ = some (.bool true) := hk1.cell 7
  have f0 := hk1.frozen 0
  have f7 := hk1.frozen 7
  have hs1 := hb.size
  have hp1 := HP.out.below (hb.mono hB)
  obtain ⟨wd, hwd⟩ : ∃ wd, wd = w1.drew := ⟨_, rfl⟩
  have HKD : Hid (Whole wd g 85 #[.slice A st.b.length cp, .int .i64 c, .int .i64 i, vN, vS, vF, vT, .bool true]) := Lib.hid (by rw [hwd]; exact hk1)
  have HLD : Hid (Lies wd w1.heap.size A (B8 st.b)) := Lib.hid (by rw [hwd]; exact hl1)
  have HXD : Hid (Lies wd w1.heap.size Av (B8 X)) := Lib.hid (by rw [hwd]; exact hx1)
  have HSD : Hid (wd.heap.size = w1.heap.size) := Lib.hid (by rw [hwd]; rfl)
  have HBD : Hid (Below base w wd) := Lib.hid (by rw [hwd]; exact (hb.mono hB).drew)
  have HPD : Hid (PartsAt wd base st.p vN vS vF vT) := Lib.hid (hp1.below (by rw [hwd]; exact (Below.refl _ _).drew))
  have HWD := Lib.hid hwd
  have HBZ : Hid (base ≤ w1.heap.size) := Lib.hid (by omega)
  clear ho hb hk1 hwd hl1 hx1 hp1
  go_wp2_with fail
  first | go_region_with (go_at_call 54; rw [← HWD.out]; refine (long_any A cp st.b w1.heap.size Av cv X _ HLD.out HXD.out (by rw [HSD.out]; exact Nat.le_refl _) (by omega)).mono ?_; rw [← HZ.out]; rintro e w2 ⟨v2, rfl, ho2, hb2⟩; obtain ⟨A2, c2, rfl, _, _⟩ := own_form ho2; rw [HSD.out] at hb2 ho2; have hk2 := HKD.out.below hb2 (by have := HKD.out.lt; rw [HSD.out] at this; exact this); have d0 : w2.cell? ⟨g, 0, none⟩ = some (.slice A st.b.length cp) := hk2.cell 0; have d7 : w2.cell? ⟨g, 7, none⟩ = some (.bool true) := hk2.cell 7; have e0 := hk2.frozen 0; have e7 := hk2.frozen 7; have HK2 := Lib.hid hk2; have HO2 := Lib.hid ho2; have HB2 := Lib.hid (hb2.mono HBZ.out); clear ho2 hb2 hk2) | fail
  all_goals
    go_wp2_with fail
    go_end0
    exact wtable_done HK2.out HPD.out hbg HBD.out HBZ.out HB2.out HO2.out
end
section
open Go.RowKit
set_option maxRecDepth 100000
set_option linter.unusedSimpArgs false
set_option linter.unusedVariables false

set_option maxHeartbeats 4000000 in
theorem wtable_ff (base g : Nat) (st : WS) (c i : Int) (w : World) (t : List Fld) (At : Option Addr) (ct dt : Nat) (h : WAt w base g st c i) (hB : base ≤ w.heap.size) (hs : st.b.length + 4096 ≤ 140737488355328) (ht : TabAt dt w base t At ct) (hok : okB t = false) (hbad : st.bad = false) :
    Calls Tryd.prog 57 #[.pointer (some ⟨g, 0, none⟩), .slice At t.length ct] w (Wrote base g { st with b := st.b ++ be 4 (appB [] t).length ++ appB [] t, bad := st.bad || !okB t } c i w) := by
  obtain ⟨vb, vN, vS, vF, vT, hw, hown, hp, hbg⟩ := h
  obtain ⟨A, cp, rfl, hcp, hcm⟩ := own_form hown
  rw [hok, hbad, show (false || !false) = true from rfl]
  rw [hbad] at hw
  have hl := Lies.own hown (Nat.le_refl _)
  have hlen := appB_len t
  obtain ⟨X, hX⟩ : ∃ X, X = appB [] t := ⟨_, rfl⟩
  rw [← hX] at hlen ⊢
  obtain ⟨Z, hZ⟩ : ∃ Z, Z = st.b ++ be 4 X.length ++ X := ⟨_, rfl⟩
  rw [← hZ]
  have HX := Lib.hid hX
  have HZ := Lib.hid hZ
  have HW := Lib.hid hw
  have HO := Lib.hid hown
  have HP := Lib.hid hp
  have HL := Lib.hid hl
  have HT := Lib.hid ht
  have HOK := Lib.hid hok
  clear hX hZ hw hown hp hl ht hok hcp hcm
  go_enter Tryd.func57, Tryd.ntmps57
  go_wp2_with fail
  refine (append_any none 0 [] base At ct dt t _ (Lies.empty _ _ _) hB HT.out (by simp)).mono ?_
  rw [← HX.out, HOK.out]
  rintro e w1 ⟨v, rfl, ho, hb⟩
  obtain ⟨Av, cv, rfl, _, _⟩ := own_form ho
  have hk1 := HW.out.below hb HW.out.lt
  have hl1 := (HL.out.below hb).more hb.size
  have hx1 := Lies.own ho (Nat.le_refl _)
  have g0 : w1.cell? ⟨g, 0, none⟩ = some (.slice A st.b.length cp) := hk1.cell 0
  have g7 : w1.cell? ⟨g, 7, none⟩ = some (.bool false) := hk1.cell 7
  have f0 := hk1.frozen 0
  have f7 := hk1.frozen 7
  have hs1 := hb.size
  have hp1 := HP.out.below (hb.mono hB)
  obtain ⟨wd, hwd⟩ : ∃ wd, wd = w1.drew := ⟨_, rfl⟩
  have HKD : Hid (Whole wd g 85 #[.slice A st.b.length cp, .int .i64 c, .int .i64 i, vN, vS, vF, vT, .bool false]) := Lib.hid (by rw [hwd]; exact hk1)
  have HLD : Hid (Lies wd w1.heap.size A (B8 st.b)) := Lib.hid (by rw [hwd]; exact hl1)
  have HXD : Hid (Lies wd w1.heap.size Av (B8 X)) := Lib.hid (by rw [hwd]; exact hx1)
  have HSD : Hid (wd.heap.size = w1.heap.size) := Lib.hid (by rw [hwd]; rfl)
  have HBD : Hid (Below base w wd) := Lib.hid (by rw [hwd]; exact (hb.mono hB).drew)
  have HPD : Hid (PartsAt wd base st.p vN vS vF vT) := Lib.hid (hp1.below (by rw [hwd]; exact (Below.refl _ _).drew))
  have HWD := Lib.hid hwd
  have HBZ : Hid (base ≤ w1.heap.size) := Lib.hid (by omega)
  clear ho hb hk1 hwd hl1 hx1 hp1
  go_wp2_with fail
  first | go_region_with (go_at_call 54; rw [← HWD.out]; refine (long_any A cp st.b w1.heap.size Av cv X _ HLD.out HXD.out (by rw [HSD.out]; exact Nat.le_refl _) (by omega)).mono ?_; rw [← HZ.out]; rintro e w2 ⟨v2, rfl, ho2, hb2⟩; obtain ⟨A2, c2, rfl, _, _⟩ := own_form ho2; rw [HSD.out] at hb2 ho2; have hk2 := HKD.out.below hb2 (by have := HKD.out.lt; rw [HSD.out] at this; exact this); have d0 : w2.cell? ⟨g, 0, none⟩ = some (.slice A st.b.length cp) := hk2.cell 0; have d7 : w2.cell? ⟨g, 7, none⟩ = some (.bool false) := hk2.cell 7; have e0 := hk2.frozen 0; have e7 := hk2.frozen 7; have HK2 := Lib.hid hk2; have HO2 := Lib.hid ho2; have HB2 := Lib.hid (hb2.mono HBZ.out); clear ho2 hb2 hk2) | fail
  all_goals
    go_wp2_with fail
    go_end0
    exact wtable_done HK2.out HPD.out hbg HBD.out HBZ.out HB2.out HO2.out

set_option maxHeartbeats 4000000 in
theorem wtable_ft (base g : Nat) (st : WS) (c i : Int) (w : World) (t : List Fld) (At : Option Addr) (ct dt : Nat) (h : WAt w base g st c i) (hB : base ≤ w.heap.size) (hs : st.b.length + 4096 ≤ 140737488355328) (ht : TabAt dt w base t At ct) (hok : okB t = false) (hbad : st.bad = true) :
    Calls Tryd.prog 57 #[.pointer (some ⟨g, 0, none⟩), .slice At t.length ct] w (Wrote base g { st with b := st.b ++ be 4 (appB [] t).length ++ appB [] t, bad := st.bad || !okB t } c i w) := by
  obtain ⟨vb, vN, vS, vF, vT, hw, hown, hp, hbg⟩ := h
  obtain ⟨A, cp, rfl, hcp, hcm⟩ := own_form hown
  rw [hok, hbad, show (true || !false) = true from rfl]
  rw [hbad] at hw
  have hl := Lies.own hown (Nat.le_refl _)
  have hlen := appB_len t
  obtain ⟨X, hX⟩ : ∃ X, X = appB [] t := ⟨_, rfl⟩
  rw [← hX] at hlen ⊢
  obtain ⟨Z, hZ⟩ : ∃ Z, Z = st.b ++ be 4 X.length ++ X := ⟨_, rfl⟩
  rw [← hZ]
  have HX := Lib.hid hX
  have HZ := Lib.hid hZ
  have HW := Lib.hid hw
  have HO := Lib.hid hown
  have HP := Lib.hid hp
  have HL := Lib.hid hl
  have HT := Lib.hid ht
  have HOK := Lib.hid hok
  clear hX hZ hw hown hp hl ht hok hcp hcm
  go_enter Tryd.func57, Tryd.ntmps57
  go_wp2_with fail
  refine (append_any none 0 [] base At ct dt t _ (Lies.empty _ _ _) hB HT.out (by simp)).mono ?_
  rw [← HX.out, HOK.out]
  rintro e w1 ⟨v, rfl, ho, hb⟩
  obtain ⟨Av, cv, rfl, _, _⟩ := own_form ho
  have hk1 := HW.out.below hb HW.out.lt
  have hl1 := (HL.out.below hb).more hb.size
  have hx1 := Lies.own ho (Nat.le_refl _)
  have g0 : w1.cell? ⟨g, 0, none⟩ = some (.slice A st.b.length cp) := hk1.cell 0
  have g7 : w1.cell? ⟨g, 7, none⟩ = some (.bool true) := hk1.cell 7
  have f0 := hk1.frozen 0
  have f7 := hk1.frozen 7
  have hs1 := hb.size
  have hp1 := HP.out.below (hb.mono hB)
  obtain ⟨wd, hwd⟩ : ∃ wd, wd = w1.drew := ⟨_, rfl⟩
  have HKD : Hid (Whole wd g 85 #[.slice A st.b.length cp, .int .i64 c, .int .i64 i, vN, vS, vF, vT, .bool true]) := Lib.hid (by rw [hwd]; exact hk1)
  have HLD : Hid (Lies wd w1.heap.size A (B8 st.b)) := Lib.hid (by rw [hwd]; exact hl1)
  have HXD : Hid (Lies wd w1.heap.size Av (B8 X)) := Lib.hid (by rw [hwd]; exact hx1)
  have HSD : Hid (wd.heap.size = w1.heap.size) := Lib.hid (by rw [hwd]; rfl)
  have HBD : Hid (Below base w wd) := Lib.hid (by rw [hwd]; exact (hb.mono hB).drew)
  have HPD : Hid (PartsAt wd base st.p vN vS vF vT) := Lib.hid (hp1.below (by rw [hwd]; exact (Below.refl _ _).drew))
  have HWD := Lib.hid hwd
  have HBZ : Hid (base ≤ w1.heap.size) := Lib.hid (by omega)
  clear ho hb hk1 hwd hl1 hx1 hp1
  go_wp2_with fail
  first | go_region_with (go_at_call 54; rw [← HWD.out]; refine (long_any A cp st.b w1.heap.size Av cv X _ HLD.out HXD.out (by rw [HSD.out]; exact Nat.le_refl _) (by omega)).mono ?_; rw [← HZ.out]; rintro e w2 ⟨v2, rfl, ho2, hb2⟩; obtain ⟨A2, c2, rfl, _, _⟩ := own_form ho2; rw [HSD.out] at hb2 ho2; have hk2 := HKD.out.below hb2 (by have := HKD.out.lt; rw [HSD.out] at this; exact this); have d0 : w2.cell? ⟨g, 0, none⟩ = some (.slice A st.b.length cp) := hk2.cell 0; have d7 : w2.cell? ⟨g, 7, none⟩ = some (.bool true) := hk2.cell 7; have e0 := hk2.frozen 0; have e7 := hk2.frozen 7; have HK2 := Lib.hid hk2; have HO2 := Lib.hid ho2; have HB2 := Lib.hid (hb2.mono HBZ.out); clear ho2 hb2 hk2) | fail
  all_goals
    go_wp2_with fail
    go_end0
    exact wtable_done HK2.out HPD.out hbg HBD.out HBZ.out HB2.out HO2.out
end
end Go.Proofs.YtlfppfknelddcaaDoor
