/- Contracts of the writer of package meth: a number, a flag, a table. -/
import Derived.Test.YtlfppfknelddcaaDoorMethW
import Derived.Laws.OwnMore
import Derived.Laws.BitsAllLaws
namespace Go.Proofs.YtlfppfknelddcaaDoor
open Go.RowKit
set_option maxRecDepth 100000
set_option linter.unusedSimpArgs false
set_option linter.unusedVariables false

theorem wnum_done {base g : Nat} {st : WS} {c i : Int} {w w1 w2 : World} {vb vN vS vF vT v : Value} {Z : List UInt8} {bad : Bool} (hw : Whole w1 g 85 #[vb, .int .i64 c, .int .i64 i, vN, vS, vF, vT, .bool bad]) (hp : PartsAt w1 base st.p vN vS vF vT) (hbg : base ≤ g) (h1 : Below base w w1) (hB : base ≤ w1.heap.size)
    (hb : Below w1.heap.size w1 w2) (ho : w2.ownsRow w1.heap.size 5 1 v Z.length (B8 Z)) :
    Wrote base g { b := Z, p := st.p, bad := bad } c i w (.returned (.tuple #[])) (w2.setCell ⟨g, 0, none⟩ v) := by
  have hw2 := hw.below hb hw.lt
  have hne := own_type ho hw2 (by decide)
  have ho1 := ownsRow_setCell_other (a := ⟨g, 0, none⟩) ho hne v
  have hw3 := hw2.set8 0 v rfl
  have hbb := (hb.mono hB).setCell (p := ⟨g, 0, none⟩) hbg v
  exact ⟨rfl, ⟨v, vN, vS, vF, vT, hw3, own_base ho1 hB, hp.below hbb, hbg⟩, h1.trans hbb⟩
theorem wnumber_1 (base g : Nat) (st : WS) (c i : Int) (n : Nat) (w : World) (h : WAt w base g st c i) (hB : base ≤ w.heap.size) (hs : st.b.length + 264 ≤ 140737488355328) (hx : n < 18446744073709551616) :
    Calls Tryd.prog 58 #[.pointer (some ⟨g, 0, none⟩), .int .u64 n, .int .i64 1] w (Wrote base g { st with b := st.b ++ be 1 n, bad := st.bad || decide (256 ^ 1 ≤ n) } c i w) := by
  obtain ⟨vb, vN, vS, vF, vT, hw, hown, hp, hbg⟩ := h
  obtain ⟨A, cp, rfl, hcp, hcm⟩ := own_form hown
  have hl := Lies.own hown (Nat.le_refl _)
  have c0 : w.cell? ⟨g, 0, none⟩ = some (.slice A st.b.length cp) := hw.cell 0
  have c7 : w.cell? ⟨g, 7, none⟩ = some (.bool st.bad) := hw.cell 7
  have f7 := hw.frozen 7
  obtain ⟨Z, hZ⟩ : ∃ Z, Z = st.b ++ be 1 n := ⟨_, rfl⟩
  rw [← hZ]
  have HZ : Hid (st.b ++ be (wid 1) n = Z) := Lib.hid hZ.symm
  have HW := Lib.hid hw
  have HP := Lib.hid hp
  have HL := Lib.hid hl
  have HO := Lib.hid hown
  clear hZ hw hown hp hl hcp hcm
  by_cases hn : 256 ≤ n
  · have e1 : (st.bad || decide (256 ^ 1 ≤ n)) = true := by rw [decide_eq_true (show 256 ^ 1 ≤ n from hn), Bool.or_true]
    rw [e1]
    have hq : (((n : Int) / 256) != 0) = true := by rw [bne_iff_ne]; omega
    obtain ⟨w1, hw1⟩ : ∃ w1, w1 = w.setCell ⟨g, 7, none⟩ (.bool true) := ⟨_, rfl⟩
    have hk1 := HW.out.set8 7 (.bool true) (ds := #[.slice A st.b.length cp, .int .i64 c, .int .i64 i, vN, vS, vF, vT, .bool true]) rfl
    have hb1 : Below base w (w.setCell ⟨g, 7, none⟩ (.bool true)) := (Below.refl _ w).setCell (p := ⟨g, 7, none⟩) hbg _
    have hl1 := ownsRow_setCell_other (a := ⟨g, 7, none⟩) (v := .slice A st.b.length cp) HO.out (own_type HO.out HW.out (by decide)) (.bool true)
    rw [← hw1] at hk1 hb1 hl1
    have hll := Lies.own hl1 (Nat.le_refl _)
    have d0 : w1.cell? ⟨g, 0, none⟩ = some (.slice A st.b.length cp) := hk1.cell 0
    have f0 := hk1.frozen 0
    have hs1 : base ≤ w1.heap.size := Nat.le_trans hB hb1.size
    have HK1 := Lib.hid hk1
    have HB1 := Lib.hid hb1
    have HL1 := Lib.hid hll
    have HP1 := Lib.hid (HP.out.below hb1)
    have HW1 := Lib.hid hw1
    clear hk1 hb1 hl1 hll hw1 e1
    go_enter Tryd.func58, Tryd.ntmps58
    rw [HW1.out] at d0 f0
    go_wp2_with fail
    rw [← HW1.out]
    refine (int_any A cp st.b w1.heap.size 1 n _ HL1.out (Nat.le_refl _) (by omega)).mono ?_
    rw [HZ.out]
    rintro e w2 ⟨v, rfl, ho, hb⟩
    obtain ⟨Av, cv, rfl, _, _⟩ := own_form ho
    have DD := Lib.hid (wnum_done (Z := Z) (st := st) HK1.out HP1.out hbg HB1.out hs1 hb ho)
    have hk2 := HK1.out.below hb HK1.out.lt
    have g0 : w2.cell? ⟨g, 0, none⟩ = some (.slice A st.b.length cp) := hk2.cell 0
    have fg := hk2.frozen 0
    clear ho hb hk2
    go_wp2_with fail
    go_end0
    exact DD.out
  · have e1 : (st.bad || decide (256 ^ 1 ≤ n)) = st.bad := by rw [decide_eq_false (show ¬ 256 ^ 1 ≤ n from hn), Bool.or_false]
    rw [e1]
    have hq : (((n : Int) / 256) != 0) = false := by rw [bne_eq_false_iff_eq]; omega
    clear e1
    go_enter Tryd.func58, Tryd.ntmps58
    go_wp2_with fail
    refine (int_any A cp st.b w.heap.size 1 n _ HL.out (Nat.le_refl _) (by omega)).mono ?_
    rw [HZ.out]
    rintro e w2 ⟨v, rfl, ho, hb⟩
    obtain ⟨Av, cv, rfl, _, _⟩ := own_form ho
    have DD := Lib.hid (wnum_done (Z := Z) (st := st) HW.out HP.out hbg (Below.refl _ w) hB hb ho)
    have hk2 := HW.out.below hb HW.out.lt
    have g0 : w2.cell? ⟨g, 0, none⟩ = some (.slice A st.b.length cp) := hk2.cell 0
    have fg := hk2.frozen 0
    clear ho hb hk2
    go_wp2_with fail
    go_end0
    exact DD.out
theorem wnumber_2 (base g : Nat) (st : WS) (c i : Int) (n : Nat) (w : World) (h : WAt w base g st c i) (hB : base ≤ w.heap.size) (hs : st.b.length + 264 ≤ 140737488355328) (hx : n < 18446744073709551616) :
    Calls Tryd.prog 58 #[.pointer (some ⟨g, 0, none⟩), .int .u64 n, .int .i64 2] w (Wrote base g { st with b := st.b ++ be 2 n, bad := st.bad || decide (256 ^ 2 ≤ n) } c i w) := by
  obtain ⟨vb, vN, vS, vF, vT, hw, hown, hp, hbg⟩ := h
  obtain ⟨A, cp, rfl, hcp, hcm⟩ := own_form hown
  have hl := Lies.own hown (Nat.le_refl _)
  have c0 : w.cell? ⟨g, 0, none⟩ = some (.slice A st.b.length cp) := hw.cell 0
  have c7 : w.cell? ⟨g, 7, none⟩ = some (.bool st.bad) := hw.cell 7
  have f7 := hw.frozen 7
  obtain ⟨Z, hZ⟩ : ∃ Z, Z = st.b ++ be 2 n := ⟨_, rfl⟩
  rw [← hZ]
  have HZ : Hid (st.b ++ be (wid 2) n = Z) := Lib.hid hZ.symm
  have HW := Lib.hid hw
  have HP := Lib.hid hp
  have HL := Lib.hid hl
  have HO := Lib.hid hown
  clear hZ hw hown hp hl hcp hcm
  by_cases hn : 65536 ≤ n
  · have e1 : (st.bad || decide (256 ^ 2 ≤ n)) = true := by rw [decide_eq_true (show 256 ^ 2 ≤ n from hn), Bool.or_true]
    rw [e1]
    have hq : (((n : Int) / 65536) != 0) = true := by rw [bne_iff_ne]; omega
    obtain ⟨w1, hw1⟩ : ∃ w1, w1 = w.setCell ⟨g, 7, none⟩ (.bool true) := ⟨_, rfl⟩
    have hk1 := HW.out.set8 7 (.bool true) (ds := #[.slice A st.b.length cp, .int .i64 c, .int .i64 i, vN, vS, vF, vT, .bool true]) rfl
    have hb1 : Below base w (w.setCell ⟨g, 7, none⟩ (.bool true)) := (Below.refl _ w).setCell (p := ⟨g, 7, none⟩) hbg _
    have hl1 := ownsRow_setCell_other (a := ⟨g, 7, none⟩) (v := .slice A st.b.length cp) HO.out (own_type HO.out HW.out (by decide)) (.bool true)
    rw [← hw1] at hk1 hb1 hl1
    have hll := Lies.own hl1 (Nat.le_refl _)
    have d0 : w1.cell? ⟨g, 0, none⟩ = some (.slice A st.b.length cp) := hk1.cell 0
    have f0 := hk1.frozen 0
    have hs1 : base ≤ w1.heap.size := Nat.le_trans hB hb1.size
    have HK1 := Lib.hid hk1
    have HB1 := Lib.hid hb1
    have HL1 := Lib.hid hll
    have HP1 := Lib.hid (HP.out.below hb1)
    have HW1 := Lib.hid hw1
    clear hk1 hb1 hl1 hll hw1 e1
    go_enter Tryd.func58, Tryd.ntmps58
    rw [HW1.out] at d0 f0
    go_wp2_with fail
    rw [← HW1.out]
    refine (int_any A cp st.b w1.heap.size 2 n _ HL1.out (Nat.le_refl _) (by omega)).mono ?_
    rw [HZ.out]
    rintro e w2 ⟨v, rfl, ho, hb⟩
    obtain ⟨Av, cv, rfl, _, _⟩ := own_form ho
    have DD := Lib.hid (wnum_done (Z := Z) (st := st) HK1.out HP1.out hbg HB1.out hs1 hb ho)
    have hk2 := HK1.out.below hb HK1.out.lt
    have g0 : w2.cell? ⟨g, 0, none⟩ = some (.slice A st.b.length cp) := hk2.cell 0
    have fg := hk2.frozen 0
    clear ho hb hk2
    go_wp2_with fail
    go_end0
    exact DD.out
  · have e1 : (st.bad || decide (256 ^ 2 ≤ n)) = st.bad := by rw [decide_eq_false (show ¬ 256 ^ 2 ≤ n from hn), Bool.or_false]
    rw [e1]
    have hq : (((n : Int) / 65536) != 0) = false := by rw [bne_eq_false_iff_eq]; omega
    clear e1
    go_enter Tryd.func58, Tryd.ntmps58
    go_wp2_with fail
    refine (int_any A cp st.b w.heap.size 2 n _ HL.out (Nat.le_refl _) (by omega)).mono ?_
    rw [HZ.out]
    rintro e w2 ⟨v, rfl, ho, hb⟩
    obtain ⟨Av, cv, rfl, _, _⟩ := own_form ho
    have DD := Lib.hid (wnum_done (Z := Z) (st := st) HW.out HP.out hbg (Below.refl _ w) hB hb ho)
    have hk2 := HW.out.below hb HW.out.lt
    have g0 : w2.cell? ⟨g, 0, none⟩ = some (.slice A st.b.length cp) := hk2.cell 0
    have fg := hk2.frozen 0
    clear ho hb hk2
    go_wp2_with fail
    go_end0
    exact DD.out
theorem wnumber_4 (base g : Nat) (st : WS) (c i : Int) (n : Nat) (w : World) (h : WAt w base g st c i) (hB : base ≤ w.heap.size) (hs : st.b.length + 264 ≤ 140737488355328) (hx : n < 18446744073709551616) :
    Calls Tryd.prog 58 #[.pointer (some ⟨g, 0, none⟩), .int .u64 n, .int .i64 4] w (Wrote base g { st with b := st.b ++ be 4 n, bad := st.bad || decide (256 ^ 4 ≤ n) } c i w) := by
  obtain ⟨vb, vN, vS, vF, vT, hw, hown, hp, hbg⟩ := h
  obtain ⟨A, cp, rfl, hcp, hcm⟩ := own_form hown
  have hl := Lies.own hown (Nat.le_refl _)
  have c0 : w.cell? ⟨g, 0, none⟩ = some (.slice A st.b.length cp) := hw.cell 0
  have c7 : w.cell? ⟨g, 7, none⟩ = some (.bool st.bad) := hw.cell 7
  have f7 := hw.frozen 7
  obtain ⟨Z, hZ⟩ : ∃ Z, Z = st.b ++ be 4 n := ⟨_, rfl⟩
  rw [← hZ]
  have HZ : Hid (st.b ++ be (wid 4) n = Z) := Lib.hid hZ.symm
  have HW := Lib.hid hw
  have HP := Lib.hid hp
  have HL := Lib.hid hl
  have HO := Lib.hid hown
  clear hZ hw hown hp hl hcp hcm
  by_cases hn : 4294967296 ≤ n
  · have e1 : (st.bad || decide (256 ^ 4 ≤ n)) = true := by rw [decide_eq_true (show 256 ^ 4 ≤ n from hn), Bool.or_true]
    rw [e1]
    have hq : (((n : Int) / 4294967296) != 0) = true := by rw [bne_iff_ne]; omega
    obtain ⟨w1, hw1⟩ : ∃ w1, w1 = w.setCell ⟨g, 7, none⟩ (.bool true) := ⟨_, rfl⟩
    have hk1 := HW.out.set8 7 (.bool true) (ds := #[.slice A st.b.length cp, .int .i64 c, .int .i64 i, vN, vS, vF, vT, .bool true]) rfl
    have hb1 : Below base w (w.setCell ⟨g, 7, none⟩ (.bool true)) := (Below.refl _ w).setCell (p := ⟨g, 7, none⟩) hbg _
    have hl1 := ownsRow_setCell_other (a := ⟨g, 7, none⟩) (v := .slice A st.b.length cp) HO.out (own_type HO.out HW.out (by decide)) (.bool true)
    rw [← hw1] at hk1 hb1 hl1
    have hll := Lies.own hl1 (Nat.le_refl _)
    have d0 : w1.cell? ⟨g, 0, none⟩ = some (.slice A st.b.length cp) := hk1.cell 0
    have f0 := hk1.frozen 0
    have hs1 : base ≤ w1.heap.size := Nat.le_trans hB hb1.size
    have HK1 := Lib.hid hk1
    have HB1 := Lib.hid hb1
    have HL1 := Lib.hid hll
    have HP1 := Lib.hid (HP.out.below hb1)
    have HW1 := Lib.hid hw1
    clear hk1 hb1 hl1 hll hw1 e1
    go_enter Tryd.func58, Tryd.ntmps58
    rw [HW1.out] at d0 f0
    go_wp2_with fail
    rw [← HW1.out]
    refine (int_any A cp st.b w1.heap.size 4 n _ HL1.out (Nat.le_refl _) (by omega)).mono ?_
    rw [HZ.out]
    rintro e w2 ⟨v, rfl, ho, hb⟩
    obtain ⟨Av, cv, rfl, _, _⟩ := own_form ho
    have DD := Lib.hid (wnum_done (Z := Z) (st := st) HK1.out HP1.out hbg HB1.out hs1 hb ho)
    have hk2 := HK1.out.below hb HK1.out.lt
    have g0 : w2.cell? ⟨g, 0, none⟩ = some (.slice A st.b.length cp) := hk2.cell 0
    have fg := hk2.frozen 0
    clear ho hb hk2
    go_wp2_with fail
    go_end0
    exact DD.out
  · have e1 : (st.bad || decide (256 ^ 4 ≤ n)) = st.bad := by rw [decide_eq_false (show ¬ 256 ^ 4 ≤ n from hn), Bool.or_false]
    rw [e1]
    have hq : (((n : Int) / 4294967296) != 0) = false := by rw [bne_eq_false_iff_eq]; omega
    clear e1
    go_enter Tryd.func58, Tryd.ntmps58
    go_wp2_with fail
    refine (int_any A cp st.b w.heap.size 4 n _ HL.out (Nat.le_refl _) (by omega)).mono ?_
    rw [HZ.out]
    rintro e w2 ⟨v, rfl, ho, hb⟩
    obtain ⟨Av, cv, rfl, _, _⟩ := own_form ho
    have DD := Lib.hid (wnum_done (Z := Z) (st := st) HW.out HP.out hbg (Below.refl _ w) hB hb ho)
    have hk2 := HW.out.below hb HW.out.lt
    have g0 : w2.cell? ⟨g, 0, none⟩ = some (.slice A st.b.length cp) := hk2.cell 0
    have fg := hk2.frozen 0
    clear ho hb hk2
    go_wp2_with fail
    go_end0
    exact DD.out
theorem wnumber_8 (base g : Nat) (st : WS) (c i : Int) (n : Nat) (w : World) (h : WAt w base g st c i) (hB : base ≤ w.heap.size) (hs : st.b.length + 264 ≤ 140737488355328) (hx : n < 18446744073709551616) :
    Calls Tryd.prog 58 #[.pointer (some ⟨g, 0, none⟩), .int .u64 n, .int .i64 8] w (Wrote base g { st with b := st.b ++ be 8 n, bad := st.bad || decide (256 ^ 8 ≤ n) } c i w) := by
  obtain ⟨vb, vN, vS, vF, vT, hw, hown, hp, hbg⟩ := h
  obtain ⟨A, cp, rfl, hcp, hcm⟩ := own_form hown
  have hl := Lies.own hown (Nat.le_refl _)
  have c0 : w.cell? ⟨g, 0, none⟩ = some (.slice A st.b.length cp) := hw.cell 0
  have c7 : w.cell? ⟨g, 7, none⟩ = some (.bool st.bad) := hw.cell 7
  have f7 := hw.frozen 7
  obtain ⟨Z, hZ⟩ : ∃ Z, Z = st.b ++ be 8 n := ⟨_, rfl⟩
  rw [← hZ]
  have HZ : Hid (st.b ++ be (wid 8) n = Z) := Lib.hid hZ.symm
  have HW := Lib.hid hw
  have HP := Lib.hid hp
  have HL := Lib.hid hl
  have HO := Lib.hid hown
  clear hZ hw hown hp hl hcp hcm
  · have e1 : (st.bad || decide (256 ^ 8 ≤ n)) = st.bad := by rw [decide_eq_false (by omega), Bool.or_false]
    rw [e1]
    clear e1
    go_enter Tryd.func58, Tryd.ntmps58
    go_wp2_with fail
    refine (int_any A cp st.b w.heap.size 8 n _ HL.out (Nat.le_refl _) (by omega)).mono ?_
    rw [HZ.out]
    rintro e w2 ⟨v, rfl, ho, hb⟩
    obtain ⟨Av, cv, rfl, _, _⟩ := own_form ho
    have DD := Lib.hid (wnum_done (Z := Z) (st := st) HW.out HP.out hbg (Below.refl _ w) hB hb ho)
    have hk2 := HW.out.below hb HW.out.lt
    have g0 : w2.cell? ⟨g, 0, none⟩ = some (.slice A st.b.length cp) := hk2.cell 0
    have fg := hk2.frozen 0
    clear ho hb hk2
    go_wp2_with fail
    go_end0
    exact DD.out
end Go.Proofs.YtlfppfknelddcaaDoor
