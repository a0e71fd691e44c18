/- Contracts of the writer of package meth: a text, a flag, a table, a number. -/
import Derived.Test.YtlfppfknelddcaaDoorMethS
import Derived.Test.YtlfppfknelddcaaDoorWords2
import Derived.Test.YtlfppfknelddcaaDoorTabl
import Derived.OneCell
import Derived.Lib.ConvBytes
import Derived.Deep.RegionHeld3
import Derived.Deep.RegionWith
namespace Go.Proofs.YtlfppfknelddcaaDoor
open Go.RowKit
set_option maxRecDepth 100000
set_option linter.unusedSimpArgs false
set_option linter.unusedVariables false

/-- the writer in block g -/
def WAt (w : World) (base g : Nat) (st : WS) (c i : Int) : Prop :=
  ∃ vb vN vS vF vT, Whole w g 85 #[vb, .int .i64 c, .int .i64 i, vN, vS, vF, vT, .bool st.bad] ∧ w.ownsRow base 5 1 vb st.b.length (B8 st.b) ∧ PartsAt w base st.p vN vS vF vT ∧ base ≤ g
theorem own_type {w : World} {base : Nat} {e t : TypeId} {size n g : Nat} {v : Value} {xs : List Value} {cs : Array Value} (h : w.ownsRow base e size v n xs) (hw : Whole w g t cs) (hne : e ≠ t) : v.ownBlock ≠ some g := by
  rcases h.2 with ⟨rfl, _⟩ | ⟨g', cap, cur, rfl, _, hg, _⟩
  · simp [Value.ownBlock]
  · intro h2
    simp only [Value.ownBlock, Option.some.injEq] at h2
    subst h2
    unfold Whole at hw
    rw [hw] at hg
    injection hg with hg
    injection hg with _ h3 _
    exact hne h3.symm
theorem Whole.set8 {w : World} {g : Nat} {t : TypeId} {cs : Array Value} (h : Whole w g t cs) (i : Nat) (u : Value) {ds : Array Value} (hd : cs.setIfInBounds i u = ds) : Whole (w.setCell ⟨g, i, none⟩ u) g t ds := hd ▸ h.put i u
def Wrote (base g : Nat) (st : WS) (c i : Int) (w : World) (e : Ending) (w' : World) : Prop := e = .returned (.tuple #[]) ∧ WAt w' base g st c i ∧ Below base w w'

theorem wshort_any (base g : Nat) (st : WS) (c i : Int) (x : List UInt8) (w : World) (h : WAt w base g st c i) (hB : base ≤ w.heap.size) (hs : st.b.length + 264 ≤ 140737488355328) (hx : x.length ≤ 140737488355328) :
    Calls Tryd.prog 52 #[.pointer (some ⟨g, 0, none⟩), St x] w (Wrote base g (if x.length ≤ 255 then { st with b := st.b ++ be 1 x.length ++ x } else { st with bad := true }) c i w) := by
  obtain ⟨vb, vN, vS, vF, vT, hw, hown, hp, hbg⟩ := h
  obtain ⟨A, cp, rfl, hcp, hcm⟩ := own_form hown
  have hl := Lies.own hown (Nat.le_refl _)
  have c0 : w.cell? ⟨g, 0, none⟩ = some (.slice A st.b.length cp) := hw.cell 0
  have HW := Lib.hid hw
  have HP := Lib.hid hp
  have HL := Lib.hid hl
  obtain ⟨b0, hb0⟩ : ∃ b0, b0 = st.bad := ⟨_, rfl⟩
  rw [← hb0] at HW
  have HB0 := Lib.hid hb0
  have hsz : x.length ≤ maxLen := by unfold maxLen; omega
  have HSZ := Lib.hid hsz
  by_cases hx5 : x.length ≤ 255
  · rw [if_pos hx5]
    obtain ⟨Z, hZ⟩ : ∃ Z, Z = st.b ++ be 1 x.length ++ x := ⟨_, rfl⟩
    rw [← hZ]
    have HZ : Hid (st.b ++ be 1 (⟨x.toArray⟩ : ByteArray).size ++ (⟨x.toArray⟩ : ByteArray).data.toList = Z) := Lib.hid hZ.symm
    clear hZ
    have done : ∀ (w1 : World) (v : Value), Below w.heap.size w w1 → w1.ownsRow w.heap.size 5 1 v Z.length (B8 Z) →
        Wrote base g { st with b := Z } c i w (.returned (.tuple #[])) ((w1.setCell ⟨g, 0, none⟩ v).setCell ⟨g, 7, none⟩ (.bool b0)) := by
      intro w1 v hb ho
      have hw1 := HW.out.below hb HW.out.lt
      have hne := own_type ho hw1 (by decide)
      have ho1 := ownsRow_setCell_other (a := ⟨g, 0, none⟩) ho hne v
      have ho2 := ownsRow_setCell_other (a := ⟨g, 7, none⟩) ho1 hne (.bool b0)
      have hw2 := (hw1.set8 0 v rfl).set8 7 (.bool b0) rfl
      have hbb := ((hb.mono hB).setCell (p := ⟨g, 0, none⟩) hbg v).setCell (p := ⟨g, 7, none⟩) hbg (.bool b0)
      refine ⟨rfl, ⟨v, vN, vS, vF, vT, ?_, own_base ho2 hB, HP.out.below hbb, hbg⟩, hbb⟩
      rw [← HB0.out]
      exact hw2
    have D := Lib.hid done
    clear done hw hown hp hl hb0 hsz hcp hcm
    cases b0 with
    | false =>
      go_enter Tryd.func52, Tryd.ntmps52
      go_wp2_with fail
      refine (short_any A cp st.b w.heap.size ⟨x.toArray⟩ _ HL.out (Nat.le_refl _) hs hx5).mono ?_
      rw [HZ.out]
      rintro e w1 ⟨v, rfl, ho, hb⟩
      obtain ⟨Av, cv, rfl, _, _⟩ := own_form ho
      have DD := Lib.hid (D.out w1 _ hb ho)
      have hw1 := HW.out.below hb HW.out.lt
      have f0 := hw1.frozen 0
      have f7 := hw1.frozen 7
      have d0 : w1.cell? ⟨g, 0, none⟩ = some (.slice A st.b.length cp) := hw1.cell 0
      have d7 : w1.cell? ⟨g, 7, none⟩ = some (.bool false) := hw1.cell 7
      clear hb ho hw1
      go_wp2_with fail
      go_end0
      exact DD.out
    | true =>
      go_enter Tryd.func52, Tryd.ntmps52
      go_wp2_with fail
      refine (short_any A cp st.b w.heap.size ⟨x.toArray⟩ _ HL.out (Nat.le_refl _) hs hx5).mono ?_
      rw [HZ.out]
      rintro e w1 ⟨v, rfl, ho, hb⟩
      obtain ⟨Av, cv, rfl, _, _⟩ := own_form ho
      have DD := Lib.hid (D.out w1 _ hb ho)
      have hw1 := HW.out.below hb HW.out.lt
      have f0 := hw1.frozen 0
      have f7 := hw1.frozen 7
      have d0 : w1.cell? ⟨g, 0, none⟩ = some (.slice A st.b.length cp) := hw1.cell 0
      have d7 : w1.cell? ⟨g, 7, none⟩ = some (.bool true) := hw1.cell 7
      clear hb ho hw1
      go_wp2_with fail
      go_end0
      exact DD.out
  · rw [if_neg hx5]
    have done : ∀ (w1 : World) (v : Value), Below w.heap.size w w1 → w1.ownsRow w.heap.size 5 1 v st.b.length (B8 st.b) →
        Wrote base g { st with bad := true } c i w (.returned (.tuple #[])) ((w1.setCell ⟨g, 0, none⟩ v).setCell ⟨g, 7, none⟩ (.bool true)) := by
      intro w1 v hb ho
      have hw1 := HW.out.below hb HW.out.lt
      have hne := own_type ho hw1 (by decide)
      have ho1 := ownsRow_setCell_other (a := ⟨g, 0, none⟩) ho hne v
      have ho2 := ownsRow_setCell_other (a := ⟨g, 7, none⟩) ho1 hne (.bool true)
      have hw2 := (hw1.set8 0 v rfl).set8 7 (.bool true) rfl
      have hbb := ((hb.mono hB).setCell (p := ⟨g, 0, none⟩) hbg v).setCell (p := ⟨g, 7, none⟩) hbg (.bool true)
      exact ⟨rfl, ⟨v, vN, vS, vF, vT, hw2, own_base ho2 hB, HP.out.below hbb, hbg⟩, hbb⟩
    have D := Lib.hid done
    clear done hw hown hp hl hb0 hsz hcp hcm
    cases b0 with
    | false =>
      go_enter Tryd.func52, Tryd.ntmps52
      go_wp2_with fail
      refine (short_not A cp st.b w.heap.size ⟨x.toArray⟩ _ HL.out (Nat.le_refl _) (by omega) (by show 255 < x.length; omega) HSZ.out).mono ?_
      rintro e w1 ⟨v, rfl, ho, hb⟩
      obtain ⟨Av, cv, rfl, _, _⟩ := own_form ho
      have DD := Lib.hid (D.out w1 _ hb ho)
      have hw1 := HW.out.below hb HW.out.lt
      have f0 := hw1.frozen 0
      have f7 := hw1.frozen 7
      have d0 : w1.cell? ⟨g, 0, none⟩ = some (.slice A st.b.length cp) := hw1.cell 0
      have d7 : w1.cell? ⟨g, 7, none⟩ = some (.bool false) := hw1.cell 7
      clear hb ho hw1
      go_wp2_with fail
      go_end0
      exact DD.out
    | true =>
      go_enter Tryd.func52, Tryd.ntmps52
      go_wp2_with fail
      refine (short_not A cp st.b w.heap.size ⟨x.toArray⟩ _ HL.out (Nat.le_refl _) (by omega) (by show 255 < x.length; omega) HSZ.out).mono ?_
      rintro e w1 ⟨v, rfl, ho, hb⟩
      obtain ⟨Av, cv, rfl, _, _⟩ := own_form ho
      have DD := Lib.hid (D.out w1 _ hb ho)
      have hw1 := HW.out.below hb HW.out.lt
      have f0 := hw1.frozen 0
      have f7 := hw1.frozen 7
      have d0 : w1.cell? ⟨g, 0, none⟩ = some (.slice A st.b.length cp) := hw1.cell 0
      have d7 : w1.cell? ⟨g, 7, none⟩ = some (.bool true) := hw1.cell 7
      clear hb ho hw1
      go_wp2_with fail
      go_end0
      exact DD.out
end Go.Proofs.YtlfppfknelddcaaDoor
