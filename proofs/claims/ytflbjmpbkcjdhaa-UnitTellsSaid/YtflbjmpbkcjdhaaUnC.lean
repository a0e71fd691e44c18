/- Contracts of package unit: Append. -/
import Derived.Test.YtflbjmpbkcjdhaaUnB
namespace Go.Proofs.Ytflbjmpbkcjdhaa
open Go.RowKit
set_option maxRecDepth 100000
set_option linter.unusedSimpArgs false
set_option linter.unusedVariables false

/-- what Append tells: the octets of a unit, or none -/
def AppU (l : List Opx) (w : World) (e : Ending) (w' : World) : Prop :=
  Below w.heap.size w w' ∧ (if unitOk l then ∃ v, e = .returned (.tuple #[v, .bool true]) ∧ w'.ownsRow w.heap.size 5 1 v (opsB l).length (B8 (opsB l)) else e = .returned (.tuple #[.slice none 0 0, .bool false]))
theorem AppU.no {l : List Opx} {w w' : World} (h : unitOk l = false) (hb : Below w.heap.size w w') : AppU l w (.returned (.tuple #[.slice none 0 0, .bool false])) w' := by
  unfold AppU
  rw [h]
  exact ⟨hb, rfl⟩
theorem AppU.yes {l : List Opx} {w w' : World} {v : Value} (h : unitOk l = true) (hb : Below w.heap.size w w') (ho : w'.ownsRow w.heap.size 5 1 v (opsB l).length (B8 (opsB l))) : AppU l w (.returned (.tuple #[v, .bool true])) w' := by
  unfold AppU
  rw [h]
  exact ⟨hb, v, rfl, ho⟩
theorem B8_nil : B8 [] = [] := rfl
/-- where the walk stands -/
structure UcAt (w wr : World) (l : List Om) (j : Nat) (v : Value) : Prop where
  own : wr.ownsRow w.heap.size 5 1 v (opsB ((pl l).take j)).length (B8 (opsB ((pl l).take j)))
  bel : Below w.heap.size w wr
  fit : ((pl l).take j).all fitO = true
  len : (opsB ((pl l).take j)).length ≤ 190000
set_option maxHeartbeats 1000000 in
theorem uappend_any (l : List Om) (A : Option Addr) (n c B : Nat) (w : World) (hn : n = l.length) (ht : OpsAt w B l A c) (hB : B ≤ w.heap.size) (hf : Few l) :
    Calls Try.prog 7 #[.slice A n c] w (AppU (pl l) w) := by
  subst hn
  obtain ⟨i0, hi, hz0, hz1, hz2⟩ := info_parts2 u8_info
  have HT := Lib.hid ht
  have HF := Lib.hid hf
  have HI := Lib.hid hi
  have H0 := Lib.hid hz0
  have H1 := Lib.hid hz1
  have H2 := Lib.hid hz2
  have hlc := ht.1
  have hcm := ht.2.1
  have hll := hf.1
  unfold maxLen at hcm
  have hpl := pl_length l
  have HB := Lib.hid hB
  clear ht hf hi hz0 hz1 hz2
  go_enter Try.func7, Try.ntmps7
  go_wp2_with fail
  go_loopw [4, 9] (fun v i wr => ∃ j : Nat, j ≤ l.length ∧ i = .int .i64 j ∧ UcAt w wr l j v) (fun _ i _ => l.length - (intOf i).toNat)
  case atStart => exact ⟨0, Nat.zero_le _, rfl, ⟨World.ownsRow_nil _ _ _ _, Below.refl _ _, rfl, by simp [opsB]⟩⟩
  case round =>
    obtain ⟨j, hj, rfl, hU⟩ := hrel
    have HU := Lib.hid hU
    obtain ⟨A4, c4, rfl, hc4, hm4⟩ := own_form hU.own
    obtain ⟨P, hP⟩ : ∃ P, P = opsB ((pl l).take j) := ⟨_, rfl⟩
    have hPl : P.length ≤ 190000 := by rw [hP]; exact hU.len
    rw [← hP] at hc4 ⊢
    have HP := Lib.hid hP
    clear hU hP
    by_cases hlt : j < l.length
    · obtain ⟨b, o, rfl, hb, c0, c1, c2⟩ := lies_om ((HT.out.2.2.1).below (HU.out.bel.mono hB)) j hlt
      have hfew := HF.out.at j hlt
      have hval := HT.out.2.2.2 _ (List.getElem_mem hlt)
      obtain ⟨m, hm⟩ : ∃ m, m = l[j] := ⟨_, rfl⟩
      have hpj : (pl l)[j]'(by omega) = m.o := by rw [hm]; exact pl_at l j (by omega)
      have htk := opsB_take (pl l) j (by omega)
      have hat : ((pl l).take (j + 1)).all fitO = (((pl l).take j).all fitO && fitO m.o) := by
        rw [List.take_succ_eq_append_getElem (by omega), List.all_append, hpj]; simp
      rw [hpj] at htk
      rw [← hm] at c0 c1 c2 hfew hval
      have b1 : ∀ cs, Below w.heap.size w (wr.alloc (.cells cs 24)) := fun cs => HU.out.bel.alloc HU.out.bel.size _
      have b2 : ∀ cs, Below wr.heap.size wr (wr.alloc (.cells cs 24)) := fun cs => (Below.refl _ _).alloc (Nat.le_refl _) _
      have x1 := Whole.new wr 24 #[.string ⟨m.o.key.toArray⟩, .bool m.o.del, .slice m.A m.o.val.length m.c]
      have HB1 := Lib.hid b1
      have HB2 := Lib.hid b2
      have HX := Lib.hid x1
      have HV := Lib.hid (hval.below (HU.out.bel.mono hB))
      have NO : Hid (fitO m.o = false → unitOk (pl l) = false) := Lib.hid (fun h => unitOk_fit (j := j) (by omega) (by rw [hpj]; exact h))
      have HTK := Lib.hid htk
      have HAT := Lib.hid hat
      have HM := Lib.hid hm
      obtain ⟨F, hF⟩ : ∃ F, F = fitO m.o := ⟨_, rfl⟩
      have HFF := Lib.hid hF
      have fm1 : m.o.key.length ≤ maxLen := by have := hfew.1; unfold maxLen; omega
      have fm2 : m.o.val.length ≤ maxLen := by have := hfew.2; unfold maxLen; omega
      clear b1 b2 x1 hval hpj htk hat hm hF
      go_wp2_with fail
      refine (ufits_any m _ fm1 fm2).mono ?_
      rintro e w1 ⟨rfl, hb1⟩
      rw [← HFF.out]
      have B1 := Lib.hid ((HB1.out _).trans (hb1.mono (by have := HU.out.bel.size; simp; omega)))
      have R1 := Lib.hid ((HB2.out _).trans (hb1.mono (by simp)))
      have X1 := HX.out.below hb1 (by simp)
      have y0 : w1.cell? ⟨wr.heap.size, 0, none⟩ = some (.string ⟨m.o.key.toArray⟩) := X1.cell 0
      have y1 : w1.cell? ⟨wr.heap.size, 1, none⟩ = some (.bool m.o.del) := X1.cell 1
      have y2 : w1.cell? ⟨wr.heap.size, 2, none⟩ = some (.slice m.A m.o.val.length m.c) := X1.cell 2
      clear hb1 X1
      cases F with
      | false =>
        have N := Lib.hid (NO.out HFF.out.symm)
        go_wp2_with fail
        go_ret2
        exact AppU.no N.out B1.out
      | true =>
        go_wp2_with fail
        refine (uoctets_any m B _ (HV.out.below (R1.out.mono (Nat.le_trans HB.out HU.out.bel.size))) (Nat.le_trans HB.out B1.out.size) HFF.out.symm).mono ?_
        rintro e w2 ⟨v2, rfl, ho2, hb2⟩
        obtain ⟨A2, d2, rfl, hc2, hm2⟩ := own_form ho2
        have B2 := Lib.hid (B1.out.trans (hb2.mono B1.out.size))
        have R2 := R1.out.trans (hb2.mono R1.out.size)
        have O2 := HU.out.own.kept (only_below R2 none) (Classical.em _)
        rw [← HP.out] at O2
        have HO2 := Lib.hid O2
        have L2 := Lib.hid (Lies.own ho2 (Nat.le_refl _))
        have mb := opB_length m.o
        have mf := fitO_is HFF.out.symm
        obtain ⟨M, hM⟩ : ∃ M, M = opB m.o := ⟨_, rfl⟩
        rw [← hM] at L2 mb hc2 ⊢
        have hml : M.length ≤ 11200 := by
          rw [mb]
          unfold sizeO
          split <;> omega
        have HPM : Hid (P.length + M.length ≤ 140737488355328) := Lib.hid (by omega)
        have HMM := Lib.hid hM
        have HQM : Hid (P.length + M.length ≤ 201200) := Lib.hid (by omega)
        have z2 := B2.out.size
        obtain ⟨q, hq⟩ : ∃ q, q = P.length + M.length := ⟨_, rfl⟩
        have hqm : q ≤ 201200 := by rw [hq]; exact HQM.out
        have EP : Hid (P ++ M = opsB ((pl l).take (j + 1))) := Lib.hid (by rw [HTK.out, HP.out, HMM.out])
        have LP : Hid ((P ++ M).length = q) := Lib.hid (by rw [hq, List.length_append])
        clear hb2 R2 O2 ho2 hM mb mf y0 y1 y2 c0 c1 c2 hml
        go_wp2_with (at_builtin; refine wpList_append_cells rfl _ _ 22 rfl w.heap.size 5 i0 (.int .u8 0) 1 1 Try.underlying22 HI.out H0.out H1.out H2.out rfl (by omega) _ P.length _ rfl HO2.out _ A2 M.length d2 (B8 M) rfl L2.out (B8_len1 M) (B8_one M) (room63 HPM.out) (room1 HPM.out) z2 ?_; intro v' w7 hown7 hbel7; rw [← hq] at hown7; obtain ⟨A7, d7, rfl, hc7, hm7⟩ := own_form hown7; have B7 := Lib.hid (B2.out.trans hbel7); have O7 := Lib.hid hown7; clear hown7 hbel7 hq; by_cases h19 : 190000 < q)
        · have N := Lib.hid (unitOk_long (l := pl l) (j := j + 1) (by rw [← EP.out, LP.out]; exact h19))
          go_ret2
          exact AppU.no N.out B7.out
        · have h19' : q ≤ 190000 := by omega
          have O8 : Hid (w7.ownsRow w.heap.size 5 1 (.slice A7 q d7) (P ++ M).length (B8 (P ++ M))) := Lib.hid (by rw [B8_append, LP.out]; exact O7.out)
          have U7 : Hid (UcAt w w7 l (j + 1) (.slice A7 q d7)) := Lib.hid ⟨by rw [← EP.out]; exact O8.out, B7.out, by rw [HAT.out, HU.out.fit, ← HFF.out]; rfl, by rw [← EP.out, LP.out]; exact h19'⟩
          go_roundw
          case rel => exact ⟨j + 1, by omega, by go_num, U7.out⟩
          case measure => simp [intOf]; omega
    · obtain rfl : j = l.length := by omega
      have e : (pl l).take l.length = pl l := by rw [← hpl, List.take_length]
      have D : Hid (AppU (pl l) w (.returned (.tuple #[.slice A4 P.length c4, .bool true])) wr) := by
        have h1 := HU.out.own
        have h2 := HU.out.fit
        have h3 := HU.out.len
        rw [HP.out]
        rw [e] at h1 h2 h3 ⊢
        exact AppU.yes (by unfold unitOk; rw [h2, decide_eq_true h3]; rfl) HU.out.bel h1
      clear e
      go_wp2_with fail
      go_ret2
      exact D.out
end Go.Proofs.Ytflbjmpbkcjdhaa
