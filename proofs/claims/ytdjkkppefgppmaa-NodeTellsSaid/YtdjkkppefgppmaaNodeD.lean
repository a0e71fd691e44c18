/- Contracts of package node: Append. -/
import Derived.Test.YtdjkkppefgppmaaNodeC
namespace Go.Proofs.Ytdjkkppefgppmaa
open Go.RowKit
set_option maxRecDepth 100000
set_option linter.unusedSimpArgs false
set_option linter.unusedVariables false

def AppN (leaf : Bool) (l : List Rw) (w : World) (e : Ending) (w' : World) : Prop :=
  ∃ v, e = .returned (.tuple #[v, .bool (okN leaf l)]) ∧ w'.ownsRow w.heap.size 5 1 v (if okN leaf l then nodeB leaf l else []).length (B8 (if okN leaf l then nodeB leaf l else [])) ∧ Below w.heap.size w w'

theorem nappend_no (leaf : Bool) (l : List Rw) (A : Option Addr) (c B : Nat) (w : World) (ht : RowsAt w B l A c) (hB : B ≤ w.heap.size) (hf : Few l) (hok : okN leaf l = false) :
    Calls Try.prog 7 #[.agg #[.bool leaf, .slice A l.length c]] w (AppN leaf l w) := by
  have hb0 := (Below.refl w.heap.size w).alloc (Nat.le_refl _) (.cells #[.bool leaf, .slice A l.length c] 26)
  have BX := Lib.hid hb0
  have HT := Lib.hid ht
  have HF := Lib.hid hf
  have HO := Lib.hid hok
  clear hb0 ht hf hok
  go_enter Try.func7, Try.ntmps7
  go_wp2_with fail
  refine (ok_any leaf l A c B _ (HT.out.below (BX.out.mono hB)) (by simp; omega) HF.out).mono ?_
  rintro e w1 ⟨rfl, hb1⟩
  have B1 := Lib.hid (BX.out.trans (hb1.mono (by simp)))
  rw [HO.out]
  clear hb1
  go_wp2_with fail
  go_ret2
  refine ⟨.slice none 0 0, ?_, ?_, B1.out⟩
  · rw [HO.out]; rfl
  rw [HO.out]
  exact World.ownsRow_nil _ _ _ _

set_option maxHeartbeats 1000000 in
theorem nappend_yes (leaf : Bool) (l : List Rw) (A : Option Addr) (c B : Nat) (w : World) (ht : RowsAt w B l A c) (hB : B ≤ w.heap.size) (hf : Few l) (hok : okN leaf l = true) :
    Calls Try.prog 7 #[.agg #[.bool leaf, .slice A l.length c]] w (AppN leaf l w) := by
  obtain ⟨i0, hi, hz0, hz1, hz2⟩ := info_parts u8_info
  have hb0 := (Below.refl w.heap.size w).alloc (Nat.le_refl _) (.cells #[.bool leaf, .slice A l.length c] 26)
  have hw0 := Whole.new w 26 #[.bool leaf, .slice A l.length c]
  have BX := Lib.hid hb0
  have WX := Lib.hid hw0
  have HT := Lib.hid ht
  have HF := Lib.hid hf
  have HO := Lib.hid hok
  have HI := Lib.hid hi
  have H0 := Lib.hid hz0
  have H1 := Lib.hid hz1
  have H2 := Lib.hid hz2
  have hsz : sizeN leaf l ≤ 512 ∧ okR leaf [] l = true := by
    rw [okN, Bool.and_eq_true, Bool.not_eq_true', Bool.or_eq_false_iff] at hok
    exact ⟨by simpa using hok.1.2, hok.2⟩
  have hcount := sizeN_count leaf l
  have hll : l.length ≤ 300 := by omega
  have HS := Lib.hid hsz
  have hu := nu64 l.length (by omega)
  have hlc := ht.1
  have hcm := ht.2.1
  unfold maxLen at hcm
  clear hb0 hw0 ht hf hok hi hz0 hz1 hz2 hsz hcount
  have D0 : ∀ (v : Value) (w3 : World), w3.ownsRow w.heap.size 5 1 v (nodeB leaf l).length (B8 (nodeB leaf l)) → Below w.heap.size w w3 → AppN leaf l w (.returned (.tuple #[v, .bool true])) w3 := by
    intro v w3 h1 h2
    refine ⟨v, by rw [HO.out], ?_, h2⟩
    rw [HO.out]
    exact h1
  have DX := Lib.hid D0
  clear D0
  cases leaf with
  | true =>
    go_enter Try.func7, Try.ntmps7
    go_wp2_with fail
    refine (ok_any true l A c B _ (HT.out.below (BX.out.mono hB)) (by simp; omega) HF.out).mono ?_
    rintro e w1 ⟨rfl, hb1⟩
    have B1 := Lib.hid (BX.out.trans (hb1.mono (by simp)))
    have X1 := WX.out.below hb1 (by simp)
    have x0 : w1.cell? ⟨w.heap.size, 0, none⟩ = some (.bool true) := X1.cell 0
    have XX := Lib.hid X1
    have z1 : w.heap.size < w1.heap.size := X1.lt
    rw [HO.out]
    clear hb1 X1
    go_wp2_with fail
    refine (nint_at none 0 0 [] 0 1 1 1 _ _ rfl rfl rfl (Lies.empty _ _ _) (Nat.zero_le _) (by simp)).mono ?_
    rintro e w2 ⟨V2, rfl, hown2, hb2⟩
    obtain ⟨A2, c2, rfl, hc2, hm2⟩ := own_form hown2
    have B2 := Lib.hid (B1.out.trans (hb2.mono B1.out.size))
    have X2 := XX.out.below hb2 z1
    have x2 : w2.cell? ⟨w.heap.size, 1, none⟩ = some (.slice A l.length c) := X2.cell 1
    have XX2 := Lib.hid X2
    have z2 : w.heap.size < w2.heap.size := X2.lt
    rw [List.nil_append] at hown2 hc2 ⊢
    obtain ⟨L2, hL2⟩ : ∃ L, L = be 1 1 := ⟨_, rfl⟩
    have hLl2 : L2.length ≤ 131 := by rw [hL2, be_length]; omega
    rw [← hL2] at hown2 hc2 ⊢
    have LY2 := Lib.hid (Lies.own hown2 (Nat.le_refl _))
    have HL2 := Lib.hid hL2
    clear hown2 hb2 X2 hL2 x0
    go_wp2_with fail
    refine (nint_at A2 c2 _ L2 _ 2 2 l.length _ _ rfl rfl rfl LY2.out (Nat.le_refl _) (by omega)).mono ?_
    rintro e w3 ⟨V3, rfl, hown3, hb3⟩
    have B3 := Lib.hid (B2.out.trans (hb3.mono B2.out.size))
    have X3 := XX2.out.below hb3 z2
    have x3 : w3.cell? ⟨w.heap.size, 1, none⟩ = some (.slice A l.length c) := X3.cell 1
    have XX3 := Lib.hid X3
    have z3 : w.heap.size < w3.heap.size := X3.lt
    obtain ⟨L3, hL3⟩ : ∃ L, L = L2 ++ be 2 l.length := ⟨_, rfl⟩
    have hLl3 : L3.length = 3 := by rw [hL3, HL2.out, List.length_append, be_length, be_length]
    rw [← hL3] at hown3
    have O3 := Lib.hid (own_less hown3 (show w.heap.size + 1 ≤ w2.heap.size from z2))
    have HD : Hid (L3 ++ rowsB true l = nodeB true l) := Lib.hid (by rw [hL3, HL2.out]; rfl)
    have HLl3 := Lib.hid hLl3
    clear hown3 hb3 X3 hL3 x2 HL2 hLl3
    go_wp2_with fail
    go_loopw [5, 24] (fun v i wr => ∃ j : Nat, j ≤ l.length ∧ i = .int .i64 j ∧ wr.ownsRow (w.heap.size + 1) 5 1 v (L3 ++ rowsB true (l.take j)).length (B8 (L3 ++ rowsB true (l.take j))) ∧ Below w.heap.size w wr ∧ BoxN wr w.heap.size true A l.length c) (fun _ i _ => l.length - (intOf i).toNat)
    case atStart => exact ⟨0, Nat.zero_le _, rfl, by simpa [rowsB] using O3.out, B3.out, XX3.out⟩
    case round =>
      obtain ⟨j, hj, rfl, hown, hbel, hbox⟩ := hrel
      have HB := Lib.hid hbel
      have HX := Lib.hid hbox
      have HW := Lib.hid hown
      have hz := hbox.lt
      have x0 : wr.cell? ⟨w.heap.size, 0, none⟩ = some (.bool true) := hbox.cell 0
      obtain ⟨A4, c4, rfl, hc4, hm4⟩ := own_form hown
      obtain ⟨P, hP⟩ : ∃ P, P = L3 ++ rowsB true (l.take j) := ⟨_, rfl⟩
      rw [← hP] at HW hc4 ⊢
      have HP := Lib.hid hP
      clear hbel hbox hown x3 hP
      by_cases hlt : j < l.length
      · obtain ⟨b, o, rfl, hb, c0, c1, c2'⟩ := lies_rw ((HT.out.2.2).below (HB.out.mono hB)) j hlt
        obtain ⟨r, hr⟩ : ∃ r, r = l[j] := ⟨_, rfl⟩
        have hfit : fitR true r = true := by rw [hr]; exact okR_fit HS.out.2 _ (List.getElem_mem hlt)
        have hst := rowsB_take true l j hlt
        have hsm := sizeN_mono true l (j + 1)
        rw [← rowsB_length, hst, List.length_append] at hsm
        rw [← hr] at c0 c1 c2' hst hsm
        have hb1 := (Below.refl wr.heap.size wr).alloc (Nat.le_refl _) (.cells #[.string ⟨r.key.toArray⟩, .string ⟨r.val.toArray⟩, .int .i64 r.page] 23)
        have HB1 := Lib.hid hb1
        have hPl : P.length + (rowB true r).length ≤ 600 := by have := HS.out.1; rw [HP.out, List.length_append, HLl3.out]; omega
        have hPn : Hid (L3 ++ rowsB true (l.take (j + 1)) = P ++ rowB true r) := Lib.hid (by rw [hst, HP.out, List.append_assoc])
        have HF' := Lib.hid hfit
        have hrl : (rowB true r).length ≤ 600 := by omega
        obtain ⟨M, hM⟩ : ∃ M, M = rowB true r := ⟨_, rfl⟩
        rw [← hM] at hPl hPn hrl
        have HM := Lib.hid hM
        clear hr hst hsm hb1 hfit hM
        go_wp2_with fail
        refine (row_any r true _ HF'.out).mono ?_
        rintro e w5 ⟨V5, rfl, hown5, hb5⟩
        rw [← HM.out] at hown5
        obtain ⟨A5, c5, rfl, hc5, hm5⟩ := own_form hown5
        have hb6 := HB1.out.trans (hb5.mono (by simp))
        have HB6 := Lib.hid (HB.out.trans (hb6.mono (by omega)))
        have HX6 := Lib.hid (HX.out.below hb6 hz)
        have HW6 := Lib.hid (World.ownsRow.kept HW.out (only_below hb6 none) (Classical.em _))
        have L5 := Lib.hid (Lies.own hown5 (Nat.le_refl _))
        have hz6 : w.heap.size + 1 ≤ w5.heap.size := by have := hb6.size; omega
        have HPl : Hid (P.length + M.length ≤ 140737488355328) := Lib.hid (by omega)
        clear hb5 hb6 hown5 x0 c0 c1 c2'
        go_wp2_with (at_builtin; refine wpList_append_cells rfl _ _ 27 rfl (w.heap.size + 1) 5 i0 (.int .u8 0) 1 1 Try.underlying27 HI.out H0.out H1.out H2.out rfl (by omega) _ P.length _ rfl HW6.out _ A5 M.length c5 (B8 M) rfl L5.out (B8_len1 M) (B8_one M) (room63 HPl.out) (room1 HPl.out) hz6 ?_; intro v' w7 hown7 hbel7)
        have HB7 := Lib.hid (HB6.out.trans (hbel7.mono (by omega)))
        have HX7 := Lib.hid (HX6.out.below hbel7 (by omega))
        rw [← B8_append, ← List.length_append, ← hPn.out] at hown7
        have HW7 := Lib.hid hown7
        clear hbel7 hown7
        go_wp2_with fail
        go_roundw
        case rel => exact ⟨j + 1, by omega, by go_num, HW7.out, HB7.out, HX7.out⟩
        case measure => simp [intOf]; omega
      · obtain rfl : j = l.length := by omega
        have h := HW.out
        have e : P = L3 ++ rowsB true l := by rw [HP.out, List.take_length]
        have D := Lib.hid (DX.out (.slice A4 P.length c4) _ (by rw [← HD.out, ← e]; exact own_less h (by omega)) HB.out)
        clear h e
        go_wp2_with fail
        go_ret2
        exact D.out
  | false =>
    go_enter Try.func7, Try.ntmps7
    go_wp2_with fail
    refine (ok_any false l A c B _ (HT.out.below (BX.out.mono hB)) (by simp; omega) HF.out).mono ?_
    rintro e w1 ⟨rfl, hb1⟩
    have B1 := Lib.hid (BX.out.trans (hb1.mono (by simp)))
    have X1 := WX.out.below hb1 (by simp)
    have x0 : w1.cell? ⟨w.heap.size, 0, none⟩ = some (.bool false) := X1.cell 0
    have XX := Lib.hid X1
    have z1 : w.heap.size < w1.heap.size := X1.lt
    rw [HO.out]
    clear hb1 X1
    go_wp2_with fail
    refine (nint_at none 0 0 [] 0 1 1 2 _ _ rfl rfl rfl (Lies.empty _ _ _) (Nat.zero_le _) (by simp)).mono ?_
    rintro e w2 ⟨V2, rfl, hown2, hb2⟩
    obtain ⟨A2, c2, rfl, hc2, hm2⟩ := own_form hown2
    have B2 := Lib.hid (B1.out.trans (hb2.mono B1.out.size))
    have X2 := XX.out.below hb2 z1
    have x2 : w2.cell? ⟨w.heap.size, 1, none⟩ = some (.slice A l.length c) := X2.cell 1
    have XX2 := Lib.hid X2
    have z2 : w.heap.size < w2.heap.size := X2.lt
    rw [List.nil_append] at hown2 hc2 ⊢
    obtain ⟨L2, hL2⟩ : ∃ L, L = be 1 2 := ⟨_, rfl⟩
    have hLl2 : L2.length ≤ 131 := by rw [hL2, be_length]; omega
    rw [← hL2] at hown2 hc2 ⊢
    have LY2 := Lib.hid (Lies.own hown2 (Nat.le_refl _))
    have HL2 := Lib.hid hL2
    clear hown2 hb2 X2 hL2 x0
    go_wp2_with fail
    refine (nint_at A2 c2 _ L2 _ 2 2 l.length _ _ rfl rfl rfl LY2.out (Nat.le_refl _) (by omega)).mono ?_
    rintro e w3 ⟨V3, rfl, hown3, hb3⟩
    have B3 := Lib.hid (B2.out.trans (hb3.mono B2.out.size))
    have X3 := XX2.out.below hb3 z2
    have x3 : w3.cell? ⟨w.heap.size, 1, none⟩ = some (.slice A l.length c) := X3.cell 1
    have XX3 := Lib.hid X3
    have z3 : w.heap.size < w3.heap.size := X3.lt
    obtain ⟨L3, hL3⟩ : ∃ L, L = L2 ++ be 2 l.length := ⟨_, rfl⟩
    have hLl3 : L3.length = 3 := by rw [hL3, HL2.out, List.length_append, be_length, be_length]
    rw [← hL3] at hown3
    have O3 := Lib.hid (own_less hown3 (show w.heap.size + 1 ≤ w2.heap.size from z2))
    have HD : Hid (L3 ++ rowsB false l = nodeB false l) := Lib.hid (by rw [hL3, HL2.out]; rfl)
    have HLl3 := Lib.hid hLl3
    clear hown3 hb3 X3 hL3 x2 HL2 hLl3
    go_wp2_with fail
    go_loopw [5, 24] (fun v i wr => ∃ j : Nat, j ≤ l.length ∧ i = .int .i64 j ∧ wr.ownsRow (w.heap.size + 1) 5 1 v (L3 ++ rowsB false (l.take j)).length (B8 (L3 ++ rowsB false (l.take j))) ∧ Below w.heap.size w wr ∧ BoxN wr w.heap.size false A l.length c) (fun _ i _ => l.length - (intOf i).toNat)
    case atStart => exact ⟨0, Nat.zero_le _, rfl, by simpa [rowsB] using O3.out, B3.out, XX3.out⟩
    case round =>
      obtain ⟨j, hj, rfl, hown, hbel, hbox⟩ := hrel
      have HB := Lib.hid hbel
      have HX := Lib.hid hbox
      have HW := Lib.hid hown
      have hz := hbox.lt
      have x0 : wr.cell? ⟨w.heap.size, 0, none⟩ = some (.bool false) := hbox.cell 0
      obtain ⟨A4, c4, rfl, hc4, hm4⟩ := own_form hown
      obtain ⟨P, hP⟩ : ∃ P, P = L3 ++ rowsB false (l.take j) := ⟨_, rfl⟩
      rw [← hP] at HW hc4 ⊢
      have HP := Lib.hid hP
      clear hbel hbox hown x3 hP
      by_cases hlt : j < l.length
      · obtain ⟨b, o, rfl, hb, c0, c1, c2'⟩ := lies_rw ((HT.out.2.2).below (HB.out.mono hB)) j hlt
        obtain ⟨r, hr⟩ : ∃ r, r = l[j] := ⟨_, rfl⟩
        have hfit : fitR false r = true := by rw [hr]; exact okR_fit HS.out.2 _ (List.getElem_mem hlt)
        have hst := rowsB_take false l j hlt
        have hsm := sizeN_mono false l (j + 1)
        rw [← rowsB_length, hst, List.length_append] at hsm
        rw [← hr] at c0 c1 c2' hst hsm
        have hb1 := (Below.refl wr.heap.size wr).alloc (Nat.le_refl _) (.cells #[.string ⟨r.key.toArray⟩, .string ⟨r.val.toArray⟩, .int .i64 r.page] 23)
        have HB1 := Lib.hid hb1
        have hPl : P.length + (rowB false r).length ≤ 600 := by have := HS.out.1; rw [HP.out, List.length_append, HLl3.out]; omega
        have hPn : Hid (L3 ++ rowsB false (l.take (j + 1)) = P ++ rowB false r) := Lib.hid (by rw [hst, HP.out, List.append_assoc])
        have HF' := Lib.hid hfit
        have hrl : (rowB false r).length ≤ 600 := by omega
        obtain ⟨M, hM⟩ : ∃ M, M = rowB false r := ⟨_, rfl⟩
        rw [← hM] at hPl hPn hrl
        have HM := Lib.hid hM
        clear hr hst hsm hb1 hfit hM
        go_wp2_with fail
        refine (row_any r false _ HF'.out).mono ?_
        rintro e w5 ⟨V5, rfl, hown5, hb5⟩
        rw [← HM.out] at hown5
        obtain ⟨A5, c5, rfl, hc5, hm5⟩ := own_form hown5
        have hb6 := HB1.out.trans (hb5.mono (by simp))
        have HB6 := Lib.hid (HB.out.trans (hb6.mono (by omega)))
        have HX6 := Lib.hid (HX.out.below hb6 hz)
        have HW6 := Lib.hid (World.ownsRow.kept HW.out (only_below hb6 none) (Classical.em _))
        have L5 := Lib.hid (Lies.own hown5 (Nat.le_refl _))
        have hz6 : w.heap.size + 1 ≤ w5.heap.size := by have := hb6.size; omega
        have HPl : Hid (P.length + M.length ≤ 140737488355328) := Lib.hid (by omega)
        clear hb5 hb6 hown5 x0 c0 c1 c2'
        go_wp2_with (at_builtin; refine wpList_append_cells rfl _ _ 27 rfl (w.heap.size + 1) 5 i0 (.int .u8 0) 1 1 Try.underlying27 HI.out H0.out H1.out H2.out rfl (by omega) _ P.length _ rfl HW6.out _ A5 M.length c5 (B8 M) rfl L5.out (B8_len1 M) (B8_one M) (room63 HPl.out) (room1 HPl.out) hz6 ?_; intro v' w7 hown7 hbel7)
        have HB7 := Lib.hid (HB6.out.trans (hbel7.mono (by omega)))
        have HX7 := Lib.hid (HX6.out.below hbel7 (by omega))
        rw [← B8_append, ← List.length_append, ← hPn.out] at hown7
        have HW7 := Lib.hid hown7
        clear hbel7 hown7
        go_wp2_with fail
        go_roundw
        case rel => exact ⟨j + 1, by omega, by go_num, HW7.out, HB7.out, HX7.out⟩
        case measure => simp [intOf]; omega
      · obtain rfl : j = l.length := by omega
        have h := HW.out
        have e : P = L3 ++ rowsB false l := by rw [HP.out, List.take_length]
        have D := Lib.hid (DX.out (.slice A4 P.length c4) _ (by rw [← HD.out, ← e]; exact own_less h (by omega)) HB.out)
        clear h e
        go_wp2_with fail
        go_ret2
        exact D.out
end Go.Proofs.Ytdjkkppefgppmaa
