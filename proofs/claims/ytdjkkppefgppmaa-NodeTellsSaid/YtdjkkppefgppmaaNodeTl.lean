/- The law on what a node may be and on its octets, walked. -/
import Derived.Test.YtdjkkppefgppmaaNodeTp
import Derived.Deep.DeepCutAuto
import Derived.Deep.DeepMust
import Derived.Deep.RegionHeld3
namespace Go.Proofs.Ytdjkkppefgppmaa
open Go.RowKit
set_option maxRecDepth 100000
set_option linter.unusedSimpArgs false
set_option linter.unusedVariables false

/-- the document's octets -/
def WantN (W : World) (O : List UInt8) (v : Value) (wx : World) : Prop :=
  ∃ A c, v = .slice A O.length c ∧ O.length ≤ c ∧ c ≤ maxLen ∧ Lies wx wx.heap.size A (B8 O) ∧ Below W.heap.size W wx
/-- octets of the same length -/
def NTurned (B : Nat) (w0 : World) (T : List UInt8) (A : Option Addr) (w : World) : Prop := ∃ X, X.length = T.length ∧ Below B w0 w ∧ Lies w w.heap.size A (B8 X)

theorem lies_whole {w : World} {g : Nat} {t : TypeId} {cs : List Value} (h : Whole w g t cs.toArray) : Lies w w.heap.size (some ⟨g, 0, none⟩) cs :=
  .inr ⟨g, 0, rfl, h.lt, fun j x hx => by rw [Nat.zero_add, h.cell]; simpa using hx⟩
theorem told_named {b : List UInt8} {lf is : Bool} {l : List Rw} {W w' : World} {e : Ending} (hA : asNode b = (lf, l, is)) (h : Told b W e w') :
    ∃ A c, e = .returned (.tuple #[.agg #[.bool lf, .slice A l.length c], .bool is]) ∧ RowsAt w' w'.heap.size l A c ∧ Below W.heap.size W w' := by
  unfold Told at h
  rw [hA] at h
  exact h
theorem few_named {b : List UInt8} {lf is : Bool} {l : List Rw} (hA : asNode b = (lf, l, is)) : Few l := by
  have h := asNode_few b
  rw [hA] at h
  exact h
set_option maxHeartbeats 4000000 in
theorem tells_law (A0 : Option Addr) (raw : List UInt8) (c0 : Nat) (leaf0 : Bool) (l0 : List Rw) (An : Option Addr) (cn : Nat) (at_ : Int) (y : UInt8) (cut : Int) (w : World)
    (hr : Lies w w.heap.size A0 (B8 raw)) (hrc : raw.length ≤ c0) (hrm : c0 ≤ maxLen) (ht : RowsAt w w.heap.size l0 An cn) (hf : Bear l0) :
    Calls Try.prog 4 #[.slice A0 raw.length c0, .agg #[.bool leaf0, .slice An l0.length cn], .int .i64 at_, .int .u8 (y.toNat : Int), .int .i64 cut] w fun e w' => e = .returned (.bool true) ∧ Below w.heap.size w w' := by
  obtain ⟨i0, hi, hz0, hz1, hz2⟩ := info_parts u8_info
  have HI := Lib.hid hi
  have H0 := Lib.hid hz0
  have H1 := Lib.hid hz1
  have H2 := Lib.hid hz2
  have hb0 := (Below.refl w.heap.size w).alloc (Nat.le_refl _) (.cells #[.bool leaf0, .slice An l0.length cn] 26)
  have BX := Lib.hid hb0
  have WX := Lib.hid (Whole.new w 26 #[.bool leaf0, .slice An l0.length cn])
  have HT := Lib.hid (ht.below hb0)
  have HF := Lib.hid hf
  have HRAW := Lib.hid hr
  have hz1' : w.heap.size < (w.alloc (.cells #[.bool leaf0, .slice An l0.length cn] 26)).heap.size := by simp
  have HZ1 := Lib.hid hz1'
  have HRM := Lib.hid hrm
  unfold maxLen at hrm
  clear hi hz0 hz1 hz2 hb0 ht hf hr hz1'
  by_cases hraw : raw.length ≤ 700
  · go_enter Try.func4, Try.ntmps4
    go_wp2_with fail
    refine (small_any leaf0 l0 An cn _ _ HT.out (by have := HZ1.out; omega) HF.out).mono ?_
    rintro e w1 ⟨rfl, b1⟩
    have BX1 := Lib.hid (BX.out.trans (b1.mono BX.out.size))
    have W1 := WX.out.below b1 HZ1.out
    have R1 := HT.out.below (b1.mono (by have := HZ1.out; omega))
    have hzz : w.heap.size ≤ w1.heap.size := BX1.out.size
    obtain ⟨sm, hsm⟩ : ∃ sm, sm = smallN l0 := ⟨_, rfl⟩
    rw [← hsm]
    have HSM := Lib.hid hsm
    cases sm with
    | true =>
      have TX := Lib.hid (show TlAt w w1 leaf0 l0 An cn from ⟨W1, R1.more hzz, BX1.out, small_few HSM.out.symm⟩)
      clear b1 W1 R1 hsm
      go_wp2_with fail
      go_loopw [11] (fun iv wr => ∃ (i : Nat) (leaf : Bool) (l : List Rw) (A : Option Addr) (c : Nat), i ≤ 2 ∧ iv = .int .i64 (i : Int) ∧ TlAt w wr leaf l A c) (fun iv _ => 2 - (intOf iv).toNat)
      case atStart => exact ⟨0, leaf0, l0, An, cn, by omega, rfl, TX.out⟩
      case round =>
        obtain ⟨i, leaf, l, A, c, hi2, rfl, htl⟩ := hrel
        have T0 := Lib.hid htl
        obtain ⟨x0, x1⟩ := htl.cells
        have hlc := htl.rows.1
        have hcm := htl.rows.2.1
        have hll := htl.few.1
        unfold maxLen at hcm
        clear htl TX
        by_cases hlt : i < 2
        · obtain ⟨ok, hok⟩ : ∃ ok, ok = okN leaf l := ⟨_, rfl⟩
          have HOK := Lib.hid hok
          obtain ⟨O, hO⟩ : ∃ O, O = (if ok = true then nodeB leaf l else []) := ⟨_, rfl⟩
          have HO := Lib.hid hO
          have hO512 : O.length ≤ 600 := by
            rw [hO]
            split
            · rename_i h
              rw [nodeB_length]
              rw [hok, okN, Bool.and_eq_true, Bool.not_eq_true', Bool.or_eq_false_iff] at h
              have := h.1.2
              simp at this
              omega
            · simp
          clear hok hO
          go_wp2_with fail
          refine (nappend_is leaf l O ok A l.length c _ _ rfl HOK.out.symm HO.out T0.out.rows (Nat.le_refl _) T0.out.few).mono ?_
          rintro e w2 ⟨A2, c2, rfl, hc2, hm2, o2, b2⟩
          have T2 := Lib.hid (T0.out.below b2)
          have L2 := Lib.hid (Lies.own o2 (Nat.le_refl _))
          clear b2 o2 x0 x1
          obtain ⟨x0, x1⟩ := T2.out.cells
          go_wp2_with fail
          refine (rok_is leaf l ok A l.length c _ _ rfl HOK.out.symm T2.out.rows (Nat.le_refl _) T2.out.few).mono ?_
          rintro e w3 ⟨rfl, b3⟩
          have T3 := Lib.hid (T2.out.below b3)
          have L3 := Lib.hid (L2.out.below b3)
          have hz3 : w2.heap.size ≤ w3.heap.size := b3.size
          clear b3 x0 x1
          have TD := Lib.hid (show TlAt w w3.drew leaf l A c from ⟨T3.out.box, T3.out.rows, T3.out.bel.drew, T3.out.few⟩)
          have BD0 := Lib.hid ((Below.refl w3.heap.size w3).drew)
          obtain ⟨sz, hsz⟩ : ∃ sz, sz = sizeN leaf l := ⟨_, rfl⟩
          have HSZ := Lib.hid hsz
          have hszb : sz ≤ 3 + l.length * (2 * 1000000 + 5) := by rw [hsz]; exact sizeN_le leaf l 1000000 T0.out.few.2
          clear hsz
          go_upto_region 8 with fail
          refine wp_region_held_drew (S := (fun w' => w'.cell? ⟨w.heap.size, 0, none⟩ = some (.bool leaf) ∧ w'.cell? ⟨w.heap.size, 1, none⟩ = some (.slice A l.length c))) (by kernel_rfl) TD.out.cells (fun hS0 => ?_)
          refine wpAnyH_take (i := 0) (oi := ⟨some 43, _, _, _, _, _⟩) (v := ?_) rfl (by kernel_rfl) (by kernel_rfl) (by kernel_rfl) (fun _ _ _ h => h) (Or.inl ⟨by rfl, ?_⟩) hS0 ?_
          rotate_left
          · (intro wS hSw; (try dsimp only at hSw); go_simp); all_goals (with_reducible rfl)
          try simp only [Act.put, List.setIfInBounds_toArray, List.set_cons_zero, List.set_cons_succ]
          refine wpAnyH_take (i := 1) (oi := ⟨some 44, _, _, _, _, _⟩) (v := ?_) rfl (by kernel_rfl) (by kernel_rfl) (by kernel_rfl) (fun _ _ _ h => h) (Or.inl ⟨by rfl, ?_⟩) hS0 ?_
          rotate_left
          · (intro wS hSw; (try dsimp only at hSw); go_simp); all_goals (with_reducible rfl)
          try simp only [Act.put, List.setIfInBounds_toArray, List.set_cons_zero, List.set_cons_succ]
          refine wpAnyH_take (i := 2) (oi := ⟨some 45, _, _, _, _, _⟩) (v := ?_) rfl (by kernel_rfl) (by kernel_rfl) (by kernel_rfl) (fun _ _ _ h => h) (Or.inl ⟨by rfl, ?_⟩) hS0 ?_
          rotate_left
          · (intro wS hSw; (try dsimp only at hSw); go_simp); all_goals (with_reducible rfl)
          try simp only [Act.put, List.setIfInBounds_toArray, List.set_cons_zero, List.set_cons_succ]
          refine wpAnyH_take (i := 3) (oi := ⟨some 46, _, _, _, _, _⟩) (v := ?_) rfl (by kernel_rfl) (by kernel_rfl) (by kernel_rfl) (fun _ _ _ h => h) (Or.inl ⟨by rfl, ?_⟩) hS0 ?_
          rotate_left
          · (intro wS hSw; (try dsimp only at hSw); go_simp); all_goals (with_reducible rfl)
          try simp only [Act.put, List.setIfInBounds_toArray, List.set_cons_zero, List.set_cons_succ]
          refine wpAnyH_take (i := 4) (oi := ⟨some 47, _, _, _, _, _⟩) (v := ?_) rfl (by kernel_rfl) (by kernel_rfl) (by kernel_rfl) (fun _ _ _ h => h) (Or.inl ⟨by rfl, ?_⟩) hS0 ?_
          rotate_left
          · (intro wS hSw; (try dsimp only at hSw); go_simp); all_goals (with_reducible rfl)
          try simp only [Act.put, List.setIfInBounds_toArray, List.set_cons_zero, List.set_cons_succ]
          refine wpAnyH_take (i := 6) (oi := ⟨some 49, _, _, _, _, _⟩) (v := ?_) rfl (by kernel_rfl) (by kernel_rfl) (by kernel_rfl) (fun _ _ _ h => h) (Or.inl ⟨by rfl, ?_⟩) hS0 ?_
          rotate_left
          · (intro wS hSw; (try dsimp only at hSw); go_simp); all_goals (with_reducible rfl)
          try simp only [Act.put, List.setIfInBounds_toArray, List.set_cons_zero, List.set_cons_succ]
          refine wpAnyH_ready (rs := [5]) (by kernel_rfl) (by simp) ?_
          refine AllReadyH.cons (o := ⟨some 48, _, _, _, _, _⟩) rfl (fun K hK => ?_) AllReadyH.nil
          go_simp
          refine (ok_is leaf l ok _ _ c _ _ rfl HOK.out.symm TD.out.rows (Nat.le_refl _) TD.out.few).mono ?_
          rintro e wa ⟨rfl, b8⟩
          have Twa := Lib.hid (TD.out.below b8)
          have BB := Lib.hid (BD0.out.trans (b8.mono (by have := BD0.out.size; exact this)))
          clear b8
          go_wp2_with fail
          refine hK.out _ _ Twa.out.cells (fun hS5 => ?_)
          clear hK K
          try simp only [Act.put, List.setIfInBounds_toArray, List.set_cons_zero, List.set_cons_succ]
          refine wpAnyH_take (i := 7) (oi := ⟨some 50, _, _, _, _, _⟩) (v := ?_) rfl (by kernel_rfl) (by kernel_rfl) (by kernel_rfl) (fun _ _ _ h => h) (Or.inl ⟨by rfl, ?_⟩) hS5 ?_
          rotate_left
          · (intro wS hSw; (try dsimp only at hSw); go_simp); all_goals (with_reducible rfl)
          try simp only [Act.put, List.setIfInBounds_toArray, List.set_cons_zero, List.set_cons_succ]
          refine wpAnyH_take (i := 8) (oi := ⟨some 51, _, _, _, _, _⟩) (v := ?_) rfl (by kernel_rfl) (by kernel_rfl) (by kernel_rfl) (fun _ _ _ h => h) (Or.inl ⟨by rfl, ?_⟩) hS5 ?_
          rotate_left
          · (intro wS hSw; (try dsimp only at hSw); go_simp); all_goals (with_reducible rfl)
          try simp only [Act.put, List.setIfInBounds_toArray, List.set_cons_zero, List.set_cons_succ]
          refine wpAnyH_take (i := 9) (oi := ⟨some 52, _, _, _, _, _⟩) (v := ?_) rfl (by kernel_rfl) (by kernel_rfl) (by kernel_rfl) (fun _ _ _ h => h) (Or.inl ⟨by rfl, ?_⟩) hS5 ?_
          rotate_left
          · (intro wS hSw; (try dsimp only at hSw); go_simp); all_goals (with_reducible rfl)
          try simp only [Act.put, List.setIfInBounds_toArray, List.set_cons_zero, List.set_cons_succ]
          refine wpAnyH_take (i := 10) (oi := ⟨some 53, _, _, _, _, _⟩) (v := ?_) rfl (by kernel_rfl) (by kernel_rfl) (by kernel_rfl) (fun _ _ _ h => h) (Or.inl ⟨by rfl, ?_⟩) hS5 ?_
          rotate_left
          · (intro wS hSw; (try dsimp only at hSw); go_simp); all_goals (with_reducible rfl)
          try simp only [Act.put, List.setIfInBounds_toArray, List.set_cons_zero, List.set_cons_succ]
          refine wpAnyH_take (i := 12) (oi := ⟨some 55, _, _, _, _, _⟩) (v := ?_) rfl (by kernel_rfl) (by kernel_rfl) (by kernel_rfl) (fun _ _ _ h => h) (Or.inl ⟨by rfl, ?_⟩) hS5 ?_
          rotate_left
          · (intro wS hSw; (try dsimp only at hSw); go_simp); all_goals (with_reducible rfl)
          try simp only [Act.put, List.setIfInBounds_toArray, List.set_cons_zero, List.set_cons_succ]
          refine wpAnyH_ready (rs := [11]) (by kernel_rfl) (by simp) ?_
          refine AllReadyH.cons (o := ⟨some 54, _, _, _, _, _⟩) rfl (fun K hK => ?_) AllReadyH.nil
          go_simp
          refine (size_is leaf l sz _ _ c _ _ rfl HSZ.out.symm Twa.out.rows (Nat.le_refl _) Twa.out.few).mono ?_
          rintro e wb ⟨rfl, b8⟩
          have Twb := Lib.hid (Twa.out.below b8)
          have BB := Lib.hid (BB.out.trans (b8.mono (by have := BB.out.size; exact this)))
          clear b8
          go_wp2_with fail
          refine hK.out _ _ Twb.out.cells (fun hS11 => ?_)
          clear hK K
          try simp only [Act.put, List.setIfInBounds_toArray, List.set_cons_zero, List.set_cons_succ]
          refine wpAnyH_ready (rs := [13]) (by kernel_rfl) (by simp) ?_
          refine AllReadyH.cons (o := ⟨some 56, _, _, _, _, _⟩) rfl (fun K hK => ?_) AllReadyH.nil
          go_simp
          refine (rsize_eq leaf l sz _ _ c _ _ rfl HSZ.out.symm Twb.out.rows (Nat.le_refl _) Twb.out.few).mono ?_
          rintro e wv ⟨rfl, b8⟩
          have Twv := Lib.hid (Twb.out.below b8)
          have BB := Lib.hid (BB.out.trans (b8.mono (by have := BB.out.size; exact this)))
          clear b8
          go_wp2_with fail
          refine hK.out _ _ Twv.out.cells (fun hS13 => ?_)
          clear hK K
          try simp only [Act.put, List.setIfInBounds_toArray, List.set_cons_zero, List.set_cons_succ]
          refine wpAnyH_take (i := 14) (oi := ⟨some 57, _, _, _, _, _⟩) (v := ?_) rfl (by kernel_rfl) (by kernel_rfl) (by kernel_rfl) (fun _ _ _ h => h) (Or.inl ⟨by rfl, ?_⟩) hS13 ?_
          rotate_left
          · (intro wS hSw; (try dsimp only at hSw); go_simp); all_goals (with_reducible rfl)
          try simp only [Act.put, List.setIfInBounds_toArray, List.set_cons_zero, List.set_cons_succ]
          refine wpAnyH_take (i := 15) (oi := ⟨some 58, _, _, _, _, _⟩) (v := ?_) rfl (by kernel_rfl) (by kernel_rfl) (by kernel_rfl) (fun _ _ _ h => h) (Or.inl ⟨by rfl, ?_⟩) hS13 ?_
          rotate_left
          · (intro wS hSw; (try dsimp only at hSw); go_simp); all_goals (with_reducible rfl)
          try simp only [Act.put, List.setIfInBounds_toArray, List.set_cons_zero, List.set_cons_succ]
          refine wpAnyH_done (by kernel_rfl) ?_ _
          have L4 := Lib.hid (show Lies wv w2.heap.size A2 (B8 O) from (L3.out.below (BB.out.mono hz3)))
          obtain ⟨y0, y1⟩ := Twv.out.cells
          have hzwv : w2.heap.size ≤ wv.heap.size := by have := BB.out.size; omega
          clear hS13 hS11 hS5 hS0 Twa Twb
          go_upto_if 59 with fail
          go_cut [15] (fun s15 wx => WantN wv O s15 wx)
          case first =>
            cases ok with
            | true =>
              go_wp2_with fail
              refine (rnode_any leaf l A c _ _ Twv.out.rows (Nat.le_refl _) HOK.out.symm Twv.out.few).mono ?_
              rintro e w4 ⟨v4, rfl, ho, hb⟩
              have HOn : O = nodeB leaf l := by rw [HO.out]; simp
              rw [← HOn] at ho
              obtain ⟨A4, c4, rfl, hc4, hm4⟩ := own_form ho
              have D : Hid (WantN wv O (.slice A4 O.length c4) w4) := Lib.hid ⟨A4, c4, rfl, hc4, hm4, Lies.own ho (Nat.le_refl _), hb⟩
              clear ho hb HOn
              go_wp2_with fail
              go_meet
              exact D.out
            | false =>
              have HOn : O = [] := by rw [HO.out]; rfl
              have D : Hid (WantN wv O (.slice none 0 0) wv) := Lib.hid ⟨none, 0, by rw [HOn]; rfl, by rw [HOn]; exact Nat.le_refl _, Nat.zero_le _, by rw [HOn]; exact Lies.empty _ _ _, Below.refl _ _⟩
              clear HOn
              go_wp2_with fail
              go_meet
              exact D.out
          case rest =>
            obtain ⟨w4, hw4⟩ : ∃ w4 : World, w4 = wc := ⟨_, rfl⟩
            subst hw4
            obtain ⟨AW, cW, rfl, hcW, hmW, hl4, hb4⟩ := hcut
            have L5 := Lib.hid hl4
            have L24 := Lib.hid (L4.out.below (hb4.mono hzwv))
            have TW := Lib.hid (Twv.out.below hb4)
            have cvA := run_octets_string (P := Try.prog) 27 9 5 Try.underlying27 Try.underlying5 Try.underlying9 L24.out c2
            have cvB := run_octets_string (P := Try.prog) 27 9 5 Try.underlying27 Try.underlying5 Try.underlying9 L5.out cW
            have hmW' := hmW
            unfold maxLen at hmW'
            clear hl4 hb4 y0 y1
            go_upto_region 15 with fail
            clear cvA cvB
            have ho0 : (w4.alloc (.cells #[] 5)).ownsRow w4.heap.size 5 1 (.slice (some ⟨w4.heap.size, 0, none⟩) 0 0) 0 [] := World.ownsRow_made w4 #[] 0 (Nat.le_refl _) (Nat.zero_le _) rfl
            have HO0 := Lib.hid ho0
            have BA4 : Hid (Below w4.heap.size w4 (w4.alloc (.cells #[] 5))) := Lib.hid ((Below.refl _ _).alloc (Nat.le_refl _) _)
            have za : w4.heap.size ≤ (w4.alloc (.cells #[] 5)).heap.size := by simp
            have ZA := Lib.hid za
            have ho1 : 0 + O.length ≤ 140737488355328 := by omega
            have ho2 : O.length + 3 ≤ 140737488355328 := by omega
            clear ho0 za
            go_upto_if 72 with (at_builtin; refine wpList_append_cells rfl _ _ 27 rfl w4.heap.size 5 i0 (.int .u8 0) 1 1 Try.underlying27 HI.out H0.out H1.out H2.out rfl (by omega) _ 0 [] rfl HO0.out _ AW O.length cW (B8 O) rfl (L5.out.below BA4.out) (B8_len1 O) (B8_one O) (room63 ho1) (room1 ho1) ZA.out ?_; intro v6 w6 hown6 hb6; rw [Nat.zero_add, List.nil_append] at hown6; obtain ⟨AX, cX, rfl, hcX, hmX⟩ := own_form hown6; have HB6 := Lib.hid (BA4.out.trans hb6); have HO6 := Lib.hid hown6; have L6 := Lib.hid (Lies.own hown6 (Nat.le_refl _)); clear hown6 hb6)
            go_cut [] (fun wx => NTurned w4.heap.size w4 O AX wx)
            case first =>
              by_cases hlen : O.length = 0
              · have hlt0 : ¬ (0 : Int) < (O.length : Int) := by omega
                have D : Hid (NTurned w4.heap.size w4 O AX w6) := Lib.hid ⟨O, rfl, HB6.out, L6.out⟩
                clear hlen
                go_wp2_with fail
                go_meet
                exact D.out
              · have hT0' : 0 < O.length := by omega
                have hlt0 : (0 : Int) < (O.length : Int) := by omega
                obtain ⟨g6, rfl, hg6, hg6', hfr⟩ := own_head HO6.out hT0'
                obtain ⟨J, hJ, hJe⟩ := turn_at at_ O.length hT0'
                have hc : w6.cell? ⟨g6, 0 + J, none⟩ = some (.int .u8 ((O.getD J 0).toNat : Int)) := by
                  rcases L6.out.octets with h | ⟨b, o, e, _, hc⟩
                  · rw [h] at hT0'; simp at hT0'
                  · injection e with e
                    injection e with e1 e2 e3
                    subst e1 e2
                    rw [hc J hJ]
                    simp [List.getD, hJ]
                rw [Nat.zero_add] at hc
                have hf := hfr J
                have hx := u8_flip (O.getD J 0) y
                have D : Hid (NTurned w4.heap.size w4 O (some ⟨g6, 0, none⟩) (w6.setCell ⟨g6, J, none⟩ (.int .u8 ((O.getD J 0 ^^^ y).toNat : Int)))) := Lib.hid ⟨flip O J y, flip_length O J y, HB6.out.setCell hg6 _, by
                  rw [show (w6.setCell ⟨g6, J, none⟩ (.int .u8 ((O.getD J 0 ^^^ y).toNat : Int))).heap.size = w6.heap.size from by simp [World.setCell], show (⟨g6, J, none⟩ : Addr) = ⟨g6, 0 + J, none⟩ from by rw [Nat.zero_add]]
                  exact flip_lies L6.out J hJ y⟩
                generalize O.getD J 0 = q at *
                generalize (q ^^^ y) = z' at *
                clear hfr hlen
                go_wp2_with fail
                go_meet
                exact D.out
            case rest =>
              obtain ⟨wq, hwq⟩ : ∃ wq : World, wq = wc := ⟨_, rfl⟩
              subst hwq
              obtain ⟨X, hXl, hbx, hlx⟩ := hcut
              have hzx := hbx.size
              have LWq := Lib.hid (L5.out.below hbx)
              have TQ := Lib.hid (TW.out.below hbx)
              have LXq := Lib.hid hlx
              have HXL := Lib.hid hXl
              clear hbx hlx hXl
              go_wp2_with fail
              obtain ⟨wO, hwO⟩ : ∃ wO : World, wO = wr := ⟨_, rfl⟩
              subst hwO
              go_loopw [17] (fun kv wr => ∃ k : Nat, k ≤ 4 ∧ kv = .int .i64 k ∧ Below wq.heap.size wq wr) (fun kv _ => 4 - (intOf kv).toNat)
              case atStart => exact ⟨0, by omega, rfl, Below.refl _ _⟩
              case round =>
                obtain ⟨k, hk, rfl, hbk⟩ := hrel
                obtain ⟨wo, hwo⟩ : ∃ wo : World, wo = wr := ⟨_, rfl⟩
                subst hwo
                have BK := Lib.hid hbk
                have hzk := hbk.size
                have TK := Lib.hid (TQ.out.below hbk)
                clear hbk
                by_cases hk4 : k < 4
                · have hk4' : (k : Int) < 4 := by omega
                  have LO := Lib.hid ((LWq.out.below (BK.out.mono hzx)).more (show w4.heap.size ≤ wo.heap.size by omega))
                  have GR : Hid (GS wo (.slice A0 raw.length c0)) := Lib.hid ⟨A0, raw, c0, rfl, hrc, HRM.out, by omega, (HRAW.out.below TK.out.bel).more TK.out.bel.size⟩
                  have GX : Hid (GS wo (.slice AX O.length cX)) := Lib.hid ⟨AX, X, cX, by rw [HXL.out], by rw [HXL.out]; exact hcX, hmX, by rw [HXL.out]; omega, (LXq.out.below BK.out).more hzk⟩
                  obtain ⟨jc, hjc, hjce⟩ := turn_at cut (O.length + 1) (by omega)
                  have hjz : (bits .and .i64 cut 65535).tmod ((O.length : Int) + 1) = (jc : Int) := by rw [← hjce, Int.natCast_add]; rfl
                  have hjc' : jc ≤ O.length := by omega
                  have GW : Hid (GS wo (.slice AW jc cW)) := Lib.hid ⟨AW, O.take jc, cW, by rw [List.length_take, Nat.min_eq_left hjc'], by rw [List.length_take]; omega, hmW, by rw [List.length_take]; omega, by
                    have h := LO.out.take jc
                    rw [B8, ← List.map_take] at h
                    exact h⟩
                  have hwl : IntKind.i64.wrap ((O.length : Int) + 1) = (O.length : Int) + 1 := IntWalk.i64_in _ (by omega)
                  have hn0 : ¬ ((O.length : Int) + 1 = 0) := by omega
                  have hj1 : (0 : Int) ≤ (jc : Int) := by omega
                  have hj2 : (jc : Int) ≤ (cW : Int) := by omega
                  clear hjce
                  go_upto_region 21 with fail
                  go_cut [18] (fun v wx => TlY wo v wx)
                  case first =>
                    refine wp_region_held_drew (S := fun _ => True) (by kernel_rfl) trivial (fun hS0 => ?_)
                    refine wpAnyH_take (i := 0) (oi := ⟨some 88, _, _, _, _, _⟩) (v := ?_) rfl (by kernel_rfl) (by kernel_rfl) (by kernel_rfl) (fun _ _ _ h => h) (Or.inl ⟨by rfl, ?_⟩) hS0 ?_
                    rotate_left
                    · (intro wS hSw; (try dsimp only at hSw); go_simp); all_goals (with_reducible rfl)
                    try simp only [Act.put, List.setIfInBounds_toArray, List.set_cons_zero, List.set_cons_succ]
                    refine wpAnyH_take (i := 1) (oi := ⟨some 89, _, _, _, _, _⟩) (v := ?_) rfl (by kernel_rfl) (by kernel_rfl) (by kernel_rfl) (fun _ _ _ h => h) (Or.inl ⟨by rfl, ?_⟩) hS0 ?_
                    rotate_left
                    · (intro wS hSw; (try dsimp only at hSw); go_simp); all_goals (with_reducible rfl)
                    try simp only [Act.put, List.setIfInBounds_toArray, List.set_cons_zero, List.set_cons_succ]
                    refine wpAnyH_take (i := 2) (oi := ⟨some 90, _, _, _, _, _⟩) (v := ?_) rfl (by kernel_rfl) (by kernel_rfl) (by kernel_rfl) (fun _ _ _ h => h) (Or.inl ⟨by rfl, ?_⟩) hS0 ?_
                    rotate_left
                    · (intro wS hSw; (try dsimp only at hSw); go_simp); all_goals (with_reducible rfl)
                    try simp only [Act.put, List.setIfInBounds_toArray, List.set_cons_zero, List.set_cons_succ]
                    refine wpAnyH_take (i := 3) (oi := ⟨some 91, _, _, _, _, _⟩) (v := ?_) rfl (by kernel_rfl) (by kernel_rfl) (by kernel_rfl) (fun _ _ _ h => h) (Or.inl ⟨by rfl, ?_⟩) hS0 ?_
                    rotate_left
                    · (intro wS hSw; (try dsimp only at hSw); go_simp); all_goals (with_reducible rfl)
                    try simp only [Act.put, List.setIfInBounds_toArray, List.set_cons_zero, List.set_cons_succ]
                    refine wpAnyH_take (i := 4) (oi := ⟨some 92, _, _, _, _, _⟩) (v := ?_) rfl (by kernel_rfl) (by kernel_rfl) (by kernel_rfl) (fun _ _ _ h => h) (Or.inl ⟨by rfl, ?_⟩) hS0 ?_
                    rotate_left
                    · (intro wS hSw; (try dsimp only at hSw); go_simp); all_goals (with_reducible rfl)
                    try simp only [Act.put, List.setIfInBounds_toArray, List.set_cons_zero, List.set_cons_succ]
                    refine wpAnyH_take (i := 5) (oi := ⟨some 93, _, _, _, _, _⟩) (v := ?_) rfl (by kernel_rfl) (by kernel_rfl) (by kernel_rfl) (fun _ _ _ h => h) (Or.inl ⟨by rfl, ?_⟩) hS0 ?_
                    rotate_left
                    · (intro wS hSw; (try dsimp only at hSw); go_simp); all_goals (with_reducible rfl)
                    try simp only [Act.put, List.setIfInBounds_toArray, List.set_cons_zero, List.set_cons_succ]
                    refine wpAnyH_take (i := 6) (oi := ⟨some 94, _, _, _, _, _⟩) (v := ?_) rfl (by kernel_rfl) (by kernel_rfl) (by kernel_rfl) (fun _ _ _ h => h) (Or.inl ⟨by rfl, ?_⟩) hS0 ?_
                    rotate_left
                    · (intro wS hSw; (try dsimp only at hSw); go_simp); all_goals (with_reducible rfl)
                    try simp only [Act.put, List.setIfInBounds_toArray, List.set_cons_zero, List.set_cons_succ]
                    refine wpAnyH_take (i := 7) (oi := ⟨some 95, _, _, _, _, _⟩) (v := ?_) rfl (by kernel_rfl) (by kernel_rfl) (by kernel_rfl) (fun _ _ _ h => h) (Or.inl ⟨by rfl, ?_⟩) hS0 ?_
                    rotate_left
                    · (intro wS hSw; (try dsimp only at hSw); go_simp); all_goals (with_reducible rfl)
                    try simp only [Act.put, List.setIfInBounds_toArray, List.set_cons_zero, List.set_cons_succ]
                    refine wpAnyH_take (i := 8) (oi := ⟨some 96, _, _, _, _, _⟩) (v := ?_) rfl (by kernel_rfl) (by kernel_rfl) (by kernel_rfl) (fun _ _ _ h => h) (Or.inl ⟨by rfl, ?_⟩) hS0 ?_
                    rotate_left
                    · (intro wS hSw; (try dsimp only at hSw); go_simp); all_goals (with_reducible rfl)
                    try simp only [Act.put, List.setIfInBounds_toArray, List.set_cons_zero, List.set_cons_succ]
                    refine wpAnyH_take (i := 9) (oi := ⟨some 97, _, _, _, _, _⟩) (v := ?_) rfl (by kernel_rfl) (by kernel_rfl) (by kernel_rfl) (fun _ _ _ h => h) (Or.inl ⟨by rfl, ?_⟩) hS0 ?_
                    rotate_left
                    · (intro wS hSw; (try dsimp only at hSw); go_simp); all_goals (with_reducible rfl)
                    try simp only [Act.put, List.setIfInBounds_toArray, List.set_cons_zero, List.set_cons_succ]
                    refine wpAnyH_take (i := 11) (oi := ⟨some 99, _, _, _, _, _⟩) (v := ?_) rfl (by kernel_rfl) (by kernel_rfl) (by kernel_rfl) (fun _ _ _ h => h) (Or.inl ⟨by rfl, ?_⟩) hS0 ?_
                    rotate_left
                    · (intro wS hSw; (try dsimp only at hSw); go_simp); all_goals (with_reducible rfl)
                    try simp only [Act.put, List.setIfInBounds_toArray, List.set_cons_zero, List.set_cons_succ]
                    refine wpAnyH_take (i := 13) (oi := ⟨some 101, _, _, _, _, _⟩) (v := ?_) rfl (by kernel_rfl) (by kernel_rfl) (by kernel_rfl) (fun _ _ _ h => h) (Or.inl ⟨by rfl, ?_⟩) hS0 ?_
                    rotate_left
                    · (intro wS hSw; (try dsimp only at hSw); go_simp); all_goals (with_reducible rfl)
                    try simp only [Act.put, List.setIfInBounds_toArray, List.set_cons_zero, List.set_cons_succ]
                    refine wpAnyH_take (i := 17) (oi := ⟨some 105, _, _, _, _, _⟩) (v := ?_) rfl (by kernel_rfl) (by kernel_rfl) (by kernel_rfl) (fun _ _ _ h => h) (Or.inl ⟨by rfl, ?_⟩) hS0 ?_
                    rotate_left
                    · (intro wS hSw; (try dsimp only at hSw); go_simp); all_goals (with_reducible rfl)
                    try simp only [Act.put, List.setIfInBounds_toArray, List.set_cons_zero, List.set_cons_succ]
                    obtain ⟨wd, hwd⟩ : ∃ wd, wd = wo.drew := ⟨_, rfl⟩
                    have BD : Hid (Below wo.heap.size wo wd) := Lib.hid (by rw [hwd]; exact (Below.refl _ _).drew)
                    rw [← hwd]
                    clear hwd
                    refine wpAnyH_ready (rs := [10, 14]) (by kernel_rfl) (by simp) ?_
                    refine (AllReadyH.cons (o := ⟨some 98, _, _, _, _, _⟩) rfl (fun K hK => ?_) (AllReadyH.cons (o := ⟨some 102, _, _, _, _, _⟩) rfl (fun K hK => ?_) AllReadyH.nil))
                    · have BN1 := Lib.hid (BD.out.alloc BD.out.size (.cells #[] 5))
                      have O1 : Hid ((wd.alloc (.cells #[] 5)).ownsRow wo.heap.size 5 1 (.slice (some ⟨wd.heap.size, 0, none⟩) 0 0) 0 []) := Lib.hid (World.ownsRow_made wd #[] 0 BD.out.size (Nat.zero_le _) rfl)
                      go_simp
                      go_wp2_with fail
                      refine hK.out _ _ trivial (fun hS1 => ?_)
                      clear hK K
                      try simp only [Act.put, List.setIfInBounds_toArray, List.set_cons_zero, List.set_cons_succ]
                      obtain ⟨wn1, hwn1⟩ : ∃ wn, wn = wd.alloc (.cells #[] 5) := ⟨_, rfl⟩
                      obtain ⟨g1, hg1⟩ : ∃ g, g = wd.heap.size := ⟨_, rfl⟩
                      rw [← hwn1] at BN1 O1 ⊢
                      rw [← hg1] at O1 ⊢
                      clear hwn1 hg1
                      refine wpAnyH_ready (rs := [12, 14]) (by kernel_rfl) (by simp) ?_
                      refine (AllReadyH.cons (o := ⟨some 100, _, _, _, _, _⟩) rfl (fun K hK => ?_) (AllReadyH.cons (o := ⟨some 102, _, _, _, _, _⟩) rfl (fun K hK => ?_) AllReadyH.nil))
                      · refine step_append_own (by rfl) _ _ 27 (by rfl) wo.heap.size 5 i0 (.int .u8 0) 1 1 Try.underlying27 HI.out H0.out H1.out H2.out rfl (by omega) (.slice (some ⟨g1, 0, none⟩) 0 0) 0 [] (by rfl) O1.out _ AW O.length cW (B8 O) (by rfl) (LO.out.below BN1.out) (B8_len1 O) (B8_one O) (room63 ho1) (room1 ho1) BN1.out.size ?_
                        intro v2 w2 o2 b2 q2
                        have BN2 := Lib.hid (BN1.out.trans b2)
                        have O2 : Hid (w2.ownsRow wo.heap.size 5 1 v2 O.length (B8 O)) := Lib.hid (by simpa using o2)
                        clear o2 b2 q2
                        refine hK.out _ _ trivial (fun hS2 => ?_)
                        clear hK K
                        try simp only [Act.put, List.setIfInBounds_toArray, List.set_cons_zero, List.set_cons_succ]
                        refine wpAnyH_ready (rs := [14]) (by kernel_rfl) (by simp) ?_
                        refine (AllReadyH.cons (o := ⟨some 102, _, _, _, _, _⟩) rfl (fun K hK => ?_) AllReadyH.nil)
                        have BN3 := Lib.hid (BN2.out.alloc BN2.out.size (.cells #[.int .u8 0, .int .u8 0, .int .u8 (y.toNat : Int)] 5))
                        have O3 := Lib.hid (O2.out.alloc (.cells #[.int .u8 0, .int .u8 0, .int .u8 (y.toNat : Int)] 5))
                        have L3 : Hid (Whole (w2.alloc (.cells #[.int .u8 0, .int .u8 0, .int .u8 (y.toNat : Int)] 5)) w2.heap.size 5 (B8 [0, 0, y]).toArray) := Lib.hid (Whole.new _ _ _)
                        go_simp
                        go_wp2_with fail
                        refine hK.out _ _ trivial (fun hS3 => ?_)
                        clear hK K
                        try simp only [Act.put, List.setIfInBounds_toArray, List.set_cons_zero, List.set_cons_succ]
                        obtain ⟨wn3, hwn3⟩ : ∃ wn, wn = w2.alloc (.cells #[.int .u8 0, .int .u8 0, .int .u8 (y.toNat : Int)] 5) := ⟨_, rfl⟩
                        obtain ⟨g3, hg3⟩ : ∃ g, g = w2.heap.size := ⟨_, rfl⟩
                        rw [← hwn3] at BN3 O3 L3 ⊢
                        rw [← hg3] at L3 ⊢
                        clear hwn3 hg3
                        refine wpAnyH_ready (rs := [15]) (by kernel_rfl) (by simp) ?_
                        refine (AllReadyH.cons (o := ⟨some 103, _, _, _, _, _⟩) rfl (fun K hK => ?_) AllReadyH.nil)
                        refine step_append_own (by rfl) _ _ 27 (by rfl) wo.heap.size 5 i0 (.int .u8 0) 1 1 Try.underlying27 HI.out H0.out H1.out H2.out rfl (by omega) v2 O.length (B8 O) (by rfl) O3.out _ _ 3 3 (B8 [0, 0, y]) (by rfl) (lies_whole L3.out) rfl (B8_one _) (room63 ho2) (room1 ho2) BN3.out.size ?_
                        intro v4 w4 o4 b4 q4
                        have BN4 := Lib.hid (BN3.out.trans b4)
                        obtain ⟨A4, c4, rfl, hc4, hm4⟩ := own_form o4
                        have G3 : Hid (GS w4 (.slice A4 (O.length + 3) c4)) := Lib.hid (gs_own (by rw [← B8_append] at o4; exact o4) hO512)
                        clear o4 b4 q4
                        refine hK.out _ _ trivial (fun hS4 => ?_)
                        clear hK K
                        try simp only [Act.put, List.setIfInBounds_toArray, List.set_cons_zero, List.set_cons_succ]
                        refine wpAnyH_ready (rs := [16]) (by kernel_rfl) (by simp) ?_
                        refine (AllReadyH.cons (o := ⟨some 104, _, _, _, _, _⟩) rfl (fun K hK => ?_) AllReadyH.nil)
                        have BN5 := Lib.hid (BN4.out.alloc BN4.out.size (.cells #[.slice A0 raw.length c0, .slice AX O.length cX, .slice AW jc cW, .slice A4 (O.length + 3) c4] 27))
                        have SEL := Lib.hid (gs_sel w4 GR.out GX.out GW.out BN4.out G3.out hk4)
                        go_simp
                        go_wp2_with fail
                        refine hK.out _ _ trivial (fun hS5 => ?_)
                        clear hK K
                        try simp only [Act.put, List.setIfInBounds_toArray, List.set_cons_zero, List.set_cons_succ]
                        obtain ⟨YV, hYV, hgs⟩ := SEL.out
                        have GY := Lib.hid hgs
                        refine wpAnyH_take (i := 18) (oi := ⟨some 106, _, _, _, _, _⟩) (v := ?_) rfl (by kernel_rfl) (by kernel_rfl) (by kernel_rfl) (fun _ _ _ h => h) (Or.inl ⟨by rfl, ?_⟩) hS5 ?_
                        rotate_left
                        · (intro wS hSw; (try dsimp only at hSw); go_simp); all_goals (with_reducible rfl)
                        try simp only [Act.put, List.setIfInBounds_toArray, List.set_cons_zero, List.set_cons_succ]
                        refine wpAnyH_ready (rs := [19]) (by kernel_rfl) (by simp) ?_
                        refine (AllReadyH.cons (o := ⟨some 107, _, _, _, _, _⟩) rfl (fun K hK => ?_) AllReadyH.nil)
                        have cY := hYV
                        have FIN := Lib.hid (GS.fin GY.out BN5.out)
                        go_simp
                        go_wp2_with fail
                        refine hK.out _ _ trivial (fun hS6 => ?_)
                        clear hK K
                        try simp only [Act.put, List.setIfInBounds_toArray, List.set_cons_zero, List.set_cons_succ]
                        refine wpAnyH_take (i := 20) (oi := ⟨some 18, _, _, _, _, _⟩) (v := ?_) rfl (by kernel_rfl) (by kernel_rfl) (by kernel_rfl) (fun _ _ _ h => h) (Or.inl ⟨by rfl, ?_⟩) hS6 ?_
                        rotate_left
                        · (intro wS hSw; (try dsimp only at hSw); go_simp); all_goals (with_reducible rfl)
                        try simp only [Act.put, List.setIfInBounds_toArray, List.set_cons_zero, List.set_cons_succ]
                        refine wpAnyH_done (by kernel_rfl) ?_ _
                        go_wp2_with fail
                        go_meet
                        exact FIN.out
                      · have NE7 : Hid (g1 ≠ wn1.heap.size) := Lib.hid (Nat.ne_of_lt (O1.out.lt g1 rfl).2)
                        have BN7 := Lib.hid (BN1.out.alloc BN1.out.size (.cells #[.int .u8 0, .int .u8 0, .int .u8 (y.toNat : Int)] 5))
                        have O7 := Lib.hid (O1.out.alloc (.cells #[.int .u8 0, .int .u8 0, .int .u8 (y.toNat : Int)] 5))
                        have L7 : Hid (Whole (wn1.alloc (.cells #[.int .u8 0, .int .u8 0, .int .u8 (y.toNat : Int)] 5)) wn1.heap.size 5 (B8 [0, 0, y]).toArray) := Lib.hid (Whole.new _ _ _)
                        go_simp
                        go_wp2_with fail
                        refine hK.out _ _ trivial (fun hS7 => ?_)
                        clear hK K
                        try simp only [Act.put, List.setIfInBounds_toArray, List.set_cons_zero, List.set_cons_succ]
                        obtain ⟨wn7, hwn7⟩ : ∃ wn, wn = wn1.alloc (.cells #[.int .u8 0, .int .u8 0, .int .u8 (y.toNat : Int)] 5) := ⟨_, rfl⟩
                        obtain ⟨g7, hg7⟩ : ∃ g, g = wn1.heap.size := ⟨_, rfl⟩
                        rw [← hwn7] at BN7 O7 L7 ⊢
                        rw [← hg7] at L7 NE7 ⊢
                        clear hwn7 hg7
                        refine wpAnyH_ready (rs := [12]) (by kernel_rfl) (by simp) ?_
                        refine (AllReadyH.cons (o := ⟨some 100, _, _, _, _, _⟩) rfl (fun K hK => ?_) AllReadyH.nil)
                        refine step_append_own (by rfl) _ _ 27 (by rfl) wo.heap.size 5 i0 (.int .u8 0) 1 1 Try.underlying27 HI.out H0.out H1.out H2.out rfl (by omega) (.slice (some ⟨g1, 0, none⟩) 0 0) 0 [] (by rfl) O7.out _ AW O.length cW (B8 O) (by rfl) (LO.out.below BN7.out) (B8_len1 O) (B8_one O) (room63 ho1) (room1 ho1) BN7.out.size ?_
                        intro v8 w8 o8 b8 q8
                        have BN8 := Lib.hid (BN7.out.trans b8)
                        have L8 := Lib.hid (L7.out.grown q8 (fun e => NE7.out (by injection e with e; exact e.symm)))
                        have O8 : Hid (w8.ownsRow wo.heap.size 5 1 v8 O.length (B8 O)) := Lib.hid (by simpa using o8)
                        clear o8 b8 q8
                        refine hK.out _ _ trivial (fun hS8 => ?_)
                        clear hK K
                        try simp only [Act.put, List.setIfInBounds_toArray, List.set_cons_zero, List.set_cons_succ]
                        refine wpAnyH_ready (rs := [15]) (by kernel_rfl) (by simp) ?_
                        refine (AllReadyH.cons (o := ⟨some 103, _, _, _, _, _⟩) rfl (fun K hK => ?_) AllReadyH.nil)
                        refine step_append_own (by rfl) _ _ 27 (by rfl) wo.heap.size 5 i0 (.int .u8 0) 1 1 Try.underlying27 HI.out H0.out H1.out H2.out rfl (by omega) v8 O.length (B8 O) (by rfl) O8.out _ _ 3 3 (B8 [0, 0, y]) (by rfl) (lies_whole L8.out) rfl (B8_one _) (room63 ho2) (room1 ho2) BN8.out.size ?_
                        intro v9 w9 o9 b9 q9
                        have BN9 := Lib.hid (BN8.out.trans b9)
                        obtain ⟨A9, c9, rfl, hc9, hm9⟩ := own_form o9
                        have G3 : Hid (GS w9 (.slice A9 (O.length + 3) c9)) := Lib.hid (gs_own (by rw [← B8_append] at o9; exact o9) hO512)
                        clear o9 b9 q9
                        refine hK.out _ _ trivial (fun hS9 => ?_)
                        clear hK K
                        try simp only [Act.put, List.setIfInBounds_toArray, List.set_cons_zero, List.set_cons_succ]
                        refine wpAnyH_ready (rs := [16]) (by kernel_rfl) (by simp) ?_
                        refine (AllReadyH.cons (o := ⟨some 104, _, _, _, _, _⟩) rfl (fun K hK => ?_) AllReadyH.nil)
                        have BN10 := Lib.hid (BN9.out.alloc BN9.out.size (.cells #[.slice A0 raw.length c0, .slice AX O.length cX, .slice AW jc cW, .slice A9 (O.length + 3) c9] 27))
                        have SEL := Lib.hid (gs_sel w9 GR.out GX.out GW.out BN9.out G3.out hk4)
                        go_simp
                        go_wp2_with fail
                        refine hK.out _ _ trivial (fun hS10 => ?_)
                        clear hK K
                        try simp only [Act.put, List.setIfInBounds_toArray, List.set_cons_zero, List.set_cons_succ]
                        obtain ⟨YV, hYV, hgs⟩ := SEL.out
                        have GY := Lib.hid hgs
                        refine wpAnyH_take (i := 18) (oi := ⟨some 106, _, _, _, _, _⟩) (v := ?_) rfl (by kernel_rfl) (by kernel_rfl) (by kernel_rfl) (fun _ _ _ h => h) (Or.inl ⟨by rfl, ?_⟩) hS10 ?_
                        rotate_left
                        · (intro wS hSw; (try dsimp only at hSw); go_simp); all_goals (with_reducible rfl)
                        try simp only [Act.put, List.setIfInBounds_toArray, List.set_cons_zero, List.set_cons_succ]
                        refine wpAnyH_ready (rs := [19]) (by kernel_rfl) (by simp) ?_
                        refine (AllReadyH.cons (o := ⟨some 107, _, _, _, _, _⟩) rfl (fun K hK => ?_) AllReadyH.nil)
                        have cY := hYV
                        have FIN := Lib.hid (GS.fin GY.out BN10.out)
                        go_simp
                        go_wp2_with fail
                        refine hK.out _ _ trivial (fun hS11 => ?_)
                        clear hK K
                        try simp only [Act.put, List.setIfInBounds_toArray, List.set_cons_zero, List.set_cons_succ]
                        refine wpAnyH_take (i := 20) (oi := ⟨some 18, _, _, _, _, _⟩) (v := ?_) rfl (by kernel_rfl) (by kernel_rfl) (by kernel_rfl) (fun _ _ _ h => h) (Or.inl ⟨by rfl, ?_⟩) hS11 ?_
                        rotate_left
                        · (intro wS hSw; (try dsimp only at hSw); go_simp); all_goals (with_reducible rfl)
                        try simp only [Act.put, List.setIfInBounds_toArray, List.set_cons_zero, List.set_cons_succ]
                        refine wpAnyH_done (by kernel_rfl) ?_ _
                        go_wp2_with fail
                        go_meet
                        exact FIN.out
                    · have BN12 := Lib.hid (BD.out.alloc BD.out.size (.cells #[.int .u8 0, .int .u8 0, .int .u8 (y.toNat : Int)] 5))
                      have L12 : Hid (Whole (wd.alloc (.cells #[.int .u8 0, .int .u8 0, .int .u8 (y.toNat : Int)] 5)) wd.heap.size 5 (B8 [0, 0, y]).toArray) := Lib.hid (Whole.new _ _ _)
                      go_simp
                      go_wp2_with fail
                      refine hK.out _ _ trivial (fun hS12 => ?_)
                      clear hK K
                      try simp only [Act.put, List.setIfInBounds_toArray, List.set_cons_zero, List.set_cons_succ]
                      obtain ⟨wn12, hwn12⟩ : ∃ wn, wn = wd.alloc (.cells #[.int .u8 0, .int .u8 0, .int .u8 (y.toNat : Int)] 5) := ⟨_, rfl⟩
                      obtain ⟨g12, hg12⟩ : ∃ g, g = wd.heap.size := ⟨_, rfl⟩
                      rw [← hwn12] at BN12 L12 ⊢
                      rw [← hg12] at L12 ⊢
                      clear hwn12 hg12
                      refine wpAnyH_ready (rs := [10]) (by kernel_rfl) (by simp) ?_
                      refine (AllReadyH.cons (o := ⟨some 98, _, _, _, _, _⟩) rfl (fun K hK => ?_) AllReadyH.nil)
                      have NE13 : Hid (wn12.heap.size ≠ g12) := Lib.hid (Nat.ne_of_gt L12.out.lt)
                      have BN13 := Lib.hid (BN12.out.alloc BN12.out.size (.cells #[] 5))
                      have L13 := Lib.hid (L12.out.alloc (.cells #[] 5))
                      have O13 : Hid ((wn12.alloc (.cells #[] 5)).ownsRow wo.heap.size 5 1 (.slice (some ⟨wn12.heap.size, 0, none⟩) 0 0) 0 []) := Lib.hid (World.ownsRow_made wn12 #[] 0 BN12.out.size (Nat.zero_le _) rfl)
                      go_simp
                      go_wp2_with fail
                      refine hK.out _ _ trivial (fun hS13 => ?_)
                      clear hK K
                      try simp only [Act.put, List.setIfInBounds_toArray, List.set_cons_zero, List.set_cons_succ]
                      obtain ⟨wn13, hwn13⟩ : ∃ wn, wn = wn12.alloc (.cells #[] 5) := ⟨_, rfl⟩
                      obtain ⟨g13, hg13⟩ : ∃ g, g = wn12.heap.size := ⟨_, rfl⟩
                      rw [← hwn13] at BN13 L13 O13 ⊢
                      rw [← hg13] at O13 NE13 ⊢
                      clear hwn13 hg13
                      refine wpAnyH_ready (rs := [12]) (by kernel_rfl) (by simp) ?_
                      refine (AllReadyH.cons (o := ⟨some 100, _, _, _, _, _⟩) rfl (fun K hK => ?_) AllReadyH.nil)
                      refine step_append_own (by rfl) _ _ 27 (by rfl) wo.heap.size 5 i0 (.int .u8 0) 1 1 Try.underlying27 HI.out H0.out H1.out H2.out rfl (by omega) (.slice (some ⟨g13, 0, none⟩) 0 0) 0 [] (by rfl) O13.out _ AW O.length cW (B8 O) (by rfl) (LO.out.below BN13.out) (B8_len1 O) (B8_one O) (room63 ho1) (room1 ho1) BN13.out.size ?_
                      intro v14 w14 o14 b14 q14
                      have BN14 := Lib.hid (BN13.out.trans b14)
                      have L14 := Lib.hid (L13.out.grown q14 (fun e => NE13.out (by injection e with e; exact e.symm)))
                      have O14 : Hid (w14.ownsRow wo.heap.size 5 1 v14 O.length (B8 O)) := Lib.hid (by simpa using o14)
                      clear o14 b14 q14
                      refine hK.out _ _ trivial (fun hS14 => ?_)
                      clear hK K
                      try simp only [Act.put, List.setIfInBounds_toArray, List.set_cons_zero, List.set_cons_succ]
                      refine wpAnyH_ready (rs := [15]) (by kernel_rfl) (by simp) ?_
                      refine (AllReadyH.cons (o := ⟨some 103, _, _, _, _, _⟩) rfl (fun K hK => ?_) AllReadyH.nil)
                      refine step_append_own (by rfl) _ _ 27 (by rfl) wo.heap.size 5 i0 (.int .u8 0) 1 1 Try.underlying27 HI.out H0.out H1.out H2.out rfl (by omega) v14 O.length (B8 O) (by rfl) O14.out _ _ 3 3 (B8 [0, 0, y]) (by rfl) (lies_whole L14.out) rfl (B8_one _) (room63 ho2) (room1 ho2) BN14.out.size ?_
                      intro v15 w15 o15 b15 q15
                      have BN15 := Lib.hid (BN14.out.trans b15)
                      obtain ⟨A15, c15, rfl, hc15, hm15⟩ := own_form o15
                      have G3 : Hid (GS w15 (.slice A15 (O.length + 3) c15)) := Lib.hid (gs_own (by rw [← B8_append] at o15; exact o15) hO512)
                      clear o15 b15 q15
                      refine hK.out _ _ trivial (fun hS15 => ?_)
                      clear hK K
                      try simp only [Act.put, List.setIfInBounds_toArray, List.set_cons_zero, List.set_cons_succ]
                      refine wpAnyH_ready (rs := [16]) (by kernel_rfl) (by simp) ?_
                      refine (AllReadyH.cons (o := ⟨some 104, _, _, _, _, _⟩) rfl (fun K hK => ?_) AllReadyH.nil)
                      have BN16 := Lib.hid (BN15.out.alloc BN15.out.size (.cells #[.slice A0 raw.length c0, .slice AX O.length cX, .slice AW jc cW, .slice A15 (O.length + 3) c15] 27))
                      have SEL := Lib.hid (gs_sel w15 GR.out GX.out GW.out BN15.out G3.out hk4)
                      go_simp
                      go_wp2_with fail
                      refine hK.out _ _ trivial (fun hS16 => ?_)
                      clear hK K
                      try simp only [Act.put, List.setIfInBounds_toArray, List.set_cons_zero, List.set_cons_succ]
                      obtain ⟨YV, hYV, hgs⟩ := SEL.out
                      have GY := Lib.hid hgs
                      refine wpAnyH_take (i := 18) (oi := ⟨some 106, _, _, _, _, _⟩) (v := ?_) rfl (by kernel_rfl) (by kernel_rfl) (by kernel_rfl) (fun _ _ _ h => h) (Or.inl ⟨by rfl, ?_⟩) hS16 ?_
                      rotate_left
                      · (intro wS hSw; (try dsimp only at hSw); go_simp); all_goals (with_reducible rfl)
                      try simp only [Act.put, List.setIfInBounds_toArray, List.set_cons_zero, List.set_cons_succ]
                      refine wpAnyH_ready (rs := [19]) (by kernel_rfl) (by simp) ?_
                      refine (AllReadyH.cons (o := ⟨some 107, _, _, _, _, _⟩) rfl (fun K hK => ?_) AllReadyH.nil)
                      have cY := hYV
                      have FIN := Lib.hid (GS.fin GY.out BN16.out)
                      go_simp
                      go_wp2_with fail
                      refine hK.out _ _ trivial (fun hS17 => ?_)
                      clear hK K
                      try simp only [Act.put, List.setIfInBounds_toArray, List.set_cons_zero, List.set_cons_succ]
                      refine wpAnyH_take (i := 20) (oi := ⟨some 18, _, _, _, _, _⟩) (v := ?_) rfl (by kernel_rfl) (by kernel_rfl) (by kernel_rfl) (fun _ _ _ h => h) (Or.inl ⟨by rfl, ?_⟩) hS17 ?_
                      rotate_left
                      · (intro wS hSw; (try dsimp only at hSw); go_simp); all_goals (with_reducible rfl)
                      try simp only [Act.put, List.setIfInBounds_toArray, List.set_cons_zero, List.set_cons_succ]
                      refine wpAnyH_done (by kernel_rfl) ?_ _
                      go_wp2_with fail
                      go_meet
                      exact FIN.out
                  case rest =>
                    obtain ⟨wy, hwy⟩ : ∃ wy : World, wy = wc := ⟨_, rfl⟩
                    subst hwy
                    obtain ⟨⟨AY, Y, cY, rfl, hcY, hmY, hY2, hlY⟩, hby⟩ := hcut
                    have LY := Lib.hid hlY
                    have BY := Lib.hid hby
                    obtain ⟨⟨lf, L, is⟩, hA⟩ : ∃ x, asNode Y = x := ⟨_, rfl⟩
                    have HA := Lib.hid hA
                    have hLl := (few_named hA).1
                    clear hlY hby hA
                    go_wp2_with fail
                    refine (parse_told Y AY cY _ _ LY.out (Nat.le_refl _) hY2).mono ?_
                    intro e w7 ht
                    obtain ⟨A7, c7, rfl, r7, b7⟩ := told_named HA.out ht
                    have hba := (Below.refl w7.heap.size w7).alloc (Nat.le_refl _) (.cells #[.bool lf, .slice A7 L.length c7] 26)
                    have B7 := Lib.hid (BY.out.trans (b7.mono BY.out.size))
                    have W7 := Lib.hid (Whole.new w7 26 #[.bool lf, .slice A7 L.length c7])
                    have R7 := Lib.hid (r7.below hba)
                    have LY7 := Lib.hid ((LY.out.below b7).below (hba.mono b7.size))
                    have B7a := Lib.hid (B7.out.alloc B7.out.size (.cells #[.bool lf, .slice A7 L.length c7] 26))
                    have hz7 : w7.heap.size < (w7.alloc (.cells #[.bool lf, .slice A7 L.length c7] 26)).heap.size := by simp
                    have HZ7 := Lib.hid hz7
                    have ZY := Lib.hid b7.size
                    clear ht hba r7 b7 hz7
                    go_wp2_with fail
                    refine (of_told Y AY cY wy.heap.size _ LY7.out (by have := HZ7.out; have := ZY.out; omega) hY2 hcY hmY).mono ?_
                    intro e w8 ht
                    obtain ⟨A8, c8, rfl, r8, b8⟩ := told_named HA.out ht
                    have hba := (Below.refl w8.heap.size w8).alloc (Nat.le_refl _) (.cells #[.bool lf, .slice A8 L.length c8] 26)
                    have W8 := W7.out.below b8 HZ7.out
                    have x0 : w8.cell? ⟨w7.heap.size, 0, none⟩ = some (.bool lf) := W8.cell 0
                    have x1 : w8.cell? ⟨w7.heap.size, 1, none⟩ = some (.slice A7 L.length c7) := W8.cell 1
                    have hz8 : w7.heap.size < w8.heap.size := W8.lt
                    have B8' := Lib.hid (B7a.out.trans (b8.mono B7a.out.size))
                    have B8a := Lib.hid (B8'.out.alloc B8'.out.size (.cells #[.bool lf, .slice A8 L.length c8] 26))
                    have M7 := Lib.hid ((((R7.out.below (b8.mono (Nat.le_of_lt HZ7.out))).more (Nat.le_of_lt hz8)).below hba))
                    have M8 := Lib.hid (r8.below hba)
                    have hz8' : w8.heap.size ≤ (w8.alloc (.cells #[.bool lf, .slice A8 L.length c8] 26)).heap.size := by simp
                    have HZ8 := Lib.hid hz8'
                    clear ht hba r8 b8 W8 hz8'
                    go_wp2_with fail
                    refine (same_is lf L A7 A8 _ _ c7 c8 w8.heap.size _ rfl rfl M7.out M8.out HZ8.out (few_named HA.out)).mono ?_
                    rintro e w9 ⟨rfl, b9⟩
                    have B9 := Lib.hid (B8a.out.trans (b9.mono B8a.out.size))
                    have BQ := Lib.hid (BK.out.trans (B9.out.mono hzk))
                    have kw : IntKind.i64.wrap ((k : Int) + 1) = (k : Int) + 1 := IntWalk.i64_in _ (by omega)
                    clear b9
                    go_wp2_with fail
                    go_roundw
                    case rel => exact ⟨k + 1, by omega, by go_num, BQ.out⟩
                    case measure => simp [intOf]; omega
                · have hk4' : k = 4 := by omega
                  subst hk4'
                  obtain ⟨y0, y1⟩ := TK.out.cells
                  obtain ⟨L', hL'⟩ : ∃ L', L' = tameN leaf l := ⟨_, rfl⟩
                  have hfl : Few L' := by rw [hL']; exact tame_few (tameN_ok leaf l)
                  have HFL := Lib.hid hfl
                  have HL' := Lib.hid hL'
                  clear hL' hfl
                  go_wp2_with fail
                  refine (tame_any leaf l A c _ _ TK.out.rows (Nat.le_refl _) TK.out.few).mono ?_
                  rintro e w9 ⟨A9, c9, rfl, r9, ap9, b9⟩
                  rw [← HL'.out] at r9 ⊢
                  have W9 := TK.out.box.below b9 TK.out.box.lt
                  have yf0 := W9.frozen 0
                  have yf1 := W9.frozen 1
                  have hzo : w.heap.size < wo.heap.size := TK.out.box.lt
                  have B9 := TK.out.bel.trans (b9.mono TK.out.bel.size)
                  have D : Hid (TlAt w ((w9.setCell ⟨w.heap.size, 0, none⟩ (.bool leaf)).setCell ⟨w.heap.size, 1, none⟩ (.slice A9 L'.length c9)) leaf L' A9 c9) := Lib.hid ⟨(W9.put 0 _).put 1 _, (rows_set (rows_set r9 (ap9.less (by omega))) (ap9.less (by omega))).more (by simp), (B9.setCell (Nat.le_refl _) _).setCell (Nat.le_refl _) _, HFL.out⟩
                  have iw : IntKind.i64.wrap ((i : Int) + 1) = (i : Int) + 1 := IntWalk.i64_in _ (by omega)
                  have z0 : w9.cell? ⟨w.heap.size, 0, none⟩ = some (.bool leaf) := W9.cell 0
                  have z1 : w9.cell? ⟨w.heap.size, 1, none⟩ = some (.slice A l.length c) := W9.cell 1
                  clear r9 ap9 b9 W9 B9 y0 y1
                  go_wp2_with fail
                  go_roundw
                  case rel => exact ⟨i + 1, leaf, L', A9, c9, by omega, by go_num, D.out⟩
                  case measure => simp [intOf]; omega
        · have hi2' : i = 2 := by omega
          subst hi2'
          clear x0 x1
          go_wp2_with fail
          refine (awake10_any _).mono ?_
          rintro e w5 ⟨rfl, b5⟩
          have B5 := Lib.hid (T0.out.bel.trans (b5.mono T0.out.bel.size))
          clear b5
          go_wp2_with fail
          go_ret
          exact ⟨rfl, B5.out⟩
    | false =>
      clear b1 W1 R1 hsm
      go_wp2_with fail
      refine (awake10_any _).mono ?_
      rintro e w5 ⟨rfl, b5⟩
      have B5 := Lib.hid (BX1.out.trans (b5.mono BX1.out.size))
      clear b5
      go_wp2_with fail
      go_ret
      exact ⟨rfl, B5.out⟩
  · have hraw' : 700 < raw.length := by omega
    go_enter Try.func4, Try.ntmps4
    go_wp2_with fail
    refine (awake10_any _).mono ?_
    rintro e w5 ⟨rfl, b5⟩
    have B5 := Lib.hid (BX.out.trans (b5.mono BX.out.size))
    clear b5
    go_wp2_with fail
    go_ret
    exact ⟨rfl, B5.out⟩
end Go.Proofs.Ytdjkkppefgppmaa
