/- The law on nodes that are read as they were told, walked. -/
import Derived.Test.YtdjkkppefgppmaaNodeW
import Derived.Test.YtdjkkppefgppmaaNodeTm
import Derived.Test.YtdjkkppefgppmaaNodeK
import Derived.Test.YtdjkkppefgppmaaZeroA
namespace Go.Proofs.Ytdjkkppefgppmaa
open Go.RowKit
set_option maxRecDepth 100000
set_option linter.unusedSimpArgs false
set_option linter.unusedVariables false

theorem blank_zeros (z : Nat) : blankB (List.replicate z 0) = true := by
  unfold blankB
  rw [List.all_eq_true]
  intro x hx
  rw [List.eq_of_mem_replicate hx]
  rfl
theorem B8_zeros (l : List UInt8) (z : Nat) : B8 l ++ List.replicate z (Value.int .u8 0) = B8 (l ++ List.replicate z 0) := by
  rw [B8_append]
  congr 1
  simp [B8]
set_option maxHeartbeats 2000000 in
theorem back_law (leaf : Bool) (l : List Rw) (A : Option Addr) (c B : Nat) (zeros : Int) (w : World) (ht : RowsAt w B l A c) (hB : B ≤ w.heap.size) (hf : Bear l) :
    Calls Try.prog 5 #[.agg #[.bool leaf, .slice A l.length c], .int .i64 zeros] w fun e w' => e = .returned (.bool true) ∧ Below w.heap.size w w' := by
  obtain ⟨i0, hi, hz0, hz1, hz2⟩ := info_parts u8_info
  have HI := Lib.hid hi
  have H0 := Lib.hid hz0
  have H1 := Lib.hid hz1
  have H2 := Lib.hid hz2
  obtain ⟨zm, hzm, _, hzb⟩ := mask_is zeros 255 8 (by omega) (by decide)
  clear hi hz0 hz1 hz2
  have hb0 := (Below.refl w.heap.size w).alloc (Nat.le_refl _) (.cells #[.bool leaf, .slice A l.length c] 26)
  have BX := Lib.hid hb0
  have WX := Lib.hid (Whole.new w 26 #[.bool leaf, .slice A l.length c])
  have HT := Lib.hid (ht.below (hb0.mono hB))
  have HF := Lib.hid hf
  have hz1 : w.heap.size < (w.alloc (.cells #[.bool leaf, .slice A l.length c] 26)).heap.size := by simp
  have HZ1 := Lib.hid hz1
  clear hb0 ht hf hz1
  go_enter Try.func5, Try.ntmps5
  go_wp2_with fail
  refine (small_any leaf l A c B _ HT.out (by have := HZ1.out; omega) HF.out).mono ?_
  rintro e w1 ⟨rfl, b1⟩
  have BX1 := Lib.hid (BX.out.trans (b1.mono BX.out.size))
  have W1 := WX.out.below b1 HZ1.out
  have x0 : w1.cell? ⟨w.heap.size, 0, none⟩ = some (.bool leaf) := W1.cell 0
  have x1 : w1.cell? ⟨w.heap.size, 1, none⟩ = some (.slice A l.length c) := W1.cell 1
  have HW1 := Lib.hid W1
  have HT1 := Lib.hid (HT.out.below (b1.mono (by have := HZ1.out; omega)))
  have hz : w.heap.size < w1.heap.size := W1.lt
  clear b1 W1
  obtain ⟨sm, hsm⟩ : ∃ sm, sm = smallN l := ⟨_, rfl⟩
  rw [← hsm]
  have HSM := Lib.hid hsm
  clear hsm
  cases sm with
  | true =>
    have HFW := Lib.hid (small_few HSM.out.symm)
    go_wp2_with fail
    refine (tame_any leaf l A c B _ HT1.out (by omega) HFW.out).mono ?_
    rintro e w2 ⟨A2, c2, rfl, r2, ap2, b2⟩
    obtain ⟨L, hL⟩ : ∃ L, L = tameN leaf l := ⟨_, rfl⟩
    have hTO : TameOk leaf L := by rw [hL]; exact tameN_ok leaf l
    rw [← hL] at r2 ⊢
    have HTO := Lib.hid hTO
    have hfl := tame_few hTO
    have hLl := hfl.1
    have HFL := Lib.hid hfl
    have W2 := HW1.out.below b2 HW1.out.lt
    have y0 : w2.cell? ⟨w.heap.size, 0, none⟩ = some (.bool leaf) := W2.cell 0
    have y1 : w2.cell? ⟨w.heap.size, 1, none⟩ = some (.slice A l.length c) := W2.cell 1
    have yf0 := W2.frozen 0
    have yf1 := W2.frozen 1
    have BX2 := Lib.hid (BX1.out.trans (b2.mono BX1.out.size))
    have hL512 : L.length ≤ 300 := by have := sizeN_count leaf L; have := hTO.size; omega
    obtain ⟨N, hN⟩ : ∃ N, N = L.length := ⟨_, rfl⟩
    rw [← hN] at hL512 hLl ⊢
    have HN := Lib.hid hN
    have R3 : RowsAt ((w2.setCell ⟨w.heap.size, 0, none⟩ (.bool leaf)).setCell ⟨w.heap.size, 1, none⟩ (.slice A2 N c2)) w2.heap.size L A2 c2 := rows_set (rows_set r2 (ap2.less (by omega))) (ap2.less (by omega))
    have W3 : Whole ((w2.setCell ⟨w.heap.size, 0, none⟩ (.bool leaf)).setCell ⟨w.heap.size, 1, none⟩ (.slice A2 N c2)) w.heap.size 26 #[.bool leaf, .slice A2 N c2] := (W2.put 0 _).put 1 _
    have B3 : Below w.heap.size w ((w2.setCell ⟨w.heap.size, 0, none⟩ (.bool leaf)).setCell ⟨w.heap.size, 1, none⟩ (.slice A2 N c2)) := (BX2.out.setCell (Nat.le_refl _) _).setCell (Nat.le_refl _) _
    obtain ⟨V, hV⟩ : ∃ V, V = (w2.setCell ⟨w.heap.size, 0, none⟩ (.bool leaf)).setCell ⟨w.heap.size, 1, none⟩ (.slice A2 N c2) := ⟨_, rfl⟩
    have zV : V.heap.size = w2.heap.size := by rw [hV]; simp
    rw [← hV] at R3 W3 B3
    have HR3 := Lib.hid (R3.more (show w2.heap.size ≤ V.heap.size by omega))
    have HW3 := Lib.hid W3
    have HB3 := Lib.hid B3
    have HV := Lib.hid hV
    clear hN r2 ap2 b2 hL hTO hfl W2 R3 W3 B3 hV zV x0 x1
    obtain ⟨ok, hok⟩ : ∃ ok, ok = okN leaf L := ⟨_, rfl⟩
    have HOK := Lib.hid hok
    obtain ⟨O, hO⟩ : ∃ O, O = (if ok = true then nodeB leaf L else []) := ⟨_, rfl⟩
    have HO := Lib.hid hO
    have hOl : O.length ≤ 512 := by
      rw [hO]
      split
      · rw [nodeB_length]; exact HTO.out.size
      · simp
    clear hok hO
    go_wp2_with fail
    rw [← HV.out]
    refine (nappend_is leaf L O ok A2 N c2 V.heap.size _ HN.out HOK.out.symm HO.out HR3.out (Nat.le_refl _) HFL.out).mono ?_
    rintro e w4 ⟨A4, c4, rfl, hc4, hm4, o4, b4⟩
    have W4 := HW3.out.below b4 HW3.out.lt
    have x0 : w4.cell? ⟨w.heap.size, 0, none⟩ = some (.bool leaf) := W4.cell 0
    have x1 : w4.cell? ⟨w.heap.size, 1, none⟩ = some (.slice A2 N c2) := W4.cell 1
    have HW4 := Lib.hid W4
    have HR4 := Lib.hid (HR3.out.below b4)
    have HB4 := Lib.hid (HB3.out.trans (b4.mono HB3.out.size))
    have L4 := Lib.hid (Lies.own o4 (Nat.le_refl _))
    have hzV : V.heap.size ≤ w4.heap.size := b4.size
    clear b4 o4 W4 y0 y1 yf0 yf1 HV
    by_cases hno : leaf = false ∧ N = 0
    · obtain ⟨rfl, rfl⟩ := hno
      have hf : ok = false := by
        rw [HOK.out, okN]
        have : L = [] := List.eq_nil_of_length_eq_zero HN.out.symm
        rw [this]; rfl
      subst hf
      go_wp2_with fail
      refine (awake10_any _).mono ?_
      rintro e w5 ⟨rfl, b5⟩
      have B5 := Lib.hid (HB4.out.trans (b5.mono HB4.out.size))
      clear b5
      go_wp2_with fail
      go_ret
      exact ⟨rfl, B5.out⟩
    · have hgo : leaf = true ∨ (leaf = false ∧ 0 < N) := by
        cases leaf
        · right; exact ⟨rfl, by simp at hno; omega⟩
        · exact .inl rfl
      have hok : ok = true := by
        rw [HOK.out]
        refine tame_okN HTO.out ?_
        rcases hgo with h | ⟨_, h⟩
        · exact .inl h
        · exact .inr (by rw [← HN.out]; exact h)
      subst hok
      have hOn : O = nodeB leaf L := by rw [HO.out, if_pos rfl]
      have hOs : O.length = sizeN leaf L := by rw [hOn, nodeB_length]
      have HOn := Lib.hid hOn
      have HOs := Lib.hid hOs
      have hback : nodeP (O ++ List.replicate zm 0) = some (leaf, L) := by rw [hOn]; exact node_back leaf L _ HOK.out.symm (blank_zeros zm)
      have HBK := Lib.hid hback
      have ho1 : 0 + O.length ≤ 140737488355328 := by omega
      have ho2 : 0 + O.length + zm ≤ 140737488355328 := by omega
      have hown : (w4.alloc (.cells #[] 5)).ownsRow w4.heap.size 5 1 (.slice (some ⟨w4.heap.size, 0, none⟩) 0 0) 0 [] := World.ownsRow_made w4 #[] 0 (Nat.le_refl _) (Nat.zero_le _) rfl
      have HWN := Lib.hid hown
      have LO := Lib.hid (L4.out.alloc (Nat.le_refl _) (.cells #[] 5))
      have hrm : ∀ w5, Below w4.heap.size (w4.alloc (.cells #[] 5)) w5 → w4.heap.size ≤ w5.heap.size := fun w5 h => by have := h.size; simp at this; omega
      have HRM := Lib.hid hrm
      have hz4 : w.heap.size < w4.heap.size := HW4.out.lt
      clear hOn hOs hback hown hrm hno
      have hN0 : leaf = false → ((N : Int) == 0) = false := fun h => beq_false_of_ne (by
        rcases hgo with h' | ⟨_, h'⟩
        · rw [h] at h'; cases h'
        · omega)
      clear hgo
      cases leaf with
      | true =>
        clear hN0
        go_wp2_with (first
          | (at_builtin; refine wpList_append_cells rfl _ _ 27 rfl w4.heap.size 5 i0 (.int .u8 0) 1 1 Try.underlying27 HI.out H0.out H1.out H2.out rfl (by omega) (.slice (some ⟨w4.heap.size, 0, none⟩) 0 0) 0 [] rfl HWN.out w4.heap.size A4 O.length c4 (B8 O) rfl LO.out (B8_len1 O) (B8_one O) (room63 ho1) (room1 ho1) (by simp) ?_; intro v5 w5 o5 b5; have O5 := Lib.hid o5; have B5 := Lib.hid b5; clear o5 b5)
          | (at_builtin; refine wpList_append_zeros rfl _ _ 27 3 rfl w4.heap.size 5 i0 (.int .u8 0) 1 .i64 .i64 Try.underlying27 Try.underlying3 HI.out H0.out H1.out H2.out rfl rfl v5 (0 + O.length) _ rfl O5.out zm rfl (room63 ho2) (room1 ho2) (HRM.out w5 B5.out) ?_; intro v6 w6 o6 b6; have O6 := Lib.hid o6; have B6 := Lib.hid b6; clear o6 b6; obtain ⟨A6, c6, rfl, hc6, hm6⟩ := own_form O6.out))
        have bb6 : Below w4.heap.size w4 w6 := ((Below.refl _ w4).alloc (Nat.le_refl _) (.cells #[] 5)).trans (B5.out.trans B6.out)
        have e6 : [] ++ B8 O ++ List.replicate zm (Value.int .u8 0) = B8 (O ++ List.replicate zm 0) := by rw [List.nil_append, B8_zeros]
        have L6 := Lib.hid (Lies.own O6.out (Nat.le_refl _))
        rw [e6] at L6
        have hln : O.length + zm = (O ++ List.replicate zm 0).length := by simp
        have hsz : (O ++ List.replicate zm 0).length ≤ 140737488355328 := by rw [← hln]; omega
        have HW6 := Lib.hid (HW4.out.below bb6 HW4.out.lt)
        have HR6 := Lib.hid (HR4.out.below (bb6.mono hzV))
        have HB6 := Lib.hid (HB4.out.trans (bb6.mono HB4.out.size))
        have hz6 : w4.heap.size ≤ w6.heap.size := bb6.size
        have HLN := Lib.hid hln
        have HSZ := Lib.hid hsz
        clear bb6 e6 hln hsz x0 x1
        refine (nparse_yes (O ++ List.replicate zm 0) true L A6 _ c6 _ _ HLN.out HBK.out L6.out (Nat.le_refl _) HSZ.out).mono ?_
        rintro e w7 ⟨A7, c7, rfl, o7, b7⟩
        rw [← HN.out] at o7 ⊢
        have HW7 := HW6.out.below b7 HW6.out.lt
        have HR7 := HR6.out.below (b7.mono (by omega))
        have HB7 := Lib.hid (HB6.out.trans (b7.mono HB6.out.size))
        have M7 : RowsAt w7 w7.heap.size L A7 c7 := own_rows_n HN.out (by rw [HN.out] at o7 ⊢; exact o7)
        have hz7 : V.heap.size ≤ w7.heap.size := by have := b7.size; omega
        have hz7' : w.heap.size < w7.heap.size := HW7.lt
        have x0 : w7.cell? ⟨w.heap.size, 0, none⟩ = some (.bool true) := HW7.cell 0
        have x1 : w7.cell? ⟨w.heap.size, 1, none⟩ = some (.slice A2 N c2) := HW7.cell 1
        have WA := Lib.hid (HW7.alloc (.cells #[.bool true, .slice A7 N c7] 26))
        have RA := Lib.hid ((HR7.more hz7).below ((Below.refl _ w7).alloc (Nat.le_refl _) (.cells #[.bool true, .slice A7 N c7] 26)))
        have MA := Lib.hid (M7.below ((Below.refl _ w7).alloc (Nat.le_refl _) (.cells #[.bool true, .slice A7 N c7] 26)))
        have BA := Lib.hid (HB7.out.alloc HB7.out.size (.cells #[.bool true, .slice A7 N c7] 26))
        have hzA : w7.heap.size ≤ (w7.alloc (.cells #[.bool true, .slice A7 N c7] 26)).heap.size := by simp
        have HZA := Lib.hid hzA
        clear b7 o7 HW7 HR7 M7 hzA
        go_wp2_with fail
        refine (same_is true L A7 A2 N N c7 c2 w7.heap.size _ HN.out HN.out MA.out RA.out HZA.out HFL.out).mono ?_
        rintro e w8 ⟨rfl, b8⟩
        have W8 := WA.out.below b8 WA.out.lt
        have R8 := Lib.hid (RA.out.below (b8.mono HZA.out))
        have B8' := Lib.hid (BA.out.trans (b8.mono BA.out.size))
        have z8 : w7.heap.size ≤ w8.heap.size := Nat.le_trans HZA.out b8.size
        have x0 : w8.cell? ⟨w.heap.size, 0, none⟩ = some (.bool true) := W8.cell 0
        have x1 : w8.cell? ⟨w.heap.size, 1, none⟩ = some (.slice A2 N c2) := W8.cell 1
        clear b8 W8
        go_wp2_with fail
        refine (size_is true L O.length A2 N c2 w7.heap.size _ HN.out HOs.out.symm R8.out z8 HFL.out).mono ?_
        rintro e w9 ⟨rfl, b9⟩
        have B9 := Lib.hid (B8'.out.trans (b9.mono B8'.out.size))
        clear b9 x0 x1
        go_wp2_with fail
        refine (awake10_any _).mono ?_
        rintro e wB ⟨rfl, bB⟩
        have BB := Lib.hid (B9.out.trans (bB.mono B9.out.size))
        clear bB
        go_wp2_with fail
        go_ret
        exact ⟨rfl, BB.out⟩
      | false =>
        have hN1 := hN0 rfl
        clear hN0
        go_wp2_with (first
          | (at_builtin; refine wpList_append_cells rfl _ _ 27 rfl w4.heap.size 5 i0 (.int .u8 0) 1 1 Try.underlying27 HI.out H0.out H1.out H2.out rfl (by omega) (.slice (some ⟨w4.heap.size, 0, none⟩) 0 0) 0 [] rfl HWN.out w4.heap.size A4 O.length c4 (B8 O) rfl LO.out (B8_len1 O) (B8_one O) (room63 ho1) (room1 ho1) (by simp) ?_; intro v5 w5 o5 b5; have O5 := Lib.hid o5; have B5 := Lib.hid b5; clear o5 b5)
          | (at_builtin; refine wpList_append_zeros rfl _ _ 27 3 rfl w4.heap.size 5 i0 (.int .u8 0) 1 .i64 .i64 Try.underlying27 Try.underlying3 HI.out H0.out H1.out H2.out rfl rfl v5 (0 + O.length) _ rfl O5.out zm rfl (room63 ho2) (room1 ho2) (HRM.out w5 B5.out) ?_; intro v6 w6 o6 b6; have O6 := Lib.hid o6; have B6 := Lib.hid b6; clear o6 b6; obtain ⟨A6, c6, rfl, hc6, hm6⟩ := own_form O6.out))
        have bb6 : Below w4.heap.size w4 w6 := ((Below.refl _ w4).alloc (Nat.le_refl _) (.cells #[] 5)).trans (B5.out.trans B6.out)
        have e6 : [] ++ B8 O ++ List.replicate zm (Value.int .u8 0) = B8 (O ++ List.replicate zm 0) := by rw [List.nil_append, B8_zeros]
        have L6 := Lib.hid (Lies.own O6.out (Nat.le_refl _))
        rw [e6] at L6
        have hln : O.length + zm = (O ++ List.replicate zm 0).length := by simp
        have hsz : (O ++ List.replicate zm 0).length ≤ 140737488355328 := by rw [← hln]; omega
        have HW6 := Lib.hid (HW4.out.below bb6 HW4.out.lt)
        have HR6 := Lib.hid (HR4.out.below (bb6.mono hzV))
        have HB6 := Lib.hid (HB4.out.trans (bb6.mono HB4.out.size))
        have hz6 : w4.heap.size ≤ w6.heap.size := bb6.size
        have HLN := Lib.hid hln
        have HSZ := Lib.hid hsz
        clear bb6 e6 hln hsz x0 x1
        refine (nparse_yes (O ++ List.replicate zm 0) false L A6 _ c6 _ _ HLN.out HBK.out L6.out (Nat.le_refl _) HSZ.out).mono ?_
        rintro e w7 ⟨A7, c7, rfl, o7, b7⟩
        rw [← HN.out] at o7 ⊢
        have HW7 := HW6.out.below b7 HW6.out.lt
        have HR7 := HR6.out.below (b7.mono (by omega))
        have HB7 := Lib.hid (HB6.out.trans (b7.mono HB6.out.size))
        have M7 : RowsAt w7 w7.heap.size L A7 c7 := own_rows_n HN.out (by rw [HN.out] at o7 ⊢; exact o7)
        have hz7 : V.heap.size ≤ w7.heap.size := by have := b7.size; omega
        have hz7' : w.heap.size < w7.heap.size := HW7.lt
        have x0 : w7.cell? ⟨w.heap.size, 0, none⟩ = some (.bool false) := HW7.cell 0
        have x1 : w7.cell? ⟨w.heap.size, 1, none⟩ = some (.slice A2 N c2) := HW7.cell 1
        have WA := Lib.hid (HW7.alloc (.cells #[.bool false, .slice A7 N c7] 26))
        have RA := Lib.hid ((HR7.more hz7).below ((Below.refl _ w7).alloc (Nat.le_refl _) (.cells #[.bool false, .slice A7 N c7] 26)))
        have MA := Lib.hid (M7.below ((Below.refl _ w7).alloc (Nat.le_refl _) (.cells #[.bool false, .slice A7 N c7] 26)))
        have BA := Lib.hid (HB7.out.alloc HB7.out.size (.cells #[.bool false, .slice A7 N c7] 26))
        have hzA : w7.heap.size ≤ (w7.alloc (.cells #[.bool false, .slice A7 N c7] 26)).heap.size := by simp
        have HZA := Lib.hid hzA
        clear b7 o7 HW7 HR7 M7 hzA
        go_wp2_with fail
        refine (same_is false L A7 A2 N N c7 c2 w7.heap.size _ HN.out HN.out MA.out RA.out HZA.out HFL.out).mono ?_
        rintro e w8 ⟨rfl, b8⟩
        have W8 := WA.out.below b8 WA.out.lt
        have R8 := Lib.hid (RA.out.below (b8.mono HZA.out))
        have B8' := Lib.hid (BA.out.trans (b8.mono BA.out.size))
        have z8 : w7.heap.size ≤ w8.heap.size := Nat.le_trans HZA.out b8.size
        have x0 : w8.cell? ⟨w.heap.size, 0, none⟩ = some (.bool false) := W8.cell 0
        have x1 : w8.cell? ⟨w.heap.size, 1, none⟩ = some (.slice A2 N c2) := W8.cell 1
        clear b8 W8
        go_wp2_with fail
        refine (size_is false L O.length A2 N c2 w7.heap.size _ HN.out HOs.out.symm R8.out z8 HFL.out).mono ?_
        rintro e w9 ⟨rfl, b9⟩
        have B9 := Lib.hid (B8'.out.trans (b9.mono B8'.out.size))
        clear b9 x0 x1
        go_wp2_with fail
        refine (awake10_any _).mono ?_
        rintro e wB ⟨rfl, bB⟩
        have BB := Lib.hid (B9.out.trans (bB.mono B9.out.size))
        clear bB
        go_wp2_with fail
        go_ret
        exact ⟨rfl, BB.out⟩
  | false =>
    go_wp2_with fail
    refine (awake10_any _).mono ?_
    rintro e w5 ⟨rfl, b5⟩
    have B5 := Lib.hid (BX1.out.trans (b5.mono BX1.out.size))
    clear b5
    go_wp2_with fail
    go_ret
    exact ⟨rfl, B5.out⟩
end Go.Proofs.Ytdjkkppefgppmaa
