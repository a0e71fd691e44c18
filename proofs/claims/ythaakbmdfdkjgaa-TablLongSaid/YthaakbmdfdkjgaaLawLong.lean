/- The law on how long a table may be: its walk. -/
import Derived.Test.YthaakbmdfdkjgaaTablV
import Derived.Deep.DeepMust
namespace Go.Proofs.Ythaakbmdfdkjgaa
open Go.RowKit

theorem str_snoc (l : List UInt8) (x : UInt8) : (⟨l.toArray⟩ ++ ⟨#[x]⟩ : ByteArray) = ⟨(l ++ [x]).toArray⟩ := by
  apply ByteArray.ext
  rw [ByteArray.data_append]
  simp
theorem be4_small (x : Nat) (h : x < 65536) : be 4 x = [0, 0, UInt8.ofNat (x / 256), UInt8.ofNat x] := by
  rw [be_succ, be_succ, be_succ, be_succ]
  rw [Nat.div_eq_of_lt (show x < 256 ^ 3 by omega), Nat.div_eq_of_lt (show x < 256 ^ 2 by omega)]
  simp [be]
theorem own_lit (w : World) (e : TypeId) (base n : Nat) (cs : List Value) (hb : base ≤ w.heap.size) (hn : cs.length = n) (hm : n ≤ maxLen) : (w.alloc (.cells cs.toArray e)).ownsRow base e 1 (.slice (some ⟨w.heap.size, 0, none⟩) n n) n cs :=
  ⟨by simp [hn], .inr ⟨w.heap.size, n, cs.toArray, rfl, hb, heap_alloc_new w _, Nat.le_refl _, hm, by simp [hn], by rw [← hn]; simp⟩⟩
set_option maxHeartbeats 1000000 in
set_option maxRecDepth 100000 in
theorem long_walk (n : Int) (w : World) : Calls Try.prog 8 #[.int .i64 n] w fun e w' => e = .returned (.bool true) ∧ Below w.heap.size w w' := by
  obtain ⟨m, hm, _, em⟩ := mask_is n 31 5 (by omega) rfl
  have hm32 : m < 32 := hm
  clear hm
  go_enter Try.func8, Try.ntmps8
  go_wp2_with fail
  go_loop [3, 4] (fun s i => ∃ j : Nat, j ≤ 1973 + m ∧ i = .int .i64 j ∧ s = .string ⟨(List.replicate j (120 : UInt8)).toArray⟩) (fun _ i => 1973 + m - (intOf i).toNat)
  case atStart => exact ⟨0, Nat.zero_le _, rfl, rfl⟩
  case round =>
    obtain ⟨j, hj, rfl, rfl⟩ := hrel
    by_cases hlt : j < 1973 + m
    · obtain ⟨R, hR⟩ : ∃ R, R = List.replicate j (120 : UInt8) := ⟨_, rfl⟩
      have hR2 : List.replicate (j + 1) (120 : UInt8) = R ++ [120] := by rw [hR, List.replicate_succ']
      have hRl : R.length ≤ 2004 := by rw [hR, List.length_replicate]; omega
      rw [← hR]
      have HR := Lib.hid hR2
      clear hR hR2
      go_wp2_with fail
      go_round
      case rel => exact ⟨j + 1, by omega, by go_num, by rw [HR.out, str_snoc]⟩
      case measure => simp [intOf]; omega
    · obtain rfl : j = 1973 + m := by omega
      obtain ⟨S, hS⟩ : ∃ S, S = List.replicate (1973 + m) (120 : UInt8) := ⟨_, rfl⟩
      have hSl : S.length = 1973 + m := by rw [hS, List.length_replicate]
      rw [← hS]
      have HSL := Lib.hid hSl
      clear hS hSl
      go_wp2_with fail
      obtain ⟨f, hf⟩ : ∃ f, f = Fld.mk [97] 83 0 S [] := ⟨_, rfl⟩
      have hfat : TabAt 1 (w.alloc (.cells #[.string ⟨#[97]⟩, .int .u8 83, .int .i64 0, .string ⟨S.toArray⟩, .slice none 0 0] 49)) (w.heap.size + 1) [f] (some ⟨w.heap.size, 0, none⟩) 1 := by
        have hd : DescL Held (TabS Held 0 (w.alloc (.cells (cellsF (.slice none 0 0) (.mk [97] 83 0 S [])).toArray 49)) (fun b => b < w.heap.size + 1)) [.mk [97] 83 0 S []] (cellsF (.slice none 0 0) (.mk [97] 83 0 S []) ++ []) :=
          desc_cons (f := .mk [97] 83 0 S []) (A := none) (c := 0) (held_lit _ _ _ _ _ (by decide) (by decide) (by rw [HSL.out]; omega)) ⟨rfl, Nat.zero_le _⟩ rfl
        rw [List.append_nil] at hd
        rw [hf]
        exact tab_lit hd (lies_lit w 49 _) 1 (Nat.le_refl _) (by decide)
      have hrows : rowsD 8 [f] = [1, 97, 83] ++ be 4 S.length ++ S := by
        rw [hf]
        simp [rowsD, rowOf, tailOf, Fld.name, Fld.kind, Fld.s]
        rfl
      have hlen : (rowsD 8 [f]).length = 1980 + m := by
        rw [hrows]
        simp [be_length, HSL.out]
        omega
      have hform : formedB 8 [f] = true := by
        rw [hf]
        simp [formedB, allB, mayB, kindB, Fld.name, Fld.kind, Fld.n, Fld.t]
      have hok : okB [f] = decide (1980 + m ≤ 2000) := by
        unfold okB
        rw [hform, hlen]
        rfl
      have HAT := Lib.hid hfat
      have HROWS := Lib.hid hrows
      have HLEN := Lib.hid hlen
      have HOK := Lib.hid hok
      have HFF := Lib.hid hf
      have hb0 : Below w.heap.size w (w.alloc (.cells #[.string ⟨#[97]⟩, .int .u8 83, .int .i64 0, .string ⟨S.toArray⟩, .slice none 0 0] 49)) := (Below.refl _ _).alloc (Nat.le_refl _) _
      have HB0 := Lib.hid hb0
      clear hfat hrows hlen hform hok hf hb0
      refine (append_any none 0 [] (w.heap.size + 1) (some ⟨w.heap.size, 0, none⟩) 1 1 [f] _ (Lies.empty _ _ _) (by simp) HAT.out (by simp)).mono ?_
      rintro e w1 ⟨v1, rfl, hown, hb1⟩
      rw [HOK.out]
      obtain ⟨X, hX⟩ : ∃ X, X = appB [] [f] := ⟨_, rfl⟩
      rw [← hX] at hown
      have hb1' : Below (w.heap.size + 1) _ w1 := hb1.mono (by simp)
      have hz1 : w.heap.size + 1 ≤ w1.heap.size := by have := hb1.size; simpa using this
      have HT1 := Lib.hid (TabH.below HAT.out hb1')
      have HB1 := Lib.hid (HB0.out.trans (hb1'.mono (by omega)))
      obtain ⟨A1, c1, rfl, _, _⟩ := own_form hown
      have HX := Lib.hid hX
      clear hown hb1 hb1' hX
      obtain ⟨i0, hi, hq0, hq1, hq2⟩ := info_parts u8_info
      have HI := Lib.hid hi
      have H0 := Lib.hid hq0
      have H1 := Lib.hid hq1
      have H2 := Lib.hid hq2
      have hcs : [Value.int .u8 1, .int .u8 97, .int .u8 83, .int .u8 0, .int .u8 0, .int .u8 ((1980 + (m : Int) - 7) / 256), .int .u8 ((1980 + (m : Int) - 7) % 256)] = B8 ([1, 97, 83] ++ be 4 S.length) := by
        rw [HSL.out, be4_small _ (by omega)]
        simp only [B8, List.cons_append, List.nil_append, List.map_cons, List.map_nil, UInt8.toNat_ofNat']
        rw [show ((1980 + (m : Int) - 7) / 256) = (((1973 + m) / 256 % 2 ^ 8 : Nat) : Int) from by omega, show ((1980 + (m : Int) - 7) % 256) = (((1973 + m) % 2 ^ 8 : Nat) : Int) from by omega]
        rfl
      have hol := own_lit w1 5 w.heap.size 7 [Value.int .u8 1, .int .u8 97, .int .u8 83, .int .u8 0, .int .u8 0, .int .u8 ((1980 + (m : Int) - 7) / 256), .int .u8 ((1980 + (m : Int) - 7) % 256)] (by omega) rfl (by decide)
      have HCS := Lib.hid hcs
      have HOL := Lib.hid hol
      have hs' : 7 + (⟨S.toArray⟩ : ByteArray).size ≤ 140737488355328 := by rw [bsize, HSL.out]; omega
      have HS' := Lib.hid hs'
      have hb2 : Below w.heap.size w1 (w1.alloc (.cells #[Value.int .u8 1, .int .u8 97, .int .u8 83, .int .u8 0, .int .u8 0, .int .u8 ((1980 + (m : Int) - 7) / 256), .int .u8 ((1980 + (m : Int) - 7) % 256)] 5)) := (Below.refl _ _).alloc (by omega) _
      have hz2 : w.heap.size + 1 ≤ (w1.alloc (.cells #[Value.int .u8 1, .int .u8 97, .int .u8 83, .int .u8 0, .int .u8 0, .int .u8 ((1980 + (m : Int) - 7) / 256), .int .u8 ((1980 + (m : Int) - 7) % 256)] 5)).heap.size := by simp; omega
      have HB2 := Lib.hid hb2
      have HZ2 := Lib.hid hz2
      have hb3 : Below (w.heap.size + 1) w1 (w1.alloc (.cells #[Value.int .u8 1, .int .u8 97, .int .u8 83, .int .u8 0, .int .u8 0, .int .u8 ((1980 + (m : Int) - 7) / 256), .int .u8 ((1980 + (m : Int) - 7) % 256)] 5)) := (Below.refl _ _).alloc (by omega) _
      have HB3 := Lib.hid hb3
      have hol' := own_lit w1 5 (w.heap.size + 1) 7 [Value.int .u8 1, .int .u8 97, .int .u8 83, .int .u8 0, .int .u8 0, .int .u8 ((1980 + (m : Int) - 7) / 256), .int .u8 ((1980 + (m : Int) - 7) % 256)] (by omega) rfl (by decide)
      have HOL' := Lib.hid hol'
      clear hi hq0 hq1 hq2 hcs hol hs' hb2 hz2 hb3 hol'
      obtain ⟨Y, hY⟩ : ∃ Y, Y = [1, 97, 83] ++ be 4 S.length ++ S := ⟨_, rfl⟩
      have hYl : Y.length = 1980 + m := by rw [hY]; simp [be_length, HSL.out]; omega
      have HYL : Hid (7 + (⟨S.toArray⟩ : ByteArray).size = Y.length) := Lib.hid (by rw [bsize, HSL.out, hYl]; omega)
      have HYB : Hid ([Value.int .u8 1, .int .u8 97, .int .u8 83, .int .u8 0, .int .u8 0, .int .u8 ((1980 + (m : Int) - 7) / 256), .int .u8 ((1980 + (m : Int) - 7) % 256)] ++ Lib.strCells ⟨S.toArray⟩ = B8 Y) := Lib.hid (by rw [HCS.out, strCells_B8, ← B8_append, hY])
      have HY : Hid (rowsD 8 [f] = Y) := Lib.hid (by rw [HROWS.out, hY])
      have HYM := Lib.hid hYl
      have hYm : Y.length ≤ 2011 := by omega
      clear hY hYl HROWS HCS HOL HB2 HB3
      by_cases hm20 : m ≤ 20
      · have hdec : decide (1980 + m ≤ 2000) = true := decide_eq_true (by omega)
        have hok1 : okB [f] = true := by rw [HOK.out]; exact hdec
        have HOK1 := Lib.hid hok1
        have hpar : parseB Y = some [f] := by
          unfold parseB
          rw [if_pos (by rw [HYM.out]; omega), ← HY.out]
          exact parsed_of_ok codeP code_complete [f] hok1
        have HPAR := Lib.hid hpar
        have hxl : X.length = 1980 + m := by
          rw [HX.out]
          unfold appB
          rw [hok1, if_pos rfl, List.nil_append, HLEN.out]
        have HXL := Lib.hid hxl
        rw [hdec]
        clear hdec hok1 hpar hxl
        go_wp2_with (at_builtin; go_must (refine Lib.wpList_append_own_string _ rfl _ _ 24 9 rfl (w.heap.size + 1) 5 i0 Try.underlying24 Try.underlying9 HI.out H0.out H1.out H2.out _ _ _ rfl HOL'.out ⟨S.toArray⟩ rfl (room63 HS'.out) HS'.out HZ2.out ?_); intro v3 w3 hown3 hg3 _; rw [HYL.out, HYB.out] at hown3; obtain ⟨A3, c3, rfl, _, _⟩ := own_form hown3; have L3 := Lib.hid (Lies.own hown3 (Nat.le_refl _)); have hb3 := Lib.hid (((Below.refl (w.heap.size + 1) w1).alloc (by omega) _).trans ((Below.refl (w.heap.size + 1) _).grown hg3 HZ2.out (fun q hq => (HOL'.out.lt q hq).1))); clear hown3 hg3)
        have hz3 := hb3.out.size
        have HT3 := Lib.hid (TabH.below HT1.out hb3.out)
        have HB3 := Lib.hid (HB1.out.trans (hb3.out.mono (by omega)))
        refine (parse_any A3 c3 Y w3.heap.size _ L3.out (Nat.le_refl _) (by unfold maxLen; omega)).mono ?_
        rw [HPAR.out]
        rintro e w4 (⟨hn, _⟩ | ⟨l4, A4, c4, hn, rfl, ht4, hb4⟩)
        case inl => cases hn
        injection hn with hn
        subst hn
        have hz4 := hb4.size
        have HT4 := Lib.hid (TabH.below HT3.out (hb4.mono (by omega)))
        have HB4 := Lib.hid (HB3.out.trans (hb4.mono (by omega)))
        have HN4 := Lib.hid ht4
        clear ht4 hb4
        have hxx : (X.length : Int) = 1980 + (m : Int) := by rw [HXL.out]; omega
        go_wp2_with fail
        refine (ok_any [f] _ 1 1 (w.heap.size + 1) _ HT4.out (by omega)).mono ?_
        rintro e w5 ⟨rfl, hb5⟩
        rw [HOK1.out]
        have HN5 := TabNew.grown HN4.out (only_below hb5 none) (fun q hq => by cases hq)
        have HB5 := Lib.hid (HB4.out.trans (hb5.mono (by omega)))
        obtain ⟨b', o', A', c', rfl, hb', _, _, hcell⟩ := HN5.at_.at 0 (by simp)
        have p3 : w5.cell? ⟨b', o' + 3, none⟩ = some (.string ⟨S.toArray⟩) := by
          have h := hcell 3 (.string ⟨f.s.toArray⟩) rfl
          rw [HFF.out] at h
          simpa [Fld.s] using h
        clear hb5 HN5 hcell
        go_wp2_with fail
        refine (awake2_any _).mono ?_
        rintro e w6 ⟨rfl, hb6⟩
        have HB6 := Lib.hid (HB5.out.trans (hb6.mono HB5.out.size))
        clear hb6
        go_wp2_with fail
        go_ret
        exact ⟨rfl, HB6.out⟩
      · have hdec : decide (1980 + m ≤ 2000) = false := decide_eq_false (by omega)
        have hok1 : okB [f] = false := by rw [HOK.out]; exact hdec
        have HOK1 := Lib.hid hok1
        have hpar : parseB Y = none := by
          unfold parseB
          rw [if_neg (by rw [HYM.out]; omega)]
        have HPAR := Lib.hid hpar
        have hm20' : (20 : Int) < m := by omega
        have hd2 : decide ((1980 : Int) + (m : Int) ≤ 2000) = false := decide_eq_false (by omega)
        rw [hdec]
        clear hdec hok1 hpar
        go_wp2_with (at_builtin; go_must (refine Lib.wpList_append_own_string _ rfl _ _ 24 9 rfl (w.heap.size + 1) 5 i0 Try.underlying24 Try.underlying9 HI.out H0.out H1.out H2.out _ _ _ rfl HOL'.out ⟨S.toArray⟩ rfl (room63 HS'.out) HS'.out HZ2.out ?_); intro v3 w3 hown3 hg3 _; rw [HYL.out, HYB.out] at hown3; obtain ⟨A3, c3, rfl, _, _⟩ := own_form hown3; have L3 := Lib.hid (Lies.own hown3 (Nat.le_refl _)); have hb3 := Lib.hid (((Below.refl (w.heap.size + 1) w1).alloc (by omega) _).trans ((Below.refl (w.heap.size + 1) _).grown hg3 HZ2.out (fun q hq => (HOL'.out.lt q hq).1))); clear hown3 hg3)
        have hz3 := hb3.out.size
        have HT3 := Lib.hid (TabH.below HT1.out hb3.out)
        have HB3 := Lib.hid (HB1.out.trans (hb3.out.mono (by omega)))
        refine (parse_any A3 c3 Y w3.heap.size _ L3.out (Nat.le_refl _) (by unfold maxLen; omega)).mono ?_
        rw [HPAR.out]
        rintro e w4 (⟨_, rfl, hb4⟩ | ⟨l4, A4, c4, hn, _⟩)
        case inr => cases hn
        have hz4 := hb4.size
        have HT4 := Lib.hid (TabH.below HT3.out (hb4.mono (by omega)))
        have HB4 := Lib.hid (HB3.out.trans (hb4.mono (by omega)))
        clear hb4
        go_wp2_with fail
        refine (ok_any [f] _ 1 1 (w.heap.size + 1) _ HT4.out (by omega)).mono ?_
        rintro e w5 ⟨rfl, hb5⟩
        rw [HOK1.out]
        have HB5 := Lib.hid (HB4.out.trans (hb5.mono (by omega)))
        clear hb5
        go_wp2_with fail
        refine (awake2_any _).mono ?_
        rintro e w6 ⟨rfl, hb6⟩
        have HB6 := Lib.hid (HB5.out.trans (hb6.mono HB5.out.size))
        clear hb6
        go_wp2_with fail
        go_ret
        exact ⟨rfl, HB6.out⟩
end Go.Proofs.Ythaakbmdfdkjgaa
