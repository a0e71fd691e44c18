/- Layer 12: the law of the order of keys' texts. -/
import Derived.Test.YtgdlgkbckblagaaKeyR
import Derived.Test.YtgdlgkbckblagaaKeyW
import Derived.Deep.RegionWith
import Derived.Laws.Cover1
import Derived.Deep.DeepMust
namespace Go.Proofs.Ytgdlgkbckblagaa
open Go.RowKit
set_option maxRecDepth 100000
set_option linter.unusedSimpArgs false
set_option linter.unusedVariables false

/-- two keys in their boxes -/
structure TwoK (w W : World) (k : Int) (A B C : List UInt8) (id : Nat) (k' : Int) (A' B' C' : List UInt8) (id' : Nat) : Prop where
  a : Whole W w.heap.size 28 (kyC k A B C id)
  b : Whole W (w.heap.size + 1) 28 (kyC k' A' B' C' id')
  bel : Below w.heap.size w W
section
variable {w W W' : World} {k : Int} {A B C : List UInt8} {id : Nat} {k' : Int} {A' B' C' : List UInt8} {id' : Nat}
theorem TwoK.below (h : TwoK w W k A B C id k' A' B' C' id') (hb : Below W.heap.size W W') : TwoK w W' k A B C id k' A' B' C' id' :=
  ⟨h.a.below hb h.a.lt, h.b.below hb h.b.lt, h.bel.trans (hb.mono h.bel.size)⟩
theorem TwoK.drew (h : TwoK w W k A B C id k' A' B' C' id') : TwoK w W.drew k A B C id k' A' B' C' id' := ⟨h.a, h.b, h.bel.drew⟩
theorem TwoK.new (w : World) (k : Int) (A B C : List UInt8) (id : Nat) (k' : Int) (A' B' C' : List UInt8) (id' : Nat) : TwoK w ((w.alloc (.cells (kyC k A B C id) 28)).alloc (.cells (kyC k' A' B' C' id') 28)) k A B C id k' A' B' C' id' := by
  have h := Whole.new (w.alloc (.cells (kyC k A B C id) 28)) 28 (kyC k' A' B' C' id')
  rw [show (w.alloc (.cells (kyC k A B C id) 28)).heap.size = w.heap.size + 1 by simp] at h
  exact ⟨(Whole.new _ _ _).alloc _, h, ((Below.refl _ w).alloc (Nat.le_refl _) _).alloc (by simp) _⟩
theorem Whole.aside5 {W : World} {g : Nat} {t : TypeId} {cs : Array Value} (h : Whole W g t cs) {c : Nat} (hc : g ≠ c) (u0 u1 u2 u3 u4 : Value) : Whole (((((W.setCell ⟨c, 0, none⟩ u0).setCell ⟨c, 1, none⟩ u1).setCell ⟨c, 2, none⟩ u2).setCell ⟨c, 3, none⟩ u3).setCell ⟨c, 4, none⟩ u4) g t cs :=
  ((((h.aside hc 0 u0).aside hc 1 u1).aside hc 2 u2).aside hc 3 u3).aside hc 4 u4
theorem TwoK.put (h : TwoK w W k A B C id k' A' B' C' id') (l : Int) (X Y Z : List UInt8) (j : Nat) (l' : Int) (X' Y' Z' : List UInt8) (j' : Nat) :
    TwoK w ((((((((((W.setCell ⟨w.heap.size, 0, none⟩ (.int .i64 l)).setCell ⟨w.heap.size, 1, none⟩ (.string ⟨X.toArray⟩)).setCell ⟨w.heap.size, 2, none⟩ (.string ⟨Y.toArray⟩)).setCell ⟨w.heap.size, 3, none⟩ (.string ⟨Z.toArray⟩)).setCell ⟨w.heap.size, 4, none⟩ (.int .u64 j)).setCell
      ⟨w.heap.size + 1, 0, none⟩ (.int .i64 l')).setCell ⟨w.heap.size + 1, 1, none⟩ (.string ⟨X'.toArray⟩)).setCell ⟨w.heap.size + 1, 2, none⟩ (.string ⟨Y'.toArray⟩)).setCell ⟨w.heap.size + 1, 3, none⟩ (.string ⟨Z'.toArray⟩)).setCell ⟨w.heap.size + 1, 4, none⟩ (.int .u64 j')) l X Y Z j l' X' Y' Z' j' :=
  ⟨(zero_put h.a).aside5 (by omega) _ _ _ _ _, zero_put (h.b.aside5 (by omega) _ _ _ _ _), below_put12 (below_put12 h.bel (Nat.le_refl _) _ _ _ _ _) (by omega) _ _ _ _ _⟩
end
set_option maxHeartbeats 4000000 in
theorem korder_law (k : Int) (A B C : List UInt8) (id : Nat) (k' : Int) (A' B' C' : List UInt8) (id' : Nat) (x0 y0 : Nat) (w : World) (hA : A.length ≤ maxLen) (hB : B.length ≤ maxLen) (hC : C.length ≤ maxLen) (hA' : A'.length ≤ maxLen) (hB' : B'.length ≤ maxLen) (hC' : C'.length ≤ maxLen)
    (hi : id < 18446744073709551616) (hi' : id' < 18446744073709551616) (hx : x0 < 18446744073709551616) (hy : y0 < 18446744073709551616) :
    Calls Try.prog 6 #[kyV k A B C id, kyV k' A' B' C' id', .int .u64 x0, .int .u64 y0] w fun e w' => e = .returned (.bool true) ∧ Below w.heap.size w w' := by
  have ta := fun w => ktame_any k A B C id w hA hB hC
  have tb := fun w => ktame_any k' A' B' C' id' w hA' hB' hC'
  have oa := tame_ok k A B C id
  have ob := tame_ok k' A' B' C' id'
  have la := okK_less oa
  have lb := okK_less ob
  obtain ⟨q, hq⟩ : ∃ q, q = tmq k := ⟨_, rfl⟩
  obtain ⟨q', hq'⟩ : ∃ q, q = tmq k' := ⟨_, rfl⟩
  have q5 := (tmq_is k).1
  have q5' := (tmq_is k').1
  rw [← hq] at ta oa la q5
  rw [← hq'] at tb ob lb q5'
  obtain ⟨n, hn⟩ : ∃ n, n = q + 1 := ⟨_, rfl⟩
  obtain ⟨n', hn'⟩ : ∃ n, n = q' + 1 := ⟨_, rfl⟩
  rw [← hn] at ta oa la
  rw [← hn'] at tb ob lb
  have n5 : n ≤ 5 := by omega
  have n5' : n' ≤ 5 := by omega
  clear hq hq' hn hn' q5 q5'
  obtain ⟨A1, hA1⟩ : ∃ X, X = tmA k A := ⟨_, rfl⟩
  obtain ⟨B1, hB1⟩ : ∃ X, X = tmB k B := ⟨_, rfl⟩
  obtain ⟨C1, hC1⟩ : ∃ X, X = tmC k C := ⟨_, rfl⟩
  obtain ⟨i1, hi1⟩ : ∃ X, X = tmI k id := ⟨_, rfl⟩
  obtain ⟨A2, hA2⟩ : ∃ X, X = tmA k' A' := ⟨_, rfl⟩
  obtain ⟨B2, hB2⟩ : ∃ X, X = tmB k' B' := ⟨_, rfl⟩
  obtain ⟨C2, hC2⟩ : ∃ X, X = tmC k' C' := ⟨_, rfl⟩
  obtain ⟨i2, hi2⟩ : ∃ X, X = tmI k' id' := ⟨_, rfl⟩
  rw [← hA1, ← hB1, ← hC1, ← hi1] at ta oa la
  rw [← hA2, ← hB2, ← hC2, ← hi2] at tb ob lb
  obtain ⟨_, _, _, zA1, zB1, zC1, _⟩ := la
  obtain ⟨_, _, _, zA2, zB2, zC2, _⟩ := lb
  obtain ⟨x, ex⟩ : ∃ x, x = max x0 1 := ⟨_, rfl⟩
  obtain ⟨y, ey⟩ : ∃ y, y = max y0 1 := ⟨_, rfl⟩
  have x1 : 1 ≤ x ∧ x < 18446744073709551616 := by omega
  have y1 : 1 ≤ y ∧ y < 18446744073709551616 := by omega
  obtain ⟨P, hP⟩ : ∃ P, P = A1.take 20 := ⟨_, rfl⟩
  have zP : P.length ≤ 20 := by rw [hP]; exact List.length_take_le _ _
  have cP : (A1.length : Int) ≤ 20 → (⟨A1.toArray⟩ : ByteArray).extract 0 A1.length = ⟨P.toArray⟩ := fun h => by rw [hP, cut_list12, List.take_length, List.take_of_length_le (by omega)]
  have cP' : (⟨A1.toArray⟩ : ByteArray).extract 0 20 = ⟨P.toArray⟩ := by rw [hP, cut_list12]
  obtain ⟨Q, hQ⟩ : ∃ Q, Q = 113 :: P := ⟨_, rfl⟩
  have pP : (⟨#[113]⟩ : ByteArray) ++ ⟨P.toArray⟩ = ⟨Q.toArray⟩ := by rw [hQ]; exact put_front 113 P
  have ox := ok5 113 P x (by omega) (by omega)
  have oy := ok5 113 P y (by omega) (by omega)
  have ux := ok4 x (by omega)
  have uy := ok4 y (by omega)
  rw [← hQ] at ox oy
  have zQ : Q.length ≤ 21 := by rw [hQ]; simp; omega
  obtain ⟨S, hS⟩ : ∃ X, X = txK n A1 B1 C1 i1 := ⟨_, rfl⟩
  obtain ⟨T, hT⟩ : ∃ X, X = txK n' A2 B2 C2 i2 := ⟨_, rfl⟩
  obtain ⟨p5, hp5⟩ : ∃ X, X = txK 5 Q [] [] x := ⟨_, rfl⟩
  obtain ⟨q5, hq5⟩ : ∃ X, X = txK 5 Q [] [] y := ⟨_, rfl⟩
  obtain ⟨u4, hu4⟩ : ∃ X, X = txK 4 [] [] [] x := ⟨_, rfl⟩
  obtain ⟨v4, hv4⟩ : ∃ X, X = txK 4 [] [] [] y := ⟨_, rfl⟩
  have lS : n < n' → Op.bytesLess S T = true := fun h => by rw [hS, hT]; exact less_kind n n' _ _ _ _ _ _ _ _ h (by omega)
  have l5 : Op.bytesLess p5 q5 = decide (x < y) := by rw [hp5, hq5]; exact less5 Q x y x1.2 y1.2
  have l4 : Op.bytesLess u4 v4 = decide (x < y) := by rw [hu4, hv4]; exact less4 x y x1.2 y1.2
  have TA := Lib.hid ta
  have TB := Lib.hid tb
  have OA := Lib.hid oa
  have OB := Lib.hid ob
  have EX := Lib.hid ex
  have EY := Lib.hid ey
  have CP := Lib.hid cP
  have CP' := Lib.hid cP'
  have PP := Lib.hid pP
  have OX := Lib.hid ox
  have OY := Lib.hid oy
  have UX := Lib.hid ux
  have UY := Lib.hid uy
  have HS := Lib.hid hS
  have HT := Lib.hid hT
  have HP5 := Lib.hid hp5
  have HQ5 := Lib.hid hq5
  have HU4 := Lib.hid hu4
  have HV4 := Lib.hid hv4
  have LS := Lib.hid lS
  have L5 := Lib.hid l5
  have L4 := Lib.hid l4
  have T0 := Lib.hid (TwoK.new w k A B C id k' A' B' C' id').drew
  have TP := Lib.hid (fun (W : World) (h : TwoK w W k A B C id k' A' B' C' id') => h.put (n : Int) A1 B1 C1 i1 (n' : Int) A2 B2 C2 i2)
  clear ta tb oa ob ex ey cP cP' pP ox oy ux uy hS hT hp5 hq5 hu4 hv4 lS l5 l4 hA1 hB1 hC1 hi1 hA2 hB2 hC2 hi2 hP hQ hA hB hC hA' hB' hC'
  unfold kyV
  go_enter Try.func6, Try.ntmps6
  go_upto_region 1 with fail
  go_cut [] (fun wx => TwoK w wx (n : Int) A1 B1 C1 i1 (n' : Int) A2 B2 C2 i2)
  case first =>
    have TT := T0
    obtain ⟨c0, c1, c2, c3, c4⟩ := five12 TT.out.a
    obtain ⟨d0, d1, d2, d3, d4⟩ := five12 TT.out.b
    unfold kyV at TA TB
    unfold kyC at c0 c1 c2 c3 c4 d0 d1 d2 d3 d4 T0 TT
    go_region_with (first
      | (go_at_call 14; with_reducible refine (TA.out _).mono ?_; rintro e w1 ⟨rfl, hb1⟩; have TT := Lib.hid (TT.out.below hb1); clear c0 c1 c2 c3 c4 d0 d1 d2 d3 d4 hb1; obtain ⟨c0, c1, c2, c3, c4⟩ := five12 TT.out.a; obtain ⟨d0, d1, d2, d3, d4⟩ := five12 TT.out.b; have f0 := TT.out.a.frozen; have f1 := TT.out.b.frozen)
      | (go_at_call 14; go_must (with_reducible refine (TB.out _).mono ?_); rintro e w1 ⟨rfl, hb1⟩; have TT := Lib.hid (TT.out.below hb1); clear c0 c1 c2 c3 c4 d0 d1 d2 d3 d4 hb1; obtain ⟨c0, c1, c2, c3, c4⟩ := five12 TT.out.a; obtain ⟨d0, d1, d2, d3, d4⟩ := five12 TT.out.b; have f0 := TT.out.a.frozen; have f1 := TT.out.b.frozen))
    all_goals (go_wp2_with fail; go_meet; exact TP.out _ TT.out)
  case rest =>
    obtain ⟨w0, hw0⟩ : ∃ w0, w0 = wc := ⟨_, rfl⟩
    rw [← hw0] at hcut
    rw [← hw0]
    have T1 := Lib.hid hcut
    clear hcut hw0 T0 TP TA TB
    obtain ⟨c0, c1, c2, c3, c4⟩ := five12 T1.out.a
    go_wp2_with fail
    refine (text_at n A1 B1 C1 i1 _ true S (room63 (by omega)) (room63 (by omega)) (room63 (by omega)) OA.out HS.out.symm).mono ?_
    rintro e w2 ⟨rfl, hb2⟩
    have T2 := Lib.hid (T1.out.below hb2)
    clear c0 c1 c2 c3 c4 hb2
    obtain ⟨d0, d1, d2, d3, d4⟩ := five12 T2.out.b
    go_wp2_with fail
    refine (text_at n' A2 B2 C2 i2 _ true T (room63 (by omega)) (room63 (by omega)) (room63 (by omega)) OB.out HT.out.symm).mono ?_
    rintro e w3 ⟨rfl, hb3⟩
    have T3 := Lib.hid (T2.out.below hb3)
    clear d0 d1 d2 d3 d4 hb3
    go_upto_region 4 with fail
    go_cut [44] (fun t wx => t = .bool false ∧ wx = w3)
    case first =>
      obtain ⟨c0, _⟩ := five12 T3.out.a
      obtain ⟨d0, _⟩ := five12 T3.out.b
      by_cases h : n < n'
      · have h1 := LS.out h
        have h2 : (n : Int) < (n' : Int) := by omega
        clear T3
        go_wp2_with fail
        go_meet
        exact ⟨rfl, rfl⟩
      · have h2 : ¬ (n : Int) < (n' : Int) := by omega
        clear T3
        go_wp2_with fail
        go_meet
        exact ⟨rfl, rfl⟩
    case rest =>
    obtain ⟨rfl, e3⟩ := hcut
    rw [e3]
    clear e3
    go_upto_region 6 with fail
    go_cut [2, 3] (fun s t wx => s = .int .u64 (x : Int) ∧ t = .int .u64 (y : Int) ∧ wx = w3)
    case first =>
      have hx := EX.out
      have hy := EY.out
      clear T3
      by_cases h1 : (x0 : Int) < 1
      · by_cases h2 : (y0 : Int) < 1
        · have e1 : Hid ((1 : Int) = (x : Int)) := Lib.hid (by omega)
          have e2 : Hid ((1 : Int) = (y : Int)) := Lib.hid (by omega)
          clear hx hy
          go_wp2_with fail
          go_meet
          exact ⟨by rw [← e1.out], by rw [← e2.out], rfl⟩
        · have e1 : Hid ((1 : Int) = (x : Int)) := Lib.hid (by omega)
          have e2 : Hid ((y0 : Int) = (y : Int)) := Lib.hid (by omega)
          clear hx hy
          go_wp2_with fail
          go_meet
          exact ⟨by rw [← e1.out], by rw [← e2.out], rfl⟩
      · by_cases h2 : (y0 : Int) < 1
        · have e1 : Hid ((x0 : Int) = (x : Int)) := Lib.hid (by omega)
          have e2 : Hid ((1 : Int) = (y : Int)) := Lib.hid (by omega)
          clear hx hy
          go_wp2_with fail
          go_meet
          exact ⟨by rw [← e1.out], by rw [← e2.out], rfl⟩
        · have e1 : Hid ((x0 : Int) = (x : Int)) := Lib.hid (by omega)
          have e2 : Hid ((y0 : Int) = (y : Int)) := Lib.hid (by omega)
          clear hx hy
          go_wp2_with fail
          go_meet
          exact ⟨by rw [← e1.out], by rw [← e2.out], rfl⟩
    case rest =>
    obtain ⟨rfl, rfl, e3⟩ := hcut
    rw [e3]
    clear e3
    obtain ⟨c0, c1, c2, c3, c4⟩ := five12 T3.out.a
    have sA := key_size A1
    have zP' : P.length ≤ 20 := zP
    by_cases hq : (20 : Int) < (A1.length : Int)
    · have ce := CP'.out
      go_wp2_with fail
      rw [PP.out]
      refine (text_at 5 Q [] [] x _ true p5 (room63 (by omega)) (Nat.zero_le _) (Nat.zero_le _) OX.out HP5.out.symm).mono ?_
      rintro e w4 ⟨rfl, hb4⟩
      have T4 := Lib.hid (T3.out.below hb4)
      clear c0 c1 c2 c3 c4 hb4
      obtain ⟨c0, c1, c2, c3, c4⟩ := five12 T4.out.a
      go_wp2_with fail
      rw [PP.out]
      refine (text_at 5 Q [] [] y _ true q5 (room63 (by omega)) (Nat.zero_le _) (Nat.zero_le _) OY.out HQ5.out.symm).mono ?_
      rintro e w5 ⟨rfl, hb5⟩
      have T5 := Lib.hid (T4.out.below hb5)
      clear c0 c1 c2 c3 c4 hb5
      go_wp2_with fail
      refine (text_at 4 [] [] [] x _ true u4 (Nat.zero_le _) (Nat.zero_le _) (Nat.zero_le _) UX.out HU4.out.symm).mono ?_
      rintro e w6 ⟨rfl, hb6⟩
      have T6 := Lib.hid (T5.out.below hb6)
      clear hb6
      go_wp2_with fail
      refine (text_at 4 [] [] [] y _ true v4 (Nat.zero_le _) (Nat.zero_le _) (Nat.zero_le _) UY.out HV4.out.symm).mono ?_
      rintro e w7 ⟨rfl, hb7⟩
      have T7 := Lib.hid (T6.out.below hb7)
      clear hb7
      go_upto_region 11 with fail
      by_cases hxy : x < y
      · have k5 := L5.out
        have k4 := L4.out
        rw [decide_eq_true hxy] at k5 k4
        have k1 : decide ((x : Int) < (y : Int)) = true := decide_eq_true (by omega)
        have k2 : decide (x < y) = true := decide_eq_true hxy
        go_wp2_with fail
        refine (awake12_any _).mono ?_
        rintro e w8 ⟨rfl, hb8⟩
        have T8 := Lib.hid (T7.out.below hb8)
        clear hb8
        go_wp2_with fail
        go_ret
        exact ⟨rfl, T8.out.bel⟩
      · have k5 := L5.out
        have k4 := L4.out
        rw [decide_eq_false hxy] at k5 k4
        have k1 : decide ((x : Int) < (y : Int)) = false := decide_eq_false (by omega)
        have k2 : decide (x < y) = false := decide_eq_false hxy
        go_wp2_with fail
        refine (awake12_any _).mono ?_
        rintro e w8 ⟨rfl, hb8⟩
        have T8 := Lib.hid (T7.out.below hb8)
        clear hb8
        go_wp2_with fail
        go_ret
        exact ⟨rfl, T8.out.bel⟩
    · have ce := CP.out (by omega)
      go_wp2_with fail
      rw [PP.out]
      refine (text_at 5 Q [] [] x _ true p5 (room63 (by omega)) (Nat.zero_le _) (Nat.zero_le _) OX.out HP5.out.symm).mono ?_
      rintro e w4 ⟨rfl, hb4⟩
      have T4 := Lib.hid (T3.out.below hb4)
      clear c0 c1 c2 c3 c4 hb4
      obtain ⟨c0, c1, c2, c3, c4⟩ := five12 T4.out.a
      go_wp2_with fail
      rw [PP.out]
      refine (text_at 5 Q [] [] y _ true q5 (room63 (by omega)) (Nat.zero_le _) (Nat.zero_le _) OY.out HQ5.out.symm).mono ?_
      rintro e w5 ⟨rfl, hb5⟩
      have T5 := Lib.hid (T4.out.below hb5)
      clear c0 c1 c2 c3 c4 hb5
      go_wp2_with fail
      refine (text_at 4 [] [] [] x _ true u4 (Nat.zero_le _) (Nat.zero_le _) (Nat.zero_le _) UX.out HU4.out.symm).mono ?_
      rintro e w6 ⟨rfl, hb6⟩
      have T6 := Lib.hid (T5.out.below hb6)
      clear hb6
      go_wp2_with fail
      refine (text_at 4 [] [] [] y _ true v4 (Nat.zero_le _) (Nat.zero_le _) (Nat.zero_le _) UY.out HV4.out.symm).mono ?_
      rintro e w7 ⟨rfl, hb7⟩
      have T7 := Lib.hid (T6.out.below hb7)
      clear hb7
      go_upto_region 11 with fail
      by_cases hxy : x < y
      · have k5 := L5.out
        have k4 := L4.out
        rw [decide_eq_true hxy] at k5 k4
        have k1 : decide ((x : Int) < (y : Int)) = true := decide_eq_true (by omega)
        have k2 : decide (x < y) = true := decide_eq_true hxy
        go_wp2_with fail
        refine (awake12_any _).mono ?_
        rintro e w8 ⟨rfl, hb8⟩
        have T8 := Lib.hid (T7.out.below hb8)
        clear hb8
        go_wp2_with fail
        go_ret
        exact ⟨rfl, T8.out.bel⟩
      · have k5 := L5.out
        have k4 := L4.out
        rw [decide_eq_false hxy] at k5 k4
        have k1 : decide ((x : Int) < (y : Int)) = false := decide_eq_false (by omega)
        have k2 : decide (x < y) = false := decide_eq_false hxy
        go_wp2_with fail
        refine (awake12_any _).mono ?_
        rintro e w8 ⟨rfl, hb8⟩
        have T8 := Lib.hid (T7.out.below hb8)
        clear hb8
        go_wp2_with fail
        go_ret
        exact ⟨rfl, T8.out.bel⟩
theorem korder_all (k : Int) (A B C : List UInt8) (id : Nat) (k' : Int) (A' B' C' : List UInt8) (id' : Nat) (x0 y0 : Int) (w : World) (hA : A.length ≤ maxLen) (hB : B.length ≤ maxLen) (hC : C.length ≤ maxLen) (hi : id < 18446744073709551616) (hA' : A'.length ≤ maxLen) (hB' : B'.length ≤ maxLen) (hC' : C'.length ≤ maxLen)
    (hi' : id' < 18446744073709551616) (hx : (Lit.int .u64 x0).wf = true) (hy : (Lit.int .u64 y0).wf = true) :
    Calls Try.prog 6 #[kyV k A B C id, kyV k' A' B' C' id', .int .u64 x0, .int .u64 y0] w fun e w' => e = .returned (.bool true) ∧ Below w.heap.size w w' := by
  obtain ⟨x, rfl, h1⟩ := wf_u64 hx
  obtain ⟨y, rfl, h2⟩ := wf_u64 hy
  exact korder_law k A B C id k' A' B' C' id' x y w hA hB hC hA' hB' hC' hi hi' h1 h2
end Go.Proofs.Ytgdlgkbckblagaa
