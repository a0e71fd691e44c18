/- The law RoutGoes, walked. -/
import Derived.Test.YtocombacjpjdbaaDoorRoG
import Derived.Test.YtocombacjpjdbaaDoorRoK
import Derived.Deep.CutBlock
import Derived.BigQuiet
namespace Go.Proofs.YtocombacjpjdbaaDoor
open Go.RowKit Go.Maps Go.Sort Go.Shelf
set_option maxRecDepth 100000
set_option linter.unusedSimpArgs false
set_option linter.unusedVariables false
set_option maxHeartbeats 16000000 in
theorem goes_law (l : List Bnd) (A : Option Addr) (cap : Nat) (n : Int) (q : List UInt8) (W : World) (hl : Lies W W.heap.size A (bdCs l)) (hB : BearB l) (_ : q.length ≤ maxLen) :
    Calls Tryd.prog 5 #[.slice A l.length cap, .int .i64 n, .string ⟨q.toArray⟩] W fun e w' => e = .returned (.bool true) ∧ Below W.heap.size W w' := by
  have hlen := hB.1
  unfold maxLen at hlen
  have HL := Lib.hid hl
  have HB := Lib.hid hB
  clear hl hB
  by_cases h1 : (60 : Int) < (q.length : Int)
  · go_enter Tryd.func5, Tryd.ntmps5
    go_wp2_with fail
    refine (r_new _).mono ?_
    rintro e w1 ⟨g, bx, bb, rfl, hr1, hb1, _⟩
    have B1 := Lib.hid hb1
    clear hr1 hb1
    go_wp2_with fail
    refine (awake16_any _).mono ?_
    rintro e w2 ⟨rfl, hb2⟩
    have B2 := Lib.hid (B1.out.trans (hb2.mono B1.out.size))
    clear hb2
    go_wp2_with fail
    go_ret
    exact ⟨rfl, B2.out⟩
  have HK := Lib.hid (show q.length ≤ 1000000 by omega)
  obtain ⟨L, hL⟩ : ∃ L, L = l.length := ⟨_, rfl⟩
  rw [← hL] at hlen ⊢
  have HLE := Lib.hid hL
  clear hL
  obtain ⟨u, hu⟩ : ∃ u : Nat, (u : Int) = n % 256 := ⟨(n % 256).toNat, by omega⟩
  have hmk : bits .and .i64 n 255 = (u : Int) := by
    have := i64_mask n 8 (by omega)
    rw [hu]; exact this
  obtain ⟨t, ht⟩ : ∃ t, t = u % 3 := ⟨_, rfl⟩
  have hmt : (u : Int).tmod 3 = (t : Int) := by rw [ht]; rfl
  have HT3 := Lib.hid (show t < 3 by omega)
  have HMK := Lib.hid (And.intro hmk hmt)
  clear hu hmk hmt ht
  go_enter Tryd.func5, Tryd.ntmps5
  go_wp2_with fail
  refine (r_new _).mono ?_
  rintro e w1 ⟨g, bx, bb, rfl, hr1, hb1, hg1, hx1, hbb1⟩
  have R1 := Lib.hid hr1
  have B1 := Lib.hid hb1
  have GB := Lib.hid (And.intro hg1 (And.intro hx1 hbb1))
  clear hr1 hb1 hg1 hx1 hbb1
  go_upto_region 5 with fail
  obtain ⟨nb, hnb⟩ : ∃ nb, nb = w1.heap.size := ⟨_, rfl⟩
  rw [← hnb]
  refine wp_renR (fun W' => KAt W g bx bb nb rt0 W') ?_ ?_
  · have i := GB.out
    have l1 := R1.out.lts
    have s1 := B1.out.size
    refine ⟨R1.out.below ((Below.refl _ _).alloc (Nat.le_refl _) _), ?_, B1.out.alloc B1.out.size _, ⟨i.2.1, i.2.2, by omega, by omega, by omega⟩⟩
    rw [hnb]; exact Whole.new w1 _ _
  rintro w2 hk2
  have K2 := Lib.hid hk2
  clear hk2 hnb R1 B1 GB
  obtain ⟨m, hm⟩ : ∃ m, m = min L 40 := ⟨_, rfl⟩
  have HM := Lib.hid hm
  clear hm
  go_upto_block 0 with fail
  go_cut [] (fun wx => ∃ S, KAt W g bx bb nb S wx ∧ Bnds S l m ∧ Hid (∀ i (h : i < l.length), i < m → l[i].q.length ≤ 60 ∧ l[i].k.length ≤ 100))
  case first => as_aux_lemma =>
    go_wp2_with fail
    go_loopw [9] (fun s7 wr => ∃ (j : Nat) (S : Rt), s7 = .int .i64 j ∧ j ≤ L ∧ j ≤ 40 ∧ KAt W g bx bb nb S wr ∧ Bnds S l j ∧ Hid (∀ i (h : i < l.length), i < j → l[i].q.length ≤ 60 ∧ l[i].k.length ≤ 100)) (fun s7 _ => 40 - (intOf s7).toNat)
    case atStart => exact ⟨0, rt0, rfl, Nat.zero_le _, Nat.zero_le _, K2.out, Bnds.start l, Lib.hid (fun i h hi => by omega)⟩
    case round =>
      obtain ⟨j, S, rfl, hj, hj40, hk, hbs, hsm⟩ := hrel
      have K := Lib.hid hk
      have BS := Lib.hid hbs
      clear hk hbs K2
      by_cases hjL : j < L
      · by_cases hj4 : j < 40
        · have q1 : (j : Int) < (L : Int) := by omega
          have q2 : (j : Int) < 40 := by omega
          have q0 : (0 : Int) ≤ (j : Int) := by omega
          have hji : j < l.length := by rw [← HLE.out]; exact hjL
          obtain ⟨b, o, rfl, hlb⟩ := HL.out.bind_some (by omega)
          obtain ⟨c0, c1, c2⟩ := ((HL.out.below K.out.bel)).bind_at hji
          obtain ⟨yq, hyq⟩ : ∃ yq, yq = l[j].q := ⟨_, rfl⟩
          obtain ⟨yk, hyk⟩ : ∃ yk, yk = l[j].k := ⟨_, rfl⟩
          rw [← hyq] at c1
          rw [← hyk] at c2
          have HJI := Lib.hid hji
          have HYQ : Hid (∀ h : j < l.length, yq = l[j].q) := Lib.hid (fun _ => hyq)
          have HYK : Hid (∀ h : j < l.length, yk = l[j].k) := Lib.hid (fun _ => hyk)
          clear hyq hyk hji c0
          have BE := Lib.hid K.out.bel
          by_cases hq : (60 : Int) < (yq.length : Int)
          · go_wp2_with fail
            refine (awake16_any _).mono ?_
            rintro e w3 ⟨rfl, hb3⟩
            have B3 := Lib.hid (BE.out.trans (hb3.mono BE.out.size))
            clear hb3
            go_wp2_with fail
            go_ret
            exact ⟨rfl, B3.out⟩
          by_cases hk : (100 : Int) < (yk.length : Int)
          · go_wp2_with fail
            refine (awake16_any _).mono ?_
            rintro e w3 ⟨rfl, hb3⟩
            have B3 := Lib.hid (BE.out.trans (hb3.mono BE.out.size))
            clear hb3
            go_wp2_with fail
            go_ret
            exact ⟨rfl, B3.out⟩
          have HYL := Lib.hid (show yq.length ≤ 60 ∧ yk.length ≤ 100 by omega)
          obtain ⟨t, ht⟩ : ∃ t, t = j % 3 := ⟨_, rfl⟩
          have n3 : wr.cell? ⟨nb, t, none⟩ = some (.string ⟨(nm3 j).toArray⟩) := by rw [ht]; exact nms_at K.out.nm j
          obtain ⟨yn, hyn⟩ : ∃ yn, yn = nm3 j := ⟨_, rfl⟩
          rw [← hyn] at n3
          have t1 : (j : Int).tmod 3 = (t : Int) := by rw [ht]; rfl
          have t2 : (t : Int) < 3 := by omega
          have t3 : (0 : Int) ≤ (t : Int) := by omega
          have t4 : t < 3 := by omega
          have HBI := Lib.hid (fun (w' : World) (hr : RoAt w' g bx bb S) => r_bind hr (b := ⟨yn, yq, yk⟩) (by have := HYL.out; have := nm3_le j; rw [← hyn] at this; unfold bdOk; exact ⟨by show yn.length ≤ _; omega, by show yq.length ≤ _; omega, by show yk.length ≤ _; omega⟩) (by have := BS.out.few; omega))
          have HBE : Hid (∀ h : j < l.length, (⟨yn, yq, yk⟩ : Bnd) = bd3 l j h) := Lib.hid (fun h => by rw [hyn, HYQ.out h, HYK.out h]; rfl)
          have HTN := Lib.hid (And.intro ht hyn)
          clear ht hyn
          go_upto_region 10 with fail
          have KD := Lib.hid (K.out.below (w' := wr.drew) (Below.refl _ wr).drew)
          have HT := Lib.hid (show (∀ w', KAt W g bx bb nb (S.bind ⟨yn, yq, yk⟩) w' → w'.cell? ⟨nb, t, none⟩ = some (.string ⟨yn.toArray⟩) ∧ w'.cell? ⟨b, o + j * 3 + 1, none⟩ = some (.string ⟨yq.toArray⟩) ∧ w'.cell? ⟨b, o + j * 3 + 2, none⟩ = some (.string ⟨yk.toArray⟩)) from fun w' hk' => by
            have hji := HJI.out
            obtain ⟨c0, c1, c2⟩ := (HL.out.below hk'.bel).bind_at hji
            rw [← HYQ.out hji] at c1
            rw [← HYK.out hji] at c2
            refine ⟨?_, c1, c2⟩
            have := nms_at hk'.nm j
            rw [← HTN.out.1, ← HTN.out.2] at this
            exact this)
          go_region_held3 (fun w' => w'.cell? ⟨nb, t, none⟩ = some (.string ⟨yn.toArray⟩) ∧ w'.cell? ⟨b, o + j * 3 + 1, none⟩ = some (.string ⟨yq.toArray⟩) ∧ w'.cell? ⟨b, o + j * 3 + 2, none⟩ = some (.string ⟨yk.toArray⟩)) (first | exact ⟨n3, c1, c2⟩ | exact HT.out _ K3.out | go_keep) (first | (go_at_call 10; go_must (refine (HBI.out _ KD.out.ro).mono ?_); rintro e w3 ⟨rfl, hr3, hg3⟩; have K3 := Lib.hid (KD.out.turn hr3 hg3 (.inl rfl)); clear hr3 hg3))
          go_wp2_with fail
          go_roundw
          case rel => exact ⟨j + 1, S.bind ⟨yn, yq, yk⟩, by go_num, by omega, by omega, K3.out, by rw [HBE.out HJI.out]; exact BS.out.next HJI.out, Lib.hid (fun i h hi => by
            by_cases c : i = j
            · subst c
              rw [← HYQ.out h, ← HYK.out h]
              exact HYL.out
            · exact hsm.out i h (by omega))⟩
          case measure => simp [intOf]; omega
        · have q1 : (j : Int) < (L : Int) := by omega
          have q2 : ¬ (j : Int) < 40 := by omega
          have hjm : j = m := by have := HM.out; omega
          subst hjm
          go_wp2_with fail
          go_meet
          exact ⟨S, K.out, BS.out, hsm⟩
      · have q1 : ¬ (j : Int) < (L : Int) := by omega
        have hjm : j = m := by have := HM.out; omega
        subst hjm
        go_wp2_with fail
        go_meet
        exact ⟨S, K.out, BS.out, hsm⟩
  case rest =>
    obtain ⟨S, hk, hbs, hsm⟩ := hcut
    have K0 := Lib.hid hk
    have BS := Lib.hid hbs
    clear hk hbs K2
    rename World => w2
    have i0 := K0.out.ids
    have l0 := K0.out.ro.lts
    have HF := Lib.hid (show S.B.length ≤ 40 by have := BS.out.few; have := HM.out; omega)
    have IDS := Lib.hid (And.intro i0 l0)
    have HA := Lib.hid (r_binds K0.out.ro (by have := HF.out; omega))
    clear i0 l0
    go_wp2_with fail
    refine HA.out.mono ?_
    rintro e w3 ⟨v3, rfl, ho3, hb3⟩
    have K3 := Lib.hid (K0.out.below hb3)
    have O3 := Lib.hid ho3
    have Z3 := Lib.hid hb3.size
    clear ho3 hb3 HA K0
    have n3 : w3.cell? ⟨nb, t, none⟩ = some (.string ⟨(nm3 t).toArray⟩) := by
      have := nms_at K3.out.nm t
      rw [Nat.mod_eq_of_lt HT3.out] at this
      exact this
    obtain ⟨yn, hyn⟩ : ∃ yn, yn = nm3 t := ⟨_, rfl⟩
    rw [← hyn] at n3
    have HYN := Lib.hid hyn
    obtain ⟨hmk, hmt⟩ := HMK.out
    have t2 : (t : Int) < 3 := by have := HT3.out; omega
    have t3 : (0 : Int) ≤ (t : Int) := by omega
    have HC := Lib.hid (r_copy K3.out.ro)
    clear hyn
    go_wp2_with fail
    refine HC.out.mono ?_
    rintro e w4 ⟨g2, bx2, bb2, rfl, hr4, hb4, i4a, i4b, i4c⟩
    have K4 := Lib.hid (K3.out.ro.below hb4)
    have C4 := Lib.hid hr4
    have O4 := Lib.hid (own_under O3.out hb4)
    have P3 := Lib.hid (fun i (hi : v3.ownBlock = some i) => (O3.out.lt i hi).2)
    have BL4 := Lib.hid (K3.out.bel.trans (hb4.mono K3.out.bel.size))
    have I4 := Lib.hid (And.intro i4a (And.intro i4b (And.intro i4c (And.intro hr4.lts hb4.size))))
    have HD := Lib.hid (r_drop K4.out (n := yn) (by have := nm3_le t; rw [← HYN.out] at this; omega))
    clear hr4 hb4 i4a i4b i4c HC K3 O3 n3
    go_wp2_with fail
    refine HD.out.mono ?_
    rintro e w5 ⟨v5, rfl, ho5, hr5, w45, hg5a, hg5b⟩
    have K5 := Lib.hid hr5
    have i0 := IDS.out
    have i4 := I4.out
    have z3 := Z3.out
    have C5 := Lib.hid ((C4.out.grown hg5a ⟨fun e => by have := Option.some.inj e; omega, fun e => by have := Option.some.inj e; omega, fun e => by have := Option.some.inj e; omega⟩).grown hg5b ⟨fun e => by have := Option.some.inj e; omega, fun e => by have := Option.some.inj e; omega, fun e => by have := Option.some.inj e; omega⟩)
    have O5 := Lib.hid (own_over (own_over O4.out hg5a (by omega)) hg5b (by omega))
    have N5 := Lib.hid ho5
    have Z5 := Lib.hid (Nat.le_trans hg5a.size hg5b.size)
    have BL5 := Lib.hid ((BL4.out.grown hg5a BL4.out.size (fun k hk => by cases hk; omega)).grown hg5b (Nat.le_trans BL4.out.size hg5a.size) (fun k hk => by cases hk; omega))
    clear ho5 hr5 hg5a hg5b HD K4 C4 O4 BL4 i0 i4 z3
    have HFR := Lib.hid (r_free C5.out (n := q) HK.out)
    go_wp2_with fail
    refine HFR.out.mono ?_
    rintro e w6 ⟨v6, rfl, ho6, hr6, hg6⟩
    have i0 := IDS.out
    have i4 := I4.out
    have z3 := Z3.out
    have z5 := Z5.out
    have C6 := Lib.hid hr6
    have K6 := Lib.hid (K5.out.grown hg6 ⟨fun e => by have := Option.some.inj e; omega, fun e => by have := Option.some.inj e; omega, fun e => by have := Option.some.inj e; omega⟩)
    have O6 := Lib.hid (own_block16 O5.out (fun i hi => hg6.block i (O5.out.lt i hi).2 (fun e => by have h1 := P3.out i hi; have h2 := Option.some.inj e; omega)))
    have N6 := Lib.hid (own_over N5.out hg6 (by omega))
    have M6 := Lib.hid ho6
    have BL6 := Lib.hid (BL5.out.grown hg6 BL5.out.size (fun k hk => by cases hk; have := K5.out.lts; omega))
    clear ho6 hr6 hg6 HFR C5 K5 O5 N5 BL5 i0 i4 z3 z5
    have HBR := Lib.hid (r_binds K6.out (Nat.le_trans (List.length_filter_le _ _) (by have := HF.out; omega)))
    go_wp2_with fail
    refine HBR.out.mono ?_
    rintro e w7 ⟨v7, rfl, ho7, hb7⟩
    have K7 := Lib.hid (K6.out.below hb7)
    have C7 := Lib.hid (C6.out.below hb7)
    have O7 := Lib.hid (own_under O6.out hb7)
    have N7 := Lib.hid (own_under N6.out hb7)
    have M7 := Lib.hid (own_under M6.out hb7)
    have L7 := Lib.hid ho7
    have BL7 := Lib.hid (BL6.out.trans (hb7.mono BL6.out.size))
    clear ho7 hb7 HBR K6 C6 O6 N6 M6 BL6
    have HBC := Lib.hid (r_binds C7.out (Nat.le_trans (List.length_filter_le _ _) (by have := HF.out; omega)))
    go_wp2_with fail
    refine HBC.out.mono ?_
    rintro e w8 ⟨v8, rfl, ho8, hb8⟩
    have K8 := Lib.hid (K7.out.below hb8)
    have C8 := Lib.hid (C7.out.below hb8)
    have o3 := own_under O7.out hb8
    have o5 := own_under N7.out hb8
    have o6 := own_under M7.out hb8
    have o7 := own_under L7.out hb8
    have BL8 := Lib.hid (BL7.out.trans (hb8.mono BL7.out.size))
    have hp1 : (S.drop yn).B = S.B.filter fun b => !decide (b.e = yn) := rfl
    have hp2 : (S.take fun b => decide (b.q = q)).B = S.B.filter fun b => !decide (b.q = q) := rfl
    rw [hp1] at o7
    rw [hp2] at ho8
    obtain ⟨B, hBB⟩ : ∃ B, B = S.B := ⟨_, rfl⟩
    rw [← hBB] at o3 o5 o6 o7 ho8 HF
    obtain ⟨p1, hp1⟩ : ∃ p : Bnd → Bool, p = fun b => decide (b.e = yn) := ⟨_, rfl⟩
    obtain ⟨p2, hp2⟩ : ∃ p : Bnd → Bool, p = fun b => decide (b.q = q) := ⟨_, rfl⟩
    obtain ⟨p3, hp3⟩ : ∃ p : Bnd → Bool, p = fun b => !decide (b.e = yn) := ⟨_, rfl⟩
    obtain ⟨p4, hp4⟩ : ∃ p : Bnd → Bool, p = fun b => !decide (b.q = q) := ⟨_, rfl⟩
    rw [← hp1] at o5
    rw [← hp2] at o6
    rw [← hp3] at o7
    rw [← hp4] at ho8
    obtain ⟨nB, hnB⟩ : ∃ k, k = B.length := ⟨_, rfl⟩
    obtain ⟨m1, hm1⟩ : ∃ k, k = (B.filter p1).length := ⟨_, rfl⟩
    obtain ⟨m2, hm2⟩ : ∃ k, k = (B.filter p2).length := ⟨_, rfl⟩
    obtain ⟨m3, hm3⟩ : ∃ k, k = (B.filter p3).length := ⟨_, rfl⟩
    obtain ⟨m4, hm4⟩ : ∃ k, k = (B.filter p4).length := ⟨_, rfl⟩
    rw [← hnB] at o3 HF
    rw [← hm1] at o5
    rw [← hm2] at o6
    rw [← hm3] at o7
    rw [← hm4] at ho8
    have HMS := Lib.hid (And.intro hm1 (And.intro hm2 (And.intro hm3 hm4)))
    have HPS := Lib.hid (And.intro hp1 (And.intro hp2 (And.intro hp3 hp4)))
    have HNB := Lib.hid hnB
    have HM40 := Lib.hid (show m1 ≤ 40 ∧ m2 ≤ 40 ∧ m3 ≤ 40 ∧ m4 ≤ 40 by
      have h0 := HF.out
      have h1 := List.length_filter_le p1 B
      have h2 := List.length_filter_le p2 B
      have h3 := List.length_filter_le p3 B
      have h4 := List.length_filter_le p4 B
      omega)
    obtain ⟨AA, cA, rfl, _, _⟩ := own_form o3
    obtain ⟨AG, cG, rfl, _, _⟩ := own_form o5
    obtain ⟨AF, cF, rfl, _, _⟩ := own_form o6
    obtain ⟨AL, cL, rfl, _, _⟩ := own_form o7
    obtain ⟨AR, cR, rfl, _, _⟩ := own_form ho8
    have LA := Lib.hid (LiesP3 (by rw [hnB] at o3; exact o3))
    have LG := Lib.hid (LiesP3 (by rw [hm1] at o5; exact o5))
    have LF := Lib.hid (LiesP3 (by rw [hm2] at o6; exact o6))
    have LL := Lib.hid (LiesP3 (by rw [hm3] at o7; exact o7))
    have LR := Lib.hid (LiesP3 (by rw [hm4] at ho8; exact ho8))
    clear o3 o5 o6 o7 ho8 hb8 HBC K7 C7 O7 N7 M7 L7 BL7 hp1 hp2 hp3 hp4 hm1 hm2 hm3 hm4 hnB hBB P3
    go_upto_block 2 with fail
    go_cut [17, 18, 19, 20] (fun a b d e wx => a = .int .i64 m1 ∧ b = .int .i64 m3 ∧ d = .int .i64 m2 ∧ e = .int .i64 m4 ∧ Below w8.heap.size w8 wx)
    case first => as_aux_lemma =>
      go_wp2_with fail
      go_loopw [17, 18, 19, 20, 21] (fun a b d e i wr => ∃ j : Nat, i = .int .i64 j ∧ j ≤ nB ∧ a = .int .i64 (cnt p1 B j : Nat) ∧ b = .int .i64 (cnt p3 B j : Nat) ∧ d = .int .i64 (cnt p2 B j : Nat) ∧ e = .int .i64 (cnt p4 B j : Nat) ∧ Below w8.heap.size w8 wr) (fun _ _ _ _ i _ => nB - (intOf i).toNat)
      case atStart => exact ⟨0, rfl, Nat.zero_le _, by rw [cnt_zero]; rfl, by rw [cnt_zero]; rfl, by rw [cnt_zero]; rfl, by rw [cnt_zero]; rfl, Below.refl _ _⟩
      case round =>
        obtain ⟨j, rfl, hj, rfl, rfl, rfl, rfl, hbr⟩ := hrel
        have BR := Lib.hid hbr
        clear hbr
        by_cases hjl : j < nB
        · have hjB : j < B.length := by rw [← HNB.out]; exact hjl
          have r1 : (j : Int) < (nB : Int) := by omega
          have r0 : (0 : Int) ≤ (j : Int) := by omega
          have hj40 : j < 40 := by have := HF.out; omega
          obtain ⟨bA, oA, rfl, _⟩ := LA.out.bind_some (by omega)
          obtain ⟨ye, hye⟩ : ∃ ye, ye = B[j].e := ⟨_, rfl⟩
          obtain ⟨yq, hyq⟩ : ∃ yq, yq = B[j].q := ⟨_, rfl⟩
          obtain ⟨yk, hyk⟩ : ∃ yk, yk = B[j].k := ⟨_, rfl⟩
          have CA : Hid (∀ w', Below w8.heap.size w8 w' → w'.cell? ⟨bA, oA + j * 3, none⟩ = some (.string ⟨ye.toArray⟩) ∧ w'.cell? ⟨bA, oA + j * 3 + 1, none⟩ = some (.string ⟨yq.toArray⟩) ∧ w'.cell? ⟨bA, oA + j * 3 + 2, none⟩ = some (.string ⟨yk.toArray⟩)) := Lib.hid (fun w' hb' => by
            rw [hye, hyq, hyk]; exact (LA.out.below hb').bind_at hjB)
          have AT : ∀ (p : Bnd → Bool) (AX : Option Addr) (_ : Lies w8 w8.heap.size AX (bdCs (B.filter p))) (_ : p B[j] = true), cnt p B j < (B.filter p).length ∧ ∃ bG oG, AX = some ⟨bG, oG, none⟩ ∧ ∀ w', Below w8.heap.size w8 w' → w'.cell? ⟨bG, oG + cnt p B j * 3, none⟩ = some (.string ⟨ye.toArray⟩) ∧ w'.cell? ⟨bG, oG + cnt p B j * 3 + 1, none⟩ = some (.string ⟨yq.toArray⟩) ∧ w'.cell? ⟨bG, oG + cnt p B j * 3 + 2, none⟩ = some (.string ⟨yk.toArray⟩) := by
            intro p AX hL hp
            obtain ⟨h1, h2⟩ := cnt_at p B j hjB hp
            obtain ⟨bG, oG, h3, _⟩ := hL.bind_some (by omega)
            refine ⟨h1, bG, oG, h3, fun w' hb' => ?_⟩
            rw [h3] at hL
            have := (hL.below hb').bind_at h1
            rw [h2, ← hye, ← hyq, ← hyk] at this
            exact this
          obtain ⟨x1, hx1⟩ : ∃ k, k = cnt p1 B j := ⟨_, rfl⟩
          obtain ⟨x2, hx2⟩ : ∃ k, k = cnt p2 B j := ⟨_, rfl⟩
          obtain ⟨x3, hx3⟩ : ∃ k, k = cnt p3 B j := ⟨_, rfl⟩
          obtain ⟨x4, hx4⟩ : ∃ k, k = cnt p4 B j := ⟨_, rfl⟩
          have e1 : p1 B[j] = (ye == yn) := by rw [HPS.out.1, hye]; show decide (_ = _) = _; by_cases e : B[j].e = yn <;> simp [e]
          have e2 : p2 B[j] = (yq == q) := by rw [HPS.out.2.1, hyq]; show decide (_ = _) = _; by_cases e : B[j].q = q <;> simp [e]
          have e3 : p3 B[j] = !(ye == yn) := by rw [HPS.out.2.2.1, hye]; show (!decide (_ = _)) = _; by_cases e : B[j].e = yn <;> simp [e]
          have e4 : p4 B[j] = !(yq == q) := by rw [HPS.out.2.2.2, hyq]; show (!decide (_ = _)) = _; by_cases e : B[j].q = q <;> simp [e]
          have T1 := Lib.hid (fun h => AT p1 AG LG.out (by rw [e1]; exact h))
          have T2 := Lib.hid (fun h => AT p2 AF LF.out (by rw [e2]; exact h))
          have T3 := Lib.hid (fun h => AT p3 AL LL.out (by rw [e3]; exact h))
          have T4 := Lib.hid (fun h => AT p4 AR LR.out (by rw [e4]; exact h))
          have N1 := Lib.hid (cnt_next p1 B j hjB)
          have N2 := Lib.hid (cnt_next p2 B j hjB)
          have N3 := Lib.hid (cnt_next p3 B j hjB)
          have N4 := Lib.hid (cnt_next p4 B j hjB)
          rw [e1, ← hx1] at N1
          rw [e2, ← hx2] at N2
          rw [e3, ← hx3] at N3
          rw [e4, ← hx4] at N4
          rw [← HMS.out.1, ← hx1] at T1
          rw [← HMS.out.2.1, ← hx2] at T2
          rw [← HMS.out.2.2.1, ← hx3] at T3
          rw [← HMS.out.2.2.2, ← hx4] at T4
          have XS := Lib.hid (show x1 < 40 ∧ x2 < 40 ∧ x3 < 40 ∧ x4 < 40 by
            have h1 := cnt_le p1 B j
            have h2 := cnt_le p2 B j
            have h3 := cnt_le p3 B j
            have h4 := cnt_le p4 B j
            omega)
          rw [← hx1, ← hx2, ← hx3, ← hx4]
          clear hx1 hx2 hx3 hx4 e1 e2 e3 e4 hye hyq hyk AT hjB
          obtain ⟨c0, c1, c2⟩ := CA.out _ BR.out
          obtain ⟨c0', c1', c2'⟩ := CA.out _ (below_drewN BR.out 1)
          obtain ⟨s1, s2, s3, s4⟩ := XS.out
          cases e9 : (ye == yn) with
          | true =>
            cases e8 : (yq == q) with
            | true => as_aux_lemma =>
              obtain ⟨g1, bG, oG, rfl, g2⟩ := T1.out (by rw [e9])
              obtain ⟨k1, bK, oK, rfl, k2⟩ := T2.out (by rw [e8])
              obtain ⟨d0, d1, d2⟩ := g2 _ BR.out
              obtain ⟨v0, v1, v2⟩ := k2 _ BR.out
              have y0 : (0 : Int) ≤ (x1 : Int) := by omega
              have y1 : (x1 : Int) < (m1 : Int) := by omega
              have y2 : ¬ (m1 : Int) ≤ (x1 : Int) := by omega
              have y3 : (0 : Int) ≤ (x2 : Int) := by omega
              have y4 : (x2 : Int) < (m2 : Int) := by omega
              have y5 : ¬ (m2 : Int) ≤ (x2 : Int) := by omega
              rw [e9] at N1 N3
              rw [e8] at N2 N4
              clear g2 k2 T1 T2 T3 T4
              go_wp2_with fail
              go_quiet (fail)
              go_wp2_with fail
              go_quiet (fail)
              go_wp2_with fail
              go_roundw
              case rel => exact ⟨j + 1, by go_num, by omega, by rw [N1.out]; go_num, by rw [N3.out]; go_num, by rw [N2.out]; go_num, by rw [N4.out]; go_num, below_drewN BR.out _⟩
              case measure => simp [intOf]; omega
            | false => as_aux_lemma =>
              obtain ⟨g1, bG, oG, rfl, g2⟩ := T1.out (by rw [e9])
              obtain ⟨k1, bK, oK, rfl, k2⟩ := T4.out (by rw [e8]; rfl)
              obtain ⟨d0, d1, d2⟩ := g2 _ BR.out
              obtain ⟨v0, v1, v2⟩ := k2 _ BR.out
              have y0 : (0 : Int) ≤ (x1 : Int) := by omega
              have y1 : (x1 : Int) < (m1 : Int) := by omega
              have y2 : ¬ (m1 : Int) ≤ (x1 : Int) := by omega
              have y3 : (0 : Int) ≤ (x4 : Int) := by omega
              have y4 : (x4 : Int) < (m4 : Int) := by omega
              have y5 : ¬ (m4 : Int) ≤ (x4 : Int) := by omega
              rw [e9] at N1 N3
              rw [e8] at N2 N4
              clear g2 k2 T1 T2 T3 T4
              go_wp2_with fail
              go_quiet (fail)
              go_wp2_with fail
              go_quiet (fail)
              go_wp2_with fail
              go_roundw
              case rel => exact ⟨j + 1, by go_num, by omega, by rw [N1.out]; go_num, by rw [N3.out]; go_num, by rw [N2.out]; go_num, by rw [N4.out]; go_num, below_drewN BR.out _⟩
              case measure => simp [intOf]; omega
          | false =>
            cases e8 : (yq == q) with
            | true => as_aux_lemma =>
              obtain ⟨g1, bG, oG, rfl, g2⟩ := T3.out (by rw [e9]; rfl)
              obtain ⟨k1, bK, oK, rfl, k2⟩ := T2.out (by rw [e8])
              obtain ⟨d0, d1, d2⟩ := g2 _ BR.out
              obtain ⟨v0, v1, v2⟩ := k2 _ BR.out
              have y0 : (0 : Int) ≤ (x3 : Int) := by omega
              have y1 : (x3 : Int) < (m3 : Int) := by omega
              have y2 : ¬ (m3 : Int) ≤ (x3 : Int) := by omega
              have y3 : (0 : Int) ≤ (x2 : Int) := by omega
              have y4 : (x2 : Int) < (m2 : Int) := by omega
              have y5 : ¬ (m2 : Int) ≤ (x2 : Int) := by omega
              rw [e9] at N1 N3
              rw [e8] at N2 N4
              clear g2 k2 T1 T2 T3 T4
              go_wp2_with fail
              go_quiet (fail)
              go_wp2_with fail
              go_quiet (fail)
              go_wp2_with fail
              go_roundw
              case rel => exact ⟨j + 1, by go_num, by omega, by rw [N1.out]; go_num, by rw [N3.out]; go_num, by rw [N2.out]; go_num, by rw [N4.out]; go_num, below_drewN BR.out _⟩
              case measure => simp [intOf]; omega
            | false => as_aux_lemma =>
              obtain ⟨g1, bG, oG, rfl, g2⟩ := T3.out (by rw [e9]; rfl)
              obtain ⟨k1, bK, oK, rfl, k2⟩ := T4.out (by rw [e8]; rfl)
              obtain ⟨d0, d1, d2⟩ := g2 _ BR.out
              obtain ⟨v0, v1, v2⟩ := k2 _ BR.out
              have y0 : (0 : Int) ≤ (x3 : Int) := by omega
              have y1 : (x3 : Int) < (m3 : Int) := by omega
              have y2 : ¬ (m3 : Int) ≤ (x3 : Int) := by omega
              have y3 : (0 : Int) ≤ (x4 : Int) := by omega
              have y4 : (x4 : Int) < (m4 : Int) := by omega
              have y5 : ¬ (m4 : Int) ≤ (x4 : Int) := by omega
              rw [e9] at N1 N3
              rw [e8] at N2 N4
              clear g2 k2 T1 T2 T3 T4
              go_wp2_with fail
              go_quiet (fail)
              go_wp2_with fail
              go_quiet (fail)
              go_wp2_with fail
              go_roundw
              case rel => exact ⟨j + 1, by go_num, by omega, by rw [N1.out]; go_num, by rw [N3.out]; go_num, by rw [N2.out]; go_num, by rw [N4.out]; go_num, below_drewN BR.out _⟩
              case measure => simp [intOf]; omega
        · have hje : j = nB := by omega
          subst hje
          have r1 : ¬ (j : Int) < (j : Int) := by omega
          have f1 : cnt p1 B j = m1 := by rw [HNB.out, cnt_all, HMS.out.1]
          have f2 : cnt p2 B j = m2 := by rw [HNB.out, cnt_all, HMS.out.2.1]
          have f3 : cnt p3 B j = m3 := by rw [HNB.out, cnt_all, HMS.out.2.2.1]
          have f4 : cnt p4 B j = m4 := by rw [HNB.out, cnt_all, HMS.out.2.2.2]
          rw [f1, f2, f3, f4]
          clear f1 f2 f3 f4
          go_wp2_with fail
          go_meet
          exact ⟨rfl, rfl, rfl, rfl, BR.out⟩
    case rest =>
      obtain ⟨rfl, rfl, rfl, rfl, hbe⟩ := hcut
      have BE := Lib.hid hbe
      have K9 := Lib.hid (K8.out.below hbe)
      have C9 := Lib.hid (C8.out.below hbe)
      have BL9 := Lib.hid (BL8.out.trans (hbe.mono BL8.out.size))
      clear hbe K8 C8 BL8 LA LG LF LL LR
      have hfn : fndX (S.drop yn).X yn = none := by
        show fndX (dropX yn S.X) yn = none
        rw [fndX_drop, if_pos rfl]
      have HGT : Hid (Calls Tryd.prog 8 #[ptrR g, .string ⟨yn.toArray⟩] _ fun e w' => e = .returned (.tuple #[.agg #[.string ⟨#[]⟩, .int .i64 0, .bool false], .bool false]) ∧ Below _ _ w') := Lib.hid (by
        have := r_get K9.out (n := yn) (by have := nm3_le t; rw [← HYN.out] at this; omega)
        rw [hfn] at this
        exact this)
      clear hfn
      go_wp2_with fail
      refine HGT.out.mono ?_
      rintro e w10 ⟨rfl, hb10⟩
      have hbx : Below w10.heap.size w10 (w10.alloc (.cells #[.string ⟨#[]⟩, .int .i64 0, .bool false] 26)) := (Below.refl _ _).alloc (Nat.le_refl _) _
      have hb11 := hb10.trans (hbx.mono hb10.size)
      have K11 := Lib.hid (K9.out.below hb11)
      have C11 := Lib.hid (C9.out.below hb11)
      have BL11 := Lib.hid (BL9.out.trans (hb11.mono BL9.out.size))
      clear hb10 hbx hb11 K9 C9 BL9 HGT
      have HN1 := Lib.hid (r_names K11.out)
      have hx3 : (S.drop yn).X.length = 3 := by
        show (dropX yn S.X).length = 3
        rw [BS.out.x, HYN.out]; exact drop_names t
      have hx4 : (S.take fun b => decide (b.q = q)).X.length = 4 := by
        show S.X.length = 4
        rw [BS.out.x]; rfl
      rw [hx3] at HN1
      have HX4 := Lib.hid hx4
      clear hx3 hx4
      go_wp2_with fail
      refine HN1.out.mono ?_
      rintro e w12 ⟨v12, rfl, ho12, hb12⟩
      obtain ⟨A12, c12, rfl, _, _⟩ := own_form ho12
      have BL12 := Lib.hid (BL11.out.trans (hb12.mono BL11.out.size))
      have HN2 := Lib.hid (r_names (C11.out.below hb12))
      rw [HX4.out] at HN2
      clear ho12 hb12 HN1 K11 C11 BL11
      go_wp2_with fail
      refine HN2.out.mono ?_
      rintro e w13 ⟨v13, rfl, ho13, hb13⟩
      obtain ⟨A13, c13, rfl, _, _⟩ := own_form ho13
      have BL13 := Lib.hid (BL12.out.trans (hb13.mono BL12.out.size))
      clear ho13 hb13 HN2 BL12
      go_wp2_with fail
      refine (awake16_any _).mono ?_
      rintro e w14 ⟨rfl, hb14⟩
      have BL14 := Lib.hid (BL13.out.trans (hb14.mono BL13.out.size))
      clear hb14
      go_wp2_with fail
      go_ret
      exact ⟨rfl, BL14.out⟩
end Go.Proofs.YtocombacjpjdbaaDoor
