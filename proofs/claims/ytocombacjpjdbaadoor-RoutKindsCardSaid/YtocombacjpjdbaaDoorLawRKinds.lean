/- The law RoutKinds, walked. -/
import Derived.Test.YtocombacjpjdbaaDoorRoK
import Derived.Deep.CutBlock
namespace Go.Proofs.YtocombacjpjdbaaDoor
open Go.RowKit Go.Maps Go.Sort Go.Shelf
set_option maxRecDepth 100000
set_option linter.unusedSimpArgs false
set_option linter.unusedVariables false
def nNone : List UInt8 := [110, 111, 32, 115, 117, 99, 104, 32, 101, 120, 99, 104, 97, 110, 103, 101]
set_option maxHeartbeats 16000000 in
theorem kinds_law (l : List Bnd) (A : Option Addr) (cap : Nat) (key : List UInt8) (W : World) (hl : Lies W W.heap.size A (bdCs l)) (hB : BearB l) (_ : key.length ≤ maxLen) :
    Calls Tryd.prog 4 #[.slice A l.length cap, .string ⟨key.toArray⟩] W fun e w' => e = .returned (.bool true) ∧ Below W.heap.size W w' := by
  have hlen := hB.1
  unfold maxLen at hlen
  have HL := Lib.hid hl
  have HB := Lib.hid hB
  clear hl hB
  by_cases h1 : (100 : Int) < (key.length : Int)
  · go_enter Tryd.func4, Tryd.ntmps4
    go_wp2_with fail
    refine (r_new _).mono ?_
    rintro e w1 ⟨g, bx, bb, rfl, hr1, hb1, _⟩
    have B1 := Lib.hid hb1
    clear hr1 hb1
    go_wp2_with fail
    refine (awake16_any _).mono ?_
    rintro e w2 ⟨rfl, hb2⟩
    have B2 := Lib.hid (B1.out.trans (hb2.mono B1.out.size))
    clear hb2
    go_wp2_with fail
    go_ret
    exact ⟨rfl, B2.out⟩
  have HK := Lib.hid (show key.length ≤ 1000000 by omega)
  obtain ⟨L, hL⟩ : ∃ L, L = l.length := ⟨_, rfl⟩
  rw [← hL] at hlen ⊢
  have HLE := Lib.hid hL
  clear hL
  go_enter Tryd.func4, Tryd.ntmps4
  go_wp2_with fail
  refine (r_new _).mono ?_
  rintro e w1 ⟨g, bx, bb, rfl, hr1, hb1, hg1, hx1, hbb1⟩
  have R1 := Lib.hid hr1
  have B1 := Lib.hid hb1
  have GB := Lib.hid (And.intro hg1 (And.intro hx1 hbb1))
  clear hr1 hb1 hg1 hx1 hbb1
  go_upto_region 5 with fail
  obtain ⟨nb, hnb⟩ : ∃ nb, nb = w1.heap.size := ⟨_, rfl⟩
  rw [← hnb]
  refine wp_renR (fun W' => KAt W g bx bb nb rt0 W') ?_ ?_
  · have i := GB.out
    have l1 := R1.out.lts
    have s1 := B1.out.size
    refine ⟨R1.out.below ((Below.refl _ _).alloc (Nat.le_refl _) _), ?_, B1.out.alloc B1.out.size _, ⟨i.2.1, i.2.2, by omega, by omega, by omega⟩⟩
    rw [hnb]; exact Whole.new w1 _ _
  rintro w2 hk2
  have K2 := Lib.hid hk2
  clear hk2 hnb R1 B1 GB
  obtain ⟨m, hm⟩ : ∃ m, m = min L 40 := ⟨_, rfl⟩
  have HM := Lib.hid hm
  clear hm
  go_upto_block 0 with fail
  go_cut [] (fun wx => ∃ S, KAt W g bx bb nb S wx ∧ Bnds S l m ∧ Hid (∀ i (h : i < l.length), i < m → l[i].q.length ≤ 60 ∧ l[i].k.length ≤ 100))
  case first => as_aux_lemma =>
    go_wp2_with fail
    go_loopw [7] (fun s7 wr => ∃ (j : Nat) (S : Rt), s7 = .int .i64 j ∧ j ≤ L ∧ j ≤ 40 ∧ KAt W g bx bb nb S wr ∧ Bnds S l j ∧ Hid (∀ i (h : i < l.length), i < j → l[i].q.length ≤ 60 ∧ l[i].k.length ≤ 100)) (fun s7 _ => 40 - (intOf s7).toNat)
    case atStart => exact ⟨0, rt0, rfl, Nat.zero_le _, Nat.zero_le _, K2.out, Bnds.start l, Lib.hid (fun i h hi => by omega)⟩
    case round =>
      obtain ⟨j, S, rfl, hj, hj40, hk, hbs, hsm⟩ := hrel
      have K := Lib.hid hk
      have BS := Lib.hid hbs
      clear hk hbs K2
      by_cases hjL : j < L
      · by_cases hj4 : j < 40
        · have q1 : (j : Int) < (L : Int) := by omega
          have q2 : (j : Int) < 40 := by omega
          have q0 : (0 : Int) ≤ (j : Int) := by omega
          have hji : j < l.length := by rw [← HLE.out]; exact hjL
          obtain ⟨b, o, rfl, hlb⟩ := HL.out.bind_some (by omega)
          obtain ⟨c0, c1, c2⟩ := ((HL.out.below K.out.bel)).bind_at hji
          obtain ⟨yq, hyq⟩ : ∃ yq, yq = l[j].q := ⟨_, rfl⟩
          obtain ⟨yk, hyk⟩ : ∃ yk, yk = l[j].k := ⟨_, rfl⟩
          rw [← hyq] at c1
          rw [← hyk] at c2
          have HJI := Lib.hid hji
          have HYQ : Hid (∀ h : j < l.length, yq = l[j].q) := Lib.hid (fun _ => hyq)
          have HYK : Hid (∀ h : j < l.length, yk = l[j].k) := Lib.hid (fun _ => hyk)
          clear hyq hyk hji c0
          have BE := Lib.hid K.out.bel
          by_cases hq : (60 : Int) < (yq.length : Int)
          · go_wp2_with fail
            refine (awake16_any _).mono ?_
            rintro e w3 ⟨rfl, hb3⟩
            have B3 := Lib.hid (BE.out.trans (hb3.mono BE.out.size))
            clear hb3
            go_wp2_with fail
            go_ret
            exact ⟨rfl, B3.out⟩
          by_cases hk : (100 : Int) < (yk.length : Int)
          · go_wp2_with fail
            refine (awake16_any _).mono ?_
            rintro e w3 ⟨rfl, hb3⟩
            have B3 := Lib.hid (BE.out.trans (hb3.mono BE.out.size))
            clear hb3
            go_wp2_with fail
            go_ret
            exact ⟨rfl, B3.out⟩
          have HYL := Lib.hid (show yq.length ≤ 60 ∧ yk.length ≤ 100 by omega)
          obtain ⟨t, ht⟩ : ∃ t, t = j % 3 := ⟨_, rfl⟩
          have n3 : wr.cell? ⟨nb, t, none⟩ = some (.string ⟨(nm3 j).toArray⟩) := by rw [ht]; exact nms_at K.out.nm j
          obtain ⟨yn, hyn⟩ : ∃ yn, yn = nm3 j := ⟨_, rfl⟩
          rw [← hyn] at n3
          have t1 : (j : Int).tmod 3 = (t : Int) := by rw [ht]; rfl
          have t2 : (t : Int) < 3 := by omega
          have t3 : (0 : Int) ≤ (t : Int) := by omega
          have t4 : t < 3 := by omega
          have HBI := Lib.hid (fun (w' : World) (hr : RoAt w' g bx bb S) => r_bind hr (b := ⟨yn, yq, yk⟩) (by have := HYL.out; have := nm3_le j; rw [← hyn] at this; unfold bdOk; exact ⟨by show yn.length ≤ _; omega, by show yq.length ≤ _; omega, by show yk.length ≤ _; omega⟩) (by have := BS.out.few; omega))
          have HBE : Hid (∀ h : j < l.length, (⟨yn, yq, yk⟩ : Bnd) = bd3 l j h) := Lib.hid (fun h => by rw [hyn, HYQ.out h, HYK.out h]; rfl)
          have HTN := Lib.hid (And.intro ht hyn)
          clear ht hyn
          go_upto_region 10 with fail
          have KD := Lib.hid (K.out.below (w' := wr.drew) (Below.refl _ wr).drew)
          have HT := Lib.hid (show (∀ w', KAt W g bx bb nb (S.bind ⟨yn, yq, yk⟩) w' → w'.cell? ⟨nb, t, none⟩ = some (.string ⟨yn.toArray⟩) ∧ w'.cell? ⟨b, o + j * 3 + 1, none⟩ = some (.string ⟨yq.toArray⟩) ∧ w'.cell? ⟨b, o + j * 3 + 2, none⟩ = some (.string ⟨yk.toArray⟩)) from fun w' hk' => by
            have hji := HJI.out
            obtain ⟨c0, c1, c2⟩ := (HL.out.below hk'.bel).bind_at hji
            rw [← HYQ.out hji] at c1
            rw [← HYK.out hji] at c2
            refine ⟨?_, c1, c2⟩
            have := nms_at hk'.nm j
            rw [← HTN.out.1, ← HTN.out.2] at this
            exact this)
          go_region_held3 (fun w' => w'.cell? ⟨nb, t, none⟩ = some (.string ⟨yn.toArray⟩) ∧ w'.cell? ⟨b, o + j * 3 + 1, none⟩ = some (.string ⟨yq.toArray⟩) ∧ w'.cell? ⟨b, o + j * 3 + 2, none⟩ = some (.string ⟨yk.toArray⟩)) (first | exact ⟨n3, c1, c2⟩ | exact HT.out _ K3.out | go_keep) (first | (go_at_call 10; go_must (refine (HBI.out _ KD.out.ro).mono ?_); rintro e w3 ⟨rfl, hr3, hg3⟩; have K3 := Lib.hid (KD.out.turn hr3 hg3 (.inl rfl)); clear hr3 hg3))
          go_wp2_with fail
          go_roundw
          case rel => exact ⟨j + 1, S.bind ⟨yn, yq, yk⟩, by go_num, by omega, by omega, K3.out, by rw [HBE.out HJI.out]; exact BS.out.next HJI.out, Lib.hid (fun i h hi => by
            by_cases c : i = j
            · subst c
              rw [← HYQ.out h, ← HYK.out h]
              exact HYL.out
            · exact hsm.out i h (by omega))⟩
          case measure => simp [intOf]; omega
        · have q1 : (j : Int) < (L : Int) := by omega
          have q2 : ¬ (j : Int) < 40 := by omega
          have hjm : j = m := by have := HM.out; omega
          subst hjm
          go_wp2_with fail
          go_meet
          exact ⟨S, K.out, BS.out, hsm⟩
      · have q1 : ¬ (j : Int) < (L : Int) := by omega
        have hjm : j = m := by have := HM.out; omega
        subst hjm
        go_wp2_with fail
        go_meet
        exact ⟨S, K.out, BS.out, hsm⟩
  case rest =>
    obtain ⟨S, hk, hbs, hsm⟩ := hcut
    have K0 := Lib.hid hk
    have BS := Lib.hid hbs
    clear hk hbs K2
    go_wp2_with fail
    go_loopw [8] (fun s8 wr => ∃ k : Nat, s8 = .int .i64 k ∧ k ≤ 3 ∧ KAt W g bx bb nb S wr) (fun s8 _ => 3 - (intOf s8).toNat)
    case atStart => exact ⟨0, rfl, by omega, K0.out⟩
    case round =>
      obtain ⟨k, rfl, hk3, hkat⟩ := hrel
      have K := Lib.hid hkat
      clear hkat K0
      by_cases hkl : k < 3
      · have q1 : (k : Int) < 3 := by omega
        have q0 : (0 : Int) ≤ (k : Int) := by omega
        have n3 : wr.cell? ⟨nb, k, none⟩ = some (.string ⟨(nm3 k).toArray⟩) := by
          have := nms_at K.out.nm k
          rw [Nat.mod_eq_of_lt hkl] at this
          exact this
        obtain ⟨yn, hyn⟩ : ∃ yn, yn = nm3 k := ⟨_, rfl⟩
        rw [← hyn] at n3
        have hro := r_route K.out.ro (n := yn) (key := key) (by have := nm3_le k; rw [hyn]; omega) HK.out
        obtain ⟨R, hR⟩ : ∃ R, R = S.route yn key := ⟨_, rfl⟩
        rw [← hR] at hro
        have HRO := Lib.hid hro
        have HRM : Hid (∀ q, q ∈ R ↔ ∃ i, i < m ∧ ∃ hl : i < l.length, isP key k i l[i] = true ∧ l[i].q = q) := Lib.hid (fun q => by rw [hR, hyn]; exact BS.out.route key hkl q)
        have HRR : Hid (Ris ltS R) := Lib.hid (by rw [hR]; exact S.route_ris _ _)
        have HYN := Lib.hid hyn
        have HKL := Lib.hid hkl
        clear hro hR hyn hkl
        go_wp2_with fail
        refine HRO.out.mono ?_
        rintro e w3 ⟨v3, rfl, ho3, hb3⟩
        obtain ⟨AR, cR, rfl, hRc, hcm⟩ := own_form ho3
        have K3 := Lib.hid (K.out.below hb3)
        have L3 := Lib.hid (Lies.own ho3 (Nat.le_refl _))
        have HRL := Lib.hid (Nat.le_trans hRc hcm)
        obtain ⟨rl, hrl⟩ : ∃ rl, rl = R.length := ⟨_, rfl⟩
        rw [← hrl]
        have hrlb : rl ≤ 9223372036854775807 := by rw [hrl]; have := HRL.out; unfold maxLen at this; omega
        have HRLN := Lib.hid hrl
        clear ho3 hb3 hRc hcm HRO n3 hrl
        go_upto_block 4 with fail
        go_cut [] (fun wx => Below w3.heap.size w3 wx)
        case first => as_aux_lemma =>
          go_wp2_with fail
          go_loopw [11] (fun s11 wr => ∃ i : Nat, s11 = .int .i64 i ∧ i ≤ m ∧ Below w3.heap.size w3 wr) (fun s11 _ => m - (intOf s11).toNat)
          case atStart => exact ⟨0, rfl, Nat.zero_le _, Below.refl _ _⟩
          case round =>
            obtain ⟨i, rfl, him, hbr⟩ := hrel
            have BR := Lib.hid hbr
            clear hbr
            by_cases hi : i < m
            · have hil : i < l.length := by have := HM.out; have := HLE.out; omega
              have p1 : (i : Int) < (L : Int) := by have := HM.out; omega
              have p2 : (i : Int) < 40 := by have := HM.out; omega
              have p0 : (0 : Int) ≤ (i : Int) := by omega
              obtain ⟨b, o, rfl, hlb⟩ := HL.out.bind_some (by omega)
              obtain ⟨c0, c1, c2⟩ := ((HL.out.below (K3.out.bel.trans (BR.out.mono K3.out.bel.size)))).bind_at hil
              obtain ⟨yq, hyq⟩ : ∃ yq, yq = l[i].q := ⟨_, rfl⟩
              obtain ⟨yk, hyk⟩ : ∃ yk, yk = l[i].k := ⟨_, rfl⟩
              obtain ⟨P, hP⟩ : ∃ P, P = isP key k i l[i] := ⟨_, rfl⟩
              rw [← hyq] at c1
              rw [← hyk] at c2
              have HSM := Lib.hid (hsm.out i hil (by omega))
              have HYQ : Hid (∀ h : i < l.length, yq = l[i].q) := Lib.hid (fun _ => hyq)
              have HPP : Hid (P = (decide (i % 3 = k) && leadP (kd3 k) yk key)) := Lib.hid (by rw [hP, hyk]; rfl)
              have HPL : Hid (P = true → yq ∈ R) := Lib.hid (fun h => (HRM.out yq).2 ⟨i, hi, hil, by rw [← hP]; exact h, hyq.symm⟩)
              have HYKL : Hid (yk.length ≤ 1000000) := Lib.hid (by have := HSM.out.2; rw [hyk]; omega)
              clear hyq hyk hP hil c0 HSM
              go_upto_region 19 with fail
              go_cut [12] (fun s12 wx => s12 = .bool P ∧ Below w3.heap.size w3 wx)
              case first => as_aux_lemma =>
                have BR2 := BR
                obtain ⟨t, ht⟩ : ∃ t, t = i % 3 := ⟨_, rfl⟩
                have t1 : (i : Int).tmod 3 = (t : Int) := by rw [ht]; rfl
                have HTT := Lib.hid ht
                by_cases htk : t = k
                · have HTK := Lib.hid htk
                  have HP2 : Hid (P = leadP (kd3 k) yk key) := Lib.hid (by rw [HPP.out, ← HTT.out, htk]; simp)
                  have HMA := Lib.hid (fun w' => match_any yk key w' HYKL.out HK.out)
                  rcases (show k = 0 ∨ k = 1 ∨ k = 2 by have := HKL.out; omega) with hk0 | hk0 | hk0
                  · have HP3 : Hid (P = decide (yk = key)) := Lib.hid (by rw [HP2.out, hk0]; simp [kd3, leadP])
                    have t9 : (i : Int).tmod 3 = (0 : Int) := by rw [t1, HTK.out, hk0]; rfl
                    clear ht htk t1
                    subst hk0
                    have HP4 : Hid (P = (yk == key)) := Lib.hid (by rw [HP3.out]; by_cases e : yk = key <;> simp [e])
                    cases e9 : (yk == key)
                    · go_wp2_with fail
                      go_meet
                      exact ⟨by rw [HP4.out, e9], BR.out⟩
                    · go_wp2_with fail
                      go_meet
                      exact ⟨by rw [HP4.out, e9], BR.out⟩
                  · have HP3 : Hid (P = true) := Lib.hid (by rw [HP2.out, hk0]; simp [kd3, leadP])
                    have t9 : (i : Int).tmod 3 = (1 : Int) := by rw [t1, HTK.out, hk0]; rfl
                    clear ht htk t1
                    subst hk0
                    go_wp2_with fail
                    go_meet
                    exact ⟨by rw [HP3.out], BR.out⟩
                  · have HP3 : Hid (P = mtT yk key) := Lib.hid (by rw [HP2.out, hk0]; simp [kd3, leadP])
                    have t9 : (i : Int).tmod 3 = (2 : Int) := by rw [t1, HTK.out, hk0]; rfl
                    clear ht htk t1
                    subst hk0
                    go_wp2_with (go_at_call 12; go_must (refine (HMA.out _).mono ?_); rintro e w9 ⟨rfl, hb9⟩; have B9 := Lib.hid hb9; clear hb9)
                    go_meet
                    exact ⟨by rw [HP3.out], BR.out.trans (B9.out.mono BR.out.size)⟩
                · have e1 : ((t : Int) == (k : Int)) = false := beq_false_of_ne (by omega)
                  have e2 : (t == k) = false := by simpa using htk
                  have HP2 : Hid (P = false) := Lib.hid (by rw [HPP.out, ← HTT.out]; simp [htk])
                  clear ht
                  go_wp2_with fail
                  go_meet
                  exact ⟨by rw [HP2.out], BR.out⟩
              case rest =>
                obtain ⟨rfl, hbc⟩ := hcut
                have BC := Lib.hid hbc
                clear hbc c1 c2 HPP BR
                go_upto_block 6 with fail
                go_cut [13] (fun s13 wx => s13 = .bool (inR R yq rl) ∧ Below w3.heap.size w3 wx)
                case first => as_aux_lemma =>
                  go_wp2_with fail
                  go_loopw [13, 14] (fun s13 s14 wr => ∃ q : Nat, s14 = .int .i64 q ∧ q ≤ rl ∧ s13 = .bool (inR R yq q) ∧ Below w3.heap.size w3 wr) (fun _ s14 _ => rl - (intOf s14).toNat)
                  case atStart => exact ⟨0, rfl, Nat.zero_le _, by rw [inR_zero], BC.out⟩
                  case round =>
                    obtain ⟨q, rfl, hqr, rfl, hbr⟩ := hrel
                    have BR := Lib.hid hbr
                    clear hbr
                    by_cases hq : q < rl
                    · have hqR : q < R.length := by rw [← HRLN.out]; exact hq
                      have p3 : (q : Int) < (rl : Int) := by omega
                      have p4 : (0 : Int) ≤ (q : Int) := by omega
                      obtain ⟨br, orr, rfl, hlbr⟩ := L3.out.texts_some (by omega)
                      have p5 := (L3.out.below BR.out).texts_at hqR
                      obtain ⟨z, hz⟩ : ∃ z, z = R[q] := ⟨_, rfl⟩
                      rw [← hz] at p5
                      have hil : i < l.length := by have := HM.out; have := HLE.out; omega
                      obtain ⟨c0, c1, c2⟩ := ((HL.out.below (K3.out.bel.trans (BR.out.mono K3.out.bel.size)))).bind_at hil
                      rw [← HYQ.out hil] at c1
                      clear c2
                      obtain ⟨v, hv⟩ : ∃ v, v = inR R yq q := ⟨_, rfl⟩
                      have HNX : Hid (inR R yq (q + 1) = (v || (z == yq))) := Lib.hid (by rw [inR_next R yq q hqR, hz, hv])
                      rw [← hv]
                      clear hz hv hil c0 hqR
                      cases v with
                      | true =>
                        have D : Hid (inR R yq (q + 1) = true) := Lib.hid (by rw [HNX.out]; rfl)
                        go_wp2_with fail
                        go_quiet (fail)
                        go_wp2_with fail
                        go_roundw
                        case rel => exact ⟨q + 1, by go_num, by omega, by rw [D.out], below_drewN BR.out _⟩
                        case measure => simp [intOf]; omega
                      | false =>
                        cases e9 : (z == yq) with
                        | true =>
                          have D : Hid (inR R yq (q + 1) = true) := Lib.hid (by rw [HNX.out, e9]; rfl)
                          go_wp2_with fail
                          go_quiet (fail)
                          go_wp2_with fail
                          go_roundw
                          case rel => exact ⟨q + 1, by go_num, by omega, by rw [D.out], below_drewN BR.out _⟩
                          case measure => simp [intOf]; omega
                        | false =>
                          have D : Hid (inR R yq (q + 1) = false) := Lib.hid (by rw [HNX.out, e9]; rfl)
                          go_wp2_with fail
                          go_quiet (fail)
                          go_wp2_with fail
                          go_roundw
                          case rel => exact ⟨q + 1, by go_num, by omega, by rw [D.out], below_drewN BR.out _⟩
                          case measure => simp [intOf]; omega
                    · have p3 : ¬ (q : Int) < (rl : Int) := by omega
                      have hqe : q = rl := by omega
                      subst hqe
                      go_wp2_with fail
                      go_meet
                      exact ⟨rfl, BR.out⟩
                case rest =>
                  obtain ⟨rfl, hbe⟩ := hcut
                  have BE := Lib.hid hbe
                  clear hbe BC
                  cases P with
                  | true =>
                    have hin : inR R yq rl = true := by rw [HRLN.out]; exact inR_all R yq (HPL.out rfl)
                    rw [hin]
                    clear hin
                    go_wp2_with fail
                    go_roundw
                    case rel => exact ⟨i + 1, by go_num, by omega, BE.out⟩
                    case measure => simp [intOf]; omega
                  | false =>
                    go_wp2_with fail
                    go_roundw
                    case rel => exact ⟨i + 1, by go_num, by omega, BE.out⟩
                    case measure => simp [intOf]; omega
            · have him2 : i = m := by omega
              have BE := BR
              by_cases hiL : (i : Int) < (L : Int)
              · have p2 : ¬ (i : Int) < 40 := by have := HM.out; omega
                go_wp2_with fail
                go_meet
                exact BE.out
              · go_wp2_with fail
                go_meet
                exact BE.out
        case rest =>
          have BC := Lib.hid hcut
          clear hcut
          go_upto_block 8 with fail
          go_cut [10] (fun s10 wx => s10 = .int .i64 rl ∧ Below w3.heap.size w3 wx)
          case first => as_aux_lemma =>
            go_wp2_with fail
            go_loopw [10, 15] (fun s10 s15 wr => ∃ q : Nat, s15 = .int .i64 q ∧ s10 = .int .i64 q ∧ q ≤ rl ∧ Below w3.heap.size w3 wr) (fun _ s15 _ => rl - (intOf s15).toNat)
            case atStart => exact ⟨0, rfl, rfl, Nat.zero_le _, BC.out⟩
            case round =>
              obtain ⟨q, rfl, rfl, hqr, hbr⟩ := hrel
              have BR := Lib.hid hbr
              clear hbr
              by_cases hq : q < rl
              · have hqR : q < R.length := by rw [← HRLN.out]; exact hq
                have p3 : (q : Int) < (rl : Int) := by omega
                have p4 : (0 : Int) ≤ (q : Int) := by omega
                obtain ⟨br, orr, rfl, hlbr⟩ := L3.out.texts_some (by omega)
                obtain ⟨z, hz⟩ : ∃ z, z = R[q] := ⟨_, rfl⟩
                have HZ : Hid (∀ h : q < R.length, z = R[q]) := Lib.hid (fun _ => hz)
                have HZM : Hid (wasP l key k z m = true) := Lib.hid (wasP_true l key k z m (by
                  have : z ∈ R := by rw [hz]; exact List.getElem_mem _
                  exact (HRM.out z).1 this))
                clear hz hqR
                go_upto_block 10 with fail
                go_cut [16] (fun s16 wx => s16 = .bool true ∧ Below w3.heap.size w3 wx)
                case first => as_aux_lemma =>
                  go_wp2_with fail
                  go_loopw [16, 17] (fun s16 s17 wr => ∃ i : Nat, s17 = .int .i64 i ∧ i ≤ m ∧ s16 = .bool (wasP l key k z i) ∧ Below w3.heap.size w3 wr) (fun _ s17 _ => m - (intOf s17).toNat)
                  case atStart => exact ⟨0, rfl, Nat.zero_le _, by rw [wasP_zero], BR.out⟩
                  case round =>
                    obtain ⟨i, rfl, him, rfl, hbr⟩ := hrel
                    have BT := Lib.hid hbr
                    clear hbr
                    by_cases hi : i < m
                    · have hil : i < l.length := by have := HM.out; have := HLE.out; omega
                      have p1 : (i : Int) < (L : Int) := by have := HM.out; omega
                      have p2 : (i : Int) < 40 := by have := HM.out; omega
                      have p0 : (0 : Int) ≤ (i : Int) := by omega
                      obtain ⟨b, o, rfl, hlb⟩ := HL.out.bind_some (by omega)
                      obtain ⟨yq, hyq⟩ : ∃ yq, yq = l[i].q := ⟨_, rfl⟩
                      obtain ⟨yk, hyk⟩ : ∃ yk, yk = l[i].k := ⟨_, rfl⟩
                      have CL : Hid (∀ w', Below w3.heap.size w3 w' → w'.cell? ⟨b, o + i * 3 + 1, none⟩ = some (.string ⟨yq.toArray⟩) ∧ w'.cell? ⟨br, orr + q, none⟩ = some (.string ⟨z.toArray⟩) ∧ w'.cell? ⟨b, o + i * 3 + 2, none⟩ = some (.string ⟨yk.toArray⟩)) := Lib.hid (fun w' hb' => by
                        obtain ⟨c0, c1, c2⟩ := ((HL.out.below (K3.out.bel.trans (hb'.mono K3.out.bel.size)))).bind_at hil
                        have hqR : q < R.length := by rw [← HRLN.out]; exact hq
                        have c3 := (L3.out.below hb').texts_at hqR
                        rw [← hyq] at c1
                        rw [← hyk] at c2
                        rw [← HZ.out hqR] at c3
                        exact ⟨c1, c3, c2⟩)
                      obtain ⟨v, hv⟩ : ∃ v, v = wasP l key k z i := ⟨_, rfl⟩
                      have HNX : Hid (wasP l key k z (i + 1) = (v || (decide (i % 3 = k) && leadP (kd3 k) yk key && (yq == z)))) := Lib.hid (by rw [wasP_next l key k z i hil, hv, hyq, hyk]; rfl)
                      have HYKL : Hid (yk.length ≤ 1000000) := Lib.hid (by have := (hsm.out i hil hi).2; rw [hyk]; omega)
                      rw [← hv]
                      clear hyq hyk hv hil
                      obtain ⟨c1, c3, c2⟩ := CL.out _ BT.out
                      obtain ⟨t, ht⟩ : ∃ t, t = i % 3 := ⟨_, rfl⟩
                      have t1 : (i : Int).tmod 3 = (t : Int) := by rw [ht]; rfl
                      rw [← ht] at HNX
                      clear ht
                      have hqr2 : (q : Int) < (rl : Int) := p3
                      cases v with
                      | true =>
                        have D : Hid (wasP l key k z (i + 1) = true) := Lib.hid (by rw [HNX.out]; rfl)
                        go_wp2_with fail
                        go_quiet (fail)
                        go_wp2_with fail
                        go_roundw
                        case rel => exact ⟨i + 1, by go_num, by omega, by rw [D.out], below_drewN BT.out _⟩
                        case measure => simp [intOf]; omega
                      | false =>
                        by_cases htk : t = k
                        · have HTK := Lib.hid htk
                          cases e9 : (yq == z) with
                          | false =>
                            have D : Hid (wasP l key k z (i + 1) = false) := Lib.hid (by rw [HNX.out, e9]; simp)
                            have e1 : ((t : Int) == (k : Int)) = true := by rw [htk]; simp
                            have e2 : (t == k) = true := by simpa using htk
                            go_wp2_with fail
                            go_quiet (fail)
                            go_wp2_with fail
                            go_roundw
                            case rel => exact ⟨i + 1, by go_num, by omega, by rw [D.out], below_drewN BT.out _⟩
                            case measure => simp [intOf]; omega
                          | true =>
                            have HMA := Lib.hid (fun w' => match_any yk key w' HYKL.out HK.out)
                            have HN2 : Hid (wasP l key k z (i + 1) = leadP (kd3 k) yk key) := Lib.hid (by rw [HNX.out, e9, htk]; simp)
                            rcases (show k = 0 ∨ k = 1 ∨ k = 2 by have := HKL.out; omega) with hk0 | hk0 | hk0
                            · have D0 : Hid (wasP l key k z (i + 1) = (yk == key)) := Lib.hid (by rw [HN2.out, hk0]; by_cases e : yk = key <;> simp [kd3, leadP, e])
                              have t9 : (i : Int).tmod 3 = (0 : Int) := by rw [t1, HTK.out, hk0]; rfl
                              clear t1 htk
                              subst hk0
                              cases e8 : (yk == key) with
                              | true =>
                                rw [e8] at D0
                                go_wp2_with fail
                                go_quiet (fail)
                                go_wp2_with fail
                                go_roundw
                                case rel => exact ⟨i + 1, by go_num, by omega, by rw [D0.out], below_drewN BT.out _⟩
                                case measure => simp [intOf]; omega
                              | false =>
                                rw [e8] at D0
                                go_wp2_with fail
                                go_quiet (fail)
                                go_wp2_with fail
                                go_roundw
                                case rel => exact ⟨i + 1, by go_num, by omega, by rw [D0.out], below_drewN BT.out _⟩
                                case measure => simp [intOf]; omega
                            · have D0 : Hid (wasP l key k z (i + 1) = true) := Lib.hid (by rw [HN2.out, hk0]; simp [kd3, leadP])
                              have t9 : (i : Int).tmod 3 = (1 : Int) := by rw [t1, HTK.out, hk0]; rfl
                              clear t1 htk
                              subst hk0
                              go_wp2_with fail
                              go_quiet (fail)
                              go_wp2_with fail
                              go_roundw
                              case rel => exact ⟨i + 1, by go_num, by omega, by rw [D0.out], below_drewN BT.out _⟩
                              case measure => simp [intOf]; omega
                            · have D0 : Hid (wasP l key k z (i + 1) = mtT yk key) := Lib.hid (by rw [HN2.out, hk0]; simp [kd3, leadP])
                              have e1 : ((t : Int) == (k : Int)) = true := by rw [htk]; simp
                              have e2 : (t == k) = true := by simpa using htk
                              have f0 : ((k : Int) == 0) = false := beq_false_of_ne (by omega)
                              have f1 : ((k : Int) == 1) = false := beq_false_of_ne (by omega)
                              have f2 : ((k : Int) == 2) = true := by rw [hk0]; rfl
                              have f3 : (k == 0) = false := by rw [hk0]; rfl
                              have f4 : ¬ k = 0 := by omega
                              clear hk0
                              go_upto_region 34 with fail
                              refine wp_region_held_drew (S := (fun w' => w'.cell? ⟨b, o + i * 3 + 1, none⟩ = some (.string ⟨yq.toArray⟩) ∧ w'.cell? ⟨br, orr + q, none⟩ = some (.string ⟨z.toArray⟩) ∧ w'.cell? ⟨b, o + i * 3 + 2, none⟩ = some (.string ⟨yk.toArray⟩))) (by kernel_rfl) (CL.out _ BT.out.drew) (fun hS0 => ?_)
                              refine wpAnyH_take (i := 0) (oi := ⟨some 172, _, _, _, _, _⟩) (v := ?_) rfl (by kernel_rfl) (by kernel_rfl) (by kernel_rfl) (fun _ _ _ h => h) (Or.inl ⟨by rfl, ?_⟩) hS0 ?_
                              rotate_left
                              · (intro wS hSw; (try dsimp only at hSw); go_simp); all_goals (with_reducible rfl)
                              try simp only [Act.put, List.setIfInBounds_toArray, List.set_cons_zero, List.set_cons_succ]
                              refine wpAnyH_take (i := 1) (oi := ⟨some 173, _, _, _, _, _⟩) (v := ?_) rfl (by kernel_rfl) (by kernel_rfl) (by kernel_rfl) (fun _ _ _ h => h) (Or.inl ⟨by rfl, ?_⟩) hS0 ?_
                              rotate_left
                              · (intro wS hSw; (try dsimp only at hSw); go_simp); all_goals (with_reducible rfl)
                              try simp only [Act.put, List.setIfInBounds_toArray, List.set_cons_zero, List.set_cons_succ]
                              refine wpAnyH_take (i := 2) (oi := ⟨some 174, _, _, _, _, _⟩) (v := ?_) rfl (by kernel_rfl) (by kernel_rfl) (by kernel_rfl) (fun _ _ _ h => h) (Or.inl ⟨by rfl, ?_⟩) hS0 ?_
                              rotate_left
                              · (intro wS hSw; (try dsimp only at hSw); go_simp); all_goals (with_reducible rfl)
                              try simp only [Act.put, List.setIfInBounds_toArray, List.set_cons_zero, List.set_cons_succ]
                              refine wpAnyH_take (i := 3) (oi := ⟨some 175, _, _, _, _, _⟩) (v := ?_) rfl (by kernel_rfl) (by kernel_rfl) (by kernel_rfl) (fun _ _ _ h => h) (Or.inl ⟨by rfl, ?_⟩) hS0 ?_
                              rotate_left
                              · (intro wS hSw; (try dsimp only at hSw); go_simp); all_goals (with_reducible rfl)
                              try simp only [Act.put, List.setIfInBounds_toArray, List.set_cons_zero, List.set_cons_succ]
                              refine wpAnyH_take (i := 4) (oi := ⟨some 176, _, _, _, _, _⟩) (v := ?_) rfl (by kernel_rfl) (by kernel_rfl) (by kernel_rfl) (fun _ _ _ h => h) (Or.inl ⟨by rfl, ?_⟩) hS0 ?_
                              rotate_left
                              · (intro wS hSw; (try dsimp only at hSw); go_simp); all_goals (with_reducible rfl)
                              try simp only [Act.put, List.setIfInBounds_toArray, List.set_cons_zero, List.set_cons_succ]
                              refine wpAnyH_take (i := 5) (oi := ⟨some 177, _, _, _, _, _⟩) (v := ?_) rfl (by kernel_rfl) (by kernel_rfl) (by kernel_rfl) (fun _ _ _ h => h) (Or.inl ⟨by rfl, ?_⟩) hS0 ?_
                              rotate_left
                              · (intro wS hSw; (try dsimp only at hSw); go_simp); all_goals (with_reducible rfl)
                              try simp only [Act.put, List.setIfInBounds_toArray, List.set_cons_zero, List.set_cons_succ]
                              refine wpAnyH_take (i := 6) (oi := ⟨some 178, _, _, _, _, _⟩) (v := ?_) rfl (by kernel_rfl) (by kernel_rfl) (by kernel_rfl) (fun _ _ _ h => h) (Or.inl ⟨by rfl, ?_⟩) hS0 ?_
                              rotate_left
                              · (intro wS hSw; (try dsimp only at hSw); go_simp); all_goals (with_reducible rfl)
                              try simp only [Act.put, List.setIfInBounds_toArray, List.set_cons_zero, List.set_cons_succ]
                              refine wpAnyH_take (i := 7) (oi := ⟨some 179, _, _, _, _, _⟩) (v := ?_) rfl (by kernel_rfl) (by kernel_rfl) (by kernel_rfl) (fun _ _ _ h => h) (Or.inl ⟨by rfl, ?_⟩) hS0 ?_
                              rotate_left
                              · (intro wS hSw; (try dsimp only at hSw); go_simp); all_goals (with_reducible rfl)
                              try simp only [Act.put, List.setIfInBounds_toArray, List.set_cons_zero, List.set_cons_succ]
                              refine wpAnyH_take (i := 8) (oi := ⟨some 180, _, _, _, _, _⟩) (v := ?_) rfl (by kernel_rfl) (by kernel_rfl) (by kernel_rfl) (fun _ _ _ h => h) (Or.inl ⟨by rfl, ?_⟩) hS0 ?_
                              rotate_left
                              · (intro wS hSw; (try dsimp only at hSw); go_simp); all_goals (with_reducible rfl)
                              try simp only [Act.put, List.setIfInBounds_toArray, List.set_cons_zero, List.set_cons_succ]
                              refine wpAnyH_take (i := 9) (oi := ⟨some 181, _, _, _, _, _⟩) (v := ?_) rfl (by kernel_rfl) (by kernel_rfl) (by kernel_rfl) (fun _ _ _ h => h) (Or.inl ⟨by rfl, ?_⟩) hS0 ?_
                              rotate_left
                              · (intro wS hSw; (try dsimp only at hSw); go_simp); all_goals (with_reducible rfl)
                              try simp only [Act.put, List.setIfInBounds_toArray, List.set_cons_zero, List.set_cons_succ]
                              refine wpAnyH_take (i := 10) (oi := ⟨some 182, _, _, _, _, _⟩) (v := ?_) rfl (by kernel_rfl) (by kernel_rfl) (by kernel_rfl) (fun _ _ _ h => h) (Or.inl ⟨by rfl, ?_⟩) hS0 ?_
                              rotate_left
                              · (intro wS hSw; (try dsimp only at hSw); go_simp); all_goals (with_reducible rfl)
                              try simp only [Act.put, List.setIfInBounds_toArray, List.set_cons_zero, List.set_cons_succ]
                              refine wpAnyH_take (i := 11) (oi := ⟨some 183, _, _, _, _, _⟩) (v := ?_) rfl (by kernel_rfl) (by kernel_rfl) (by kernel_rfl) (fun _ _ _ h => h) (Or.inl ⟨by rfl, ?_⟩) hS0 ?_
                              rotate_left
                              · (intro wS hSw; (try dsimp only at hSw); go_simp); all_goals (with_reducible rfl)
                              try simp only [Act.put, List.setIfInBounds_toArray, List.set_cons_zero, List.set_cons_succ]
                              refine wpAnyH_take (i := 12) (oi := ⟨some 184, _, _, _, _, _⟩) (v := ?_) rfl (by kernel_rfl) (by kernel_rfl) (by kernel_rfl) (fun _ _ _ h => h) (Or.inl ⟨by rfl, ?_⟩) hS0 ?_
                              rotate_left
                              · (intro wS hSw; (try dsimp only at hSw); go_simp); all_goals (with_reducible rfl)
                              try simp only [Act.put, List.setIfInBounds_toArray, List.set_cons_zero, List.set_cons_succ]
                              refine wpAnyH_take (i := 13) (oi := ⟨some 185, _, _, _, _, _⟩) (v := ?_) rfl (by kernel_rfl) (by kernel_rfl) (by kernel_rfl) (fun _ _ _ h => h) (Or.inl ⟨by rfl, ?_⟩) hS0 ?_
                              rotate_left
                              · (intro wS hSw; (try dsimp only at hSw); go_simp); all_goals (with_reducible rfl)
                              try simp only [Act.put, List.setIfInBounds_toArray, List.set_cons_zero, List.set_cons_succ]
                              refine wpAnyH_take (i := 14) (oi := ⟨some 186, _, _, _, _, _⟩) (v := ?_) rfl (by kernel_rfl) (by kernel_rfl) (by kernel_rfl) (fun _ _ _ h => h) (Or.inl ⟨by rfl, ?_⟩) hS0 ?_
                              rotate_left
                              · (intro wS hSw; (try dsimp only at hSw); go_simp); all_goals (with_reducible rfl)
                              try simp only [Act.put, List.setIfInBounds_toArray, List.set_cons_zero, List.set_cons_succ]
                              refine wpAnyH_take (i := 15) (oi := ⟨some 187, _, _, _, _, _⟩) (v := ?_) rfl (by kernel_rfl) (by kernel_rfl) (by kernel_rfl) (fun _ _ _ h => h) (Or.inl ⟨by rfl, ?_⟩) hS0 ?_
                              rotate_left
                              · (intro wS hSw; (try dsimp only at hSw); go_simp); all_goals (with_reducible rfl)
                              try simp only [Act.put, List.setIfInBounds_toArray, List.set_cons_zero, List.set_cons_succ]
                              refine wpAnyH_take (i := 16) (oi := ⟨some 188, _, _, _, _, _⟩) (v := ?_) rfl (by kernel_rfl) (by kernel_rfl) (by kernel_rfl) (fun _ _ _ h => h) (Or.inl ⟨by rfl, ?_⟩) hS0 ?_
                              rotate_left
                              · (intro wS hSw; (try dsimp only at hSw); go_simp); all_goals (with_reducible rfl)
                              try simp only [Act.put, List.setIfInBounds_toArray, List.set_cons_zero, List.set_cons_succ]
                              refine wpAnyH_take (i := 17) (oi := ⟨some 189, _, _, _, _, _⟩) (v := ?_) rfl (by kernel_rfl) (by kernel_rfl) (by kernel_rfl) (fun _ _ _ h => h) (Or.inl ⟨by rfl, ?_⟩) hS0 ?_
                              rotate_left
                              · (intro wS hSw; (try dsimp only at hSw); go_simp); all_goals (with_reducible rfl)
                              try simp only [Act.put, List.setIfInBounds_toArray, List.set_cons_zero, List.set_cons_succ]
                              refine wpAnyH_take (i := 18) (oi := ⟨some 190, _, _, _, _, _⟩) (v := ?_) rfl (by kernel_rfl) (by kernel_rfl) (by kernel_rfl) (fun _ _ _ h => h) (Or.inl ⟨by rfl, ?_⟩) hS0 ?_
                              rotate_left
                              · (intro wS hSw; (try dsimp only at hSw); go_simp); all_goals (with_reducible rfl)
                              try simp only [Act.put, List.setIfInBounds_toArray, List.set_cons_zero, List.set_cons_succ]
                              refine wpAnyH_take (i := 19) (oi := ⟨some 191, _, _, _, _, _⟩) (v := ?_) rfl (by kernel_rfl) (by kernel_rfl) (by kernel_rfl) (fun _ _ _ h => h) (Or.inl ⟨by rfl, ?_⟩) hS0 ?_
                              rotate_left
                              · (intro wS hSw; (try dsimp only at hSw); go_simp); all_goals (with_reducible rfl)
                              try simp only [Act.put, List.setIfInBounds_toArray, List.set_cons_zero, List.set_cons_succ]
                              refine wpAnyH_take (i := 20) (oi := ⟨some 192, _, _, _, _, _⟩) (v := ?_) rfl (by kernel_rfl) (by kernel_rfl) (by kernel_rfl) (fun _ _ _ h => h) (Or.inl ⟨by rfl, ?_⟩) hS0 ?_
                              rotate_left
                              · (intro wS hSw; (try dsimp only at hSw); go_simp); all_goals (with_reducible rfl)
                              try simp only [Act.put, List.setIfInBounds_toArray, List.set_cons_zero, List.set_cons_succ]
                              refine wpAnyH_take (i := 21) (oi := ⟨some 193, _, _, _, _, _⟩) (v := ?_) rfl (by kernel_rfl) (by kernel_rfl) (by kernel_rfl) (fun _ _ _ h => h) (Or.inl ⟨by rfl, ?_⟩) hS0 ?_
                              rotate_left
                              · (intro wS hSw; (try dsimp only at hSw); go_simp); all_goals (with_reducible rfl)
                              try simp only [Act.put, List.setIfInBounds_toArray, List.set_cons_zero, List.set_cons_succ]
                              refine wpAnyH_take (i := 22) (oi := ⟨some 194, _, _, _, _, _⟩) (v := undef) rfl (by kernel_rfl) (by kernel_rfl) (by kernel_rfl) (fun _ _ _ h => h) (Or.inr ⟨by rfl, rfl⟩) hS0 ?_
                              try simp only [Act.put, List.setIfInBounds_toArray, List.set_cons_zero, List.set_cons_succ]
                              refine wpAnyH_take (i := 23) (oi := ⟨some 195, _, _, _, _, _⟩) (v := undef) rfl (by kernel_rfl) (by kernel_rfl) (by kernel_rfl) (fun _ _ _ h => h) (Or.inr ⟨by rfl, rfl⟩) hS0 ?_
                              try simp only [Act.put, List.setIfInBounds_toArray, List.set_cons_zero, List.set_cons_succ]
                              refine wpAnyH_take (i := 24) (oi := ⟨some 196, _, _, _, _, _⟩) (v := undef) rfl (by kernel_rfl) (by kernel_rfl) (by kernel_rfl) (fun _ _ _ h => h) (Or.inr ⟨by rfl, rfl⟩) hS0 ?_
                              try simp only [Act.put, List.setIfInBounds_toArray, List.set_cons_zero, List.set_cons_succ]
                              refine wpAnyH_take (i := 25) (oi := ⟨some 197, _, _, _, _, _⟩) (v := undef) rfl (by kernel_rfl) (by kernel_rfl) (by kernel_rfl) (fun _ _ _ h => h) (Or.inr ⟨by rfl, rfl⟩) hS0 ?_
                              try simp only [Act.put, List.setIfInBounds_toArray, List.set_cons_zero, List.set_cons_succ]
                              refine wpAnyH_take (i := 26) (oi := ⟨some 198, _, _, _, _, _⟩) (v := undef) rfl (by kernel_rfl) (by kernel_rfl) (by kernel_rfl) (fun _ _ _ h => h) (Or.inr ⟨by rfl, rfl⟩) hS0 ?_
                              try simp only [Act.put, List.setIfInBounds_toArray, List.set_cons_zero, List.set_cons_succ]
                              refine wpAnyH_take (i := 27) (oi := ⟨some 199, _, _, _, _, _⟩) (v := undef) rfl (by kernel_rfl) (by kernel_rfl) (by kernel_rfl) (fun _ _ _ h => h) (Or.inr ⟨by rfl, rfl⟩) hS0 ?_
                              try simp only [Act.put, List.setIfInBounds_toArray, List.set_cons_zero, List.set_cons_succ]
                              refine wpAnyH_take (i := 28) (oi := ⟨some 200, _, _, _, _, _⟩) (v := undef) rfl (by kernel_rfl) (by kernel_rfl) (by kernel_rfl) (fun _ _ _ h => h) (Or.inr ⟨by rfl, rfl⟩) hS0 ?_
                              try simp only [Act.put, List.setIfInBounds_toArray, List.set_cons_zero, List.set_cons_succ]
                              refine wpAnyH_take (i := 29) (oi := ⟨some 201, _, _, _, _, _⟩) (v := ?_) rfl (by kernel_rfl) (by kernel_rfl) (by kernel_rfl) (fun _ _ _ h => h) (Or.inl ⟨by rfl, ?_⟩) hS0 ?_
                              rotate_left
                              · (intro wS hSw; (try dsimp only at hSw); go_simp); all_goals (with_reducible rfl)
                              try simp only [Act.put, List.setIfInBounds_toArray, List.set_cons_zero, List.set_cons_succ]
                              refine wpAnyH_take (i := 30) (oi := ⟨some 202, _, _, _, _, _⟩) (v := ?_) rfl (by kernel_rfl) (by kernel_rfl) (by kernel_rfl) (fun _ _ _ h => h) (Or.inl ⟨by rfl, ?_⟩) hS0 ?_
                              rotate_left
                              · (intro wS hSw; (try dsimp only at hSw); go_simp); all_goals (with_reducible rfl)
                              try simp only [Act.put, List.setIfInBounds_toArray, List.set_cons_zero, List.set_cons_succ]
                              refine wpAnyH_take (i := 31) (oi := ⟨some 203, _, _, _, _, _⟩) (v := ?_) rfl (by kernel_rfl) (by kernel_rfl) (by kernel_rfl) (fun _ _ _ h => h) (Or.inl ⟨by rfl, ?_⟩) hS0 ?_
                              rotate_left
                              · (intro wS hSw; (try dsimp only at hSw); go_simp); all_goals (with_reducible rfl)
                              try simp only [Act.put, List.setIfInBounds_toArray, List.set_cons_zero, List.set_cons_succ]
                              refine wpAnyH_take (i := 32) (oi := ⟨some 204, _, _, _, _, _⟩) (v := ?_) rfl (by kernel_rfl) (by kernel_rfl) (by kernel_rfl) (fun _ _ _ h => h) (Or.inl ⟨by rfl, ?_⟩) hS0 ?_
                              rotate_left
                              · (intro wS hSw; (try dsimp only at hSw); go_simp); all_goals (with_reducible rfl)
                              try simp only [Act.put, List.setIfInBounds_toArray, List.set_cons_zero, List.set_cons_succ]
                              refine wpAnyH_take (i := 33) (oi := ⟨some 205, _, _, _, _, _⟩) (v := ?_) rfl (by kernel_rfl) (by kernel_rfl) (by kernel_rfl) (fun _ _ _ h => h) (Or.inl ⟨by rfl, ?_⟩) hS0 ?_
                              rotate_left
                              · (intro wS hSw; (try dsimp only at hSw); go_simp); all_goals (with_reducible rfl)
                              try simp only [Act.put, List.setIfInBounds_toArray, List.set_cons_zero, List.set_cons_succ]
                              refine wpAnyH_take (i := 34) (oi := ⟨some 206, _, _, _, _, _⟩) (v := ?_) rfl (by kernel_rfl) (by kernel_rfl) (by kernel_rfl) (fun _ _ _ h => h) (Or.inl ⟨by rfl, ?_⟩) hS0 ?_
                              rotate_left
                              · (intro wS hSw; (try dsimp only at hSw); go_simp); all_goals (with_reducible rfl)
                              try simp only [Act.put, List.setIfInBounds_toArray, List.set_cons_zero, List.set_cons_succ]
                              refine wpAnyH_take (i := 35) (oi := ⟨some 207, _, _, _, _, _⟩) (v := ?_) rfl (by kernel_rfl) (by kernel_rfl) (by kernel_rfl) (fun _ _ _ h => h) (Or.inl ⟨by rfl, ?_⟩) hS0 ?_
                              rotate_left
                              · (intro wS hSw; (try dsimp only at hSw); go_simp); all_goals (with_reducible rfl)
                              try simp only [Act.put, List.setIfInBounds_toArray, List.set_cons_zero, List.set_cons_succ]
                              refine wpAnyH_take (i := 36) (oi := ⟨some 208, _, _, _, _, _⟩) (v := ?_) rfl (by kernel_rfl) (by kernel_rfl) (by kernel_rfl) (fun _ _ _ h => h) (Or.inl ⟨by rfl, ?_⟩) hS0 ?_
                              rotate_left
                              · (intro wS hSw; (try dsimp only at hSw); go_simp); all_goals (with_reducible rfl)
                              try simp only [Act.put, List.setIfInBounds_toArray, List.set_cons_zero, List.set_cons_succ]
                              refine wpAnyH_take (i := 37) (oi := ⟨some 209, _, _, _, _, _⟩) (v := ?_) rfl (by kernel_rfl) (by kernel_rfl) (by kernel_rfl) (fun _ _ _ h => h) (Or.inl ⟨by rfl, ?_⟩) hS0 ?_
                              rotate_left
                              · (intro wS hSw; (try dsimp only at hSw); go_simp); all_goals (with_reducible rfl)
                              try simp only [Act.put, List.setIfInBounds_toArray, List.set_cons_zero, List.set_cons_succ]
                              refine wpAnyH_take (i := 38) (oi := ⟨some 210, _, _, _, _, _⟩) (v := ?_) rfl (by kernel_rfl) (by kernel_rfl) (by kernel_rfl) (fun _ _ _ h => h) (Or.inl ⟨by rfl, ?_⟩) hS0 ?_
                              rotate_left
                              · (intro wS hSw; (try dsimp only at hSw); go_simp); all_goals (with_reducible rfl)
                              try simp only [Act.put, List.setIfInBounds_toArray, List.set_cons_zero, List.set_cons_succ]
                              refine wpAnyH_take (i := 39) (oi := ⟨some 211, _, _, _, _, _⟩) (v := ?_) rfl (by kernel_rfl) (by kernel_rfl) (by kernel_rfl) (fun _ _ _ h => h) (Or.inl ⟨by rfl, ?_⟩) hS0 ?_
                              rotate_left
                              · (intro wS hSw; (try dsimp only at hSw); go_simp); all_goals (with_reducible rfl)
                              try simp only [Act.put, List.setIfInBounds_toArray, List.set_cons_zero, List.set_cons_succ]
                              refine wpAnyH_take (i := 40) (oi := ⟨some 212, _, _, _, _, _⟩) (v := ?_) rfl (by kernel_rfl) (by kernel_rfl) (by kernel_rfl) (fun _ _ _ h => h) (Or.inl ⟨by rfl, ?_⟩) hS0 ?_
                              rotate_left
                              · (intro wS hSw; (try dsimp only at hSw); go_simp); all_goals (with_reducible rfl)
                              try simp only [Act.put, List.setIfInBounds_toArray, List.set_cons_zero, List.set_cons_succ]
                              refine wpAnyH_take (i := 41) (oi := ⟨some 213, _, _, _, _, _⟩) (v := ?_) rfl (by kernel_rfl) (by kernel_rfl) (by kernel_rfl) (fun _ _ _ h => h) (Or.inl ⟨by rfl, ?_⟩) hS0 ?_
                              rotate_left
                              · (intro wS hSw; (try dsimp only at hSw); go_simp); all_goals (with_reducible rfl)
                              try simp only [Act.put, List.setIfInBounds_toArray, List.set_cons_zero, List.set_cons_succ]
                              refine wpAnyH_take (i := 42) (oi := ⟨some 214, _, _, _, _, _⟩) (v := ?_) rfl (by kernel_rfl) (by kernel_rfl) (by kernel_rfl) (fun _ _ _ h => h) (Or.inl ⟨by rfl, ?_⟩) hS0 ?_
                              rotate_left
                              · (intro wS hSw; (try dsimp only at hSw); go_simp); all_goals (with_reducible rfl)
                              try simp only [Act.put, List.setIfInBounds_toArray, List.set_cons_zero, List.set_cons_succ]
                              refine wpAnyH_take (i := 43) (oi := ⟨some 215, _, _, _, _, _⟩) (v := ?_) rfl (by kernel_rfl) (by kernel_rfl) (by kernel_rfl) (fun _ _ _ h => h) (Or.inl ⟨by rfl, ?_⟩) hS0 ?_
                              rotate_left
                              · (intro wS hSw; (try dsimp only at hSw); go_simp); all_goals (with_reducible rfl)
                              try simp only [Act.put, List.setIfInBounds_toArray, List.set_cons_zero, List.set_cons_succ]
                              refine wpAnyH_ready (rs := [44]) (by kernel_rfl) (by simp) ?_
                              refine AllReadyH.cons (o := ⟨some 216, _, _, _, _, _⟩) rfl (fun K hK => ?_) AllReadyH.nil
                              go_simp
                              refine (HMA.out _).mono ?_
                              rintro e w9 ⟨rfl, hb9⟩
                              have BT9 := Lib.hid (BT.out.drew.trans (hb9.mono BT.out.drew.size))
                              clear hb9
                              go_wp2_with fail
                              refine hK.out _ _ (CL.out _ BT9.out) (fun hS44 => ?_)
                              clear hK K
                              try simp only [Act.put, List.setIfInBounds_toArray, List.set_cons_zero, List.set_cons_succ]
                              refine wpAnyH_take (i := 45) (oi := ⟨some 217, _, _, _, _, _⟩) (v := ?_) rfl (by kernel_rfl) (by kernel_rfl) (by kernel_rfl) (fun _ _ _ h => h) (Or.inl ⟨by rfl, ?_⟩) hS44 ?_
                              rotate_left
                              · (intro wS hSw; (try dsimp only at hSw); go_simp); all_goals (with_reducible rfl)
                              try simp only [Act.put, List.setIfInBounds_toArray, List.set_cons_zero, List.set_cons_succ]
                              refine wpAnyH_take (i := 46) (oi := ⟨some 218, _, _, _, _, _⟩) (v := ?_) rfl (by kernel_rfl) (by kernel_rfl) (by kernel_rfl) (fun _ _ _ h => h) (Or.inl ⟨by rfl, ?_⟩) hS44 ?_
                              rotate_left
                              · (intro wS hSw; (try dsimp only at hSw); go_simp); all_goals (with_reducible rfl)
                              try simp only [Act.put, List.setIfInBounds_toArray, List.set_cons_zero, List.set_cons_succ]
                              refine wpAnyH_take (i := 47) (oi := ⟨some 219, _, _, _, _, _⟩) (v := ?_) rfl (by kernel_rfl) (by kernel_rfl) (by kernel_rfl) (fun _ _ _ h => h) (Or.inl ⟨by rfl, ?_⟩) hS44 ?_
                              rotate_left
                              · (intro wS hSw; (try dsimp only at hSw); go_simp); all_goals (with_reducible rfl)
                              try simp only [Act.put, List.setIfInBounds_toArray, List.set_cons_zero, List.set_cons_succ]
                              refine wpAnyH_take (i := 48) (oi := ⟨some 220, _, _, _, _, _⟩) (v := ?_) rfl (by kernel_rfl) (by kernel_rfl) (by kernel_rfl) (fun _ _ _ h => h) (Or.inl ⟨by rfl, ?_⟩) hS44 ?_
                              rotate_left
                              · (intro wS hSw; (try dsimp only at hSw); go_simp); all_goals (with_reducible rfl)
                              try simp only [Act.put, List.setIfInBounds_toArray, List.set_cons_zero, List.set_cons_succ]
                              refine wpAnyH_take (i := 49) (oi := ⟨some 16, _, _, _, _, _⟩) (v := ?_) rfl (by kernel_rfl) (by kernel_rfl) (by kernel_rfl) (fun _ _ _ h => h) (Or.inl ⟨by rfl, ?_⟩) hS44 ?_
                              rotate_left
                              · (intro wS hSw; (try dsimp only at hSw); go_simp); all_goals (with_reducible rfl)
                              try simp only [Act.put, List.setIfInBounds_toArray, List.set_cons_zero, List.set_cons_succ]
                              refine wpAnyH_done (by kernel_rfl) ?_ _
                              go_wp2_with fail
                              go_roundw
                              case rel => exact ⟨i + 1, by go_num, by omega, by rw [D0.out], BT9.out⟩
                              case measure => simp [intOf]; omega
                        · have e1 : ((t : Int) == (k : Int)) = false := beq_false_of_ne (by omega)
                          have e2 : (t == k) = false := by simpa using htk
                          have D : Hid (wasP l key k z (i + 1) = false) := Lib.hid (by rw [HNX.out]; simp [htk])
                          go_wp2_with fail
                          go_quiet (fail)
                          go_wp2_with fail
                          go_roundw
                          case rel => exact ⟨i + 1, by go_num, by omega, by rw [D.out], below_drewN BT.out _⟩
                          case measure => simp [intOf]; omega
                    · have him2 : i = m := by omega
                      subst him2
                      rw [HZM.out]
                      by_cases hiL : (i : Int) < (L : Int)
                      · have p2 : ¬ (i : Int) < 40 := by have := HM.out; omega
                        go_wp2_with fail
                        go_meet
                        exact ⟨rfl, BT.out⟩
                      · go_wp2_with fail
                        go_meet
                        exact ⟨rfl, BT.out⟩
                case rest =>
                  obtain ⟨rfl, hbe⟩ := hcut
                  have BE := Lib.hid hbe
                  clear hbe BR
                  by_cases hq0 : q = 0
                  · have p5 : ¬ (0 : Int) < (q : Int) := by omega
                    have p6 : ¬ 0 < q := by omega
                    go_wp2_with fail
                    go_quiet (fail)
                    go_wp2_with fail
                    go_roundw
                    case rel => exact ⟨q + 1, by go_num, by go_num, by omega, below_drewN BE.out _⟩
                    case measure => simp [intOf]; omega
                  · obtain ⟨p, hp⟩ : ∃ p, q = p + 1 := ⟨q - 1, by omega⟩
                    have hqR : q < R.length := by rw [← HRLN.out]; exact hq
                    have hpR : p < R.length := by omega
                    have z1 := (L3.out.below BE.out).texts_at hqR
                    have z0 := (L3.out.below BE.out).texts_at hpR
                    have hlt := ris_get linS HRR.out (i := p) (j := q) (by omega) hqR
                    rw [← HZ.out hqR] at z1 hlt
                    obtain ⟨y, hy⟩ : ∃ y, y = R[p] := ⟨_, rfl⟩
                    rw [← hy] at z0 hlt
                    have g1 : Op.bytesLess y z = true := by rw [bytesLess_is]; exact hlt
                    have p5 : (0 : Int) < (q : Int) := by omega
                    have p6 : 0 < q := by omega
                    have w1 : IntKind.i64.wrap ((q : Int) - 1) = (p : Int) := by rw [hp]; rw [IntWalk.i64_in _ (by have h1 := HRL.out; have h2 := HRLN.out; unfold maxLen at h1; omega)]; omega
                    have p7 : (p : Int) < (rl : Int) := by omega
                    have p8 : (0 : Int) ≤ (p : Int) := by omega
                    have HP := Lib.hid hp
                    clear hqR hpR hlt hy hp
                    go_wp2_with fail
                    go_quiet (fail)
                    go_wp2_with fail
                    go_roundw
                    case rel => exact ⟨q + 1, by go_num, by go_num, by omega, below_drewN BE.out _⟩
                    case measure => simp [intOf]; omega
              · have p3 : ¬ (q : Int) < (rl : Int) := by omega
                have hqe : q = rl := by omega
                subst hqe
                go_wp2_with fail
                go_meet
                exact ⟨rfl, BR.out⟩
          case rest =>
            obtain ⟨rfl, hbe⟩ := hcut
            have BE := Lib.hid hbe
            clear hbe BC
            go_wp2_with fail
            go_roundw
            case rel => exact ⟨k + 1, by go_num, by have := HKL.out; omega, K3.out.below BE.out⟩
            case measure => have := HKL.out; simp [intOf]; omega
      · have q1 : ¬ (k : Int) < 3 := by omega
        have hro := r_route K.out.ro (n := nNone) (key := key) (by decide) HK.out
        have hnone : S.route nNone key = [] := by
          unfold Rt.route
          rw [BS.out.x]
          rfl
        rw [hnone] at hro
        have HRO := Lib.hid hro
        clear hro hnone
        go_wp2_with fail
        refine HRO.out.mono ?_
        rintro e w3 ⟨v3, rfl, ho3, hb3⟩
        obtain ⟨AR, cR, rfl, hRc, hcm⟩ := own_form ho3
        have B3 := Lib.hid (K.out.bel.trans (hb3.mono K.out.bel.size))
        clear ho3 hb3 hRc hcm HRO
        go_wp2_with fail
        refine (awake16_any _).mono ?_
        rintro e w4 ⟨rfl, hb4⟩
        have B4 := Lib.hid (B3.out.trans (hb4.mono B3.out.size))
        clear hb4
        go_wp2_with fail
        go_ret
        exact ⟨rfl, B4.out⟩
end Go.Proofs.YtocombacjpjdbaaDoor
