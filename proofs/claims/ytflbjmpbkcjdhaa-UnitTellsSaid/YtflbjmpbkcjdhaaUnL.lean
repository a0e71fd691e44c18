/- The law UnitPlaces, walked. -/
import Derived.Test.YtflbjmpbkcjdhaaUnK
import Derived.Test.YtflbjmpbkcjdhaaUnO
import Derived.Test.YtflbjmpbkcjdhaaLex
namespace Go.Proofs.Ytflbjmpbkcjdhaa
open Go.RowKit
set_option maxRecDepth 100000
set_option linter.unusedSimpArgs false
set_option linter.unusedVariables false

theorem cellsPls_at : ∀ (l : List Tl) (i : Nat) (hi : i < l.length) (j : Nat) (u : Value), (cellsPl l[i])[j]? = some u → (cellsPls l)[i * 4 + j]? = some u := by
  intro l
  induction l with
  | nil => intro i hi; simp at hi
  | cons f l ih =>
    intro i hi j u hu
    have e : cellsPls (f :: l) = cellsPl f ++ cellsPls l := rfl
    rw [e]
    cases i with
    | zero =>
      have hu' : (cellsPl f)[j]? = some u := hu
      rw [Nat.zero_mul, Nat.zero_add, List.getElem?_append_left (List.getElem?_eq_some_iff.1 hu').1]
      exact hu'
    | succ i =>
      rw [List.getElem?_append_right (by rw [show (cellsPl f).length = 4 from rfl]; omega), show (cellsPl f).length = 4 from rfl, show (i + 1) * 4 + j - 4 = i * 4 + j by omega]
      exact ih i (by simpa using hi) j u hu
theorem cellsPls_length (l : List Tl) : (cellsPls l).length = l.length * 4 := by
  induction l with
  | nil => rfl
  | cons f l ih =>
    have e : cellsPls (f :: l) = cellsPl f ++ cellsPls l := rfl
    rw [e, List.length_append, ih, List.length_cons, show (cellsPl f).length = 4 from rfl]
    omega
/-- the cells of one place -/
theorem lies_pl {w : World} {B : Nat} {A : Option Addr} {l : List Tl} (h : Lies w B A (cellsPls l)) (i : Nat) (t : Tl) (ht : l[i]? = some t) :
    ∃ b o, A = some ⟨b, o, none⟩ ∧ b < B ∧ w.cell? ⟨b, o + i * 4, none⟩ = some (.string ⟨t.o.key.toArray⟩) ∧ w.cell? ⟨b, o + i * 4 + 1, none⟩ = some (.bool t.o.del) ∧ w.cell? ⟨b, o + i * 4 + 2, none⟩ = some (.int .i64 t.pos) ∧ w.cell? ⟨b, o + i * 4 + 3, none⟩ = some (.int .i64 t.o.val.length) := by
  obtain ⟨hi, e⟩ := List.getElem?_eq_some_iff.1 ht
  subst e
  rcases h with h | ⟨b, o, e, hb, hc⟩
  · have hl := cellsPls_length l
    rw [h] at hl
    simp at hl
    omega
  · exact ⟨b, o, e, hb, hc _ _ (cellsPls_at l i hi 0 _ rfl), by rw [Nat.add_assoc]; exact hc _ _ (cellsPls_at l i hi 1 _ rfl), by rw [Nat.add_assoc]; exact hc _ _ (cellsPls_at l i hi 2 _ rfl), by rw [Nat.add_assoc]; exact hc _ _ (cellsPls_at l i hi 3 _ rfl)⟩
theorem small_few {l : List Om} (h : smallO (pl l) = true) : Few l := by
  have := smallO_len h
  rw [pl_length] at this
  refine ⟨by omega, fun m hm => ?_⟩
  have h2 := this.2 m.o (List.mem_map.2 ⟨m, hm, rfl⟩)
  omega
theorem tame_unit (l : List Opx) : unitP (opsB (tameO l)) = some (tellO (opsB (tameO l)).length (tameO l)) := by
  unfold unitP
  rw [if_neg (by have := tameO_bytes l; omega)]
  exact opsP_back _ _ (tameO_all l)
set_option maxHeartbeats 2000000 in
theorem uplaces_law (l : List Om) (A : Option Addr) (c B : Nat) (w : World) (ht : OpsAt w B l A c) (hB : B ≤ w.heap.size) (hbe : BearO l) :
    Calls Try.prog 6 #[.slice A l.length c] w fun e w' => e = .returned (.bool true) ∧ Below w.heap.size w w' := by
  have HT := Lib.hid ht
  have HBE := Lib.hid hbe.2
  have hlc := ht.1
  have hcm := ht.2.1
  unfold maxLen at hcm
  obtain ⟨s, hs⟩ : ∃ s, s = smallO (pl l) := ⟨_, rfl⟩
  have HS := Lib.hid hs
  clear ht hbe hs
  go_enter Try.func6, Try.ntmps6
  go_wp2_with fail
  refine (usmall_any l A _ c B _ rfl HT.out hB HBE.out).mono ?_
  rintro e w1 ⟨rfl, hb1⟩
  rw [← HS.out]
  have B1 := Lib.hid hb1
  clear hb1
  cases s with
  | false =>
    go_wp2_with fail
    refine (uawake_any _).mono ?_
    rintro e w2 ⟨rfl, hb2⟩
    have D := Lib.hid (B1.out.trans (hb2.mono B1.out.size))
    clear hb2
    go_wp2_with fail
    go_ret
    exact ⟨rfl, D.out⟩
  | true =>
    have HF := Lib.hid (small_few HS.out.symm)
    go_wp2_with fail
    refine (utame_any l A _ c B _ rfl (HT.out.below (B1.out.mono hB)) (Nat.le_trans hB B1.out.size) HF.out).mono ?_
    rintro e w2 ⟨A2, c2, rfl, t2, hb2⟩
    have B2 := Lib.hid (B1.out.trans (hb2.mono B1.out.size))
    have T2 := Lib.hid t2
    obtain ⟨L, hL⟩ : ∃ L, L = tameM l := ⟨_, rfl⟩
    obtain ⟨P, hP⟩ : ∃ P, P = pl L := ⟨_, rfl⟩
    have hPt : P = tameO (pl l) := by rw [hP, hL]; exact pl_tame l
    obtain ⟨Z, hZ⟩ : ∃ Z, Z = opsB P := ⟨_, rfl⟩
    have HFL : Hid (Few L) := Lib.hid (by rw [hL]; exact tameM_few l)
    have HOK : Hid (unitOk (pl L) = true) := Lib.hid (by rw [← hP, hPt]; exact tameO_ok _)
    have hZl : Z.length ≤ 12210 := by rw [hZ, hPt]; exact tameO_bytes _
    have HU : Hid (unitP Z = some (tellO Z.length P)) := Lib.hid (by rw [hZ, hPt]; exact tame_unit _)
    have hLl : L.length ≤ 30 := by rw [← pl_length, ← hP, hPt]; exact tameO_len _
    have HPL : Hid (P.length = L.length) := Lib.hid (by rw [hP, pl_length])
    have HAT : Hid (∀ j (h : j < L.length), ∃ p : Nat, (tellO Z.length P)[j]? = some ⟨L[j].o, p⟩ ∧ p + L[j].o.val.length ≤ Z.length ∧ (Z.drop p).take L[j].o.val.length = L[j].o.val) := Lib.hid (fun j h => by
      have hj : j < P.length := by rw [hP, pl_length]; exact h
      have e1 := tellO_at Z.length P j hj
      have e2 : P[j] = L[j].o := by subst hP; exact pl_at L j hj
      have hfit : fitO P[j] = true := by
        have := tameO_all (pl l)
        rw [← hPt, List.all_eq_true] at this
        exact this _ (List.getElem_mem hj)
      have e3 := val_lies P j hj (fitO_is hfit).2.2.2
      rw [← hZ, e2] at e3
      rw [e2] at e1
      exact ⟨_, e1, e3.1, e3.2⟩)
    have HLP := Lib.hid hP
    have HZ := Lib.hid hZ
    rw [← hL] at T2 ⊢
    have hc2 := T2.out.1
    have hm2 := T2.out.2.1
    unfold maxLen at hm2
    clear t2 hb2 hL hP hPt hZ
    go_wp2_with fail
    refine (uappend_yes L A2 _ c2 _ _ Z rfl T2.out (Nat.le_refl _) HFL.out HOK.out (by rw [HZ.out, HLP.out])).mono ?_
    rintro e w3 ⟨A3, c3, rfl, o3, hb3⟩
    obtain ⟨_, _, e3, hc3, hm3⟩ := own_form o3
    injection e3 with ea eb ec
    subst ec
    have B3 := Lib.hid (B2.out.trans (hb3.mono B2.out.size))
    have L3 := Lib.hid (own_lies o3 (Nat.le_refl _))
    have T3 := Lib.hid ((T2.out.below hb3).more hb3.size)
    have HM3 := Lib.hid hm3
    unfold maxLen at hm3
    clear o3 hb3 ea eb
    go_wp2_with fail
    refine (uplaces_yes A3 _ c3 _ Z _ _ rfl L3.out (Nat.le_refl _) hc3 HM3.out HU.out).mono ?_
    rintro e w4 ⟨A4, c4, rfl, hc4, hm4, l4, hb4⟩
    rw [tellO_length, HPL.out] at hc4 ⊢
    have B4 := Lib.hid (B3.out.trans (hb4.mono B3.out.size))
    have T4 := Lib.hid ((T3.out.below hb4).more hb4.size)
    have L4 := Lib.hid ((L3.out.below hb4).more hb4.size)
    have P4 := Lib.hid l4
    unfold maxLen at hm4
    clear l4 hb4
    go_wp2_with fail
    go_loopw [7] (fun i wr => ∃ (j q : Nat), j ≤ L.length ∧ i = .int .i64 j ∧ wr = w4.drewN q) (fun i _ => L.length - (intOf i).toNat)
    case atStart => exact ⟨0, 0, Nat.zero_le _, rfl, rfl⟩
    case round =>
      obtain ⟨j, q, hj, rfl, hq⟩ := hrel
      have BW : Below w.heap.size w wr := by rw [hq]; exact below_drewN B4.out q
      have HBW := Lib.hid BW
      have HQ := Lib.hid hq
      by_cases hlt : j < L.length
      · obtain ⟨p, e1, e2, e3⟩ := HAT.out j hlt
        have T : OpsAt wr w4.heap.size L A2 c2 := by rw [hq]; exact T4.out
        have vm := T.2.2.2 _ (List.getElem_mem hlt)
        obtain ⟨m, hm⟩ : ∃ m, m = L[j] := ⟨_, rfl⟩
        obtain ⟨b, o, rfl, hb, c0, c1, c2'⟩ := lies_om T.2.2.1 j hlt
        obtain ⟨b', o', rfl, hb', d0, d1, d2, d3⟩ := lies_pl (show Lies wr w4.heap.size A4 (cellsPls (tellO Z.length P)) by rw [hq]; exact P4.out) j _ e1
        rw [← hm] at c0 c1 c2' d0 d1 d2 d3 e2 e3 vm
        simp only at d0 d1 d2 d3
        have lv := vm.1
        have lz : Lies wr w4.heap.size A3 (B8 Z) := by rw [hq]; exact L4.out
        have cv := fun q => run_octets_string (P := Try.prog) 22 9 5 Try.underlying22 Try.underlying5 Try.underlying9 (show Lies (wr.drewN q) w4.heap.size m.A (B8 m.o.val) from lv) m.c
        have hpz : (p : Int) ≤ (Z.length : Int) := by omega
        have hnz : (m.o.val.length : Int) ≤ (Z.length : Int) - (p : Int) := by omega
        have hw1 : IntKind.i64.wrap ((Z.length : Int) - (p : Int)) = (Z.length : Int) - (p : Int) := IntWalk.i64_in _ ⟨by omega, by omega⟩
        have hw2 : IntKind.i64.wrap ((p : Int) + (m.o.val.length : Int)) = (p : Int) + (m.o.val.length : Int) := IntWalk.i64_in _ ⟨by omega, by omega⟩
        have hd0 : decide ((p : Int) < 0) = false := decide_eq_false (by omega)
        have hd1 : decide (Z.length < p) = false := decide_eq_false (by omega)
        have hd2 : decide ((Z.length : Int) - (p : Int) < (m.o.val.length : Int)) = false := decide_eq_false (by omega)
        have hs1 : (p : Int) ≤ (p : Int) + (m.o.val.length : Int) := by omega
        have hs2 : (p : Int) + (m.o.val.length : Int) ≤ (c3 : Int) := by omega
        have hs3 : ((p : Int) + (m.o.val.length : Int)).toNat - p = m.o.val.length := by omega
        have hj0 : (0 : Int) ≤ (j : Int) := by omega
        have hp0 : (0 : Int) ≤ (p : Int) := by omega
        have hj1 : (j : Int) < (L.length : Int) := by omega
        have lzv : Lies wr w4.heap.size (if c3 = p then A3 else A3.map (·.add p)) (B8 m.o.val) := by
          have h1 := (lz.drop p c3 (by rw [B8_length]; omega) (by rw [B8_length]; exact hc3)).take m.o.val.length
          have h2 : ((B8 Z).drop p).take m.o.val.length = B8 m.o.val := by
            rw [← e3]
            unfold B8
            rw [← List.map_drop, ← List.map_take]
            simp [e3]
          rwa [h2] at h1
        clear hq BW T vm hm lv e1 e3 lz
        have cz := fun q => run_octets_string (P := Try.prog) 22 9 5 Try.underlying22 Try.underlying5 Try.underlying9 (show Lies (wr.drewN q) w4.heap.size (if c3 = p then A3 else A3.map (fun x => x.add p)) (B8 m.o.val) from lzv) (c3 - p)
        clear lzv
        as_aux_lemma =>
          go_wp2_with fail
          refine wp_region_quiet_lit (by kernel_rfl) (LexAt.all 100 (by kernel_rfl) (by kernel_rfl) (by
            refine LexAt.step 0 1 99 100 rfl rfl (by as_aux_lemma => kernel_rfl) ?_
            refine LexAt.step 1 2 98 99 rfl rfl (by as_aux_lemma => kernel_rfl) ?_
            refine LexAt.step 2 3 97 98 rfl rfl (by as_aux_lemma => kernel_rfl) ?_
            refine LexAt.step 3 4 96 97 rfl rfl (by as_aux_lemma => kernel_rfl) ?_
            refine LexAt.step 4 5 95 96 rfl rfl (by as_aux_lemma => kernel_rfl) ?_
            refine LexAt.step 5 6 94 95 rfl rfl (by as_aux_lemma => kernel_rfl) ?_
            refine LexAt.step 6 7 93 94 rfl rfl (by as_aux_lemma => kernel_rfl) ?_
            refine LexAt.step 7 8 92 93 rfl rfl (by as_aux_lemma => kernel_rfl) ?_
            refine LexAt.step 8 9 91 92 rfl rfl (by as_aux_lemma => kernel_rfl) ?_
            refine LexAt.step 9 10 90 91 rfl rfl (by as_aux_lemma => kernel_rfl) ?_
            refine LexAt.step 10 11 89 90 rfl rfl (by as_aux_lemma => kernel_rfl) ?_
            refine LexAt.step 11 12 88 89 rfl rfl (by as_aux_lemma => kernel_rfl) ?_
            refine LexAt.step 12 13 87 88 rfl rfl (by as_aux_lemma => kernel_rfl) ?_
            refine LexAt.step 13 14 86 87 rfl rfl (by as_aux_lemma => kernel_rfl) ?_
            refine LexAt.step 14 15 85 86 rfl rfl (by as_aux_lemma => kernel_rfl) ?_
            refine LexAt.step 15 16 84 85 rfl rfl (by as_aux_lemma => kernel_rfl) ?_
            refine LexAt.step 16 17 83 84 rfl rfl (by as_aux_lemma => kernel_rfl) ?_
            refine LexAt.step 17 18 82 83 rfl rfl (by as_aux_lemma => kernel_rfl) ?_
            refine LexAt.step 18 19 81 82 rfl rfl (by as_aux_lemma => kernel_rfl) ?_
            refine LexAt.step 19 20 80 81 rfl rfl (by as_aux_lemma => kernel_rfl) ?_
            refine LexAt.step 20 21 79 80 rfl rfl (by as_aux_lemma => kernel_rfl) ?_
            refine LexAt.step 21 22 78 79 rfl rfl (by as_aux_lemma => kernel_rfl) ?_
            refine LexAt.step 22 23 77 78 rfl rfl (by as_aux_lemma => kernel_rfl) ?_
            refine LexAt.step 23 24 76 77 rfl rfl (by as_aux_lemma => kernel_rfl) ?_
            refine LexAt.step 24 25 75 76 rfl rfl (by as_aux_lemma => kernel_rfl) ?_
            refine LexAt.step 25 26 74 75 rfl rfl (by as_aux_lemma => kernel_rfl) ?_
            refine LexAt.step 26 27 73 74 rfl rfl (by as_aux_lemma => kernel_rfl) ?_
            refine LexAt.step 27 28 72 73 rfl rfl (by as_aux_lemma => kernel_rfl) ?_
            refine LexAt.step 28 29 71 72 rfl rfl (by as_aux_lemma => kernel_rfl) ?_
            refine LexAt.step 29 30 70 71 rfl rfl (by as_aux_lemma => kernel_rfl) ?_
            refine LexAt.step 30 31 69 70 rfl rfl (by as_aux_lemma => kernel_rfl) ?_
            refine LexAt.step 31 32 68 69 rfl rfl (by as_aux_lemma => kernel_rfl) ?_
            refine LexAt.step 32 33 67 68 rfl rfl (by as_aux_lemma => kernel_rfl) ?_
            refine LexAt.step 33 34 66 67 rfl rfl (by as_aux_lemma => kernel_rfl) ?_
            refine LexAt.step 34 35 65 66 rfl rfl (by as_aux_lemma => kernel_rfl) ?_
            refine LexAt.step 35 36 64 65 rfl rfl (by as_aux_lemma => kernel_rfl) ?_
            refine LexAt.step 36 37 63 64 rfl rfl (by as_aux_lemma => kernel_rfl) ?_
            refine LexAt.step 37 38 62 63 rfl rfl (by as_aux_lemma => kernel_rfl) ?_
            refine LexAt.step 38 39 61 62 rfl rfl (by as_aux_lemma => kernel_rfl) ?_
            refine LexAt.step 39 40 60 61 rfl rfl (by as_aux_lemma => kernel_rfl) ?_
            refine LexAt.step 40 41 59 60 rfl rfl (by as_aux_lemma => kernel_rfl) ?_
            refine LexAt.step 41 42 58 59 rfl rfl (by as_aux_lemma => kernel_rfl) ?_
            refine LexAt.step 42 43 57 58 rfl rfl (by as_aux_lemma => kernel_rfl) ?_
            refine LexAt.step 43 44 56 57 rfl rfl (by as_aux_lemma => kernel_rfl) ?_
            refine LexAt.step 44 45 55 56 rfl rfl (by as_aux_lemma => kernel_rfl) ?_
            refine LexAt.step 45 46 54 55 rfl rfl (by as_aux_lemma => kernel_rfl) ?_
            refine LexAt.step 46 47 53 54 rfl rfl (by as_aux_lemma => kernel_rfl) ?_
            refine LexAt.step 47 48 52 53 rfl rfl (by as_aux_lemma => kernel_rfl) ?_
            refine LexAt.step 48 49 51 52 rfl rfl (by as_aux_lemma => kernel_rfl) ?_
            refine LexAt.step 49 50 50 51 rfl rfl (by as_aux_lemma => kernel_rfl) ?_
            refine LexAt.step 50 51 49 50 rfl rfl (by as_aux_lemma => kernel_rfl) ?_
            refine LexAt.step 51 52 48 49 rfl rfl (by as_aux_lemma => kernel_rfl) ?_
            refine LexAt.step 52 53 47 48 rfl rfl (by as_aux_lemma => kernel_rfl) ?_
            refine LexAt.step 53 54 46 47 rfl rfl (by as_aux_lemma => kernel_rfl) ?_
            refine LexAt.step 54 55 45 46 rfl rfl (by as_aux_lemma => kernel_rfl) ?_
            refine LexAt.step 55 56 44 45 rfl rfl (by as_aux_lemma => kernel_rfl) ?_
            refine LexAt.step 56 57 43 44 rfl rfl (by as_aux_lemma => kernel_rfl) ?_
            refine LexAt.step 57 58 42 43 rfl rfl (by as_aux_lemma => kernel_rfl) ?_
            refine LexAt.step 58 59 41 42 rfl rfl (by as_aux_lemma => kernel_rfl) ?_
            refine LexAt.step 59 60 40 41 rfl rfl (by as_aux_lemma => kernel_rfl) ?_
            refine LexAt.step 60 61 39 40 rfl rfl (by as_aux_lemma => kernel_rfl) ?_
            refine LexAt.step 61 62 38 39 rfl rfl (by as_aux_lemma => kernel_rfl) ?_
            refine LexAt.step 62 63 37 38 rfl rfl (by as_aux_lemma => kernel_rfl) ?_
            refine LexAt.step 63 64 36 37 rfl rfl (by as_aux_lemma => kernel_rfl) ?_
            refine LexAt.step 64 65 35 36 rfl rfl (by as_aux_lemma => kernel_rfl) ?_
            refine LexAt.step 65 66 34 35 rfl rfl (by as_aux_lemma => kernel_rfl) ?_
            refine LexAt.step 66 67 33 34 rfl rfl (by as_aux_lemma => kernel_rfl) ?_
            refine LexAt.step 67 68 32 33 rfl rfl (by as_aux_lemma => kernel_rfl) ?_
            refine LexAt.step 68 69 31 32 rfl rfl (by as_aux_lemma => kernel_rfl) ?_
            refine LexAt.step 69 70 30 31 rfl rfl (by as_aux_lemma => kernel_rfl) ?_
            refine LexAt.step 70 71 29 30 rfl rfl (by as_aux_lemma => kernel_rfl) ?_
            refine LexAt.step 71 72 28 29 rfl rfl (by as_aux_lemma => kernel_rfl) ?_
            refine LexAt.step 72 73 27 28 rfl rfl (by as_aux_lemma => kernel_rfl) ?_
            refine LexAt.step 73 74 26 27 rfl rfl (by as_aux_lemma => kernel_rfl) ?_
            refine LexAt.step 74 75 25 26 rfl rfl (by as_aux_lemma => kernel_rfl) ?_
            refine LexAt.step 75 76 24 25 rfl rfl (by as_aux_lemma => kernel_rfl) ?_
            refine LexAt.step 76 77 23 24 rfl rfl (by as_aux_lemma => kernel_rfl) ?_
            refine LexAt.step 77 78 22 23 rfl rfl (by as_aux_lemma => kernel_rfl) ?_
            refine LexAt.step 78 79 21 22 rfl rfl (by as_aux_lemma => kernel_rfl) ?_
            refine LexAt.step 79 80 20 21 rfl rfl (by as_aux_lemma => kernel_rfl) ?_
            refine LexAt.step 80 81 19 20 rfl rfl (by as_aux_lemma => kernel_rfl) ?_
            refine LexAt.step 81 82 18 19 rfl rfl (by as_aux_lemma => kernel_rfl) ?_
            refine LexAt.step 82 83 17 18 rfl rfl (by as_aux_lemma => kernel_rfl) ?_
            refine LexAt.step 83 84 16 17 rfl rfl (by as_aux_lemma => kernel_rfl) ?_
            refine LexAt.step 84 85 15 16 rfl rfl (by as_aux_lemma => kernel_rfl) ?_
            refine LexAt.step 85 86 14 15 rfl rfl (by as_aux_lemma => kernel_rfl) ?_
            refine LexAt.step 86 87 13 14 rfl rfl (by as_aux_lemma => kernel_rfl) ?_
            refine LexAt.step 87 88 12 13 rfl rfl (by as_aux_lemma => kernel_rfl) ?_
            refine LexAt.step 88 89 11 12 rfl rfl (by as_aux_lemma => kernel_rfl) ?_
            refine LexAt.step 89 90 10 11 rfl rfl (by as_aux_lemma => kernel_rfl) ?_
            refine LexAt.step 90 91 9 10 rfl rfl (by as_aux_lemma => kernel_rfl) ?_
            refine LexAt.step 91 92 8 9 rfl rfl (by as_aux_lemma => kernel_rfl) ?_
            refine LexAt.step 92 93 7 8 rfl rfl (by as_aux_lemma => kernel_rfl) ?_
            refine LexAt.step 93 94 6 7 rfl rfl (by as_aux_lemma => kernel_rfl) ?_
            refine LexAt.step 94 95 5 6 rfl rfl (by as_aux_lemma => kernel_rfl) ?_
            refine LexAt.step 95 96 4 5 rfl rfl (by as_aux_lemma => kernel_rfl) ?_
            refine LexAt.step 96 97 3 4 rfl rfl (by as_aux_lemma => kernel_rfl) ?_
            refine LexAt.step 97 98 2 3 rfl rfl (by as_aux_lemma => kernel_rfl) ?_
            refine LexAt.step 98 99 1 2 rfl rfl (by as_aux_lemma => kernel_rfl) ?_
            refine LexAt.step 99 100 0 1 rfl rfl (by as_aux_lemma => kernel_rfl) ?_
            exact LexAt.done (by kernel_rfl))) ?_
          simp only [List.append_eq, List.cons_append, List.nil_append]
          iterate 20 (go_big_quiet_step (fail))
          as_aux_lemma =>
            iterate 20 (go_big_quiet_step (fail))
            as_aux_lemma =>
              iterate 20 (go_big_quiet_step (fail))
              as_aux_lemma =>
                iterate 20 (go_big_quiet_step (fail))
                as_aux_lemma =>
                  iterate 20 (go_big_quiet_step (fail))
                  refine wpQuiet_nil ?_
                  intro _ hw'
                  obtain ⟨nq, hw''⟩ := hw'
                  subst hw''
                  go_wp2_with fail
                  go_roundw
                  case rel => exact ⟨j + 1, q + nq, by omega, by go_num, by rw [HQ.out]; simp⟩
                  case measure => simp [intOf]; omega
      · obtain rfl : j = L.length := by omega
        clear hq BW
        go_wp2_with fail
        refine (uawake_any _).mono ?_
        rintro e w5 ⟨rfl, hb5⟩
        have D := Lib.hid (HBW.out.trans (hb5.mono HBW.out.size))
        clear hb5
        go_wp2_with fail
        go_ret
        exact ⟨rfl, D.out⟩
end Go.Proofs.Ytflbjmpbkcjdhaa
