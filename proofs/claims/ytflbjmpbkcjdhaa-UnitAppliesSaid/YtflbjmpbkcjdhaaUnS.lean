/- The law UnitApplies, walked. -/
import Derived.Test.YtflbjmpbkcjdhaaUnR
import Derived.Test.YtflbjmpbkcjdhaaUnO
namespace Go.Proofs.Ytflbjmpbkcjdhaa
open Go.RowKit Go.Maps
set_option maxRecDepth 100000
set_option linter.unusedSimpArgs false
set_option linter.unusedVariables false

theorem cellsOms_take (l : List Om) (k : Nat) : cellsOms (l.take k) = (cellsOms l).take (k * 3) := by
  have h : cellsOms l = cellsOms (l.take k) ++ cellsOms (l.drop k) := by rw [← cellsOms_append, List.take_append_drop]
  rcases Nat.lt_or_ge k l.length with hk | hk
  · rw [h, List.take_left' (by rw [cellsOms_length, List.length_take]; omega)]
  · rw [List.take_of_length_le hk, List.take_of_length_le (by rw [cellsOms_length]; omega)]
theorem cellsOms_drop (l : List Om) (k : Nat) (hk : k ≤ l.length) : cellsOms (l.drop k) = (cellsOms l).drop (k * 3) := by
  have h : cellsOms l = cellsOms (l.take k) ++ cellsOms (l.drop k) := by rw [← cellsOms_append, List.take_append_drop]
  rw [h, List.drop_left' (by rw [cellsOms_length, List.length_take]; omega)]
theorem ops_take {w : World} {B : Nat} {l : List Om} {A : Option Addr} {c : Nat} (h : OpsAt w B l A c) (k : Nat) : OpsAt w B (l.take k) A c :=
  ⟨by rw [List.length_take]; have := h.1; omega, h.2.1, by rw [cellsOms_take]; exact h.2.2.1.take _, fun m hm => h.2.2.2 m (List.mem_of_mem_take hm)⟩
theorem ops_drop {w : World} {B : Nat} {l : List Om} {A : Option Addr} {c : Nat} (h : OpsAt w B l A c) (k : Nat) (hk : k ≤ l.length) : OpsAt w B (l.drop k) (if c = k then A else A.map (fun x => x.add (k * 3))) (c - k) := by
  refine ⟨by rw [List.length_drop]; have := h.1; omega, by have := h.2.1; omega, ?_, fun m hm => h.2.2.2 m (List.mem_of_mem_drop hm)⟩
  rw [cellsOms_drop l k hk]
  by_cases hck : c = k
  · rw [if_pos hck]
    have : (cellsOms l).drop (k * 3) = [] := List.drop_eq_nil_of_le (by rw [cellsOms_length]; have := h.1; omega)
    rw [this]
    exact .inl rfl
  · rw [if_neg hck]
    have := h.2.2.1.drop (k * 3) (c * 3) (by rw [cellsOms_length]; omega) (by rw [cellsOms_length]; have := h.1; omega)
    rwa [if_neg (by omega)] at this
theorem small_few2 {l : List Om} (h : smallO (pl l) = true) : Few l := by
  have := smallO_len h
  rw [pl_length] at this
  refine ⟨by omega, fun m hm => ?_⟩
  have h2 := this.2 m.o (List.mem_map.2 ⟨m, hm, rfl⟩)
  omega
theorem few_take {l : List Om} (h : Few l) (k : Nat) : Few (l.take k) := ⟨by rw [List.length_take]; have := h.1; omega, fun m hm => h.2 m (List.mem_of_mem_take hm)⟩
theorem few_drop {l : List Om} (h : Few l) (k : Nat) : Few (l.drop k) := ⟨by rw [List.length_drop]; have := h.1; omega, fun m hm => h.2 m (List.mem_of_mem_drop hm)⟩
theorem part_at (x : Int) (n : Nat) : ∃ j, j ≤ n ∧ (bits .and .i64 x 255).tmod ((n : Int) + 1) = (j : Int) := by
  obtain ⟨q, _, _, h⟩ := mask_is x 255 8 (by omega) rfl
  rw [h]
  refine ⟨q % (n + 1), by have := Nat.mod_lt q (show 0 < n + 1 by omega); omega, ?_⟩
  rw [Int.tmod_eq_emod_of_nonneg (by omega)]
  push_cast
  rfl
theorem MapK.grown {w w' : World} {b b' : Nat} {L : List KV} (h : MapK w b L) (hg : w.grownBy w' (some b')) (hne : b ≠ b') : MapK w' b L :=
  MapF.block h (hg.block b (MapF.lt h) (fun e => hne (by injection e)))
theorem mapk_made (w : World) : MapK (w.alloc (.map #[] 0)) w.heap.size [] := MapF.made w
theorem keys_ok {L : List KV} {l : List Opx} (hl : ∀ o ∈ l, o.key.length ≤ 1000000) : (∀ p ∈ L, p.1.length ≤ 1000000) → ∀ p ∈ doAll L l, p.1.length ≤ 1000000 := by
  induction l generalizing L with
  | nil => intro h; exact h
  | cons o l ih =>
    intro h
    refine ih (L := doK L o) (fun x hx => hl x (by simp [hx])) (fun p hp => ?_)
    rcases doK_mem hp with e | hp
    · rw [e]; exact hl o (by simp)
    · exact h p hp
theorem len_drewN {w : World} {b : Nat} {L : List KV} (h : MapK w b L) (hr : Rising L) (hk : ∀ p ∈ L, p.1.length ≤ 1000000) (q : Nat) : (Builtin.len_ #[42] 3 #[.map (some b)]).run Try.prog (w.drewN q) = .ok (.int .i64 L.length) (w.drewN q) :=
  map_len (w := w.drewN q) (MapF.block h rfl) hr (fun p hp => ks_map _ (hk p hp)) _
theorem run_makeMap_none {P : Program} (t k e : TypeId) (w : World) (ht : P.underlying t = some (.map k e)) : (Instr.makeMap t none).run P w = .ok (.map (some w.heap.size)) (w.alloc (.map #[] 0)) := by
  simp [Instr.makeMap, Result.andThen]
set_option maxHeartbeats 2000000 in
theorem uapplies_law (a b : List Om) (A1 A2 : Option Addr) (c1 c2 B : Nat) (k : Int) (w : World) (ht1 : OpsAt w B a A1 c1) (ht2 : OpsAt w B b A2 c2) (hB : B ≤ w.heap.size) (hb1 : BearO a) (hb2 : BearO b) :
    Calls Try.prog 5 #[.slice A1 a.length c1, .slice A2 b.length c2, .int .i64 k] w fun e w' => e = .returned (.bool true) ∧ Below w.heap.size w w' := by
  have HT1 := Lib.hid ht1
  have HT2 := Lib.hid ht2
  have HE1 := Lib.hid hb1.2
  have HE2 := Lib.hid hb2.2
  have hl1 := ht1.1
  have hm1 := ht1.2.1
  have hl2 := ht2.1
  have hm2 := ht2.2.1
  unfold maxLen at hm1 hm2
  obtain ⟨s1, hs1⟩ : ∃ s, s = smallO (pl a) := ⟨_, rfl⟩
  obtain ⟨s2, hs2⟩ : ∃ s, s = smallO (pl b) := ⟨_, rfl⟩
  have HS1 := Lib.hid hs1
  have HS2 := Lib.hid hs2
  clear ht1 ht2 hb1 hb2 hs1 hs2
  go_enter Try.func5, Try.ntmps5
  go_wp2_with fail
  refine (usmall_any a A1 _ c1 B _ rfl HT1.out hB HE1.out).mono ?_
  rintro e w1 ⟨rfl, hb1⟩
  rw [← HS1.out]
  have B1 := Lib.hid hb1
  clear hb1
  cases s1 with
  | false =>
    go_wp2_with fail
    refine (uawake_any _).mono ?_
    rintro e w2 ⟨rfl, hb2⟩
    have D := Lib.hid (B1.out.trans (hb2.mono B1.out.size))
    clear hb2
    go_wp2_with fail
    go_ret
    exact ⟨rfl, D.out⟩
  | true =>
    have HF1 := Lib.hid (small_few2 HS1.out.symm)
    go_wp2_with fail
    refine (usmall_any b A2 _ c2 B _ rfl (HT2.out.below (B1.out.mono hB)) (Nat.le_trans hB B1.out.size) HE2.out).mono ?_
    rintro e w2 ⟨rfl, hb2⟩
    rw [← HS2.out]
    have B2 := Lib.hid (B1.out.trans (hb2.mono B1.out.size))
    clear hb2
    cases s2 with
    | false =>
      go_wp2_with fail
      refine (uawake_any _).mono ?_
      rintro e w3 ⟨rfl, hb3⟩
      have D := Lib.hid (B2.out.trans (hb3.mono B2.out.size))
      clear hb3
      go_wp2_with fail
      go_ret
      exact ⟨rfl, D.out⟩
    | true =>
      have HF2 := Lib.hid (small_few2 HS2.out.symm)
      go_wp2_with fail
      refine (utame_any a A1 _ c1 B _ rfl (HT1.out.below (B2.out.mono hB)) (Nat.le_trans hB B2.out.size) HF1.out).mono ?_
      rintro e w3 ⟨A3, c3, rfl, t3, hb3⟩
      have B3 := Lib.hid (B2.out.trans (hb3.mono B2.out.size))
      have T3 := Lib.hid t3
      clear t3 hb3
      go_wp2_with fail
      refine (utame_any b A2 _ c2 B _ rfl (HT2.out.below (B3.out.mono hB)) (Nat.le_trans hB B3.out.size) HF2.out).mono ?_
      rintro e w4 ⟨A4, c4, rfl, t4, hb4⟩
      have B4 := Lib.hid (B3.out.trans (hb4.mono B3.out.size))
      have T3 := Lib.hid ((T3.out.below hb4).more hb4.size)
      have T4 := Lib.hid t4
      obtain ⟨LA, hLA⟩ : ∃ L, L = tameM a := ⟨_, rfl⟩
      obtain ⟨LB, hLB⟩ : ∃ L, L = tameM b := ⟨_, rfl⟩
      have hla : LA.length ≤ 30 := by rw [hLA, ← pl_length, pl_tame]; exact tameO_len _
      have hlb : LB.length ≤ 30 := by rw [hLB, ← pl_length, pl_tame]; exact tameO_len _
      have FA := Lib.hid (tameM_few a)
      have FB := Lib.hid (tameM_few b)
      rw [← hLA] at T3 FA ⊢
      rw [← hLB] at T4 FB ⊢
      clear t4 hb4 hLA hLB HT1 HT2 HE1 HE2 HF1 HF2 HS1 HS2
      obtain ⟨i0, hi, hz0, hz1, hz2⟩ := info_parts2 om_info
      have HI := Lib.hid hi
      have H0 := Lib.hid hz0
      have H1 := Lib.hid hz1
      have H2 := Lib.hid hz2
      clear hi hz0 hz1 hz2
      have OW : Hid ((w4.alloc (.cells #[] 24)).ownsRow w4.heap.size 24 3 (.slice (some ⟨w4.heap.size, 0, none⟩) 0 0) 0 []) := Lib.hid (World.ownsRow_made w4 #[] 0 (Nat.le_refl _) (Nat.zero_le _) rfl)
      have BA : Hid (Below w4.heap.size w4 (w4.alloc (.cells #[] 24))) := Lib.hid ((Below.refl _ _).alloc (Nat.le_refl _) _)
      have LT3 : Hid (Lies (w4.alloc (.cells #[] 24)) w4.heap.size A3 (cellsOms LA)) := Lib.hid (T3.out.2.2.1.below BA.out)
      have HSA := Lib.hid BA.out.size
      have KA : Hid ((cellsOms LA).length = LA.length * 3) := Lib.hid (cellsOms_length LA)
      have KB : Hid ((cellsOms LB).length = LB.length * 3) := Lib.hid (cellsOms_length LB)
      have R1 : Hid (0 + LA.length ≤ maxLen) := Lib.hid (room63 (by omega))
      have R2 : Hid ((0 + LA.length) * 48 ≤ 140737488355328) := Lib.hid (by omega)
      have R3 : Hid (LA.length + LB.length ≤ maxLen) := Lib.hid (room63 (by omega))
      have R4 : Hid ((LA.length + LB.length) * 48 ≤ 140737488355328) := Lib.hid (by omega)
      have mm := fun w => run_makeMap_none (P := Try.prog) 42 _ _ w Try.underlying42
      have mk1 := True.intro
      have mk2 := True.intro
      go_wp2_with (first
        | (at_builtin; clear mk1; refine wpList_append_cells rfl _ _ 25 rfl w4.heap.size 24 i0 _ 3 48 Try.underlying25 HI.out H0.out H1.out H2.out rfl (by omega) (.slice (some ⟨w4.heap.size, 0, none⟩) 0 0) 0 [] rfl OW.out _ A3 LA.length c3 (cellsOms LA) rfl LT3.out KA.out (cellsOms_one _) R1.out R2.out HSA.out ?_; intro v5 w5 o5 b5; rw [Nat.zero_add, List.nil_append] at o5; obtain ⟨A5, c5, rfl, _, _⟩ := own_form o5; have B5 := Lib.hid (BA.out.trans b5); have O5 := Lib.hid o5; have LT4 : Hid (Lies w5 w4.heap.size A4 (cellsOms LB)) := Lib.hid (T4.out.2.2.1.below B5.out); have HS5 := Lib.hid B5.out.size; clear o5 b5)
        | (at_builtin; clear mk2; refine wpList_append_cells rfl _ _ 25 rfl w4.heap.size 24 i0 _ 3 48 Try.underlying25 HI.out H0.out H1.out H2.out rfl (by omega) (.slice A5 LA.length c5) LA.length _ rfl O5.out _ A4 LB.length c4 (cellsOms LB) rfl LT4.out KB.out (cellsOms_one _) R3.out R4.out HS5.out ?_; intro v6 w6 o6 b6; obtain ⟨N, hN⟩ : ∃ N, N = LA.length + LB.length := ⟨_, rfl⟩; rw [← hN] at o6; obtain ⟨A6, c6, rfl, hc6, hm6⟩ := own_form o6; have B6 := Lib.hid (B5.out.trans b6); have O6 := Lib.hid o6; have HN := Lib.hid hN; have hN60 : N ≤ 60 := (by omega); clear o6 b6 hN))
      obtain ⟨LL, hLL⟩ : ∃ L, L = LA ++ LB := ⟨_, rfl⟩
      have hN2 : N = LL.length := by rw [HN.out, hLL, List.length_append]
      have TL6 : OpsAt w6 w6.heap.size LL A6 c6 := by
        refine ⟨by omega, hm6, ?_, fun m hm => ?_⟩
        · rw [hLL, cellsOms_append]; exact own_lies O6.out (Nat.le_refl _)
        · rw [hLL] at hm
          rcases List.mem_append.1 hm with hm | hm
          · exact ((T3.out.2.2.2 m hm).below B6.out).more B6.out.size
          · exact ((T4.out.2.2.2 m hm).below B6.out).more B6.out.size
      have FL : Hid (Few LL) := Lib.hid ⟨by omega, fun m hm => by
        rw [hLL] at hm
        rcases List.mem_append.1 hm with hm | hm
        · exact FA.out.2 m hm
        · exact FB.out.2 m hm⟩
      have BW6 := Lib.hid (B4.out.trans (B6.out.mono B4.out.size))
      obtain ⟨W7, hW7⟩ : ∃ W, W = w6.alloc (.map #[] 0) := ⟨_, rfl⟩
      obtain ⟨W8, hW8⟩ : ∃ W, W = W7.alloc (.map #[] 0) := ⟨_, rfl⟩
      have b7 : Below w6.heap.size w6 W7 := by rw [hW7]; exact (Below.refl _ _).alloc (Nat.le_refl _) _
      have z7 : W7.heap.size = w6.heap.size + 1 := by rw [hW7]; simp
      have b78 : Below W7.heap.size W7 W8 := by rw [hW8]; exact (Below.refl _ _).alloc (Nat.le_refl _) _
      have b8 : Below w6.heap.size w6 W8 := b7.trans (b78.mono b7.size)
      obtain ⟨bm, hbm⟩ : ∃ b, b = w6.heap.size := ⟨_, rfl⟩
      have M8 : MapK W8 bm [] := by rw [hbm]; exact (MapK.kept (by rw [hW7]; exact mapk_made w6) b78)
      have N8 : MapK W8 (bm + 1) [] := by rw [hbm, ← z7, hW8]; exact mapk_made W7
      have T8 := Lib.hid (TL6.below b8)
      have HM8 := Lib.hid M8
      have HN8 := Lib.hid N8
      have HB8 := Lib.hid b8
      have HLLl := Lib.hid hN2
      have HBM := Lib.hid hbm
      rw [← hbm] at T8
      clear OW BA LT3 HSA KA KB R1 R2 R3 R4 O5 B5 LT4 HS5 O6 HN T3 T4 FA FB hLL hN2 TL6 b7 b78 b8 M8 N8 B1 B2 B3
      rw [← hW7, ← hW8, ← hbm]
      clear hW7 hW8 z7 hbm mm
      refine (uapply_any LL A6 _ c6 bm bm [] _ HLLl.out T8.out (Nat.le_refl _) HM8.out List.Pairwise.nil FL.out (Nat.zero_le _)).mono ?_
      rintro e w9 ⟨rfl, m9, g9⟩
      have HM9 := Lib.hid m9
      have HN9 := Lib.hid (HN8.out.grown g9 (by omega))
      have T9 := Lib.hid (ops_grown T8.out g9 (by have := MapF.lt HM8.out; omega) (Nat.le_refl _))
      have B9 := Lib.hid (HB8.out.trans (below_only g9 (by rw [HBM.out]; exact Nat.le_refl _) HB8.out.size))
      clear m9 g9
      obtain ⟨j, hj, hpart⟩ := part_at k N
      have hw1 : IntKind.i64.wrap ((N : Int) + 1) = (N : Int) + 1 := IntWalk.i64_in _ ⟨by omega, by omega⟩
      have hnz : ¬ ((N : Int) + 1 = 0) := by omega
      have hjN : (j : Int) ≤ (N : Int) := by omega
      have hNc : N ≤ c6 := hc6
      have hcm6 := hm6
      unfold maxLen at hcm6
      have hjc : (j : Int) ≤ (c6 : Int) := by omega
      have hj' : j ≤ LL.length := by rw [← HLLl.out]; exact hj
      have HTL : Hid (j = (LL.take j).length) := Lib.hid (by rw [List.length_take]; omega)
      have HDL : Hid (N - j = (LL.drop j).length) := Lib.hid (by rw [List.length_drop, HLLl.out])
      go_wp2_with fail
      refine (uapply_any (LL.take j) A6 _ c6 bm (bm + 1) [] _ HTL.out (ops_take T9.out j) (by omega) HN9.out List.Pairwise.nil (few_take FL.out j) (Nat.zero_le _)).mono ?_
      rintro e w10 ⟨rfl, m10, g10⟩
      have HN10 := Lib.hid m10
      have HM10 := Lib.hid (HM9.out.grown g10 (by omega))
      have T10 := Lib.hid (ops_grown T9.out g10 (by have := MapF.lt HM9.out; omega) (by omega))
      have B10 := Lib.hid (B9.out.trans (below_only g10 (by rw [HBM.out]; omega) B9.out.size))
      clear m10 g10
      have td := ops_drop T10.out j hj'
      by_cases hcj : c6 = j
      · rw [if_pos hcj, show c6 - j = 0 by omega] at td
        have TD := Lib.hid td
        clear td
        have hcj' := hcj.symm
        subst hcj'
        go_wp2_with fail
        refine (uapply_any (LL.drop j) _ _ _ bm (bm + 1) (doAll [] (pl (LL.take j))) _ (by have := HDL.out; omega) TD.out (by omega) HN10.out (doAll_rising List.Pairwise.nil _) (few_drop FL.out j) (by
          have := doAll_length [] (pl (LL.take j))
          rw [pl_length, List.length_take] at this
          simp at this
          omega)).mono ?_
        rintro e w11 ⟨rfl, m11, g11⟩
        rw [← doAll_append, ← pl_append, List.take_append_drop] at m11
        have HN11 := Lib.hid m11
        have HM11 := Lib.hid (HM10.out.grown g11 (by omega))
        have T11 := Lib.hid (ops_grown T10.out g11 (by have := MapF.lt HM10.out; omega) (by omega))
        have B11 := Lib.hid (B10.out.trans (below_only g11 (by rw [HBM.out]; omega) B10.out.size))
        have hbw : bm + 1 < w11.heap.size := MapF.lt HN11.out
        obtain ⟨W12, hW12⟩ : ∃ W, W = w11.alloc (.cells #[.slice none 0 0] 47) := ⟨_, rfl⟩
        have b12 : Below w11.heap.size w11 W12 := by rw [hW12]; exact (Below.refl _ _).alloc (Nat.le_refl _) _
        have R12 : Hid (RMap W12 w11.heap.size [] none 0) := Lib.hid ⟨by rw [hW12]; exact Whole.new _ _ _, Nat.le_refl _, Nat.zero_le _, fun ad h => (by cases h), .inl rfl⟩
        have HM12 := Lib.hid (HM11.out.kept b12)
        have HN12 := Lib.hid (HN11.out.kept b12)
        have T12 := Lib.hid (T11.out.below (b12.mono (by omega)))
        have B12 := Lib.hid (B11.out.trans (b12.mono B11.out.size))
        obtain ⟨g, hg⟩ : ∃ g, g = w11.heap.size := ⟨_, rfl⟩
        rw [← hg] at R12 hbw
        have hgb : w6.heap.size ≤ g := by rw [← HBM.out]; omega
        clear m11 g11 b12
        go_wp2_with fail
        rw [← hW12, ← hg]
        clear hW12 hg
        refine (rdo_any LL A6 _ j bm g [] none 0 _ HLLl.out T12.out (by omega) R12.out FL.out (Nat.zero_le _)).mono ?_
        rintro e w13 ⟨rfl, ⟨A13, c13, r13⟩, g13⟩
        obtain ⟨KL, hKL⟩ : ∃ K, K = doAll [] (pl LL) := ⟨_, rfl⟩
        have hKr : Rising KL := by rw [hKL]; exact doAll_rising List.Pairwise.nil _
        have hKl : KL.length ≤ 60 := by
          have := doAll_length [] (pl LL)
          rw [pl_length, ← HLLl.out] at this
          simp at this
          rw [hKL]
          omega
        have hKk : ∀ p ∈ KL, p.1.length ≤ 1000000 := by
          rw [hKL]
          refine keys_ok (fun o ho => ?_) (fun p hp => by cases hp)
          obtain ⟨m, hm, rfl⟩ := List.mem_map.1 ho
          exact (FL.out.2 m hm).1
        rw [← hKL] at r13
        have M13 := Lib.hid (HM12.out.grown g13 (by omega))
        have N13 := Lib.hid (HN12.out.grown g13 (by omega))
        rw [← hKL] at M13 N13
        have B13 := Lib.hid (B12.out.trans (below_only g13 hgb B12.out.size))
        have R13 := Lib.hid r13
        have KR := Lib.hid hKr
        have KK := Lib.hid hKk
        have y0 : w13.cell? ⟨g, 0, none⟩ = some (.slice A13 KL.length c13) := r13.box.cell 0
        have lm := fun q => len_drewN M13.out hKr hKk q
        have ln := fun q => len_drewN N13.out hKr hKk q
        have hc13 := r13.len
        have hm13 := r13.cap
        unfold maxLen at hm13
        clear r13 g13 hKL hKr hKk HM8 HM9 HM10 HM11 HM12 HN8 HN9 HN10 HN11 HN12 T8 T9 T10 T11 T12 R12 hpart hw1 hnz HTL HDL hjN hjc hj' hNc
        have BZ := Lib.hid (BW6.out.trans (B13.out.mono BW6.out.size))
        go_wp2_with fail
        go_quiet (fail)
        go_wp2_with fail
        go_loopw [11] (fun i wr => ∃ (t q : Nat), t ≤ KL.length ∧ i = .int .i64 t ∧ wr = w13.drewN q) (fun i _ => KL.length - (intOf i).toNat)
        case atStart => exact ⟨0, _, Nat.zero_le _, rfl, rfl⟩
        case round =>
          obtain ⟨t, q, ht, rfl, hq⟩ := hrel
          have HQ := Lib.hid hq
          have BW : Below w.heap.size w wr := by rw [hq]; exact below_drewN BZ.out q
          have HBW := Lib.hid BW
          have z0 : wr.cell? ⟨g, 0, none⟩ = some (.slice A13 KL.length c13) := by rw [hq]; exact y0
          by_cases htl : t < KL.length
          · have MW : MapK wr bm KL := by rw [hq]; exact MapF.block M13.out rfl
            have NW : MapK wr (bm + 1) KL := by rw [hq]; exact MapF.block N13.out rfl
            have kk := ks_map _ (KK.out _ (List.getElem_mem htl))
            have lk1 := MW.look KR.out t htl kk
            have lk2 := NW.look KR.out t htl kk
            obtain ⟨bq, oq, rfl, hbq, e1, e2⟩ := lies_kv (show Lies wr w13.heap.size A13 (cellsKvs KL) by rw [hq]; exact R13.out.row) t htl
            obtain ⟨p, hp⟩ : ∃ p, p = KL[t] := ⟨_, rfl⟩
            rw [← hp] at e1 e2 lk1 lk2
            have ht1 : (t : Int) < (KL.length : Int) := by omega
            clear hq BW MW NW kk hp
            go_wp2_with fail
            go_roundw
            case rel => exact ⟨t + 1, q, by omega, by go_num, HQ.out⟩
            case measure => simp [intOf]; omega
          · obtain rfl : t = KL.length := by omega
            clear hq BW
            go_wp2_with fail
            refine (uawake_any _).mono ?_
            rintro e w15 ⟨rfl, hb15⟩
            have D := Lib.hid (HBW.out.trans (hb15.mono HBW.out.size))
            clear hb15
            go_wp2_with fail
            go_ret
            exact ⟨rfl, D.out⟩
      · rw [if_neg hcj] at td
        have TD := Lib.hid td
        clear td
        go_wp2_with fail
        refine (uapply_any (LL.drop j) _ _ _ bm (bm + 1) (doAll [] (pl (LL.take j))) _ (by have := HDL.out; omega) TD.out (by omega) HN10.out (doAll_rising List.Pairwise.nil _) (few_drop FL.out j) (by
          have := doAll_length [] (pl (LL.take j))
          rw [pl_length, List.length_take] at this
          simp at this
          omega)).mono ?_
        rintro e w11 ⟨rfl, m11, g11⟩
        rw [← doAll_append, ← pl_append, List.take_append_drop] at m11
        have HN11 := Lib.hid m11
        have HM11 := Lib.hid (HM10.out.grown g11 (by omega))
        have T11 := Lib.hid (ops_grown T10.out g11 (by have := MapF.lt HM10.out; omega) (by omega))
        have B11 := Lib.hid (B10.out.trans (below_only g11 (by rw [HBM.out]; omega) B10.out.size))
        have hbw : bm + 1 < w11.heap.size := MapF.lt HN11.out
        obtain ⟨W12, hW12⟩ : ∃ W, W = w11.alloc (.cells #[.slice none 0 0] 47) := ⟨_, rfl⟩
        have b12 : Below w11.heap.size w11 W12 := by rw [hW12]; exact (Below.refl _ _).alloc (Nat.le_refl _) _
        have R12 : Hid (RMap W12 w11.heap.size [] none 0) := Lib.hid ⟨by rw [hW12]; exact Whole.new _ _ _, Nat.le_refl _, Nat.zero_le _, fun ad h => (by cases h), .inl rfl⟩
        have HM12 := Lib.hid (HM11.out.kept b12)
        have HN12 := Lib.hid (HN11.out.kept b12)
        have T12 := Lib.hid (T11.out.below (b12.mono (by omega)))
        have B12 := Lib.hid (B11.out.trans (b12.mono B11.out.size))
        obtain ⟨g, hg⟩ : ∃ g, g = w11.heap.size := ⟨_, rfl⟩
        rw [← hg] at R12 hbw
        have hgb : w6.heap.size ≤ g := by rw [← HBM.out]; omega
        clear m11 g11 b12
        go_wp2_with fail
        rw [← hW12, ← hg]
        clear hW12 hg
        refine (rdo_any LL A6 _ c6 bm g [] none 0 _ HLLl.out T12.out (by omega) R12.out FL.out (Nat.zero_le _)).mono ?_
        rintro e w13 ⟨rfl, ⟨A13, c13, r13⟩, g13⟩
        obtain ⟨KL, hKL⟩ : ∃ K, K = doAll [] (pl LL) := ⟨_, rfl⟩
        have hKr : Rising KL := by rw [hKL]; exact doAll_rising List.Pairwise.nil _
        have hKl : KL.length ≤ 60 := by
          have := doAll_length [] (pl LL)
          rw [pl_length, ← HLLl.out] at this
          simp at this
          rw [hKL]
          omega
        have hKk : ∀ p ∈ KL, p.1.length ≤ 1000000 := by
          rw [hKL]
          refine keys_ok (fun o ho => ?_) (fun p hp => by cases hp)
          obtain ⟨m, hm, rfl⟩ := List.mem_map.1 ho
          exact (FL.out.2 m hm).1
        rw [← hKL] at r13
        have M13 := Lib.hid (HM12.out.grown g13 (by omega))
        have N13 := Lib.hid (HN12.out.grown g13 (by omega))
        rw [← hKL] at M13 N13
        have B13 := Lib.hid (B12.out.trans (below_only g13 hgb B12.out.size))
        have R13 := Lib.hid r13
        have KR := Lib.hid hKr
        have KK := Lib.hid hKk
        have y0 : w13.cell? ⟨g, 0, none⟩ = some (.slice A13 KL.length c13) := r13.box.cell 0
        have lm := fun q => len_drewN M13.out hKr hKk q
        have ln := fun q => len_drewN N13.out hKr hKk q
        have hc13 := r13.len
        have hm13 := r13.cap
        unfold maxLen at hm13
        clear r13 g13 hKL hKr hKk HM8 HM9 HM10 HM11 HM12 HN8 HN9 HN10 HN11 HN12 T8 T9 T10 T11 T12 R12 hpart hw1 hnz HTL HDL hjN hjc hj' hNc
        have BZ := Lib.hid (BW6.out.trans (B13.out.mono BW6.out.size))
        go_wp2_with fail
        go_quiet (fail)
        go_wp2_with fail
        go_loopw [11] (fun i wr => ∃ (t q : Nat), t ≤ KL.length ∧ i = .int .i64 t ∧ wr = w13.drewN q) (fun i _ => KL.length - (intOf i).toNat)
        case atStart => exact ⟨0, _, Nat.zero_le _, rfl, rfl⟩
        case round =>
          obtain ⟨t, q, ht, rfl, hq⟩ := hrel
          have HQ := Lib.hid hq
          have BW : Below w.heap.size w wr := by rw [hq]; exact below_drewN BZ.out q
          have HBW := Lib.hid BW
          have z0 : wr.cell? ⟨g, 0, none⟩ = some (.slice A13 KL.length c13) := by rw [hq]; exact y0
          by_cases htl : t < KL.length
          · have MW : MapK wr bm KL := by rw [hq]; exact MapF.block M13.out rfl
            have NW : MapK wr (bm + 1) KL := by rw [hq]; exact MapF.block N13.out rfl
            have kk := ks_map _ (KK.out _ (List.getElem_mem htl))
            have lk1 := MW.look KR.out t htl kk
            have lk2 := NW.look KR.out t htl kk
            obtain ⟨bq, oq, rfl, hbq, e1, e2⟩ := lies_kv (show Lies wr w13.heap.size A13 (cellsKvs KL) by rw [hq]; exact R13.out.row) t htl
            obtain ⟨p, hp⟩ : ∃ p, p = KL[t] := ⟨_, rfl⟩
            rw [← hp] at e1 e2 lk1 lk2
            have ht1 : (t : Int) < (KL.length : Int) := by omega
            clear hq BW MW NW kk hp
            go_wp2_with fail
            go_roundw
            case rel => exact ⟨t + 1, q, by omega, by go_num, HQ.out⟩
            case measure => simp [intOf]; omega
          · obtain rfl : t = KL.length := by omega
            clear hq BW
            go_wp2_with fail
            refine (uawake_any _).mono ?_
            rintro e w15 ⟨rfl, hb15⟩
            have D := Lib.hid (HBW.out.trans (hb15.mono HBW.out.size))
            clear hb15
            go_wp2_with fail
            go_ret
            exact ⟨rfl, D.out⟩
end Go.Proofs.Ytflbjmpbkcjdhaa
