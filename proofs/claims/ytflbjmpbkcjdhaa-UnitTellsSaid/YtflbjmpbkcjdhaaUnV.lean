/- Layer 13: the document's own Ops, walked. -/
import Derived.Test.YtflbjmpbkcjdhaaUnU
import Derived.Test.YtflbjmpbkcjdhaaUnL
namespace Go.Proofs.Ytflbjmpbkcjdhaa
open Go.RowKit
set_option maxRecDepth 100000
set_option linter.unusedSimpArgs false
set_option linter.unusedVariables false

/-- what a text's parts are, where none is short -/
theorem txt_parts {k : Nat} {x : List UInt8} (h : txtShort k x = false) : ∃ n, k + n ≤ x.length ∧ txt k x = (x.drop k).take n ∧ txtRest k x = x.drop (k + n) := by
  unfold txtShort at h
  rw [Bool.or_eq_false_iff] at h
  obtain ⟨h1, h2⟩ := h
  unfold short at h1 h2
  simp only [decide_eq_false_iff_not, Nat.not_lt] at h1 h2
  have e1 : rst k x = x.drop k := rst_yes h1
  rw [e1] at h2
  refine ⟨nat (tk k x), by rw [List.length_drop] at h2; omega, ?_, ?_⟩
  · unfold txt; rw [e1, tk_yes h2]
  · unfold txtRest; rw [e1, rst_yes h2, List.drop_drop]
/-- where a value stands -/
def PosAt (b : List UInt8) (t : Tl) : Prop := t.o.del = false → t.pos + t.o.val.length ≤ b.length ∧ (b.drop t.pos).take t.o.val.length = t.o.val
theorem nextP_at {b r : List UInt8} {t : Tl} {p : Nat} (hp : p < b.length) (h : nextP b.length (b.drop p) = some (t, r)) : ∃ q, p < q ∧ q ≤ b.length ∧ r = b.drop q ∧ PosAt b t := by
  obtain ⟨e1, e2, _⟩ := next_at hp
  unfold nextP at h
  rw [e2] at h
  split at h
  · unfold putP at h
    simp only at h
    split at h
    · rename_i h2
      simp only [Bool.and_eq_true, Bool.not_eq_true', Bool.or_eq_false_iff] at h2
      obtain ⟨⟨s1, s4⟩, _⟩ := h2
      obtain ⟨n1, l1, _, r1⟩ := txt_parts s1
      rw [List.drop_drop] at r1
      rw [r1] at s4 h
      obtain ⟨n4, l4, t4, r4⟩ := txt_parts s4
      rw [List.drop_drop] at t4 r4
      rw [List.length_drop] at l1 l4
      injection h with h
      injection h with ht hr
      subst ht
      refine ⟨p + 1 + (1 + n1) + (4 + n4), by omega, by omega, by rw [← hr, r4], fun _ => ?_⟩
      have e : ((b.drop (p + 1 + (1 + n1) + 4)).take n4).length = n4 := by rw [List.length_take, List.length_drop]; omega
      simp only
      rw [r4, t4, e, List.length_drop, show b.length - (b.length - (p + 1 + (1 + n1) + (4 + n4))) - n4 = p + 1 + (1 + n1) + 4 by omega]
      exact ⟨by omega, rfl⟩
    · cases h
  · split at h
    · unfold delP at h
      simp only at h
      split at h
      · rename_i h2
        simp only [Bool.and_eq_true, Bool.not_eq_true'] at h2
        obtain ⟨s1, _⟩ := h2
        obtain ⟨n1, l1, _, r1⟩ := txt_parts s1
        rw [List.drop_drop] at r1
        rw [List.length_drop] at l1
        injection h with h
        injection h with ht hr
        subst ht
        exact ⟨p + 1 + (1 + n1), by omega, by omega, by rw [← hr, r1], fun hd => by cases hd⟩
      · cases h
    · cases h
theorem opsF_at {b : List UInt8} : ∀ (n p : Nat) (ts : List Tl), p ≤ b.length → opsF b.length n (b.drop p) = some ts → b.length - p ≤ n → ts.length + p ≤ b.length ∧ ∀ t ∈ ts, fitO t.o = true ∧ PosAt b t := by
  intro n
  induction n with
  | zero =>
    intro p ts hp h hn
    have e : b.drop p = [] := List.eq_nil_of_length_eq_zero (by rw [List.length_drop]; omega)
    rw [e, opsF, if_pos rfl] at h
    injection h with h
    subst h
    exact ⟨by simpa using hp, by simp⟩
  | succ n ih =>
    intro p ts hp h hn
    by_cases he : p = b.length
    · have e : b.drop p = [] := List.eq_nil_of_length_eq_zero (by rw [List.length_drop]; omega)
      rw [e, opsF, if_pos rfl] at h
      injection h with h
      subst h
      exact ⟨by simpa using hp, by simp⟩
    · have hlt : p < b.length := by omega
      have hne := (next_at hlt).2.2
      rw [opsF, if_neg hne] at h
      cases e : nextP b.length (b.drop p) with
      | none => rw [e] at h; cases h
      | some x =>
        obtain ⟨t, r⟩ := x
        rw [e] at h
        simp only at h
        obtain ⟨q, h1, h2, rfl, h3⟩ := nextP_at hlt e
        cases e2 : opsF b.length n (b.drop q) with
        | none => rw [e2] at h; cases h
        | some us =>
          rw [e2] at h
          simp only [Option.map_some] at h
          injection h with h
          subst h
          obtain ⟨g1, g2⟩ := ih q us h2 e2 (by omega)
          refine ⟨by rw [List.length_cons]; omega, fun u hu => ?_⟩
          rcases List.mem_cons.1 hu with rfl | hu
          · exact ⟨nextP_fit e, h3⟩
          · exact g2 u hu
theorem unitP_at {b : List UInt8} {ts : List Tl} (h : unitP b = some ts) : b.length ≤ 190000 ∧ ts.length ≤ b.length ∧ ∀ t ∈ ts, fitO t.o = true ∧ PosAt b t := by
  unfold unitP at h
  split at h
  · cases h
  · rename_i h1
    unfold opsP at h
    obtain ⟨h2, h3⟩ := opsF_at b.length 0 ts (Nat.zero_le _) (by simpa using h) (by omega)
    exact ⟨by omega, by omega, h3⟩
/-- the op of a place -/
def opOf (A : Option Addr) (c : Nat) (t : Tl) : Om := if t.o.del = true then ⟨t.o, none, 0⟩ else ⟨t.o, if c = t.pos then A else A.map (·.add t.pos), c - t.pos⟩
theorem pl_of (A : Option Addr) (c : Nat) (ts : List Tl) : pl (ts.map (opOf A c)) = ts.map (·.o) := by
  unfold pl
  rw [List.map_map]
  refine List.map_congr_left fun t _ => ?_
  simp only [Function.comp_apply]
  unfold opOf
  split <;> rfl
theorem of_val {w : World} {B : Nat} {A : Option Addr} {c : Nat} {b : List UInt8} {t : Tl} (hl : Lies w B A (B8 b)) (hc : b.length ≤ c) (hm : c ≤ maxLen) (h : fitO t.o = true ∧ PosAt b t) : ValAt w B (opOf A c t) := by
  unfold opOf
  split
  · rename_i hd
    have e := (fitO_is h.1).2.2.2 hd
    refine ⟨.inl ?_, ?_, Nat.zero_le _⟩
    · simp only [e]; rfl
    · simp only [e]; exact Nat.le_refl _
  · rename_i hd
    obtain ⟨h1, h2⟩ := h.2 (by simpa using hd)
    refine ⟨?_, by simp only; omega, by simp only; omega⟩
    have g1 := (hl.drop t.pos c (by rw [B8_length]; omega) (by rw [B8_length]; exact hc)).take t.o.val.length
    have g2 : ((B8 b).drop t.pos).take t.o.val.length = B8 t.o.val := by
      unfold B8
      rw [← List.map_drop, ← List.map_take, h2]
    rwa [g2] at g1
/-- where the walk stands -/
structure RoAt (w wr : World) (A : Option Addr) (c : Nat) (ts : List Tl) (j : Nat) (v : Value) : Prop where
  own : wr.ownsRow w.heap.size 24 3 v j (cellsOms ((ts.take j).map (opOf A c)))
  bel : Below w.heap.size w wr
set_option maxHeartbeats 2000000 in
theorem rops_any (A : Option Addr) (n c B : Nat) (b : List UInt8) (w : World) (hn : n = b.length) (hl : Lies w B A (B8 b)) (hB : B ≤ w.heap.size) (hc : n ≤ c) (hm : c ≤ maxLen) :
    Calls Try.prog 12 #[.slice A n c] w (ParseU (unitP b) w) := by
  subst hn
  obtain ⟨i0, hi, hz0, hz1, hz2⟩ := info_parts2 om_info
  have HI := Lib.hid hi
  have H0 := Lib.hid hz0
  have H1 := Lib.hid hz1
  have H2 := Lib.hid hz2
  have HL := Lib.hid hl
  have HM := Lib.hid hm
  have PL := Lib.hid (rplaces_any A _ c B b w rfl hl hB hc hm)
  unfold maxLen at hm
  clear hl hi hz0 hz1 hz2
  go_enter Try.func12, Try.ntmps12
  go_wp2_with fail
  refine PL.out.mono ?_
  intro e w1 hE
  obtain ⟨hb1, hE⟩ := hE
  obtain ⟨r, hr⟩ : ∃ r, r = unitP b := ⟨_, rfl⟩
  rw [← hr] at hE
  have HR := Lib.hid hr
  have HB1 := Lib.hid hb1
  clear hb1 hr
  rcases r with _ | ts
  · obtain rfl := hE
    go_wp2_with fail
    go_ret2
    exact ParseU.no HR.out.symm HB1.out
  · obtain ⟨A4, c4, rfl, hc4, hm4, l4⟩ := hE
    obtain ⟨g1, g2, g3⟩ := unitP_at HR.out.symm
    have L4 := Lib.hid l4
    have G3 := Lib.hid g3
    unfold maxLen at hm4
    clear l4 g3
    go_wp2_with fail
    go_loopw [6, 7] (fun v i wr => ∃ j : Nat, j ≤ ts.length ∧ i = .int .i64 j ∧ RoAt w1 wr A c ts j v) (fun _ i _ => ts.length - (intOf i).toNat)
    case atStart => exact ⟨0, Nat.zero_le _, rfl, ⟨World.ownsRow_nil _ _ _ _, Below.refl _ _⟩⟩
    case round =>
      obtain ⟨j, hj, rfl, hU⟩ := hrel
      have HU := Lib.hid hU
      obtain ⟨A5, c5, rfl, hc5, hm5⟩ := own_form hU.own
      clear hU
      by_cases h1 : j < ts.length
      · obtain ⟨t, ht⟩ : ∃ t, t = ts[j] := ⟨_, rfl⟩
        obtain ⟨b4, o4, rfl, hb4, c0, c1, c2, c3⟩ := lies_pl (L4.out.below HU.out.bel) j t (by rw [ht]; exact List.getElem?_eq_getElem h1)
        have hst : (ts.take (j + 1)).map (opOf A c) = (ts.take j).map (opOf A c) ++ [opOf A c t] := by
          rw [List.take_succ_eq_append_getElem h1, List.map_append, ht]; rfl
        have HST := Lib.hid hst
        have HPA : Hid (fitO t.o = true ∧ PosAt b t) := Lib.hid (by rw [ht]; exact G3.out _ (List.getElem_mem h1))
        have hbw : b4 < wr.heap.size := by have := HU.out.bel.size; omega
        have hj0 : (0 : Int) ≤ (j : Int) := by omega
        clear hst ht
        go_upto_region 8 with fail
        refine wp_region_held_drew (S := (fun w' => w'.cell? ⟨b4, o4 + j * 4, none⟩ = some (.string ⟨t.o.key.toArray⟩) ∧ w'.cell? ⟨b4, o4 + j * 4 + 1, none⟩ = some (.bool t.o.del) ∧ w'.cell? ⟨b4, o4 + j * 4 + 2, none⟩ = some (.int .i64 t.pos) ∧ w'.cell? ⟨b4, o4 + j * 4 + 3, none⟩ = some (.int .i64 t.o.val.length))) (by kernel_rfl) ⟨c0, c1, c2, c3⟩ (fun hS0 => ?_)
        obtain ⟨WD, hWD⟩ : ∃ WD, WD = wr.drew := ⟨_, rfl⟩
        have BW : Hid (Below wr.heap.size wr WD) := Lib.hid (by rw [hWD]; exact (Below.refl _ _).drew)
        have ZD : Hid (WD.heap.size = wr.heap.size) := Lib.hid (by rw [hWD]; rfl)
        rw [← hWD] at hS0 ⊢
        clear hWD
        have x0 := (BW.out.cell (p := ⟨b4, o4 + j * 4, none⟩) hbw).trans c0
        have x1 := (BW.out.cell (p := ⟨b4, o4 + j * 4 + 1, none⟩) hbw).trans c1
        have x2 := (BW.out.cell (p := ⟨b4, o4 + j * 4 + 2, none⟩) hbw).trans c2
        have x3 := (BW.out.cell (p := ⟨b4, o4 + j * 4 + 3, none⟩) hbw).trans c3
        refine wpAnyH_take (i := 0) (oi := ⟨some 22, _, _, _, _, _⟩) (v := ?_) rfl (by kernel_rfl) (by kernel_rfl) (by kernel_rfl) (fun _ _ _ h => h) (Or.inl ⟨by rfl, ?_⟩) hS0 ?_
        rotate_left
        · (intro wS hSw; (try dsimp only at hSw); go_simp); all_goals (with_reducible rfl)
        try simp only [Act.put, List.setIfInBounds_toArray, List.set_cons_zero, List.set_cons_succ]
        refine wpAnyH_take (i := 1) (oi := ⟨some 23, _, _, _, _, _⟩) (v := ?_) rfl (by kernel_rfl) (by kernel_rfl) (by kernel_rfl) (fun _ _ _ h => h) (Or.inl ⟨by rfl, ?_⟩) hS0 ?_
        rotate_left
        · (intro wS hSw; (try dsimp only at hSw); go_simp); all_goals (with_reducible rfl)
        try simp only [Act.put, List.setIfInBounds_toArray, List.set_cons_zero, List.set_cons_succ]
        refine wpAnyH_take (i := 2) (oi := ⟨some 24, _, _, _, _, _⟩) (v := ?_) rfl (by kernel_rfl) (by kernel_rfl) (by kernel_rfl) (fun _ _ _ h => h) (Or.inl ⟨by rfl, ?_⟩) hS0 ?_
        rotate_left
        · (intro wS hSw; (try dsimp only at hSw); go_simp); all_goals (with_reducible rfl)
        try simp only [Act.put, List.setIfInBounds_toArray, List.set_cons_zero, List.set_cons_succ]
        refine wpAnyH_take (i := 3) (oi := ⟨some 25, _, _, _, _, _⟩) (v := ?_) rfl (by kernel_rfl) (by kernel_rfl) (by kernel_rfl) (fun _ _ _ h => h) (Or.inl ⟨by rfl, ?_⟩) hS0 ?_
        rotate_left
        · (intro wS hSw; (try dsimp only at hSw); go_simp); all_goals (with_reducible rfl)
        try simp only [Act.put, List.setIfInBounds_toArray, List.set_cons_zero, List.set_cons_succ]
        refine wpAnyH_take (i := 4) (oi := ⟨some 26, _, _, _, _, _⟩) (v := ?_) rfl (by kernel_rfl) (by kernel_rfl) (by kernel_rfl) (fun _ _ _ h => h) (Or.inl ⟨by rfl, ?_⟩) hS0 ?_
        rotate_left
        · (intro wS hSw; (try dsimp only at hSw); go_simp); all_goals (with_reducible rfl)
        try simp only [Act.put, List.setIfInBounds_toArray, List.set_cons_zero, List.set_cons_succ]
        refine wpAnyH_take (i := 5) (oi := ⟨some 27, _, _, _, _, _⟩) (v := ?_) rfl (by kernel_rfl) (by kernel_rfl) (by kernel_rfl) (fun _ _ _ h => h) (Or.inl ⟨by rfl, ?_⟩) hS0 ?_
        rotate_left
        · (intro wS hSw; (try dsimp only at hSw); go_simp); all_goals (with_reducible rfl)
        try simp only [Act.put, List.setIfInBounds_toArray, List.set_cons_zero, List.set_cons_succ]
        refine wpAnyH_take (i := 6) (oi := ⟨some 28, _, _, _, _, _⟩) (v := ?_) rfl (by kernel_rfl) (by kernel_rfl) (by kernel_rfl) (fun _ _ _ h => h) (Or.inl ⟨by rfl, ?_⟩) hS0 ?_
        rotate_left
        · (intro wS hSw; (try dsimp only at hSw); go_simp); all_goals (with_reducible rfl)
        try simp only [Act.put, List.setIfInBounds_toArray, List.set_cons_zero, List.set_cons_succ]
        refine wpAnyH_take (i := 7) (oi := ⟨some 29, _, _, _, _, _⟩) (v := ?_) rfl (by kernel_rfl) (by kernel_rfl) (by kernel_rfl) (fun _ _ _ h => h) (Or.inl ⟨by rfl, ?_⟩) hS0 ?_
        rotate_left
        · (intro wS hSw; (try dsimp only at hSw); go_simp); all_goals (with_reducible rfl)
        try simp only [Act.put, List.setIfInBounds_toArray, List.set_cons_zero, List.set_cons_succ]
        refine wpAnyH_take (i := 8) (oi := ⟨some 30, _, _, _, _, _⟩) (v := ?_) rfl (by kernel_rfl) (by kernel_rfl) (by kernel_rfl) (fun _ _ _ h => h) (Or.inl ⟨by rfl, ?_⟩) hS0 ?_
        rotate_left
        · (intro wS hSw; (try dsimp only at hSw); go_simp); all_goals (with_reducible rfl)
        try simp only [Act.put, List.setIfInBounds_toArray, List.set_cons_zero, List.set_cons_succ]
        refine wpAnyH_take (i := 9) (oi := ⟨some 31, _, _, _, _, _⟩) (v := ?_) rfl (by kernel_rfl) (by kernel_rfl) (by kernel_rfl) (fun _ _ _ h => h) (Or.inl ⟨by rfl, ?_⟩) hS0 ?_
        rotate_left
        · (intro wS hSw; (try dsimp only at hSw); go_simp); all_goals (with_reducible rfl)
        try simp only [Act.put, List.setIfInBounds_toArray, List.set_cons_zero, List.set_cons_succ]
        refine wpAnyH_take (i := 10) (oi := ⟨some 32, _, _, _, _, _⟩) (v := ?_) rfl (by kernel_rfl) (by kernel_rfl) (by kernel_rfl) (fun _ _ _ h => h) (Or.inl ⟨by rfl, ?_⟩) hS0 ?_
        rotate_left
        · (intro wS hSw; (try dsimp only at hSw); go_simp); all_goals (with_reducible rfl)
        try simp only [Act.put, List.setIfInBounds_toArray, List.set_cons_zero, List.set_cons_succ]
        refine wpAnyH_ready (rs := [11]) (by kernel_rfl) (by simp) ?_
        refine AllReadyH.cons (o := ⟨some 8, _, _, _, _, _⟩) rfl (fun K hK => ?_) AllReadyH.nil
        go_simp
        have BD := Lib.hid ((Below.refl wr.heap.size WD).alloc (by rw [ZD.out]; exact Nat.le_refl _) (.cells #[.string ⟨#[]⟩, .bool false, .slice none 0 0] 24))
        have XD : Hid (Whole (WD.alloc (.cells #[.string ⟨#[]⟩, .bool false, .slice none 0 0] 24)) wr.heap.size 24 #[.string ⟨#[]⟩, .bool false, .slice none 0 0]) := Lib.hid (by rw [← ZD.out]; exact Whole.new _ _ _)
        have y0 := (BD.out.cell (p := ⟨b4, o4 + j * 4, none⟩) hbw).trans x0
        have y1 := (BD.out.cell (p := ⟨b4, o4 + j * 4 + 1, none⟩) hbw).trans x1
        have y2 := (BD.out.cell (p := ⟨b4, o4 + j * 4 + 2, none⟩) hbw).trans x2
        have y3 := (BD.out.cell (p := ⟨b4, o4 + j * 4 + 3, none⟩) hbw).trans x3
        refine hK.out _ _ ⟨y0, y1, y2, y3⟩ (fun hS11 => ?_)
        clear hK K
        try simp only [Act.put, List.setIfInBounds_toArray, List.set_cons_zero, List.set_cons_succ]
        obtain ⟨WE, hWE⟩ : ∃ W, W = WD.alloc (.cells #[.string ⟨#[]⟩, .bool false, .slice none 0 0] 24) := ⟨_, rfl⟩
        have xe := XD.out
        have be' := BD.out
        have zd := ZD.out
        rw [← hWE] at xe be' y0 y1 y2 y3 hS11 ⊢
        rw [zd]
        have XD := Lib.hid xe
        have BD := Lib.hid (BW.out.trans be')
        clear hWE xe be' zd
        have q0 := XD.out.cell 0
        have q1 := XD.out.cell 1
        have q2 := XD.out.cell 2
        have f0 := XD.out.frozen 0
        have f1 := XD.out.frozen 1
        have f2 := XD.out.frozen 2
        refine wpAnyH_ready (rs := [12]) (by kernel_rfl) (by simp) ?_
        refine AllReadyH.cons (o := ⟨none, _, _, _, _, _⟩) rfl (fun K hK => ?_) AllReadyH.nil
        go_simp
        have D0 := Lib.hid (((BD.out.setCell (p := ⟨wr.heap.size, 0, none⟩) (Nat.le_refl _) (.string ⟨t.o.key.toArray⟩)).setCell (p := ⟨wr.heap.size, 1, none⟩) (Nat.le_refl _) (.bool t.o.del)).setCell (p := ⟨wr.heap.size, 2, none⟩) (Nat.le_refl _) (.slice none 0 0))
        have X0 := Lib.hid (put3 (.string ⟨t.o.key.toArray⟩) (.bool t.o.del) (.slice none 0 0) XD.out)
        have z0 := (D0.out.cell (p := ⟨b4, o4 + j * 4, none⟩) hbw).trans c0
        have z1 := (D0.out.cell (p := ⟨b4, o4 + j * 4 + 1, none⟩) hbw).trans c1
        have z2 := (D0.out.cell (p := ⟨b4, o4 + j * 4 + 2, none⟩) hbw).trans c2
        have z3 := (D0.out.cell (p := ⟨b4, o4 + j * 4 + 3, none⟩) hbw).trans c3
        refine hK.out _ _ ⟨z0, z1, z2, z3⟩ (fun hS12 => ?_)
        clear hK K
        try simp only [Act.put, List.setIfInBounds_toArray, List.set_cons_zero, List.set_cons_succ]
        refine wpAnyH_done (by kernel_rfl) ?_ _
        have hx := X0.out
        have hbb := D0.out
        obtain ⟨WC, hWC⟩ : ∃ W, W = ((WE.setCell ⟨wr.heap.size, 0, none⟩ (.string ⟨t.o.key.toArray⟩)).setCell ⟨wr.heap.size, 1, none⟩ (.bool t.o.del)).setCell ⟨wr.heap.size, 2, none⟩ (.slice none 0 0) := ⟨_, rfl⟩
        rw [← hWC] at hx hbb
        rw [← hWC]
        clear hWC q0 q1 q2 f0 f1 f2
        obtain ⟨dl, hdl⟩ : ∃ dl, dl = t.o.del := ⟨_, rfl⟩
        rw [← hdl] at hx
        have HDL := Lib.hid hdl
        clear hdl
        have t1 : WC.cell? ⟨wr.heap.size, 1, none⟩ = some (.bool dl) := hx.cell 1
        have HX1 := Lib.hid hx
        have HB1 := Lib.hid hbb
        have d0 := (HB1.out.cell (p := ⟨b4, o4 + j * 4, none⟩) hbw).trans c0
        have d1 := (HB1.out.cell (p := ⟨b4, o4 + j * 4 + 1, none⟩) hbw).trans c1
        have d2 := (HB1.out.cell (p := ⟨b4, o4 + j * 4 + 2, none⟩) hbw).trans c2
        have d3 := (HB1.out.cell (p := ⟨b4, o4 + j * 4 + 3, none⟩) hbw).trans c3
        clear hx hbb
        cases dl with
        | true =>
          have hx : Whole WC wr.heap.size 24 (cellsOm (opOf A c t)).toArray := by
            have := HX1.out
            have ev := (fitO_is HPA.out.1).2.2.2 HDL.out.symm
            unfold cellsOm opOf
            rw [if_pos HDL.out.symm]
            simp only [ev]
            rw [← HDL.out]
            exact this
          have hbb := HB1.out
          go_upto_region 11 with fail
          obtain ⟨WF, hWF⟩ : ∃ W, W = WC := ⟨_, rfl⟩
          rw [← hWF] at hx hbb
          rw [← hWF]
          clear hWF t1
          obtain ⟨M, hM⟩ : ∃ M, M = opOf A c t := ⟨_, rfl⟩
          rw [← hM] at hx
          have y0 : WF.cell? ⟨wr.heap.size, 0, none⟩ = some (.string ⟨M.o.key.toArray⟩) := hx.cell 0
          have y1 : WF.cell? ⟨wr.heap.size, 1, none⟩ = some (.bool M.o.del) := hx.cell 1
          have y2 : WF.cell? ⟨wr.heap.size, 2, none⟩ = some (.slice M.A M.o.val.length M.c) := hx.cell 2
          have HMM := Lib.hid hM
          have bel6 := HU.out.bel.trans (hbb.mono HU.out.bel.size)
          have O6 := Lib.hid (HU.out.own.kept (only_below hbb none) (Classical.em _))
          have HB6 := Lib.hid bel6
          have HX6 := Lib.hid hx
          have HR1 : Hid (j + 1 ≤ maxLen) := Lib.hid (room63 (by omega))
          have HR2 : Hid ((j + 1) * 48 ≤ 140737488355328) := Lib.hid (by omega)
          have HR3 : Hid (w1.heap.size ≤ WF.heap.size) := Lib.hid bel6.size
          clear hx hbb bel6 hM
          go_wp2_with (at_builtin; go_must (refine wpList_append_cells rfl _ _ 25 rfl w1.heap.size 24 i0 _ 3 48 Try.underlying25 HI.out H0.out H1.out H2.out rfl (by omega) (.slice A5 j c5) j _ rfl (O6.out.alloc _) _ _ 1 1 (cellsOm M) rfl (Lies.lit WF 24 (cellsOm M)) rfl (cellsOm_one _) HR1.out HR2.out (by have := HR3.out; simp; omega) ?_); intro v7 w7 o7 b7; have U7 : Hid (RoAt w1 w7 A c ts (j + 1) v7) := Lib.hid ⟨by rw [HST.out, cellsOms_append, ← HMM.out]; simpa [cellsOms] using o7, (HB6.out.alloc HB6.out.size _).trans b7⟩; clear o7 b7)
          go_roundw
          case rel => exact ⟨j + 1, by omega, by go_num, U7.out⟩
          case measure => simp [intOf]; omega
        | false =>
          obtain ⟨k1, k2⟩ := HPA.out.2 HDL.out.symm
          have hw2 : IntKind.i64.wrap ((t.pos : Int) + (t.o.val.length : Int)) = (t.pos : Int) + (t.o.val.length : Int) := IntWalk.i64_in _ ⟨by omega, by omega⟩
          have hp0 : (0 : Int) ≤ (t.pos : Int) := by omega
          have hs1 : (t.pos : Int) ≤ (t.pos : Int) + (t.o.val.length : Int) := by omega
          have hs2 : (t.pos : Int) + (t.o.val.length : Int) ≤ (c : Int) := by omega
          have hs3 : ((t.pos : Int) + (t.o.val.length : Int)).toNat - t.pos = t.o.val.length := by omega
          obtain ⟨CV, hCV⟩ : ∃ x, x = c - t.pos := ⟨_, rfl⟩
          obtain ⟨AV, hAV⟩ : ∃ x, x = (if c = t.pos then A else A.map (·.add t.pos)) := ⟨_, rfl⟩
          go_upto_region 10 with fail
          refine wp_region_held_drew (S := (fun w' => w'.cell? ⟨b4, o4 + j * 4, none⟩ = some (.string ⟨t.o.key.toArray⟩) ∧ w'.cell? ⟨b4, o4 + j * 4 + 1, none⟩ = some (.bool t.o.del) ∧ w'.cell? ⟨b4, o4 + j * 4 + 2, none⟩ = some (.int .i64 t.pos) ∧ w'.cell? ⟨b4, o4 + j * 4 + 3, none⟩ = some (.int .i64 t.o.val.length))) (by kernel_rfl) ⟨d0, d1, d2, d3⟩ (fun hS0 => ?_)
          obtain ⟨WD, hWD⟩ : ∃ WD, WD = WC.drew := ⟨_, rfl⟩
          have BW : Hid (Below wr.heap.size wr WD) := Lib.hid (by rw [hWD]; exact HB1.out.drew)
          have XW : Hid (Whole WD wr.heap.size 24 #[.string ⟨t.o.key.toArray⟩, .bool false, .slice none 0 0]) := Lib.hid (by rw [hWD]; exact HX1.out)
          rw [← hWD] at hS0 ⊢
          clear hWD
          have e2 := XW.out.cell 2
          have g2 := XW.out.frozen 2
          refine wpAnyH_take (i := 0) (oi := ⟨some 36, _, _, _, _, _⟩) (v := ?_) rfl (by kernel_rfl) (by kernel_rfl) (by kernel_rfl) (fun _ _ _ h => h) (Or.inl ⟨by rfl, ?_⟩) hS0 ?_
          rotate_left
          · (intro wS hSw; (try dsimp only at hSw); go_simp); all_goals (with_reducible rfl)
          try simp only [Act.put, List.setIfInBounds_toArray, List.set_cons_zero, List.set_cons_succ]
          refine wpAnyH_take (i := 1) (oi := ⟨some 37, _, _, _, _, _⟩) (v := ?_) rfl (by kernel_rfl) (by kernel_rfl) (by kernel_rfl) (fun _ _ _ h => h) (Or.inl ⟨by rfl, ?_⟩) hS0 ?_
          rotate_left
          · (intro wS hSw; (try dsimp only at hSw); go_simp); all_goals (with_reducible rfl)
          try simp only [Act.put, List.setIfInBounds_toArray, List.set_cons_zero, List.set_cons_succ]
          refine wpAnyH_take (i := 2) (oi := ⟨some 38, _, _, _, _, _⟩) (v := ?_) rfl (by kernel_rfl) (by kernel_rfl) (by kernel_rfl) (fun _ _ _ h => h) (Or.inl ⟨by rfl, ?_⟩) hS0 ?_
          rotate_left
          · (intro wS hSw; (try dsimp only at hSw); go_simp); all_goals (with_reducible rfl)
          try simp only [Act.put, List.setIfInBounds_toArray, List.set_cons_zero, List.set_cons_succ]
          refine wpAnyH_take (i := 3) (oi := ⟨some 39, _, _, _, _, _⟩) (v := ?_) rfl (by kernel_rfl) (by kernel_rfl) (by kernel_rfl) (fun _ _ _ h => h) (Or.inl ⟨by rfl, ?_⟩) hS0 ?_
          rotate_left
          · (intro wS hSw; (try dsimp only at hSw); go_simp); all_goals (with_reducible rfl)
          try simp only [Act.put, List.setIfInBounds_toArray, List.set_cons_zero, List.set_cons_succ]
          refine wpAnyH_take (i := 4) (oi := ⟨some 40, _, _, _, _, _⟩) (v := ?_) rfl (by kernel_rfl) (by kernel_rfl) (by kernel_rfl) (fun _ _ _ h => h) (Or.inl ⟨by rfl, ?_⟩) hS0 ?_
          rotate_left
          · (intro wS hSw; (try dsimp only at hSw); go_simp); all_goals (with_reducible rfl)
          try simp only [Act.put, List.setIfInBounds_toArray, List.set_cons_zero, List.set_cons_succ]
          refine wpAnyH_take (i := 5) (oi := ⟨some 41, _, _, _, _, _⟩) (v := ?_) rfl (by kernel_rfl) (by kernel_rfl) (by kernel_rfl) (fun _ _ _ h => h) (Or.inl ⟨by rfl, ?_⟩) hS0 ?_
          rotate_left
          · (intro wS hSw; (try dsimp only at hSw); go_simp); all_goals (with_reducible rfl)
          try simp only [Act.put, List.setIfInBounds_toArray, List.set_cons_zero, List.set_cons_succ]
          refine wpAnyH_take (i := 6) (oi := ⟨some 42, _, _, _, _, _⟩) (v := ?_) rfl (by kernel_rfl) (by kernel_rfl) (by kernel_rfl) (fun _ _ _ h => h) (Or.inl ⟨by rfl, ?_⟩) hS0 ?_
          rotate_left
          · (intro wS hSw; (try dsimp only at hSw); go_simp); all_goals (with_reducible rfl)
          try simp only [Act.put, List.setIfInBounds_toArray, List.set_cons_zero, List.set_cons_succ]
          refine wpAnyH_take (i := 7) (oi := ⟨some 43, _, _, _, _, _⟩) (v := ?_) rfl (by kernel_rfl) (by kernel_rfl) (by kernel_rfl) (fun _ _ _ h => h) (Or.inl ⟨by rfl, ?_⟩) hS0 ?_
          rotate_left
          · (intro wS hSw; (try dsimp only at hSw); go_simp); all_goals (with_reducible rfl)
          try simp only [Act.put, List.setIfInBounds_toArray, List.set_cons_zero, List.set_cons_succ]
          refine wpAnyH_take (i := 8) (oi := ⟨some 44, _, _, _, _, _⟩) (v := ?_) rfl (by kernel_rfl) (by kernel_rfl) (by kernel_rfl) (fun _ _ _ h => h) (Or.inl ⟨by rfl, ?_⟩) hS0 ?_
          rotate_left
          · (intro wS hSw; (try dsimp only at hSw); go_simp); all_goals (with_reducible rfl)
          try simp only [Act.put, List.setIfInBounds_toArray, List.set_cons_zero, List.set_cons_succ]
          refine wpAnyH_take (i := 9) (oi := ⟨some 45, _, _, _, _, _⟩) (v := ?_) rfl (by kernel_rfl) (by kernel_rfl) (by kernel_rfl) (fun _ _ _ h => h) (Or.inl ⟨by rfl, ?_⟩) hS0 ?_
          rotate_left
          · (intro wS hSw; (try dsimp only at hSw); go_simp); all_goals (with_reducible rfl)
          try simp only [Act.put, List.setIfInBounds_toArray, List.set_cons_zero, List.set_cons_succ]
          refine wpAnyH_take (i := 10) (oi := ⟨some 46, _, _, _, _, _⟩) (v := ?_) rfl (by kernel_rfl) (by kernel_rfl) (by kernel_rfl) (fun _ _ _ h => h) (Or.inl ⟨by rfl, ?_⟩) hS0 ?_
          rotate_left
          · (intro wS hSw; (try dsimp only at hSw); go_simp); all_goals (with_reducible rfl)
          try simp only [Act.put, List.setIfInBounds_toArray, List.set_cons_zero, List.set_cons_succ]
          refine wpAnyH_take (i := 11) (oi := ⟨some 47, _, _, _, _, _⟩) (v := ?_) rfl (by kernel_rfl) (by kernel_rfl) (by kernel_rfl) (fun _ _ _ h => h) (Or.inl ⟨by rfl, ?_⟩) hS0 ?_
          rotate_left
          · (intro wS hSw; (try dsimp only at hSw); go_simp); all_goals (with_reducible rfl)
          try simp only [Act.put, List.setIfInBounds_toArray, List.set_cons_zero, List.set_cons_succ]
          refine wpAnyH_take (i := 12) (oi := ⟨some 48, _, _, _, _, _⟩) (v := ?_) rfl (by kernel_rfl) (by kernel_rfl) (by kernel_rfl) (fun _ _ _ h => h) (Or.inl ⟨by rfl, ?_⟩) hS0 ?_
          rotate_left
          · (intro wS hSw; (try dsimp only at hSw); go_simp); all_goals (with_reducible rfl)
          try simp only [Act.put, List.setIfInBounds_toArray, List.set_cons_zero, List.set_cons_succ]
          refine wpAnyH_take (i := 13) (oi := ⟨some 49, _, _, _, _, _⟩) (v := ?_) rfl (by kernel_rfl) (by kernel_rfl) (by kernel_rfl) (fun _ _ _ h => h) (Or.inl ⟨by rfl, ?_⟩) hS0 ?_
          rotate_left
          · (intro wS hSw; (try dsimp only at hSw); go_simp); all_goals (with_reducible rfl)
          try simp only [Act.put, List.setIfInBounds_toArray, List.set_cons_zero, List.set_cons_succ]
          refine wpAnyH_take (i := 14) (oi := ⟨some 50, _, _, _, _, _⟩) (v := ?_) rfl (by kernel_rfl) (by kernel_rfl) (by kernel_rfl) (fun _ _ _ h => h) (Or.inl ⟨by rfl, ?_⟩) hS0 ?_
          rotate_left
          · (intro wS hSw; (try dsimp only at hSw); go_simp); all_goals (with_reducible rfl)
          try simp only [Act.put, List.setIfInBounds_toArray, List.set_cons_zero, List.set_cons_succ]
          refine wpAnyH_take (i := 15) (oi := ⟨some 51, _, _, _, _, _⟩) (v := ?_) rfl (by kernel_rfl) (by kernel_rfl) (by kernel_rfl) (fun _ _ _ h => h) (Or.inl ⟨by rfl, ?_⟩) hS0 ?_
          rotate_left
          · (intro wS hSw; (try dsimp only at hSw); go_simp); all_goals (with_reducible rfl)
          try simp only [Act.put, List.setIfInBounds_toArray, List.set_cons_zero, List.set_cons_succ]
          refine wpAnyH_take (i := 16) (oi := ⟨some 52, _, _, _, _, _⟩) (v := ?_) rfl (by kernel_rfl) (by kernel_rfl) (by kernel_rfl) (fun _ _ _ h => h) (Or.inl ⟨by rfl, ?_⟩) hS0 ?_
          rotate_left
          · (intro wS hSw; (try dsimp only at hSw); go_simp); all_goals (with_reducible rfl)
          try simp only [Act.put, List.setIfInBounds_toArray, List.set_cons_zero, List.set_cons_succ]
          refine wpAnyH_take (i := 17) (oi := ⟨some 53, _, _, _, _, _⟩) (v := ?_) rfl (by kernel_rfl) (by kernel_rfl) (by kernel_rfl) (fun _ _ _ h => h) (Or.inl ⟨by rfl, ?_⟩) hS0 ?_
          rotate_left
          · (intro wS hSw; (try dsimp only at hSw); go_simp); all_goals (with_reducible rfl)
          try simp only [Act.put, List.setIfInBounds_toArray, List.set_cons_zero, List.set_cons_succ]
          refine wpAnyH_take (i := 18) (oi := ⟨some 54, _, _, _, _, _⟩) (v := ?_) rfl (by kernel_rfl) (by kernel_rfl) (by kernel_rfl) (fun _ _ _ h => h) (Or.inl ⟨by rfl, ?_⟩) hS0 ?_
          rotate_left
          · (intro wS hSw; (try dsimp only at hSw); go_simp); all_goals (with_reducible rfl)
          try simp only [Act.put, List.setIfInBounds_toArray, List.set_cons_zero, List.set_cons_succ]
          refine wpAnyH_ready (rs := [19]) (by kernel_rfl) (by simp) ?_
          refine AllReadyH.cons (o := ⟨none, _, _, _, _, _⟩) rfl (fun K hK => ?_) AllReadyH.nil
          go_simp
          rw [← hAV, ← hCV]
          have D0 := Lib.hid (BW.out.setCell (p := ⟨wr.heap.size, 2, none⟩) (Nat.le_refl _) (.slice AV t.o.val.length CV))
          have X0 := Lib.hid (XW.out.put 2 (.slice AV t.o.val.length CV))
          have z0 := (D0.out.cell (p := ⟨b4, o4 + j * 4, none⟩) hbw).trans c0
          have z1 := (D0.out.cell (p := ⟨b4, o4 + j * 4 + 1, none⟩) hbw).trans c1
          have z2 := (D0.out.cell (p := ⟨b4, o4 + j * 4 + 2, none⟩) hbw).trans c2
          have z3 := (D0.out.cell (p := ⟨b4, o4 + j * 4 + 3, none⟩) hbw).trans c3
          refine hK.out _ _ ⟨z0, z1, z2, z3⟩ (fun hS19 => ?_)
          clear hK K
          try simp only [Act.put, List.setIfInBounds_toArray, List.set_cons_zero, List.set_cons_succ]
          refine wpAnyH_done (by kernel_rfl) ?_ _
          go_upto_region 11 with fail
          have hx := X0.out
          have hbb := D0.out
          obtain ⟨WF, hWF⟩ : ∃ W, W = WD.setCell ⟨wr.heap.size, 2, none⟩ (.slice AV t.o.val.length CV) := ⟨_, rfl⟩
          rw [← hWF] at hx hbb
          rw [← hWF]
          clear hWF e2 g2 d0 d1 d2 d3 z0 z1 z2 z3 t1
          have hx : Whole WF wr.heap.size 24 (cellsOm (opOf A c t)).toArray := by
            have := hx
            unfold cellsOm opOf
            rw [if_neg (by rw [← HDL.out]; decide)]
            simp only
            rw [← hAV, ← hCV, ← HDL.out]
            exact this
          obtain ⟨M, hM⟩ : ∃ M, M = opOf A c t := ⟨_, rfl⟩
          rw [← hM] at hx
          have y0 : WF.cell? ⟨wr.heap.size, 0, none⟩ = some (.string ⟨M.o.key.toArray⟩) := hx.cell 0
          have y1 : WF.cell? ⟨wr.heap.size, 1, none⟩ = some (.bool M.o.del) := hx.cell 1
          have y2 : WF.cell? ⟨wr.heap.size, 2, none⟩ = some (.slice M.A M.o.val.length M.c) := hx.cell 2
          have HMM := Lib.hid hM
          have bel6 := HU.out.bel.trans (hbb.mono HU.out.bel.size)
          have O6 := Lib.hid (HU.out.own.kept (only_below hbb none) (Classical.em _))
          have HB6 := Lib.hid bel6
          have HX6 := Lib.hid hx
          have HR1 : Hid (j + 1 ≤ maxLen) := Lib.hid (room63 (by omega))
          have HR2 : Hid ((j + 1) * 48 ≤ 140737488355328) := Lib.hid (by omega)
          have HR3 : Hid (w1.heap.size ≤ WF.heap.size) := Lib.hid bel6.size
          clear hx hbb bel6 hM
          go_wp2_with (at_builtin; go_must (refine wpList_append_cells rfl _ _ 25 rfl w1.heap.size 24 i0 _ 3 48 Try.underlying25 HI.out H0.out H1.out H2.out rfl (by omega) (.slice A5 j c5) j _ rfl (O6.out.alloc _) _ _ 1 1 (cellsOm M) rfl (Lies.lit WF 24 (cellsOm M)) rfl (cellsOm_one _) HR1.out HR2.out (by have := HR3.out; simp; omega) ?_); intro v7 w7 o7 b7; have U7 : Hid (RoAt w1 w7 A c ts (j + 1) v7) := Lib.hid ⟨by rw [HST.out, cellsOms_append, ← HMM.out]; simpa [cellsOms] using o7, (HB6.out.alloc HB6.out.size _).trans b7⟩; clear o7 b7)
          go_roundw
          case rel => exact ⟨j + 1, by omega, by go_num, U7.out⟩
          case measure => simp [intOf]; omega
      · obtain rfl : j = ts.length := by omega
        have hu := HU.out.own
        have e : ts.take ts.length = ts := List.take_length
        rw [e] at hu
        have ln : (ts.map (opOf A c)).length = ts.length := List.length_map _
        have D : Hid (ParseU (unitP b) w (.returned (.tuple #[.slice A5 ts.length c5, .bool true])) wr) := Lib.hid (by
          have h := ParseU.yes (acc := ts.map (opOf A c)) (A := A5) (c := c5) (w := w) (w' := wr) HR.out.symm (HB1.out.trans (HU.out.bel.mono HB1.out.size)) (pl_of A c ts) ⟨by rw [ln]; exact hc5, hm5, own_lies hu (Nat.le_refl _), fun m hm => by
            obtain ⟨x, hx, rfl⟩ := List.mem_map.1 hm
            exact (of_val (HL.out.below (((HB1.out.trans (HU.out.bel.mono HB1.out.size))).mono hB)) hc HM.out (G3.out x hx)).more (Nat.le_trans hB (HB1.out.trans (HU.out.bel.mono HB1.out.size)).size)⟩
          rwa [ln] at h)
        clear hu
        go_wp2_with fail
        go_ret2
        exact D.out
end Go.Proofs.Ytflbjmpbkcjdhaa
