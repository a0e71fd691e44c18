/- Contracts of the reader of package meth: a flag. -/
import Derived.Test.YtlfppfknelddcaaDoorMethT
import Derived.Test.YtlfppfknelddcaaDoorStep2
namespace Go.Proofs.YtlfppfknelddcaaDoor
open Go.RowKit
set_option maxRecDepth 100000
set_option linter.unusedSimpArgs false
set_option linter.unusedVariables false

theorem bool_info : (Tryd.prog.info? 4).map (fun i => (i.zero, i.size, i.bytes)) = some (some (.bool false), 1, 1) := by kernel_rfl
def Reads (g gi gm : Nat) (c i : Int) (st : RS) (lo hi : Nat) (w : World) (e : Ending) (w' : World) : Prop := e = .returned (.tuple #[]) ∧ (∃ vN vS vF vT, RAt w' g gi gm c i st vN vS vF vT lo hi) ∧ Below gi w w'
/-- between: the reader and its method are as they were -/
theorem radd_mid {w w2 w3 : World} {g gi gm : Nat} {c i : Int} {st : RS} {vN vS vF vT v : Value} {lo hi : Nat} (h : RAt w g gi gm c i st vN vS vF vT lo hi) (ha : Below w.heap.size w w2) (hg : w2.grownBy w3 v.ownBlock) (hv : ∀ k, v.ownBlock = some k → g + 1 ≤ k) :
    Whole w3 g 95 #[.pointer (some ⟨gi, 0, none⟩), .pointer (some ⟨gm, 0, none⟩), .int .u64 (st.fl : Int), .bool st.tb] ∧ Whole w3 gm 32 #[.int .i64 c, .int .i64 i, vN, vS, vF, vT] := by
  have z2 := ha.size
  have lg := h.rd.lt
  have lgm := h.m.lt
  have l2 := h.l2
  exact ⟨((hg.block g (by omega) (fun e => by have := hv g e.symm; omega)).trans (ha.block g lg)).trans h.rd, ((hg.block gm (by omega) (fun e => by have := hv gm e.symm; omega)).trans (ha.block gm lgm)).trans h.m⟩
theorem flag_bit (fl k : Nat) (h : fl < 256) : (bits .and .u64 ((fl : Int) / 2 ^ k) 1 == 1) = fl.testBit k := by
  have e : ((fl : Int) / 2 ^ k) = ((fl / 2 ^ k : Nat) : Int) := by rw [Int.natCast_ediv, Int.natCast_pow]; rfl
  rw [e]
  have h2 : fl / 2 ^ k < 18446744073709551616 := Nat.lt_of_le_of_lt (Nat.div_le_self _ _) (by omega)
  rw [show (1 : Int) = ((1 : Nat) : Int) from rfl, u64_and_nat _ _ h2 (by omega)]
  rw [Nat.testBit, Nat.shiftRight_eq_div_pow, Nat.and_comm 1]
  rw [Bool.eq_iff_iff]
  simp [Nat.and_one_is_mod]
  omega
set_option maxHeartbeats 1000000 in
theorem rflag_k (g gi gm : Nat) (c i : Int) (st : RS) (vN vS vF vT : Value) (lo hi k : Nat) (w : World) (h : RAt w g gi gm c i st vN vS vF vT lo hi) (hs : st.p.f.length ≤ 1000) (hk0 : k ≠ 0) (hk8 : k < 8) :
    Calls Tryd.prog 63 #[.pointer (some ⟨g, 0, none⟩), .int .i64 k] w (Reads g gi gm c i { st with p := st.p.app (pF (st.fl.testBit k)) } lo hi w) := by
  obtain ⟨i0, hi0, hz0, hz1, hz2⟩ := info_parts bool_info
  have GI := Lib.hid hi0
  have G0 := Lib.hid hz0
  have G1 := Lib.hid hz1
  have G2 := Lib.hid hz2
  have hk : ((k : Int) == 0) = false := by simp; omega
  obtain ⟨AF, cF_, rfl, _, hcm⟩ := own_form h.f
  have c1 : w.drew.cell? ⟨g, 1, none⟩ = some (.pointer (some ⟨gm, 0, none⟩)) := h.rd.cell 1
  have c2 : w.drew.cell? ⟨g, 2, none⟩ = some (.int .u64 ((st.fl : Nat) : Int)) := h.rd.cell 2
  have hfl := h.fl
  obtain ⟨n, hn⟩ : ∃ n, n = st.p.f.length := ⟨_, rfl⟩
  have m4 : w.drew.cell? ⟨gm, 4, none⟩ = some (.slice AF n cF_) := by rw [hn]; exact h.m.cell 4
  obtain ⟨X, hX⟩ : ∃ X, X = (st.fl).testBit k := ⟨_, rfl⟩
  rw [← hX]
  have HX : Hid ((bits .and .u64 ((st.fl : Int) / 2 ^ k) 1 == 1) = X) := Lib.hid (by rw [hX]; exact flag_bit st.fl k hfl)
  obtain ⟨wA, hwA⟩ : ∃ wA, wA = w.drew.alloc (.cells #[.bool X] 4) := ⟨_, rfl⟩
  have hA : Below w.heap.size w wA := by rw [hwA]; exact (Below.refl _ _).drew.alloc (Nat.le_refl _) _
  have hsA : wA.heap.size = w.heap.size + 1 := by rw [hwA]; show (w.drew.alloc _).heap.size = w.drew.heap.size + 1; simp
  have hown : ∀ k, (Value.slice AF n cF_).ownBlock = some k → g + 1 ≤ k := fun k hk => by rw [hn] at hk; exact (h.f.lt k hk).1
  have ho2 : wA.ownsRow (g + 1) 4 1 (.slice AF n cF_) n (cellsB st.p.f) := by
    rw [hn]
    exact own_same h.f (fun k hk => hA.block k (h.f.lt k hk).2)
  have he2 : Lies wA wA.heap.size (some ⟨w.heap.size, 0, none⟩) [.bool X] := by
    have := Lies.one w.drew 4 (.bool X)
    rw [← hwA] at this
    rw [hsA]
    exact this
  have HF2 : Hid ((w.drew.alloc (.cells #[.bool (bits .and .u64 ((st.fl : Int) / 2 ^ k) 1 == 1)] 4)).ownsRow (g + 1) 4 1 (.slice AF n cF_) n (cellsB st.p.f)) := Lib.hid (by rw [HX.out, ← hwA]; exact ho2)
  have HE2 : Hid (Lies (w.drew.alloc (.cells #[.bool (bits .and .u64 ((st.fl : Int) / 2 ^ k) 1 == 1)] 4)) wA.heap.size (some ⟨w.heap.size, 0, none⟩) [.bool X]) := Lib.hid (by rw [HX.out, ← hwA]; exact he2)
  have HZ2 : Hid (g + 1 ≤ (w.drew.alloc (.cells #[.bool (bits .and .u64 ((st.fl : Int) / 2 ^ k) 1 == 1)] 4)).heap.size) := Lib.hid (by rw [HX.out, ← hwA, hsA]; have := h.rd.lt; omega)
  have N1 : Hid (n + 1 ≤ maxLen) := Lib.hid (by unfold maxLen; omega)
  have N2 : Hid ((n + 1) * 1 ≤ 140737488355328) := Lib.hid (by omega)
  have mid : ∀ w3, wA.grownBy w3 (Value.slice AF n cF_).ownBlock → Whole w3 g 95 #[.pointer (some ⟨gi, 0, none⟩), .pointer (some ⟨gm, 0, none⟩), .int .u64 ((st.fl : Nat) : Int), .bool st.tb] ∧ Whole w3 gm 32 #[.int .i64 c, .int .i64 i, vN, vS, .slice AF n cF_, vT] := by
    intro w3 hg3
    have := radd_mid h hA hg3 hown
    rw [← hn] at this
    exact this
  have SA : Hid ((w.drew.alloc (.cells #[.bool (bits .and .u64 ((st.fl : Int) / 2 ^ k) 1 == 1)] 4)).cell? ⟨g, 1, none⟩ = some (.pointer (some ⟨gm, 0, none⟩)) ∧ (w.drew.alloc (.cells #[.bool (bits .and .u64 ((st.fl : Int) / 2 ^ k) 1 == 1)] 4)).cell? ⟨g, 2, none⟩ = some (.int .u64 ((st.fl : Nat) : Int))) := Lib.hid (by
    rw [HX.out, ← hwA]
    have := (mid wA (only_refl _ _)).1
    exact ⟨this.cell 1, this.cell 2⟩)
  have m4a : (w.alloc (.cells #[.bool (bits .and .u64 ((st.fl : Int) / 2 ^ k) 1 == 1)] 4)).cell? ⟨gm, 4, none⟩ = some (.slice AF n cF_) := by
    have h5 := (mid wA (only_refl _ _)).2.cell 4
    rw [hwA, ← HX.out] at h5
    exact h5
  have KS : Hid (∀ w3, (w.drew.alloc (.cells #[.bool (bits .and .u64 ((st.fl : Int) / 2 ^ k) 1 == 1)] 4)).grownBy w3 (Value.slice AF n cF_).ownBlock → w3.cell? ⟨g, 1, none⟩ = some (.pointer (some ⟨gm, 0, none⟩)) ∧ w3.cell? ⟨g, 2, none⟩ = some (.int .u64 ((st.fl : Nat) : Int))) := Lib.hid (by
    rw [HX.out, ← hwA]
    intro w3 hg3
    have := (mid w3 hg3).1
    exact ⟨this.cell 1, this.cell 2⟩)
  have FZ : Hid (∀ w3, (w.drew.alloc (.cells #[.bool (bits .and .u64 ((st.fl : Int) / 2 ^ k) 1 == 1)] 4)).grownBy w3 (Value.slice AF n cF_).ownBlock → w3.frozen? ⟨gm, 4, none⟩ = false ∧ w3.cell? ⟨gm, 4, none⟩ = some (.slice AF n cF_)) := Lib.hid (by
    rw [HX.out, ← hwA]
    intro w3 hg3
    have := (mid w3 hg3).2
    exact ⟨this.frozen 4, this.cell 4⟩)
  have KT : Hid (∀ (w3 : World) (v : Value), (w3.cell? ⟨g, 1, none⟩ = some (.pointer (some ⟨gm, 0, none⟩)) ∧ w3.cell? ⟨g, 2, none⟩ = some (.int .u64 ((st.fl : Nat) : Int))) → ((w3.setCell ⟨gm, 4, none⟩ v).cell? ⟨g, 1, none⟩ = some (.pointer (some ⟨gm, 0, none⟩)) ∧ (w3.setCell ⟨gm, 4, none⟩ v).cell? ⟨g, 2, none⟩ = some (.int .u64 ((st.fl : Nat) : Int)))) := Lib.hid (by
    intro w3 v ⟨q1, q2⟩
    have hne : gm ≠ g := by have := h.l2; omega
    exact ⟨(World.cell?_setCell_far w3 ⟨gm, 4, none⟩ ⟨g, 1, none⟩ v hne).trans q1, (World.cell?_setCell_far w3 ⟨gm, 4, none⟩ ⟨g, 2, none⟩ v hne).trans q2⟩)
  have DN : Hid (∀ w3 A3 c3, w3.ownsRow (g + 1) 4 1 (.slice A3 (n + 1) c3) (n + 1) (cellsB st.p.f ++ [.bool X]) → (w.drew.alloc (.cells #[.bool (bits .and .u64 ((st.fl : Int) / 2 ^ k) 1 == 1)] 4)).grownBy w3 (Value.slice AF n cF_).ownBlock → ((Value.slice A3 (n + 1) c3).ownBlock = (Value.slice AF n cF_).ownBlock ∨ (Value.slice A3 (n + 1) c3).ownBlock = some (w.drew.alloc (.cells #[.bool (bits .and .u64 ((st.fl : Int) / 2 ^ k) 1 == 1)] 4)).heap.size) → Reads g gi gm c i { st with p := st.p.app (pF X) } lo hi w (.returned (.tuple #[])) (w3.setCell ⟨gm, 4, none⟩ (.slice A3 (n + 1) c3))) := Lib.hid (by
    rw [HX.out, ← hwA]
    intro w3 A3 c3 g1 g2 g3
    rw [hn] at g1 g2 g3 ⊢
    obtain ⟨k1, k2⟩ := radd_f (x := X) h hA g1 g2 g3
    exact ⟨rfl, ⟨_, _, _, _, k1⟩, k2⟩)
  clear hi0 hz0 hz1 hz2 h hX hwA hA hsA hown ho2 he2 mid hn
  go_enter Tryd.func63, Tryd.ntmps63
  go_wp2_with fail
  refine wp_region_held_drew (S := (fun w' => w'.cell? ⟨g, 1, none⟩ = some (.pointer (some ⟨gm, 0, none⟩)) ∧ w'.cell? ⟨g, 2, none⟩ = some (.int .u64 ((st.fl : Nat) : Int)))) (by kernel_rfl) ⟨c1, c2⟩ (fun hS0 => ?_)
  refine wpAnyH_take (i := 0) (oi := ⟨some 14, _, _, _, _, _⟩) (v := ?_) rfl (by kernel_rfl) (by kernel_rfl) (by kernel_rfl) (fun _ _ _ h => h) (Or.inl ⟨by rfl, ?_⟩) (by assumption) ?_
  rotate_left
  · (intro wS hSw; (try dsimp only at hSw); go_simp); all_goals (with_reducible rfl)
  simp only [Act.put, List.setIfInBounds_toArray, List.set_cons_zero, List.set_cons_succ]
  refine wpAnyH_take (i := 1) (oi := ⟨some 15, _, _, _, _, _⟩) (v := ?_) rfl (by kernel_rfl) (by kernel_rfl) (by kernel_rfl) (fun _ _ _ h => h) (Or.inl ⟨by rfl, ?_⟩) (by assumption) ?_
  rotate_left
  · (intro wS hSw; (try dsimp only at hSw); go_simp); all_goals (with_reducible rfl)
  simp only [Act.put, List.setIfInBounds_toArray, List.set_cons_zero, List.set_cons_succ]
  refine wpAnyH_take (i := 2) (oi := ⟨some 16, _, _, _, _, _⟩) (v := ?_) rfl (by kernel_rfl) (by kernel_rfl) (by kernel_rfl) (fun _ _ _ h => h) (Or.inl ⟨by rfl, ?_⟩) (by assumption) ?_
  rotate_left
  · (intro wS hSw; (try dsimp only at hSw); go_simp); all_goals (with_reducible rfl)
  simp only [Act.put, List.setIfInBounds_toArray, List.set_cons_zero, List.set_cons_succ]
  refine wpAnyH_take (i := 3) (oi := ⟨some 17, _, _, _, _, _⟩) (v := ?_) rfl (by kernel_rfl) (by kernel_rfl) (by kernel_rfl) (fun _ _ _ h => h) (Or.inl ⟨by rfl, ?_⟩) (by assumption) ?_
  rotate_left
  · (intro wS hSw; (try dsimp only at hSw); go_simp); all_goals (with_reducible rfl)
  simp only [Act.put, List.setIfInBounds_toArray, List.set_cons_zero, List.set_cons_succ]
  refine wpAnyH_take (i := 4) (oi := ⟨some 18, _, _, _, _, _⟩) (v := ?_) rfl (by kernel_rfl) (by kernel_rfl) (by kernel_rfl) (fun _ _ _ h => h) (Or.inl ⟨by rfl, ?_⟩) (by assumption) ?_
  rotate_left
  · (intro wS hSw; (try dsimp only at hSw); go_simp); all_goals (with_reducible rfl)
  simp only [Act.put, List.setIfInBounds_toArray, List.set_cons_zero, List.set_cons_succ]
  refine wpAnyH_take (i := 5) (oi := ⟨some 19, _, _, _, _, _⟩) (v := ?_) rfl (by kernel_rfl) (by kernel_rfl) (by kernel_rfl) (fun _ _ _ h => h) (Or.inl ⟨by rfl, ?_⟩) (by assumption) ?_
  rotate_left
  · (intro wS hSw; (try dsimp only at hSw); go_simp); all_goals (with_reducible rfl)
  simp only [Act.put, List.setIfInBounds_toArray, List.set_cons_zero, List.set_cons_succ]
  refine wpAnyH_take (i := 6) (oi := ⟨some 20, _, _, _, _, _⟩) (v := ?_) rfl (by kernel_rfl) (by kernel_rfl) (by kernel_rfl) (fun _ _ _ h => h) (Or.inl ⟨by rfl, ?_⟩) (by assumption) ?_
  rotate_left
  · (intro wS hSw; (try dsimp only at hSw); go_simp); all_goals (with_reducible rfl)
  simp only [Act.put, List.setIfInBounds_toArray, List.set_cons_zero, List.set_cons_succ]
  refine wpAnyH_take (i := 7) (oi := ⟨some 21, _, _, _, _, _⟩) (v := ?_) rfl (by kernel_rfl) (by kernel_rfl) (by kernel_rfl) (fun _ _ _ h => h) (Or.inl ⟨by rfl, ?_⟩) (by assumption) ?_
  rotate_left
  · (intro wS hSw; (try dsimp only at hSw); go_simp); all_goals (with_reducible rfl)
  simp only [Act.put, List.setIfInBounds_toArray, List.set_cons_zero, List.set_cons_succ]
  refine wpAnyH_take (i := 8) (oi := ⟨some 22, _, _, _, _, _⟩) (v := ?_) rfl (by kernel_rfl) (by kernel_rfl) (by kernel_rfl) (fun _ _ _ h => h) (Or.inl ⟨by rfl, ?_⟩) (by assumption) ?_
  rotate_left
  · (intro wS hSw; (try dsimp only at hSw); go_simp); all_goals (with_reducible rfl)
  simp only [Act.put, List.setIfInBounds_toArray, List.set_cons_zero, List.set_cons_succ]
  refine wpAnyH_take (i := 9) (oi := ⟨some 23, _, _, _, _, _⟩) (v := ?_) rfl (by kernel_rfl) (by kernel_rfl) (by kernel_rfl) (fun _ _ _ h => h) (Or.inl ⟨by rfl, ?_⟩) (by assumption) ?_
  rotate_left
  · (intro wS hSw; (try dsimp only at hSw); go_simp); all_goals (with_reducible rfl)
  simp only [Act.put, List.setIfInBounds_toArray, List.set_cons_zero, List.set_cons_succ]
  refine wpAnyH_take (i := 11) (oi := ⟨some 25, _, _, _, _, _⟩) (v := ?_) rfl (by kernel_rfl) (by kernel_rfl) (by kernel_rfl) (fun _ _ _ h => h) (Or.inl ⟨by rfl, ?_⟩) (by assumption) ?_
  rotate_left
  · (intro wS hSw; (try dsimp only at hSw); go_simp); all_goals (with_reducible rfl)
  simp only [Act.put, List.setIfInBounds_toArray, List.set_cons_zero, List.set_cons_succ]
  refine wpAnyH_take (i := 12) (oi := ⟨some 26, _, _, _, _, _⟩) (v := ?_) rfl (by kernel_rfl) (by kernel_rfl) (by kernel_rfl) (fun _ _ _ h => h) (Or.inl ⟨by rfl, ?_⟩) (by assumption) ?_
  rotate_left
  · (intro wS hSw; (try dsimp only at hSw); go_simp); all_goals (with_reducible rfl)
  simp only [Act.put, List.setIfInBounds_toArray, List.set_cons_zero, List.set_cons_succ]
  refine wpAnyH_take (i := 13) (oi := ⟨some 27, _, _, _, _, _⟩) (v := ?_) rfl (by kernel_rfl) (by kernel_rfl) (by kernel_rfl) (fun _ _ _ h => h) (Or.inl ⟨by rfl, ?_⟩) (by assumption) ?_
  rotate_left
  · (intro wS hSw; (try dsimp only at hSw); go_simp); all_goals (with_reducible rfl)
  simp only [Act.put, List.setIfInBounds_toArray, List.set_cons_zero, List.set_cons_succ]
  refine wpAnyH_take (i := 14) (oi := ⟨some 28, _, _, _, _, _⟩) (v := ?_) rfl (by kernel_rfl) (by kernel_rfl) (by kernel_rfl) (fun _ _ _ h => h) (Or.inl ⟨by rfl, ?_⟩) (by assumption) ?_
  rotate_left
  · (intro wS hSw; (try dsimp only at hSw); go_simp); all_goals (with_reducible rfl)
  simp only [Act.put, List.setIfInBounds_toArray, List.set_cons_zero, List.set_cons_succ]
  refine wpAnyH_take (i := 15) (oi := ⟨some 29, _, _, _, _, _⟩) (v := ?_) rfl (by kernel_rfl) (by kernel_rfl) (by kernel_rfl) (fun _ _ _ h => h) (Or.inl ⟨by rfl, ?_⟩) (by assumption) ?_
  rotate_left
  · (intro wS hSw; (try dsimp only at hSw); go_simp); all_goals (with_reducible rfl)
  simp only [Act.put, List.setIfInBounds_toArray, List.set_cons_zero, List.set_cons_succ]
  refine wpAnyH_take (i := 16) (oi := ⟨some 30, _, _, _, _, _⟩) (v := ?_) rfl (by kernel_rfl) (by kernel_rfl) (by kernel_rfl) (fun _ _ _ h => h) (Or.inl ⟨by rfl, ?_⟩) (by assumption) ?_
  rotate_left
  · (intro wS hSw; (try dsimp only at hSw); go_simp); all_goals (with_reducible rfl)
  simp only [Act.put, List.setIfInBounds_toArray, List.set_cons_zero, List.set_cons_succ]
  refine wpAnyH_take (i := 17) (oi := ⟨some 31, _, _, _, _, _⟩) (v := ?_) rfl (by kernel_rfl) (by kernel_rfl) (by kernel_rfl) (fun _ _ _ h => h) (Or.inl ⟨by rfl, ?_⟩) (by assumption) ?_
  rotate_left
  · (intro wS hSw; (try dsimp only at hSw); go_simp); all_goals (with_reducible rfl)
  simp only [Act.put, List.setIfInBounds_toArray, List.set_cons_zero, List.set_cons_succ]
  refine wpAnyH_take (i := 18) (oi := ⟨some 32, _, _, _, _, _⟩) (v := ?_) rfl (by kernel_rfl) (by kernel_rfl) (by kernel_rfl) (fun _ _ _ h => h) (Or.inl ⟨by rfl, ?_⟩) (by assumption) ?_
  rotate_left
  · (intro wS hSw; (try dsimp only at hSw); go_simp); all_goals (with_reducible rfl)
  simp only [Act.put, List.setIfInBounds_toArray, List.set_cons_zero, List.set_cons_succ]
  refine wpAnyH_ready (rs := [10, 19]) (by kernel_rfl) (by simp) ?_
  refine AllReadyH.cons (o := ⟨some 24, _, _, _, _, _⟩) rfl (fun K hK => ?_) (AllReadyH.cons (o := ⟨some 33, _, _, _, _, _⟩) rfl (fun K hK => ?_) AllReadyH.nil)
  · go_simp
    refine hK.out _ _ ?_ (fun hHeld => ?_)
    · exact hS0
    clear hK K
    try simp only [Act.put, List.setIfInBounds_toArray, List.set_cons_zero, List.set_cons_succ]
    refine wpAnyH_ready (rs := [19]) (by kernel_rfl) (by simp) ?_
    refine AllReadyH.cons (o := ⟨some 33, _, _, _, _, _⟩) rfl (fun K hK => ?_) AllReadyH.nil
    go_simp
    refine hK.out _ _ ?_ (fun hHeld => ?_)
    · exact SA.out
    clear hK K
    try simp only [Act.put, List.setIfInBounds_toArray, List.set_cons_zero, List.set_cons_succ]
    refine wpAnyH_ready (rs := [20]) (by kernel_rfl) (by simp) ?_
    refine AllReadyH.cons (o := ⟨some 34, _, _, _, _, _⟩) rfl (fun K hK => ?_) AllReadyH.nil
    refine step_append_own2 rfl _ _ 22 rfl (g + 1) 4 i0 (.bool false) 1 1 Tryd.underlying22 GI.out G0.out G1.out G2.out rfl (by omega) (.slice AF n cF_) n (cellsB st.p.f) (by rfl) HF2.out _ (some ⟨w.heap.size, 0, none⟩) 1 1 [.bool X] (by rfl) HE2.out rfl (by simp [Value.oneCell']) N1.out N2.out HZ2.out ?_
    intro v' w3 hown3 hg3 hv3
    obtain ⟨A3, c3, rfl, _, _⟩ := own_form hown3
    have DD := DN.out w3 A3 c3 hown3 hg3 hv3
    have KP := KS.out w3 hg3
    obtain ⟨f4, m4b⟩ := FZ.out w3 hg3
    clear hown3 hg3 hv3
    refine hK.out _ _ ?_ (fun hHeld => ?_)
    · exact KP
    clear hK K
    try simp only [Act.put, List.setIfInBounds_toArray, List.set_cons_zero, List.set_cons_succ]
    refine wpAnyH_take (i := 21) (oi := ⟨some 35, _, _, _, _, _⟩) (v := ?_) rfl (by kernel_rfl) (by kernel_rfl) (by kernel_rfl) (fun _ _ _ h => h) (Or.inl ⟨by rfl, ?_⟩) (by assumption) ?_
    rotate_left
    · (intro wS hSw; (try dsimp only at hSw); go_simp); all_goals (with_reducible rfl)
    simp only [Act.put, List.setIfInBounds_toArray, List.set_cons_zero, List.set_cons_succ]
    refine wpAnyH_take (i := 22) (oi := ⟨some 36, _, _, _, _, _⟩) (v := ?_) rfl (by kernel_rfl) (by kernel_rfl) (by kernel_rfl) (fun _ _ _ h => h) (Or.inl ⟨by rfl, ?_⟩) (by assumption) ?_
    rotate_left
    · (intro wS hSw; (try dsimp only at hSw); go_simp); all_goals (with_reducible rfl)
    simp only [Act.put, List.setIfInBounds_toArray, List.set_cons_zero, List.set_cons_succ]
    refine wpAnyH_ready (rs := [23]) (by kernel_rfl) (by simp) ?_
    refine AllReadyH.cons (o := ⟨none, _, _, _, _, _⟩) rfl (fun K hK => ?_) AllReadyH.nil
    go_simp
    refine hK.out _ _ ?_ (fun hHeld => ?_)
    · exact KT.out _ _ KP
    clear hK K
    try simp only [Act.put, List.setIfInBounds_toArray, List.set_cons_zero, List.set_cons_succ]
    refine wpAnyH_done (by kernel_rfl) ?_ _
    go_wp2_with fail
    go_end0
    exact DD
  · go_simp
    refine hK.out _ _ ?_ (fun hHeld => ?_)
    · exact SA.out
    clear hK K
    try simp only [Act.put, List.setIfInBounds_toArray, List.set_cons_zero, List.set_cons_succ]
    refine wpAnyH_ready (rs := [10]) (by kernel_rfl) (by simp) ?_
    refine AllReadyH.cons (o := ⟨some 24, _, _, _, _, _⟩) rfl (fun K hK => ?_) AllReadyH.nil
    go_simp
    refine hK.out _ _ ?_ (fun hHeld => ?_)
    · exact SA.out
    clear hK K
    try simp only [Act.put, List.setIfInBounds_toArray, List.set_cons_zero, List.set_cons_succ]
    refine wpAnyH_ready (rs := [20]) (by kernel_rfl) (by simp) ?_
    refine AllReadyH.cons (o := ⟨some 34, _, _, _, _, _⟩) rfl (fun K hK => ?_) AllReadyH.nil
    refine step_append_own2 rfl _ _ 22 rfl (g + 1) 4 i0 (.bool false) 1 1 Tryd.underlying22 GI.out G0.out G1.out G2.out rfl (by omega) (.slice AF n cF_) n (cellsB st.p.f) (by rfl) HF2.out _ (some ⟨w.heap.size, 0, none⟩) 1 1 [.bool X] (by rfl) HE2.out rfl (by simp [Value.oneCell']) N1.out N2.out HZ2.out ?_
    intro v' w3 hown3 hg3 hv3
    obtain ⟨A3, c3, rfl, _, _⟩ := own_form hown3
    have DD := DN.out w3 A3 c3 hown3 hg3 hv3
    have KP := KS.out w3 hg3
    obtain ⟨f4, m4b⟩ := FZ.out w3 hg3
    clear hown3 hg3 hv3
    refine hK.out _ _ ?_ (fun hHeld => ?_)
    · exact KP
    clear hK K
    try simp only [Act.put, List.setIfInBounds_toArray, List.set_cons_zero, List.set_cons_succ]
    refine wpAnyH_take (i := 21) (oi := ⟨some 35, _, _, _, _, _⟩) (v := ?_) rfl (by kernel_rfl) (by kernel_rfl) (by kernel_rfl) (fun _ _ _ h => h) (Or.inl ⟨by rfl, ?_⟩) (by assumption) ?_
    rotate_left
    · (intro wS hSw; (try dsimp only at hSw); go_simp); all_goals (with_reducible rfl)
    simp only [Act.put, List.setIfInBounds_toArray, List.set_cons_zero, List.set_cons_succ]
    refine wpAnyH_take (i := 22) (oi := ⟨some 36, _, _, _, _, _⟩) (v := ?_) rfl (by kernel_rfl) (by kernel_rfl) (by kernel_rfl) (fun _ _ _ h => h) (Or.inl ⟨by rfl, ?_⟩) (by assumption) ?_
    rotate_left
    · (intro wS hSw; (try dsimp only at hSw); go_simp); all_goals (with_reducible rfl)
    simp only [Act.put, List.setIfInBounds_toArray, List.set_cons_zero, List.set_cons_succ]
    refine wpAnyH_ready (rs := [23]) (by kernel_rfl) (by simp) ?_
    refine AllReadyH.cons (o := ⟨none, _, _, _, _, _⟩) rfl (fun K hK => ?_) AllReadyH.nil
    go_simp
    refine hK.out _ _ ?_ (fun hHeld => ?_)
    · exact KT.out _ _ KP
    clear hK K
    try simp only [Act.put, List.setIfInBounds_toArray, List.set_cons_zero, List.set_cons_succ]
    refine wpAnyH_done (by kernel_rfl) ?_ _
    go_wp2_with fail
    go_end0
    exact DD
theorem RAt.setfl {w : World} {g gi gm : Nat} {c i : Int} {st : RS} {vN vS vF vT : Value} {lo hi q : Nat} (h : RAt w g gi gm c i st vN vS vF vT lo hi) (hq : q < 256) : RAt (w.setCell ⟨g, 2, none⟩ (.int .u64 (q : Int))) g gi gm c i { st with fl := q } vN vS vF vT lo hi ∧ Below gi w (w.setCell ⟨g, 2, none⟩ (.int .u64 (q : Int))) := by
  have l1 := h.l1
  have l2 := h.l2
  have l3 := h.l3
  have l4 := h.l4
  obtain ⟨A, cp, e, ht⟩ := h.t
  have keep : ∀ k, k ≠ g → (w.setCell ⟨g, 2, none⟩ (.int .u64 (q : Int))).heap[k]? = w.heap[k]? := fun k hne => Below.heap_setCell w ⟨g, 2, none⟩ _ k hne
  have ow : ∀ {e : TypeId} {v : Value} {n : Nat} {xs : List Value}, w.ownsRow (g + 1) e 1 v n xs → (w.setCell ⟨g, 2, none⟩ (.int .u64 (q : Int))).ownsRow (g + 1) e 1 v n xs := fun ho => own_same ho (fun k hk => keep k (by have := (ho.lt k hk).1; omega))
  have hb : Below (gi + 1) w (w.setCell ⟨g, 2, none⟩ (.int .u64 (q : Int))) := (Below.refl _ w).setCell (p := ⟨g, 2, none⟩) (by show gi + 1 ≤ g; omega) _
  exact ⟨⟨h.rd.set8 2 _ rfl, h.in_.below hb (by omega), (keep gm (by omega)).trans h.m, ow h.n, ow h.s, ow h.f, ⟨A, cp, e, TabS.keep (fun b o hb' => World.cell?_of_block (a := ⟨b, o, none⟩) (keep b (by omega))) 8 _ _ _ ht⟩, l1, l2, l3, by simpa [World.setCell] using l4, h.an, h.as_, h.af, hq⟩, hb.mono (by omega)⟩
theorem nat_one (l : List UInt8) : nat (tk 1 l) < 256 := by
  have h := nat_lt (tk 1 l)
  have h1 := tk_le 1 l
  have h2 : 256 ^ (tk 1 l).length ≤ 256 ^ 1 := Nat.pow_le_pow_right (by omega) h1
  omega
set_option maxHeartbeats 1000000 in
theorem rflag_0 (g gi gm : Nat) (c i : Int) (st : RS) (vN vS vF vT : Value) (lo hi : Nat) (w : World) (h : RAt w g gi gm c i st vN vS vF vT lo hi) (hs : st.p.f.length ≤ 1000) :
    Calls Tryd.prog 63 #[.pointer (some ⟨g, 0, none⟩), .int .i64 0] w (Reads g gi gm c i { st with b := rst 1 st.b, bad := st.bad || short 1 st.b, fl := nat (tk 1 st.b), p := st.p.app (pF ((nat (tk 1 st.b)).testBit 0)) } lo hi w) := by
  obtain ⟨i0, hi0, hz0, hz1, hz2⟩ := info_parts bool_info
  have GI := Lib.hid hi0
  have G0 := Lib.hid hz0
  have G1 := Lib.hid hz1
  have G2 := Lib.hid hz2
  have d0 : w.cell? ⟨g, 0, none⟩ = some (.pointer (some ⟨gi, 0, none⟩)) := h.rd.cell 0
  have hq := nat_one st.b
  obtain ⟨q, hqq⟩ : ∃ q, q = nat (tk 1 st.b) := ⟨_, rfl⟩
  rw [← hqq] at hq ⊢
  obtain ⟨R, hR⟩ : ∃ R, R = rst 1 st.b := ⟨_, rfl⟩
  obtain ⟨bd, hbd⟩ : ∃ bd, bd = (st.bad || short 1 st.b) := ⟨_, rfl⟩
  rw [← hR, ← hbd]
  have HQQ := Lib.hid hqq
  have HR := Lib.hid hR
  have HBD := Lib.hid hbd
  have HH := Lib.hid h
  have HIN := Lib.hid h.in_
  obtain ⟨X, hX⟩ : ∃ X, X = q.testBit 0 := ⟨_, rfl⟩
  rw [← hX]
  have HX : Hid ((bits .and .u64 (q : Int) 1 == 1) = X) := Lib.hid (by rw [hX]; have := flag_bit q 0 hq; simpa using this)
  clear hqq hR hbd h hX
  go_enter Tryd.func63, Tryd.ntmps63
  go_wp2_with fail
  refine (in_int gi 1 st.b st.bad w HIN.out).mono ?_
  rw [show wid 1 = 1 from rfl]
  rintro e w1 ⟨rfl, hin, hg1⟩
  rw [← HR.out, ← HBD.out] at hin
  rw [← HQQ.out]
  obtain ⟨r1, r2⟩ := HH.out.read hg1 hin
  have e0 : w1.cell? ⟨g, 2, none⟩ = some (.int .u64 (st.fl : Int)) := r1.rd.cell 2
  have ef := r1.rd.frozen 2
  obtain ⟨r3, r4⟩ := r1.setfl hq
  obtain ⟨wr, hwr⟩ : ∃ wr, wr = w1.setCell ⟨g, 2, none⟩ (.int .u64 (q : Int)) := ⟨_, rfl⟩
  rw [← hwr] at r3 r4
  have HB4 := Lib.hid (r2.trans r4)
  have HWR := Lib.hid hwr
  clear r1 r2 r4 hin hg1 hwr
  obtain ⟨AF, cF_, rfl, _, hcm⟩ := own_form r3.f
  have c1 : wr.drew.cell? ⟨g, 1, none⟩ = some (.pointer (some ⟨gm, 0, none⟩)) := r3.rd.cell 1
  have c2 : wr.drew.cell? ⟨g, 2, none⟩ = some (.int .u64 ((q : Nat) : Int)) := r3.rd.cell 2
  have hfl := r3.fl
  obtain ⟨n, hn⟩ : ∃ n, n = st.p.f.length := ⟨_, rfl⟩
  have m4 : wr.drew.cell? ⟨gm, 4, none⟩ = some (.slice AF n cF_) := by rw [hn]; exact r3.m.cell 4
  obtain ⟨wA, hwA⟩ : ∃ wA, wA = wr.drew.alloc (.cells #[.bool X] 4) := ⟨_, rfl⟩
  have hA : Below wr.heap.size wr wA := by rw [hwA]; exact (Below.refl _ _).drew.alloc (Nat.le_refl _) _
  have hsA : wA.heap.size = wr.heap.size + 1 := by rw [hwA]; show (wr.drew.alloc _).heap.size = wr.drew.heap.size + 1; simp
  have hown : ∀ k, (Value.slice AF n cF_).ownBlock = some k → g + 1 ≤ k := fun k hk => by rw [hn] at hk; exact (r3.f.lt k hk).1
  have ho2 : wA.ownsRow (g + 1) 4 1 (.slice AF n cF_) n (cellsB st.p.f) := by
    rw [hn]
    exact own_same r3.f (fun k hk => hA.block k (r3.f.lt k hk).2)
  have he2 : Lies wA wA.heap.size (some ⟨wr.heap.size, 0, none⟩) [.bool X] := by
    have := Lies.one wr.drew 4 (.bool X)
    rw [← hwA] at this
    rw [hsA]
    exact this
  have HF2 : Hid ((wr.drew.alloc (.cells #[.bool (bits .and .u64 (q : Int) 1 == 1)] 4)).ownsRow (g + 1) 4 1 (.slice AF n cF_) n (cellsB st.p.f)) := Lib.hid (by rw [HX.out, ← hwA]; exact ho2)
  have HE2 : Hid (Lies (wr.drew.alloc (.cells #[.bool (bits .and .u64 (q : Int) 1 == 1)] 4)) wA.heap.size (some ⟨wr.heap.size, 0, none⟩) [.bool X]) := Lib.hid (by rw [HX.out, ← hwA]; exact he2)
  have HZ2 : Hid (g + 1 ≤ (wr.drew.alloc (.cells #[.bool (bits .and .u64 (q : Int) 1 == 1)] 4)).heap.size) := Lib.hid (by rw [HX.out, ← hwA, hsA]; have := r3.rd.lt; omega)
  have N1 : Hid (n + 1 ≤ maxLen) := Lib.hid (by unfold maxLen; omega)
  have N2 : Hid ((n + 1) * 1 ≤ 140737488355328) := Lib.hid (by omega)
  have mid : ∀ w3, wA.grownBy w3 (Value.slice AF n cF_).ownBlock → Whole w3 g 95 #[.pointer (some ⟨gi, 0, none⟩), .pointer (some ⟨gm, 0, none⟩), .int .u64 ((q : Nat) : Int), .bool st.tb] ∧ Whole w3 gm 32 #[.int .i64 c, .int .i64 i, vN, vS, .slice AF n cF_, vT] := by
    intro w3 hg3
    have := radd_mid r3 hA hg3 hown
    rw [← hn] at this
    exact this
  have SA : Hid ((wr.drew.alloc (.cells #[.bool (bits .and .u64 (q : Int) 1 == 1)] 4)).cell? ⟨g, 1, none⟩ = some (.pointer (some ⟨gm, 0, none⟩)) ∧ (wr.drew.alloc (.cells #[.bool (bits .and .u64 (q : Int) 1 == 1)] 4)).cell? ⟨g, 2, none⟩ = some (.int .u64 ((q : Nat) : Int))) := Lib.hid (by
    rw [HX.out, ← hwA]
    have := (mid wA (only_refl _ _)).1
    exact ⟨this.cell 1, this.cell 2⟩)
  have m4a : (wr.alloc (.cells #[.bool (bits .and .u64 (q : Int) 1 == 1)] 4)).cell? ⟨gm, 4, none⟩ = some (.slice AF n cF_) := by
    have h5 := (mid wA (only_refl _ _)).2.cell 4
    rw [hwA, ← HX.out] at h5
    exact h5
  have KS : Hid (∀ w3, (wr.drew.alloc (.cells #[.bool (bits .and .u64 (q : Int) 1 == 1)] 4)).grownBy w3 (Value.slice AF n cF_).ownBlock → w3.cell? ⟨g, 1, none⟩ = some (.pointer (some ⟨gm, 0, none⟩)) ∧ w3.cell? ⟨g, 2, none⟩ = some (.int .u64 ((q : Nat) : Int))) := Lib.hid (by
    rw [HX.out, ← hwA]
    intro w3 hg3
    have := (mid w3 hg3).1
    exact ⟨this.cell 1, this.cell 2⟩)
  have FZ : Hid (∀ w3, (wr.drew.alloc (.cells #[.bool (bits .and .u64 (q : Int) 1 == 1)] 4)).grownBy w3 (Value.slice AF n cF_).ownBlock → w3.frozen? ⟨gm, 4, none⟩ = false ∧ w3.cell? ⟨gm, 4, none⟩ = some (.slice AF n cF_)) := Lib.hid (by
    rw [HX.out, ← hwA]
    intro w3 hg3
    have := (mid w3 hg3).2
    exact ⟨this.frozen 4, this.cell 4⟩)
  have KT : Hid (∀ (w3 : World) (v : Value), (w3.cell? ⟨g, 1, none⟩ = some (.pointer (some ⟨gm, 0, none⟩)) ∧ w3.cell? ⟨g, 2, none⟩ = some (.int .u64 ((q : Nat) : Int))) → ((w3.setCell ⟨gm, 4, none⟩ v).cell? ⟨g, 1, none⟩ = some (.pointer (some ⟨gm, 0, none⟩)) ∧ (w3.setCell ⟨gm, 4, none⟩ v).cell? ⟨g, 2, none⟩ = some (.int .u64 ((q : Nat) : Int)))) := Lib.hid (by
    intro w3 v ⟨q1, q2⟩
    have hne : gm ≠ g := by have := r3.l2; omega
    exact ⟨(World.cell?_setCell_far w3 ⟨gm, 4, none⟩ ⟨g, 1, none⟩ v hne).trans q1, (World.cell?_setCell_far w3 ⟨gm, 4, none⟩ ⟨g, 2, none⟩ v hne).trans q2⟩)
  have DN : Hid (∀ w3 A3 c3, w3.ownsRow (g + 1) 4 1 (.slice A3 (n + 1) c3) (n + 1) (cellsB st.p.f ++ [.bool X]) → (wr.drew.alloc (.cells #[.bool (bits .and .u64 (q : Int) 1 == 1)] 4)).grownBy w3 (Value.slice AF n cF_).ownBlock → ((Value.slice A3 (n + 1) c3).ownBlock = (Value.slice AF n cF_).ownBlock ∨ (Value.slice A3 (n + 1) c3).ownBlock = some (wr.drew.alloc (.cells #[.bool (bits .and .u64 (q : Int) 1 == 1)] 4)).heap.size) → Reads g gi gm c i { b := R, bad := bd, fl := q, p := st.p.app (pF X), tb := st.tb } lo hi w (.returned (.tuple #[])) (w3.setCell ⟨gm, 4, none⟩ (.slice A3 (n + 1) c3))) := Lib.hid (by
    rw [HX.out, ← hwA]
    intro w3 A3 c3 g1 g2 g3
    rw [hn] at g1 g2 g3 ⊢
    obtain ⟨k1, k2⟩ := radd_f (x := X) r3 hA g1 g2 g3
    exact ⟨rfl, ⟨_, _, _, _, k1⟩, HB4.out.trans k2⟩)
  clear r3 hwA hA hsA hown ho2 he2 mid hn
  go_wp2_with fail
  rw [← HWR.out]
  refine wp_region_held_drew (S := (fun w' => w'.cell? ⟨g, 1, none⟩ = some (.pointer (some ⟨gm, 0, none⟩)) ∧ w'.cell? ⟨g, 2, none⟩ = some (.int .u64 ((q : Nat) : Int)))) (by kernel_rfl) ⟨c1, c2⟩ (fun hS0 => ?_)
  refine wpAnyH_take (i := 0) (oi := ⟨some 14, _, _, _, _, _⟩) (v := ?_) rfl (by kernel_rfl) (by kernel_rfl) (by kernel_rfl) (fun _ _ _ h => h) (Or.inl ⟨by rfl, ?_⟩) (by assumption) ?_
  rotate_left
  · (intro wS hSw; (try dsimp only at hSw); go_simp); all_goals (with_reducible rfl)
  simp only [Act.put, List.setIfInBounds_toArray, List.set_cons_zero, List.set_cons_succ]
  refine wpAnyH_take (i := 1) (oi := ⟨some 15, _, _, _, _, _⟩) (v := ?_) rfl (by kernel_rfl) (by kernel_rfl) (by kernel_rfl) (fun _ _ _ h => h) (Or.inl ⟨by rfl, ?_⟩) (by assumption) ?_
  rotate_left
  · (intro wS hSw; (try dsimp only at hSw); go_simp); all_goals (with_reducible rfl)
  simp only [Act.put, List.setIfInBounds_toArray, List.set_cons_zero, List.set_cons_succ]
  refine wpAnyH_take (i := 2) (oi := ⟨some 16, _, _, _, _, _⟩) (v := ?_) rfl (by kernel_rfl) (by kernel_rfl) (by kernel_rfl) (fun _ _ _ h => h) (Or.inl ⟨by rfl, ?_⟩) (by assumption) ?_
  rotate_left
  · (intro wS hSw; (try dsimp only at hSw); go_simp); all_goals (with_reducible rfl)
  simp only [Act.put, List.setIfInBounds_toArray, List.set_cons_zero, List.set_cons_succ]
  refine wpAnyH_take (i := 3) (oi := ⟨some 17, _, _, _, _, _⟩) (v := ?_) rfl (by kernel_rfl) (by kernel_rfl) (by kernel_rfl) (fun _ _ _ h => h) (Or.inl ⟨by rfl, ?_⟩) (by assumption) ?_
  rotate_left
  · (intro wS hSw; (try dsimp only at hSw); go_simp); all_goals (with_reducible rfl)
  simp only [Act.put, List.setIfInBounds_toArray, List.set_cons_zero, List.set_cons_succ]
  refine wpAnyH_take (i := 4) (oi := ⟨some 18, _, _, _, _, _⟩) (v := ?_) rfl (by kernel_rfl) (by kernel_rfl) (by kernel_rfl) (fun _ _ _ h => h) (Or.inl ⟨by rfl, ?_⟩) (by assumption) ?_
  rotate_left
  · (intro wS hSw; (try dsimp only at hSw); go_simp); all_goals (with_reducible rfl)
  simp only [Act.put, List.setIfInBounds_toArray, List.set_cons_zero, List.set_cons_succ]
  refine wpAnyH_take (i := 5) (oi := ⟨some 19, _, _, _, _, _⟩) (v := ?_) rfl (by kernel_rfl) (by kernel_rfl) (by kernel_rfl) (fun _ _ _ h => h) (Or.inl ⟨by rfl, ?_⟩) (by assumption) ?_
  rotate_left
  · (intro wS hSw; (try dsimp only at hSw); go_simp); all_goals (with_reducible rfl)
  simp only [Act.put, List.setIfInBounds_toArray, List.set_cons_zero, List.set_cons_succ]
  refine wpAnyH_take (i := 6) (oi := ⟨some 20, _, _, _, _, _⟩) (v := ?_) rfl (by kernel_rfl) (by kernel_rfl) (by kernel_rfl) (fun _ _ _ h => h) (Or.inl ⟨by rfl, ?_⟩) (by assumption) ?_
  rotate_left
  · (intro wS hSw; (try dsimp only at hSw); go_simp); all_goals (with_reducible rfl)
  simp only [Act.put, List.setIfInBounds_toArray, List.set_cons_zero, List.set_cons_succ]
  refine wpAnyH_take (i := 7) (oi := ⟨some 21, _, _, _, _, _⟩) (v := ?_) rfl (by kernel_rfl) (by kernel_rfl) (by kernel_rfl) (fun _ _ _ h => h) (Or.inl ⟨by rfl, ?_⟩) (by assumption) ?_
  rotate_left
  · (intro wS hSw; (try dsimp only at hSw); go_simp); all_goals (with_reducible rfl)
  simp only [Act.put, List.setIfInBounds_toArray, List.set_cons_zero, List.set_cons_succ]
  refine wpAnyH_take (i := 8) (oi := ⟨some 22, _, _, _, _, _⟩) (v := ?_) rfl (by kernel_rfl) (by kernel_rfl) (by kernel_rfl) (fun _ _ _ h => h) (Or.inl ⟨by rfl, ?_⟩) (by assumption) ?_
  rotate_left
  · (intro wS hSw; (try dsimp only at hSw); go_simp); all_goals (with_reducible rfl)
  simp only [Act.put, List.setIfInBounds_toArray, List.set_cons_zero, List.set_cons_succ]
  refine wpAnyH_take (i := 9) (oi := ⟨some 23, _, _, _, _, _⟩) (v := ?_) rfl (by kernel_rfl) (by kernel_rfl) (by kernel_rfl) (fun _ _ _ h => h) (Or.inl ⟨by rfl, ?_⟩) (by assumption) ?_
  rotate_left
  · (intro wS hSw; (try dsimp only at hSw); go_simp); all_goals (with_reducible rfl)
  simp only [Act.put, List.setIfInBounds_toArray, List.set_cons_zero, List.set_cons_succ]
  refine wpAnyH_take (i := 11) (oi := ⟨some 25, _, _, _, _, _⟩) (v := ?_) rfl (by kernel_rfl) (by kernel_rfl) (by kernel_rfl) (fun _ _ _ h => h) (Or.inl ⟨by rfl, ?_⟩) (by assumption) ?_
  rotate_left
  · (intro wS hSw; (try dsimp only at hSw); go_simp); all_goals (with_reducible rfl)
  simp only [Act.put, List.setIfInBounds_toArray, List.set_cons_zero, List.set_cons_succ]
  refine wpAnyH_take (i := 12) (oi := ⟨some 26, _, _, _, _, _⟩) (v := ?_) rfl (by kernel_rfl) (by kernel_rfl) (by kernel_rfl) (fun _ _ _ h => h) (Or.inl ⟨by rfl, ?_⟩) (by assumption) ?_
  rotate_left
  · (intro wS hSw; (try dsimp only at hSw); go_simp); all_goals (with_reducible rfl)
  simp only [Act.put, List.setIfInBounds_toArray, List.set_cons_zero, List.set_cons_succ]
  refine wpAnyH_take (i := 13) (oi := ⟨some 27, _, _, _, _, _⟩) (v := ?_) rfl (by kernel_rfl) (by kernel_rfl) (by kernel_rfl) (fun _ _ _ h => h) (Or.inl ⟨by rfl, ?_⟩) (by assumption) ?_
  rotate_left
  · (intro wS hSw; (try dsimp only at hSw); go_simp); all_goals (with_reducible rfl)
  simp only [Act.put, List.setIfInBounds_toArray, List.set_cons_zero, List.set_cons_succ]
  refine wpAnyH_take (i := 14) (oi := ⟨some 28, _, _, _, _, _⟩) (v := ?_) rfl (by kernel_rfl) (by kernel_rfl) (by kernel_rfl) (fun _ _ _ h => h) (Or.inl ⟨by rfl, ?_⟩) (by assumption) ?_
  rotate_left
  · (intro wS hSw; (try dsimp only at hSw); go_simp); all_goals (with_reducible rfl)
  simp only [Act.put, List.setIfInBounds_toArray, List.set_cons_zero, List.set_cons_succ]
  refine wpAnyH_take (i := 15) (oi := ⟨some 29, _, _, _, _, _⟩) (v := ?_) rfl (by kernel_rfl) (by kernel_rfl) (by kernel_rfl) (fun _ _ _ h => h) (Or.inl ⟨by rfl, ?_⟩) (by assumption) ?_
  rotate_left
  · (intro wS hSw; (try dsimp only at hSw); go_simp); all_goals (with_reducible rfl)
  simp only [Act.put, List.setIfInBounds_toArray, List.set_cons_zero, List.set_cons_succ]
  refine wpAnyH_take (i := 16) (oi := ⟨some 30, _, _, _, _, _⟩) (v := ?_) rfl (by kernel_rfl) (by kernel_rfl) (by kernel_rfl) (fun _ _ _ h => h) (Or.inl ⟨by rfl, ?_⟩) (by assumption) ?_
  rotate_left
  · (intro wS hSw; (try dsimp only at hSw); go_simp); all_goals (with_reducible rfl)
  simp only [Act.put, List.setIfInBounds_toArray, List.set_cons_zero, List.set_cons_succ]
  refine wpAnyH_take (i := 17) (oi := ⟨some 31, _, _, _, _, _⟩) (v := ?_) rfl (by kernel_rfl) (by kernel_rfl) (by kernel_rfl) (fun _ _ _ h => h) (Or.inl ⟨by rfl, ?_⟩) (by assumption) ?_
  rotate_left
  · (intro wS hSw; (try dsimp only at hSw); go_simp); all_goals (with_reducible rfl)
  simp only [Act.put, List.setIfInBounds_toArray, List.set_cons_zero, List.set_cons_succ]
  refine wpAnyH_take (i := 18) (oi := ⟨some 32, _, _, _, _, _⟩) (v := ?_) rfl (by kernel_rfl) (by kernel_rfl) (by kernel_rfl) (fun _ _ _ h => h) (Or.inl ⟨by rfl, ?_⟩) (by assumption) ?_
  rotate_left
  · (intro wS hSw; (try dsimp only at hSw); go_simp); all_goals (with_reducible rfl)
  simp only [Act.put, List.setIfInBounds_toArray, List.set_cons_zero, List.set_cons_succ]
  refine wpAnyH_ready (rs := [10, 19]) (by kernel_rfl) (by simp) ?_
  refine AllReadyH.cons (o := ⟨some 24, _, _, _, _, _⟩) rfl (fun K hK => ?_) (AllReadyH.cons (o := ⟨some 33, _, _, _, _, _⟩) rfl (fun K hK => ?_) AllReadyH.nil)
  · go_simp
    refine hK.out _ _ ?_ (fun hHeld => ?_)
    · exact hS0
    clear hK K
    try simp only [Act.put, List.setIfInBounds_toArray, List.set_cons_zero, List.set_cons_succ]
    refine wpAnyH_ready (rs := [19]) (by kernel_rfl) (by simp) ?_
    refine AllReadyH.cons (o := ⟨some 33, _, _, _, _, _⟩) rfl (fun K hK => ?_) AllReadyH.nil
    go_simp
    refine hK.out _ _ ?_ (fun hHeld => ?_)
    · exact SA.out
    clear hK K
    try simp only [Act.put, List.setIfInBounds_toArray, List.set_cons_zero, List.set_cons_succ]
    refine wpAnyH_ready (rs := [20]) (by kernel_rfl) (by simp) ?_
    refine AllReadyH.cons (o := ⟨some 34, _, _, _, _, _⟩) rfl (fun K hK => ?_) AllReadyH.nil
    refine step_append_own2 rfl _ _ 22 rfl (g + 1) 4 i0 (.bool false) 1 1 Tryd.underlying22 GI.out G0.out G1.out G2.out rfl (by omega) (.slice AF n cF_) n (cellsB st.p.f) (by rfl) HF2.out _ (some ⟨wr.heap.size, 0, none⟩) 1 1 [.bool X] (by rfl) HE2.out rfl (by simp [Value.oneCell']) N1.out N2.out HZ2.out ?_
    intro v' w3 hown3 hg3 hv3
    obtain ⟨A3, c3, rfl, _, _⟩ := own_form hown3
    have DD := DN.out w3 A3 c3 hown3 hg3 hv3
    have KP := KS.out w3 hg3
    obtain ⟨f4, m4b⟩ := FZ.out w3 hg3
    clear hown3 hg3 hv3
    refine hK.out _ _ ?_ (fun hHeld => ?_)
    · exact KP
    clear hK K
    try simp only [Act.put, List.setIfInBounds_toArray, List.set_cons_zero, List.set_cons_succ]
    refine wpAnyH_take (i := 21) (oi := ⟨some 35, _, _, _, _, _⟩) (v := ?_) rfl (by kernel_rfl) (by kernel_rfl) (by kernel_rfl) (fun _ _ _ h => h) (Or.inl ⟨by rfl, ?_⟩) (by assumption) ?_
    rotate_left
    · (intro wS hSw; (try dsimp only at hSw); go_simp); all_goals (with_reducible rfl)
    simp only [Act.put, List.setIfInBounds_toArray, List.set_cons_zero, List.set_cons_succ]
    refine wpAnyH_take (i := 22) (oi := ⟨some 36, _, _, _, _, _⟩) (v := ?_) rfl (by kernel_rfl) (by kernel_rfl) (by kernel_rfl) (fun _ _ _ h => h) (Or.inl ⟨by rfl, ?_⟩) (by assumption) ?_
    rotate_left
    · (intro wS hSw; (try dsimp only at hSw); go_simp); all_goals (with_reducible rfl)
    simp only [Act.put, List.setIfInBounds_toArray, List.set_cons_zero, List.set_cons_succ]
    refine wpAnyH_ready (rs := [23]) (by kernel_rfl) (by simp) ?_
    refine AllReadyH.cons (o := ⟨none, _, _, _, _, _⟩) rfl (fun K hK => ?_) AllReadyH.nil
    go_simp
    refine hK.out _ _ ?_ (fun hHeld => ?_)
    · exact KT.out _ _ KP
    clear hK K
    try simp only [Act.put, List.setIfInBounds_toArray, List.set_cons_zero, List.set_cons_succ]
    refine wpAnyH_done (by kernel_rfl) ?_ _
    go_wp2_with fail
    go_end0
    exact DD
  · go_simp
    refine hK.out _ _ ?_ (fun hHeld => ?_)
    · exact SA.out
    clear hK K
    try simp only [Act.put, List.setIfInBounds_toArray, List.set_cons_zero, List.set_cons_succ]
    refine wpAnyH_ready (rs := [10]) (by kernel_rfl) (by simp) ?_
    refine AllReadyH.cons (o := ⟨some 24, _, _, _, _, _⟩) rfl (fun K hK => ?_) AllReadyH.nil
    go_simp
    refine hK.out _ _ ?_ (fun hHeld => ?_)
    · exact SA.out
    clear hK K
    try simp only [Act.put, List.setIfInBounds_toArray, List.set_cons_zero, List.set_cons_succ]
    refine wpAnyH_ready (rs := [20]) (by kernel_rfl) (by simp) ?_
    refine AllReadyH.cons (o := ⟨some 34, _, _, _, _, _⟩) rfl (fun K hK => ?_) AllReadyH.nil
    refine step_append_own2 rfl _ _ 22 rfl (g + 1) 4 i0 (.bool false) 1 1 Tryd.underlying22 GI.out G0.out G1.out G2.out rfl (by omega) (.slice AF n cF_) n (cellsB st.p.f) (by rfl) HF2.out _ (some ⟨wr.heap.size, 0, none⟩) 1 1 [.bool X] (by rfl) HE2.out rfl (by simp [Value.oneCell']) N1.out N2.out HZ2.out ?_
    intro v' w3 hown3 hg3 hv3
    obtain ⟨A3, c3, rfl, _, _⟩ := own_form hown3
    have DD := DN.out w3 A3 c3 hown3 hg3 hv3
    have KP := KS.out w3 hg3
    obtain ⟨f4, m4b⟩ := FZ.out w3 hg3
    clear hown3 hg3 hv3
    refine hK.out _ _ ?_ (fun hHeld => ?_)
    · exact KP
    clear hK K
    try simp only [Act.put, List.setIfInBounds_toArray, List.set_cons_zero, List.set_cons_succ]
    refine wpAnyH_take (i := 21) (oi := ⟨some 35, _, _, _, _, _⟩) (v := ?_) rfl (by kernel_rfl) (by kernel_rfl) (by kernel_rfl) (fun _ _ _ h => h) (Or.inl ⟨by rfl, ?_⟩) (by assumption) ?_
    rotate_left
    · (intro wS hSw; (try dsimp only at hSw); go_simp); all_goals (with_reducible rfl)
    simp only [Act.put, List.setIfInBounds_toArray, List.set_cons_zero, List.set_cons_succ]
    refine wpAnyH_take (i := 22) (oi := ⟨some 36, _, _, _, _, _⟩) (v := ?_) rfl (by kernel_rfl) (by kernel_rfl) (by kernel_rfl) (fun _ _ _ h => h) (Or.inl ⟨by rfl, ?_⟩) (by assumption) ?_
    rotate_left
    · (intro wS hSw; (try dsimp only at hSw); go_simp); all_goals (with_reducible rfl)
    simp only [Act.put, List.setIfInBounds_toArray, List.set_cons_zero, List.set_cons_succ]
    refine wpAnyH_ready (rs := [23]) (by kernel_rfl) (by simp) ?_
    refine AllReadyH.cons (o := ⟨none, _, _, _, _, _⟩) rfl (fun K hK => ?_) AllReadyH.nil
    go_simp
    refine hK.out _ _ ?_ (fun hHeld => ?_)
    · exact KT.out _ _ KP
    clear hK K
    try simp only [Act.put, List.setIfInBounds_toArray, List.set_cons_zero, List.set_cons_succ]
    refine wpAnyH_done (by kernel_rfl) ?_ _
    go_wp2_with fail
    go_end0
    exact DD
theorem rflag_any (g gi gm : Nat) (c i : Int) (st : RS) (vN vS vF vT : Value) (lo hi k : Nat) (w : World) (h : RAt w g gi gm c i st vN vS vF vT lo hi) (hs : st.p.f.length ≤ 1000) (hk : k < 8) :
    Calls Tryd.prog 63 #[.pointer (some ⟨g, 0, none⟩), .int .i64 k] w (Reads g gi gm c i (rstep 102 k st) lo hi w) := by
  by_cases h0 : k = 0
  · subst h0
    exact rflag_0 g gi gm c i st vN vS vF vT lo hi w h hs
  · have e : rstep 102 k st = { st with p := st.p.app (pF (st.fl.testBit k)) } := by
      unfold rstep
      rw [if_neg (by decide), if_neg (by decide), if_pos rfl, if_neg h0]
    rw [e]
    exact rflag_k g gi gm c i st vN vS vF vT lo hi k w h hs h0 hk
end Go.Proofs.YtlfppfknelddcaaDoor
