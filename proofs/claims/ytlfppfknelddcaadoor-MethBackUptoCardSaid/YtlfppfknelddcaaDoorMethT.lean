/- The reader of package meth in memory; what a part that is read leaves there. -/
import Derived.Test.YtlfppfknelddcaaDoorMethW
import Derived.Test.YtlfppfknelddcaaDoorWords2
import Derived.Deep.RegionHeld3
namespace Go.Proofs.YtlfppfknelddcaaDoor
open Go.RowKit
set_option maxRecDepth 100000
set_option linter.unusedSimpArgs false
set_option linter.unusedVariables false

theorem own_same {w w' : World} {base : Nat} {e : TypeId} {size n : Nat} {v : Value} {xs : List Value} (h : w.ownsRow base e size v n xs) (hk : ∀ k, v.ownBlock = some k → w'.heap[k]? = w.heap[k]?) : w'.ownsRow base e size v n xs := by
  refine ⟨h.1, ?_⟩
  rcases h.2 with h | ⟨b, cap, cur, rfl, hbb, hg, rest⟩
  · exact .inl h
  · exact .inr ⟨b, cap, cur, rfl, hbb, (hk b rfl).trans hg, rest⟩
theorem own_kinds {w : World} {b1 b2 : Nat} {e1 e2 : TypeId} {s1 s2 n1 n2 : Nat} {v1 v2 : Value} {xs1 xs2 : List Value} (h1 : w.ownsRow b1 e1 s1 v1 n1 xs1) (h2 : w.ownsRow b2 e2 s2 v2 n2 xs2) (hne : e1 ≠ e2) (k : Nat) (hk : v1.ownBlock = some k) : v2.ownBlock ≠ some k := by
  rcases h1.2 with ⟨rfl, _⟩ | ⟨g1, c1, u1, rfl, _, hg1, _⟩
  · cases hk
  · injection hk with hk
    rcases h2.2 with ⟨rfl, _⟩ | ⟨g2, c2, u2, rfl, _, hg2, _⟩
    · intro h; cases h
    · intro h
      injection h with h
      simp only at hk h
      subst hk
      subst h
      rw [hg1] at hg2
      injection hg2 with hg2
      injection hg2 with _ h3 _
      exact hne h3
/-- the reader in block g, its octets in block gi, its method in block gm; the table's blocks from lo to hi -/
structure RAt (w : World) (g gi gm : Nat) (c i : Int) (st : RS) (vN vS vF vT : Value) (lo hi : Nat) : Prop where
  rd : Whole w g 95 #[.pointer (some ⟨gi, 0, none⟩), .pointer (some ⟨gm, 0, none⟩), .int .u64 (st.fl : Int), .bool st.tb]
  in_ : InAt w gi st.b st.bad
  m : Whole w gm 32 #[.int .i64 c, .int .i64 i, vN, vS, vF, vT]
  n : w.ownsRow (g + 1) 27 1 vN st.p.n.length (cellsN st.p.n)
  s : w.ownsRow (g + 1) 9 1 vS st.p.s.length (cellsS st.p.s)
  f : w.ownsRow (g + 1) 4 1 vF st.p.f.length (cellsB st.p.f)
  t : ∃ A cp, vT = .slice A st.p.t.length cp ∧ TabS Held 8 w (fun b => lo ≤ b ∧ b < hi) st.p.t A cp
  l1 : gi < gm
  l2 : gm < g
  l3 : g < lo
  l4 : hi ≤ w.heap.size
  an : ∀ k, vN.ownBlock = some k → k < lo ∨ hi ≤ k
  as_ : ∀ k, vS.ownBlock = some k → k < lo ∨ hi ≤ k
  af : ∀ k, vF.ownBlock = some k → k < lo ∨ hi ≤ k
  fl : st.fl < 256
theorem RAt.drew {w : World} {g gi gm : Nat} {c i : Int} {st : RS} {vN vS vF vT : Value} {lo hi : Nat} (h : RAt w g gi gm c i st vN vS vF vT lo hi) : RAt w.drew g gi gm c i st vN vS vF vT lo hi := by
  obtain ⟨a1, a2, a3, a4, a5, a6, ⟨A, cp, e, ht⟩, b1, b2, b3, b4, c1, c2, c3, d1⟩ := h
  exact ⟨a1, a2.below (Below.refl _ _).drew a2.lt, a3, a4, a5, a6, ⟨A, cp, e, TabS.keep (fun b o _ => rfl) 8 _ _ _ ht⟩, b1, b2, b3, b4, c1, c2, c3, d1⟩
/-- behind an In that was read: its block alone has turned -/
theorem RAt.read {w w1 : World} {g gi gm : Nat} {c i : Int} {st : RS} {vN vS vF vT : Value} {lo hi : Nat} {b' : List UInt8} {bad' : Bool} (h : RAt w g gi gm c i st vN vS vF vT lo hi) (hr : w.grownBy w1 (some gi)) (hin : InAt w1 gi b' bad') :
    RAt w1 g gi gm c i { st with b := b', bad := bad' } vN vS vF vT lo hi ∧ Below gi w w1 := by
  have hb : Below gi w w1 := below_only hr (Nat.le_refl _) (Nat.le_of_lt h.in_.lt)
  have keep : ∀ k, k < w.heap.size → k ≠ gi → w1.heap[k]? = w.heap[k]? := fun k hk hne => hr.block k hk (fun e => by injection e with e; exact hne e)
  have ow : ∀ {e : TypeId} {v : Value} {n : Nat} {xs : List Value}, w.ownsRow (g + 1) e 1 v n xs → w1.ownsRow (g + 1) e 1 v n xs := fun ho => own_same ho (fun k hk => keep k (ho.lt k hk).2 (by have := (ho.lt k hk).1; have := h.l1; have := h.l2; omega))
  obtain ⟨A, cp, e, ht⟩ := h.t
  have l1 := h.l1
  have l2 := h.l2
  have l3 := h.l3
  have l4 := h.l4
  refine ⟨⟨(keep g h.rd.lt (by omega)).trans h.rd, hin, (keep gm h.m.lt (by omega)).trans h.m, ow h.n, ow h.s, ow h.f, ⟨A, cp, e, ?_⟩, l1, l2, l3, Nat.le_trans l4 hr.size, h.an, h.as_, h.af, h.fl⟩, hb⟩
  exact TabS.keep (fun b o hb' => World.cell?_of_block (a := ⟨b, o, none⟩) (keep b (by omega) (by omega))) 8 _ _ _ ht
/-- one more at the end -/
theorem radd_n {w w2 w3 : World} {g gi gm : Nat} {c i : Int} {st : RS} {vN vS vF vT v' : Value} {lo hi : Nat} {x : Nat} (h : RAt w g gi gm c i st vN vS vF vT lo hi) (ha : Below w.heap.size w w2)
    (ho : w3.ownsRow (g + 1) 27 1 v' (st.p.n.length + 1) (cellsN st.p.n ++ [Value.int .u64 (x : Int)])) (hg : w2.grownBy w3 vN.ownBlock) (hv : v'.ownBlock = vN.ownBlock ∨ v'.ownBlock = some w2.heap.size) :
    RAt (w3.setCell ⟨gm, 2, none⟩ v') g gi gm c i { st with p := st.p.app (pN x) } v' vS vF vT lo hi ∧ Below gi w (w3.setCell ⟨gm, 2, none⟩ v') := by
  have l1 := h.l1
  have l2 := h.l2
  have l3 := h.l3
  have l4 := h.l4
  have lgi := h.in_.lt
  have lgm := h.m.lt
  have lg := h.rd.lt
  have hown : ∀ k, vN.ownBlock = some k → g + 1 ≤ k := fun k hk => (h.n.lt k hk).1
  have z2 := ha.size
  have z3 := hg.size
  have keep3 : ∀ k, k < w.heap.size → vN.ownBlock ≠ some k → w3.heap[k]? = w.heap[k]? := fun k hk hne => (hg.block k (by omega) (fun e => hne e.symm)).trans (ha.block k hk)
  have keep4 : ∀ k, k ≠ gm → (w3.setCell ⟨gm, 2, none⟩ v').heap[k]? = w3.heap[k]? := fun k hne => Below.heap_setCell w3 ⟨gm, 2, none⟩ v' k hne
  have own : ∀ k, k < g + 1 → vN.ownBlock ≠ some k := fun k hk e => by have := hown k e; omega
  have b4 : Below (gi + 1) w (w3.setCell ⟨gm, 2, none⟩ v') :=
    ((ha.mono (by omega)).grown hg (by omega) (fun k hk => by have := hown k hk; omega)).setCell (p := ⟨gm, 2, none⟩) (by show gi + 1 ≤ gm; omega) v'
  obtain ⟨A, cp, e, ht⟩ := h.t
  have hap : ∀ k, v'.ownBlock = some k → k < lo ∨ hi ≤ k := by
    intro k hk
    rcases hv with hv | hv
    · rw [hv] at hk
      exact h.an k hk
    · rw [hv] at hk
      injection hk with hk
      omega
  have hm3 : Whole w3 gm 32 #[.int .i64 c, .int .i64 i, vN, vS, vF, vT] := (keep3 gm lgm (own gm (by omega))).trans h.m
  refine ⟨⟨(keep4 g (by omega)).trans ((keep3 g lg (own g (by omega))).trans h.rd), h.in_.below b4 (by omega), hm3.set8 2 v' rfl, (by
    have h5 : (w3.setCell ⟨gm, 2, none⟩ v').ownsRow (g + 1) 27 1 v' (st.p.n.length + 1) (cellsN st.p.n ++ [Value.int .u64 (x : Int)]) := own_same ho (fun k hk => keep4 k (by have := (ho.lt k hk).1; omega))
    simpa [Parts.app, cellsN] using h5),
    (by
    have h5 : (w3.setCell ⟨gm, 2, none⟩ v').ownsRow (g + 1) 9 1 vS st.p.s.length (cellsS st.p.s) := own_same h.s (fun k hk => (keep4 k (by have := (h.s.lt k hk).1; omega)).trans (keep3 k (h.s.lt k hk).2 (own_kinds h.s h.n (by decide) k hk)))
    simpa [Parts.app] using h5),
    (by
    have h5 : (w3.setCell ⟨gm, 2, none⟩ v').ownsRow (g + 1) 4 1 vF st.p.f.length (cellsB st.p.f) := own_same h.f (fun k hk => (keep4 k (by have := (h.f.lt k hk).1; omega)).trans (keep3 k (h.f.lt k hk).2 (own_kinds h.f h.n (by decide) k hk)))
    simpa [Parts.app] using h5), ⟨A, cp, ?_, ?_⟩, l1, l2, l3, by show hi ≤ (w3.setCell _ _).heap.size; simp [World.setCell]; omega, hap, h.as_, h.af, h.fl⟩, b4.mono (by omega)⟩
  · simp [Parts.app]; exact e
  · have hpt : (st.p.app (pN x)).t = st.p.t := by simp [Parts.app]
    show TabS Held 8 _ _ (st.p.app (pN x)).t A cp
    rw [hpt]
    exact TabS.keep (fun b o hb' => World.cell?_of_block (a := ⟨b, o, none⟩) ((keep4 b (by omega)).trans (keep3 b (by omega) (fun e => by rcases h.an b e with h | h <;> omega)))) 8 _ _ _ ht
/-- one more at the end -/
theorem radd_s {w w2 w3 : World} {g gi gm : Nat} {c i : Int} {st : RS} {vN vS vF vT v' : Value} {lo hi : Nat} {x : List UInt8} (h : RAt w g gi gm c i st vN vS vF vT lo hi) (ha : Below w.heap.size w w2)
    (ho : w3.ownsRow (g + 1) 9 1 v' (st.p.s.length + 1) (cellsS st.p.s ++ [St x])) (hg : w2.grownBy w3 vS.ownBlock) (hv : v'.ownBlock = vS.ownBlock ∨ v'.ownBlock = some w2.heap.size) :
    RAt (w3.setCell ⟨gm, 3, none⟩ v') g gi gm c i { st with p := st.p.app (pS x) } vN v' vF vT lo hi ∧ Below gi w (w3.setCell ⟨gm, 3, none⟩ v') := by
  have l1 := h.l1
  have l2 := h.l2
  have l3 := h.l3
  have l4 := h.l4
  have lgi := h.in_.lt
  have lgm := h.m.lt
  have lg := h.rd.lt
  have hown : ∀ k, vS.ownBlock = some k → g + 1 ≤ k := fun k hk => (h.s.lt k hk).1
  have z2 := ha.size
  have z3 := hg.size
  have keep3 : ∀ k, k < w.heap.size → vS.ownBlock ≠ some k → w3.heap[k]? = w.heap[k]? := fun k hk hne => (hg.block k (by omega) (fun e => hne e.symm)).trans (ha.block k hk)
  have keep4 : ∀ k, k ≠ gm → (w3.setCell ⟨gm, 3, none⟩ v').heap[k]? = w3.heap[k]? := fun k hne => Below.heap_setCell w3 ⟨gm, 3, none⟩ v' k hne
  have own : ∀ k, k < g + 1 → vS.ownBlock ≠ some k := fun k hk e => by have := hown k e; omega
  have b4 : Below (gi + 1) w (w3.setCell ⟨gm, 3, none⟩ v') :=
    ((ha.mono (by omega)).grown hg (by omega) (fun k hk => by have := hown k hk; omega)).setCell (p := ⟨gm, 3, none⟩) (by show gi + 1 ≤ gm; omega) v'
  obtain ⟨A, cp, e, ht⟩ := h.t
  have hap : ∀ k, v'.ownBlock = some k → k < lo ∨ hi ≤ k := by
    intro k hk
    rcases hv with hv | hv
    · rw [hv] at hk
      exact h.as_ k hk
    · rw [hv] at hk
      injection hk with hk
      omega
  have hm3 : Whole w3 gm 32 #[.int .i64 c, .int .i64 i, vN, vS, vF, vT] := (keep3 gm lgm (own gm (by omega))).trans h.m
  refine ⟨⟨(keep4 g (by omega)).trans ((keep3 g lg (own g (by omega))).trans h.rd), h.in_.below b4 (by omega), hm3.set8 3 v' rfl, (by
    have h5 : (w3.setCell ⟨gm, 3, none⟩ v').ownsRow (g + 1) 27 1 vN st.p.n.length (cellsN st.p.n) := own_same h.n (fun k hk => (keep4 k (by have := (h.n.lt k hk).1; omega)).trans (keep3 k (h.n.lt k hk).2 (own_kinds h.n h.s (by decide) k hk)))
    simpa [Parts.app] using h5),
    (by
    have h5 : (w3.setCell ⟨gm, 3, none⟩ v').ownsRow (g + 1) 9 1 v' (st.p.s.length + 1) (cellsS st.p.s ++ [St x]) := own_same ho (fun k hk => keep4 k (by have := (ho.lt k hk).1; omega))
    simpa [Parts.app, cellsS] using h5),
    (by
    have h5 : (w3.setCell ⟨gm, 3, none⟩ v').ownsRow (g + 1) 4 1 vF st.p.f.length (cellsB st.p.f) := own_same h.f (fun k hk => (keep4 k (by have := (h.f.lt k hk).1; omega)).trans (keep3 k (h.f.lt k hk).2 (own_kinds h.f h.s (by decide) k hk)))
    simpa [Parts.app] using h5), ⟨A, cp, ?_, ?_⟩, l1, l2, l3, by show hi ≤ (w3.setCell _ _).heap.size; simp [World.setCell]; omega, h.an, hap, h.af, h.fl⟩, b4.mono (by omega)⟩
  · simp [Parts.app]; exact e
  · have hpt : (st.p.app (pS x)).t = st.p.t := by simp [Parts.app]
    show TabS Held 8 _ _ (st.p.app (pS x)).t A cp
    rw [hpt]
    exact TabS.keep (fun b o hb' => World.cell?_of_block (a := ⟨b, o, none⟩) ((keep4 b (by omega)).trans (keep3 b (by omega) (fun e => by rcases h.as_ b e with h | h <;> omega)))) 8 _ _ _ ht
/-- one more at the end -/
theorem radd_f {w w2 w3 : World} {g gi gm : Nat} {c i : Int} {st : RS} {vN vS vF vT v' : Value} {lo hi : Nat} {x : Bool} (h : RAt w g gi gm c i st vN vS vF vT lo hi) (ha : Below w.heap.size w w2)
    (ho : w3.ownsRow (g + 1) 4 1 v' (st.p.f.length + 1) (cellsB st.p.f ++ [Value.bool x])) (hg : w2.grownBy w3 vF.ownBlock) (hv : v'.ownBlock = vF.ownBlock ∨ v'.ownBlock = some w2.heap.size) :
    RAt (w3.setCell ⟨gm, 4, none⟩ v') g gi gm c i { st with p := st.p.app (pF x) } vN vS v' vT lo hi ∧ Below gi w (w3.setCell ⟨gm, 4, none⟩ v') := by
  have l1 := h.l1
  have l2 := h.l2
  have l3 := h.l3
  have l4 := h.l4
  have lgi := h.in_.lt
  have lgm := h.m.lt
  have lg := h.rd.lt
  have hown : ∀ k, vF.ownBlock = some k → g + 1 ≤ k := fun k hk => (h.f.lt k hk).1
  have z2 := ha.size
  have z3 := hg.size
  have keep3 : ∀ k, k < w.heap.size → vF.ownBlock ≠ some k → w3.heap[k]? = w.heap[k]? := fun k hk hne => (hg.block k (by omega) (fun e => hne e.symm)).trans (ha.block k hk)
  have keep4 : ∀ k, k ≠ gm → (w3.setCell ⟨gm, 4, none⟩ v').heap[k]? = w3.heap[k]? := fun k hne => Below.heap_setCell w3 ⟨gm, 4, none⟩ v' k hne
  have own : ∀ k, k < g + 1 → vF.ownBlock ≠ some k := fun k hk e => by have := hown k e; omega
  have b4 : Below (gi + 1) w (w3.setCell ⟨gm, 4, none⟩ v') :=
    ((ha.mono (by omega)).grown hg (by omega) (fun k hk => by have := hown k hk; omega)).setCell (p := ⟨gm, 4, none⟩) (by show gi + 1 ≤ gm; omega) v'
  obtain ⟨A, cp, e, ht⟩ := h.t
  have hap : ∀ k, v'.ownBlock = some k → k < lo ∨ hi ≤ k := by
    intro k hk
    rcases hv with hv | hv
    · rw [hv] at hk
      exact h.af k hk
    · rw [hv] at hk
      injection hk with hk
      omega
  have hm3 : Whole w3 gm 32 #[.int .i64 c, .int .i64 i, vN, vS, vF, vT] := (keep3 gm lgm (own gm (by omega))).trans h.m
  refine ⟨⟨(keep4 g (by omega)).trans ((keep3 g lg (own g (by omega))).trans h.rd), h.in_.below b4 (by omega), hm3.set8 4 v' rfl, (by
    have h5 : (w3.setCell ⟨gm, 4, none⟩ v').ownsRow (g + 1) 27 1 vN st.p.n.length (cellsN st.p.n) := own_same h.n (fun k hk => (keep4 k (by have := (h.n.lt k hk).1; omega)).trans (keep3 k (h.n.lt k hk).2 (own_kinds h.n h.f (by decide) k hk)))
    simpa [Parts.app] using h5),
    (by
    have h5 : (w3.setCell ⟨gm, 4, none⟩ v').ownsRow (g + 1) 9 1 vS st.p.s.length (cellsS st.p.s) := own_same h.s (fun k hk => (keep4 k (by have := (h.s.lt k hk).1; omega)).trans (keep3 k (h.s.lt k hk).2 (own_kinds h.s h.f (by decide) k hk)))
    simpa [Parts.app] using h5),
    (by
    have h5 : (w3.setCell ⟨gm, 4, none⟩ v').ownsRow (g + 1) 4 1 v' (st.p.f.length + 1) (cellsB st.p.f ++ [Value.bool x]) := own_same ho (fun k hk => keep4 k (by have := (ho.lt k hk).1; omega))
    simpa [Parts.app, cellsB] using h5), ⟨A, cp, ?_, ?_⟩, l1, l2, l3, by show hi ≤ (w3.setCell _ _).heap.size; simp [World.setCell]; omega, h.an, h.as_, hap, h.fl⟩, b4.mono (by omega)⟩
  · simp [Parts.app]; exact e
  · have hpt : (st.p.app (pF x)).t = st.p.t := by simp [Parts.app]
    show TabS Held 8 _ _ (st.p.app (pF x)).t A cp
    rw [hpt]
    exact TabS.keep (fun b o hb' => World.cell?_of_block (a := ⟨b, o, none⟩) ((keep4 b (by omega)).trans (keep3 b (by omega) (fun e => by rcases h.af b e with h | h <;> omega)))) 8 _ _ _ ht
end Go.Proofs.YtlfppfknelddcaaDoor
