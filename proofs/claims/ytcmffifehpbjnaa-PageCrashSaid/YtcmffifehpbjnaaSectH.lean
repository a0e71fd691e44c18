/- Layer 7: Write, where it goes well. -/
import Derived.Test.YtcmffifehpbjnaaSectG
import Derived.Test.YtcmffifehpbjnaaWords2
namespace Go.Proofs.Ytcmffifehpbjnaa
open Go.RowKit Go.Maps
set_option maxRecDepth 100000
set_option linter.unusedSimpArgs false
set_option linter.unusedVariables false
section
variable {K : Nat → Prop} {w w' : World} {g : Nat} {b1 b2 b3 : Nat} {S : Dv} {sv : Nm → Value}
/-- a world in Write: what has turned, the device, the boxes of the parameter and of the file, the file's row, the other rows -/
structure WS (K : Nat → Prop) (w : World) (g : Nat) (S : Dv) (b1 b2 b3 : Nat) (sv : Nm → Value) (nm : Nm) (x : Sec) (n : Int) (v : Value) (ks : List Nat) (us : Int) (ff : Nm → Option Value) (rf : Nm × Nat → Option Value) (W : World) : Prop where
  T : Turn K w W
  raw : Raw K W g S.most us S.left b1 b2 b3 ff (fun x => (S.la x).map laV) rf
  p7 : W.heap[w.heap.size]? = some (.cells (csF x) 64 (0, 0))
  p9 : Whole W (w.heap.size + 1) 91 #[.int .i64 n, v]
  lo : w.heap.size + 2 ≤ W.heap.size
  row : W.ownsRow 0 3 1 v ks.length (I64 ks)
  vne : ∀ i, v.ownBlock = some i → i ≠ g ∧ i ≠ b1 ∧ i ≠ b2 ∧ i ≠ b3 ∧ ((sv nm).ownBlock = some i ∨ w.heap.size + 2 ≤ i)
  oth : ∀ y F', y ≠ nm → fnd S.fs y = some F' → ∀ i, (sv y).ownBlock = some i → W.heap[i]? = w.heap[i]?
theorem Raw.mono {K K' : Nat → Prop} {w : World} {mo us le : Int} {ff : Nm → Option Value} {lf rf : Nm × Nat → Option Value} (h : Raw K w g mo us le b1 b2 b3 ff lf rf) (hk : ∀ i, i < w.heap.size → K i → K' i) : Raw K' w g mo us le b1 b2 b3 ff lf rf :=
  ⟨h.cells, h.files, h.lasts, h.fresh, ⟨hk _ h.glt h.own.1, hk _ h.files.lt h.own.2.1, hk _ h.lasts.lt h.own.2.2.1, hk _ h.fresh.lt h.own.2.2.2⟩, h.apart⟩
theorem Raw.sameF {K : Nat → Prop} {w : World} {mo us le : Int} {ff ff' : Nm → Option Value} {lf rf : Nm × Nat → Option Value} (h : Raw K w g mo us le b1 b2 b3 ff lf rf) (e : ff' = ff) : Raw K w g mo us le b1 b2 b3 ff' lf rf := e ▸ h
theorem int_info : (Try.prog.info? 3).map (fun i => (i.zero, i.size, i.bytes)) = some (some (.int .i64 0), 1, 8) := by kernel_rfl
theorem fr_end {nm : Nm} {F : Fil} (hf : fnd S.fs nm = some F) {j : Nat} (hj : F.l.length ≤ j) : (S.fr (nm, j)).isSome = false := by
  unfold Dv.fr
  rw [hf]
  simp [List.getElem?_eq_none hj]
theorem yields64 {ev : Operand → Value} {w : World} {dst : Option Tmp} {ty : TypeId} {ps : String} {af : Array Edge} {gd : Option (Nat × Bool)} (x : Operand) (g : Nat) (s : Sec) (hx : ev x = .pointer (some ⟨g, 0, none⟩)) (hg : w.heap[g]? = some (.cells (csF s) 64 (0, 0))) :
    (execOp ev ⟨dst, .load 64 x, ty, ps, af, gd⟩).run Try.prog w = .ok (.value (.agg (csF s))) w := by
  have := load_row64 w g (csF s) hg (csF_size s)
  unfold execOp
  simp only [hx, Instr.loadAt, Instr.sureAddr, Sem.run_bind, Sem.run_pure, Result.andThen_ok, this]
theorem wp_rename {P : Program} {c : Code} {Q : Exit → Act → World → Prop} {a : Act} {W : World} (I : World → Prop) (hI : I W) (k : ∀ W', I W' → Code.wp P c Q a W') : Code.wp P c Q a W := k W hI
section
variable {nm : Nm} {x : Sec} {n : Int} {v : Value} {ks : List Nat} {us : Int} {ff : Nm → Option Value} {rf : Nm × Nat → Option Value} {W W' : World}
theorem WS.same (h : WS K w g S b1 b2 b3 sv nm x n v ks us ff rf W) (e1 : W'.heap = W.heap) (e2 : W'.os = W.os) (e3 : W'.tape = W.tape) (e4 : W'.output = W.output) : WS K w g S b1 b2 b3 sv nm x n v ks us ff rf W' where
  T := ⟨e2.trans h.T.os, e3.trans h.T.tape, e4.trans h.T.output, by rw [e1]; exact h.T.size, fun i a b => by rw [e1]; exact h.T.block i a b⟩
  raw := h.raw.keep (fun _ _ => by rw [e1])
  p7 := by rw [e1]; exact h.p7
  p9 := by unfold Whole; rw [e1]; exact h.p9
  lo := by rw [e1]; exact h.lo
  row := row_block h.row (fun i _ => by rw [e1])
  vne := h.vne
  oth := by rw [e1]; exact h.oth
theorem row_lt {w : World} {sv : Nm → Value} (h : DevAt K w g S b1 b2 b3 sv) {y : Nm} {F' : Fil} (hy : fnd S.fs y = some F') {i : Nat} (hi : (sv y).ownBlock = some i) : i < w.heap.size := by
  obtain ⟨cur, hc⟩ := sv_row (h.rows y F' hy).1 hi
  exact (Array.getElem?_eq_some_iff.1 hc).1
theorem WS.below (h : WS K w g S b1 b2 b3 sv nm x n v ks us ff rf W) (H : DevAt K w g S b1 b2 b3 sv) (hb : Below W.heap.size W W') : WS K w g S b1 b2 b3 sv nm x n v ks us ff rf W' where
  T := h.T.trans (Turn.of_below hb)
  raw := h.raw.below hb
  p7 := (hb.block _ (by have := h.lo; omega)).trans h.p7
  p9 := h.p9.below hb (by have := h.lo; omega)
  lo := Nat.le_trans h.lo hb.size
  row := row_block h.row (fun i hi => by
    obtain ⟨cur, hc⟩ := sv_row h.row hi
    exact hb.block i (Array.getElem?_eq_some_iff.1 hc).1)
  vne := h.vne
  oth := fun y F' hy hf i hi => (hb.block i (by have := row_lt H hf hi; have := h.lo; omega)).trans (h.oth y F' hy hf i hi)
theorem WS.alloc (h : WS K w g S b1 b2 b3 sv nm x n v ks us ff rf W) (H : DevAt K w g S b1 b2 b3 sv) (o : Obj) : WS K w g S b1 b2 b3 sv nm x n v ks us ff rf (W.alloc o) := h.below H ((Below.refl _ W).alloc (Nat.le_refl _) o)
theorem WS.box (h : WS K w g S b1 b2 b3 sv nm x n v ks us ff rf W) : W.cell? ⟨w.heap.size + 1, 0, none⟩ = some (.int .i64 n) ∧ W.cell? ⟨w.heap.size + 1, 1, none⟩ = some v := ⟨h.p9.cell 0, h.p9.cell 1⟩
/-- one of the device's maps has turned -/
theorem WS.turned (h : WS K w g S b1 b2 b3 sv nm x n v ks us ff rf W) (H : DevAt K w g S b1 b2 b3 sv) {b : Nat} (t : W.mapTurned W' b) (hb : b = b1 ∨ b = b2 ∨ b = b3) {us' : Int} {ff' : Nm → Option Value} {rf' : Nm × Nat → Option Value}
    (raw' : Raw K W' g S.most us' S.left b1 b2 b3 ff' (fun x => (S.la x).map laV) rf') : WS K w g S b1 b2 b3 sv nm x n v ks us' ff' rf' W' := by
  have hlo := h.lo
  have hblt : b < w.heap.size := by
    rcases hb with rfl | rfl | rfl
    · exact H.files.lt
    · exact H.lasts.lt
    · exact H.fresh.lt
  have hK : K b := by
    rcases hb with rfl | rfl | rfl
    · exact H.own.2.1
    · exact H.own.2.2.1
    · exact H.own.2.2.2
  exact {
    T := h.T.trans (turn_map (K := More K w) t (.inl hK))
    raw := raw'
    p7 := (turned_block t (by omega) (by omega)).trans h.p7
    p9 := (turned_block t (show w.heap.size + 1 ≠ b by omega) (by omega)).trans h.p9
    lo := by rw [turned_size t]; exact h.lo
    row := row_block h.row (fun i hi => by
      obtain ⟨cur, hc⟩ := sv_row h.row hi
      have := h.vne i hi
      exact turned_block t (by rcases hb with rfl | rfl | rfl; exact this.2.1; exact this.2.2.1; exact this.2.2.2.1) (Array.getElem?_eq_some_iff.1 hc).1)
    vne := h.vne
    oth := fun y F' hy hf i hi => (turned_block t (by have := row_ne H hf hi; rcases hb with rfl | rfl | rfl; exact this.2.1; exact this.2.2.1; exact this.2.2.2) (by have := row_lt H hf hi; omega)).trans (h.oth y F' hy hf i hi) }
/-- a cell of the file's box is set -/
theorem WS.setBox (h : WS K w g S b1 b2 b3 sv nm x n v ks us ff rf W) (H : DevAt K w g S b1 b2 b3 sv) (n' : Int) : WS K w g S b1 b2 b3 sv nm x n' v ks us ff rf (W.setCell ⟨w.heap.size + 1, 0, none⟩ (.int .i64 n')) := by
  have hlo := h.lo
  have hb : ∀ i, i ≠ w.heap.size + 1 → (W.setCell ⟨w.heap.size + 1, 0, none⟩ (.int .i64 n')).heap[i]? = W.heap[i]? := fun i hi => Below.heap_setCell W _ _ i hi
  obtain ⟨m1, m2, m3⟩ := H.raw.ne
  exact {
    T := ⟨h.T.os, h.T.tape, h.T.output, by simpa using h.T.size, fun i a b => (hb i (by omega)).trans (h.T.block i a b)⟩
    raw := h.raw.keep (fun i hi => hb i (by
      have a0 := H.glt; have a1 := H.files.lt; have a2 := H.lasts.lt; have a3 := H.fresh.lt
      rcases hi with rfl | rfl | rfl | rfl <;> omega))
    p7 := (hb _ (by omega)).trans h.p7
    p9 := h.p9.put 0 _
    lo := by simpa using h.lo
    row := row_block h.row (fun i hi => hb i (by
      have h1 := (h.vne i hi).2.2.2.2
      rcases h1 with h1 | h1
      · intro e
        subst e
        obtain ⟨cur, hc⟩ := sv_row h.row hi
        have := h.p9
        unfold Whole at this
        rw [hc] at this
        simp at this
      · omega))
    vne := h.vne
    oth := fun y F' hy hf i hi => (hb i (by have := row_lt H hf hi; omega)).trans (h.oth y F' hy hf i hi) }
theorem WS.setUsed (h : WS K w g S b1 b2 b3 sv nm x n v ks us ff rf W) (H : DevAt K w g S b1 b2 b3 sv) (u : Int) : WS K w g S b1 b2 b3 sv nm x n v ks u ff rf (W.setCell ⟨g, 1, none⟩ (.int .i64 u)) := by
  have hlo := h.lo
  have hb : ∀ i, i ≠ g → (W.setCell ⟨g, 1, none⟩ (.int .i64 u)).heap[i]? = W.heap[i]? := fun i hi => Below.heap_setCell W _ _ i hi
  have a0 := H.glt
  exact {
    T := h.T.trans (turn_cell (K := More K w) (.inl H.own.1) _)
    raw := h.raw.set u
    p7 := (hb _ (by omega)).trans h.p7
    p9 := (hb _ (by omega)).trans h.p9
    lo := by simpa using h.lo
    row := row_block h.row (fun i hi => hb i (h.vne i hi).1)
    vne := h.vne
    oth := fun y F' hy hf i hi => (hb i (row_ne H hf hi).1).trans (h.oth y F' hy hf i hi) }
theorem cell_kept {W5 : World} {F : Fil} {sa : Option Addr} {sl sc : Nat} {ks : List Nat} (h : WS K w g S b1 b2 b3 sv nm x n (.slice sa sl sc) ks us ff rf W) (H : DevAt K w g S b1 b2 b3 sv) (hf : fnd S.fs nm = some F) (hsv : sv nm = .slice sa F.wr.length sc) (hsl : sl = F.wr.length) (o : Obj)
    (hg : (W.alloc o).grownBy W5 (Value.ownBlock (.slice sa sl sc))) : W5.cell? ⟨w.heap.size + 1, 1, none⟩ = some (.slice sa sl sc) ∧ W5.frozen? ⟨w.heap.size + 1, 1, none⟩ = false := by
  have hlo := h.lo
  have p9' : Whole W5 (w.heap.size + 1) 91 #[.int .i64 n, .slice sa sl sc] :=
    ((hg.block _ (by simp; omega) (fun e => by have := row_lt H hf (i := w.heap.size + 1) (by rw [hsv, ← hsl]; exact e.symm); omega)).trans (Below.heap_alloc W o _ (by omega))).trans h.p9
  exact ⟨p9'.cell 1, p9'.frozen 1⟩
/-- the file's row has grown -/
theorem WS.appended {w5 : World} {v' : Value} {k : Nat} (h : WS K w g S b1 b2 b3 sv nm x n v ks us ff rf W) (H : DevAt K w g S b1 b2 b3 sv) (F : Fil) (hf : fnd S.fs nm = some F) (hvs : v = sv nm) (o : Obj)
    (hown : w5.ownsRow 0 3 1 v' (ks.length + 1) (I64 ks ++ [.int .i64 (k : Int)])) (hg : (W.alloc o).grownBy w5 v.ownBlock) (hloc : v'.ownBlock = v.ownBlock ∨ v'.ownBlock = some (W.alloc o).heap.size) :
    WS K w g S b1 b2 b3 sv nm x n v' (ks ++ [k]) us ff rf (w5.setCell ⟨w.heap.size + 1, 1, none⟩ v') := by
  have hlo := h.lo
  have hz : (W.alloc o).heap.size = W.heap.size + 1 := by simp
  have hsz := hg.size
  have hvlt : ∀ i, v.ownBlock = some i → i < w.heap.size ∧ i ≠ g ∧ i ≠ b1 ∧ i ≠ b2 ∧ i ≠ b3 ∧ K i := by
    intro i hi
    rw [hvs] at hi
    obtain ⟨q1, q2, q3, q4⟩ := row_ne H hf hi
    exact ⟨row_lt H hf hi, q1, q2, q3, q4, (H.rows nm F hf).2 i hi⟩
  have hb : ∀ i, i ≠ w.heap.size + 1 → i < W.heap.size → some i ≠ v.ownBlock → (w5.setCell ⟨w.heap.size + 1, 1, none⟩ v').heap[i]? = W.heap[i]? := fun i h1 h2 h3 =>
    ((Below.heap_setCell w5 _ _ i h1).trans (hg.block i (by omega) h3)).trans (Below.heap_alloc W o i h2)
  have hnot : ∀ i, w.heap.size ≤ i → some i ≠ v.ownBlock := fun i hi e => by have := (hvlt i e.symm).1; omega
  have p9' : Whole w5 (w.heap.size + 1) 91 #[.int .i64 n, v] := ((hg.block _ (by omega) (hnot _ (by omega))).trans (Below.heap_alloc W o _ (by omega))).trans h.p9
  have a0 := H.glt
  have a1 := H.files.lt
  have a2 := H.lasts.lt
  have a3 := H.fresh.lt
  exact {
    T := ⟨hg.os.trans h.T.os, hg.tape.trans h.T.tape, hg.output.trans h.T.output, by have := h.T.size; simp; omega, fun i a b => by
      have e : some i ≠ v.ownBlock := fun e => b (hvlt i e.symm).2.2.2.2.2
      exact (hb i (by omega) (by omega) e).trans (h.T.block i a b)⟩
    raw := h.raw.keep (fun i hi => hb i (by rcases hi with rfl | rfl | rfl | rfl <;> omega) (by rcases hi with rfl | rfl | rfl | rfl <;> omega) (fun e => by
      obtain ⟨_, q1, q2, q3, q4, _⟩ := hvlt i e.symm
      rcases hi with rfl | rfl | rfl | rfl
      · exact q1 rfl
      · exact q2 rfl
      · exact q3 rfl
      · exact q4 rfl))
    p7 := (hb _ (by omega) (by omega) (hnot _ (by omega))).trans h.p7
    p9 := p9'.put 1 _
    lo := by simp; omega
    row := by
      have e : I64 (ks ++ [k]) = I64 ks ++ [.int .i64 (k : Int)] := by simp [I64]
      rw [e, List.length_append]
      refine row_block hown (fun i hi => Below.heap_setCell w5 _ _ i ?_)
      rcases hloc with h1 | h1
      · rw [h1] at hi
        have := (hvlt i hi).1
        show i ≠ w.heap.size + 1
        omega
      · rw [h1] at hi
        cases hi
        show (W.alloc o).heap.size ≠ w.heap.size + 1
        omega
    vne := fun i hi => by
      rcases hloc with h1 | h1
      · rw [h1] at hi
        obtain ⟨_, q1, q2, q3, q4, _⟩ := hvlt i hi
        exact ⟨q1, q2, q3, q4, .inl (hvs ▸ hi)⟩
      · rw [h1] at hi
        cases hi
        refine ⟨?_, ?_, ?_, ?_, .inr ?_⟩ <;> omega
    oth := fun y F' hy hfy i hi => by
      have hlt := row_lt H hfy hi
      refine (hb i (by omega) (by omega) (fun e => ?_)).trans (h.oth y F' hy hfy i hi)
      have e' := e.symm
      rw [hvs] at e'
      exact H.alone nm y F F' (Ne.symm hy) hf hfy i e' hi }
end
theorem DevAt.wrote {K' : Nat → Prop} {W : World} (h : DevAt K w g S b1 b2 b3 sv) (hr : Rising S.fs) (nm : Nm) (F : Fil) (hf : fnd S.fs nm = some F) (j : Nat) (x : Sec) (hj : j ≤ F.l.length) (v' : Value) (us : Int)
    (R : Raw K' W g S.most us S.left b1 b2 b3 (upd (fun nm => (fnd S.fs nm).map fun F => flV F.l.length (sv nm)) nm (some (flV (wrF F j x).l.length v'))) (fun x => (S.la x).map laV) (upd (fun x => (S.fr x).map frV) (nm, j) (some (frV x))))
    (hd : us = S.used + ((wrF F j x).l.length - F.l.length : Nat)) (hK : ∀ i, K i → K' i) (hv : W.ownsRow 0 3 1 v' (wrF F j x).wr.length (I64 (wrF F j x).wr))
    (hvK : ∀ i, v'.ownBlock = some i → K' i ∧ ((sv nm).ownBlock = some i ∨ w.heap.size ≤ i))
    (hother : ∀ y F', y ≠ nm → fnd S.fs y = some F' → ∀ i, (sv y).ownBlock = some i → W.heap[i]? = w.heap[i]?) : DevAt K' W g (S.put nm (wrF F j x)) b1 b2 b3 (svAt sv nm v') := by
  refine R.dev (S.put nm (wrF F j x)) _ rfl ?_ rfl ?_ ?_ ?_ ?_ ?_
  · have := used_put hr nm (wrF F j x)
    have e : S.len nm = F.l.length := by simp [Dv.len, hf]
    have e2 := wrF_length F j x
    rw [hd]
    split at e2 <;> omega
  · intro y
    rw [fnd_put]
    by_cases e : y = nm
    · subst e
      rw [upd_self, if_pos rfl, svAt_self]
      rfl
    · rw [upd_other _ _ _ _ e, if_neg (Ne.symm e), svAt_other _ _ _ _ e]
  · rintro ⟨y, k⟩
    rw [la_put]
    by_cases e : y = nm
    · subst e
      rw [if_pos rfl]
      simp only [Dv.la, hf, Option.bind_some]
      rw [wrF_get F j x hj]
      by_cases e2 : k = j
      · subst e2; simp
      · rw [if_neg e2]
    · rw [if_neg e]
  · rintro ⟨y, k⟩
    rw [fr_put]
    by_cases e : y = nm
    · subst e
      rw [if_pos rfl]
      simp only []
      rw [wrF_get F j x hj]
      by_cases e2 : k = j
      · subst e2; rw [upd_self]; simp
      · rw [if_neg e2, upd_other _ _ _ _ (fun e3 => e2 (by injection e3))]
        simp [Dv.fr, hf]
    · rw [if_neg e, upd_other _ _ _ _ (fun e3 => e (by injection e3))]
  · intro y F' hy
    rw [fnd_put] at hy
    by_cases e : nm = y
    · rw [if_pos e] at hy
      cases hy
      subst e
      rw [svAt_self]
      exact ⟨hv, fun i hi => (hvK i hi).1⟩
    · rw [if_neg e] at hy
      rw [svAt_other _ _ _ _ (Ne.symm e)]
      obtain ⟨r1, r2⟩ := h.rows y F' hy
      exact ⟨row_block r1 (fun i hi => hother y F' (Ne.symm e) hy i hi), fun i hi => hK i (r2 i hi)⟩
  · intro y y' F1 F2 hne hy hy' i hi
    have old : ∀ z Fz, z ≠ nm → fnd S.fs z = some Fz → v'.ownBlock = some i → (sv z).ownBlock ≠ some i := by
      intro z Fz hz hfz hvi hzi
      rcases (hvK i hvi).2 with h1 | h1
      · exact h.alone nm z F Fz (Ne.symm hz) hf hfz i h1 hzi
      · obtain ⟨cur, hc⟩ := sv_row (h.rows z Fz hfz).1 hzi
        have := (Array.getElem?_eq_some_iff.1 hc).1
        omega
    rw [fnd_put] at hy hy'
    by_cases e : nm = y
    · subst e
      rw [svAt_self] at hi
      rw [if_neg hne] at hy'
      rw [svAt_other _ _ _ _ (Ne.symm hne)]
      exact old y' F2 (Ne.symm hne) hy' hi
    · rw [if_neg e] at hy
      rw [svAt_other _ _ _ _ (Ne.symm e)] at hi
      by_cases e' : nm = y'
      · subst e'
        rw [svAt_self]
        intro hvi
        exact old y F1 (Ne.symm e) hy hvi hi
      · rw [if_neg e'] at hy'
        rw [svAt_other _ _ _ _ (Ne.symm e')]
        exact h.alone y y' F1 F2 hne hy hy' i hi
set_option maxHeartbeats 4000000 in
theorem write_old (h : DevAt K w g S b1 b2 b3 sv) (hO : Ok S) (nm : Nm) (h20 : nm.length ≤ 20) (j : Nat) (x : Sec) (F : Fil) (hf : fnd S.fs nm = some F) (hp : S.left ≠ 0) (hj : j < F.l.length) (hm : F.l.length ≤ 100000) (hwl : F.wr.length ≤ 100000) (bo : Bool) (hbo : bo = (S.fr (nm, j)).isSome) :
    Calls Try.prog 30 #[ptr g, nmV nm, .int .i64 (j : Int), .agg (csF x)] w fun e w' => e = .returned (.int .i64 0) ∧ ∃ sv', DevAt (More K w) w' g (S.put nm (wrF F j x)).tick b1 b2 b3 sv' ∧ Turn K w w' := by
  have hn : nm.length ≤ maxLen := by unfold maxLen; omega
  obtain ⟨c0, c1, c2, c3, c4, c5⟩ := h.cell
  have hg := h.glt
  have hb1 := h.files.lt
  obtain ⟨A0, hA0⟩ : ∃ A0 : Obj, A0 = .cells (csF x) 64 := ⟨_, rfl⟩
  have e1 := ((h.raw.alloc A0).look_fl hn).1
  rw [hf] at e1
  simp only [Option.map_some, Option.getD_some, Option.isSome_some, flV] at e1
  obtain ⟨sa, sc, hsv, hsc1, hsc2⟩ := own_form (h.rows nm F hf).1
  rw [hsv] at e1
  obtain ⟨n, hnn⟩ : ∃ n, n = F.l.length := ⟨_, rfl⟩
  obtain ⟨sl, hsl⟩ : ∃ sl, sl = F.wr.length := ⟨_, rfl⟩
  rw [← hnn] at e1 hj
  rw [← hsl] at e1
  have hcut : (S.left == 0) = false := by simpa using hp
  have HH := Lib.hid (h.alloc A0)
  have H0 := Lib.hid h
  have HNN := Lib.hid hnn
  have HSL := Lib.hid hsl
  have HSV := Lib.hid hsv
  have HF := Lib.hid hf
  have HBO := Lib.hid hbo
  have HWL := Lib.hid hwl
  have HO := Lib.hid hO
  have HX := Lib.hid (show plOk (nm, j) from ⟨h20, by show j ≤ 1000000; omega⟩)
  clear hbo hwl hO
  subst hA0
  unfold nmV at e1 ⊢
  have hj0 : ¬ (j : Int) < 0 := by omega
  have hj1 : ¬ (n : Int) < (j : Int) := by omega
  have hjn : ¬ j = n := by omega
  have hjn2 : ((j : Int) == (n : Int)) = false := beq_false_of_ne (by omega)
  have hjn3 : decide (j = n) = false := by simpa using hjn
  clear h hf hp hnn hsl hsv
  go_enter Try.func30, Try.ntmps30
  go_upto_region 8 with (first
    | (go_at_call 49; go_must (refine (cut_any HH.out).mono ?_); rintro e w' ⟨rfl, rfl⟩))
  refine wp_rename (WS K w g S b1 b2 b3 sv nm x (n : Int) (.slice sa sl sc) F.wr S.used (fun nm => (fnd S.fs nm).map fun F => flV F.l.length (sv nm)) (fun x => (S.fr x).map frV)) ?_ ?_
  · have hb : Below w.heap.size w ((w.alloc (.cells (csF x) 64)).alloc (.cells #[.int .i64 (n : Int), .slice sa sl sc] 91)) := (((Below.refl _ w).alloc (Nat.le_refl _) _).alloc (by simp) _)
    have hw := Whole.new (w.alloc (.cells (csF x) 64)) 91 #[.int .i64 (n : Int), .slice sa sl sc]
    have hrow := (H0.out.rows nm F HF.out).1
    rw [HSV.out, ← HSL.out] at hrow
    exact ⟨Turn.of_below hb, HH.out.raw.below ((Below.refl _ _).alloc (Nat.le_refl _) _), (Below.heap_alloc _ _ _ (by simp)).trans (heap_alloc_new w _), by simpa using hw, by simp,
      row_block (by rw [← HSL.out]; exact hrow) (fun i hi => by
        obtain ⟨cur, hc⟩ := sv_row hrow hi
        exact hb.block i (Array.getElem?_eq_some_iff.1 hc).1),
      fun i hi => by
        have hi' : (sv nm).ownBlock = some i := by rw [HSV.out, ← HSL.out]; exact hi
        obtain ⟨q1, q2, q3, q4⟩ := row_ne H0.out HF.out hi'
        exact ⟨q1, q2, q3, q4, .inl hi'⟩,
      fun y F' hy hfy i hi => hb.block i (row_lt H0.out hfy hi)⟩
  rintro W2 w2
  have V2 := Lib.hid w2
  obtain ⟨x0, x1, x2, x3, x4, x5⟩ := w2.raw.cell
  obtain ⟨q0, q1⟩ := w2.box
  clear w2 c0 c1 c2 c3 c4 c5 e1 HH
  go_quiet (fail)
  go_upto_region 10 with (fail)
  refine wp_rename (WS K w g S b1 b2 b3 sv nm x (n : Int) (.slice sa sl sc) F.wr S.used (fun nm => (fnd S.fs nm).map fun F => flV F.l.length (sv nm)) (fun x => (S.fr x).map frV)) ?_ ?_
  · exact V2.out.same rfl rfl rfl rfl
  clear x0 x1 x2 x3 x4 x5 q0 q1 V2 W2
  rintro W2 w2
  have V2 := Lib.hid w2
  have hz2 := w2.lo
  clear w2
  go_upto_region 11 with (fail)
  refine wp_rename (fun W => WS K w g S b1 b2 b3 sv nm x (n : Int) (.slice sa sl sc) F.wr S.used (fun nm => (fnd S.fs nm).map fun F => flV F.l.length (sv nm)) (fun x => (S.fr x).map frV) W ∧ Whole W W2.heap.size 86 #[.string ⟨nm.toArray⟩, .int .i64 (j : Int)]) ?_ ?_
  · exact ⟨V2.out.alloc H0.out _, Whole.new _ _ _⟩
  rintro W3 ⟨w3, p3⟩
  have V3 := Lib.hid w3
  have P3 := Lib.hid p3
  obtain ⟨x0, x1, x2, x3, x4, x5⟩ := w3.raw.cell
  have k1 : W3.cell? ⟨W2.heap.size, 0, none⟩ = some (.string ⟨nm.toArray⟩) := p3.cell 0
  have k2 : W3.cell? ⟨W2.heap.size, 1, none⟩ = some (.int .i64 (j : Int)) := p3.cell 1
  have f1 := (w3.raw.drew.look_fr HX.out).1
  have f2 := ((w3.raw.alloc (.cells #[.int .u8 0, .int .u8 0, .int .u8 0, .int .u8 0, .int .u8 0, .int .u8 0, .int .u8 0, .int .u8 0, .int .u8 0, .int .u8 0, .int .u8 0, .int .u8 0, .int .u8 0, .int .u8 0, .int .u8 0, .int .u8 0, .int .u8 0, .int .u8 0, .int .u8 0, .int .u8 0, .int .u8 0, .int .u8 0, .int .u8 0, .int .u8 0, .int .u8 0, .int .u8 0, .int .u8 0, .int .u8 0, .int .u8 0, .int .u8 0, .int .u8 0, .int .u8 0, .int .u8 0, .int .u8 0, .int .u8 0, .int .u8 0, .int .u8 0, .int .u8 0, .int .u8 0, .int .u8 0, .int .u8 0, .int .u8 0, .int .u8 0, .int .u8 0, .int .u8 0, .int .u8 0, .int .u8 0, .int .u8 0, .int .u8 0, .int .u8 0, .int .u8 0, .int .u8 0, .int .u8 0, .int .u8 0, .int .u8 0, .int .u8 0, .int .u8 0, .int .u8 0, .int .u8 0, .int .u8 0, .int .u8 0, .int .u8 0, .int .u8 0, .int .u8 0] 64)).drew.look_fr HX.out).1
  rw [getD_frV, Option.isSome_map] at f1 f2
  have g1 := sc_new W3 64 #[.int .u8 0, .int .u8 0, .int .u8 0, .int .u8 0, .int .u8 0, .int .u8 0, .int .u8 0, .int .u8 0, .int .u8 0, .int .u8 0, .int .u8 0, .int .u8 0, .int .u8 0, .int .u8 0, .int .u8 0, .int .u8 0, .int .u8 0, .int .u8 0, .int .u8 0, .int .u8 0, .int .u8 0, .int .u8 0, .int .u8 0, .int .u8 0, .int .u8 0, .int .u8 0, .int .u8 0, .int .u8 0, .int .u8 0, .int .u8 0, .int .u8 0, .int .u8 0, .int .u8 0, .int .u8 0, .int .u8 0, .int .u8 0, .int .u8 0, .int .u8 0, .int .u8 0, .int .u8 0, .int .u8 0, .int .u8 0, .int .u8 0, .int .u8 0, .int .u8 0, .int .u8 0, .int .u8 0, .int .u8 0, .int .u8 0, .int .u8 0, .int .u8 0, .int .u8 0, .int .u8 0, .int .u8 0, .int .u8 0, .int .u8 0, .int .u8 0, .int .u8 0, .int .u8 0, .int .u8 0, .int .u8 0, .int .u8 0, .int .u8 0, .int .u8 0] (csF ((S.fr (nm, j)).getD zSec)) (by rw [csF_size]; rfl) (csF_one _)
  have g2 := csF_size ((S.fr (nm, j)).getD zSec)
  rw [← HBO.out] at f1 f2
  unfold plV at f1 f2
  have hg3 : g < W3.heap.size := w3.raw.glt
  have lt3 : W2.heap.size < W3.heap.size := p3.lt
  obtain ⟨old, hold⟩ : ∃ old, old = (S.fr (nm, j)).getD zSec := ⟨_, rfl⟩
  rw [← hold] at f1 f2 g1 g2
  clear w3 p3 hold
  go_region
  all_goals
    go_upto_region 12 with (fail)
    refine wp_rename (fun W => WS K w g S b1 b2 b3 sv nm x (n : Int) (.slice sa sl sc) F.wr S.used (fun nm => (fnd S.fs nm).map fun F => flV F.l.length (sv nm)) (fun x => (S.fr x).map frV) W ∧ Whole W W2.heap.size 86 #[.string ⟨nm.toArray⟩, .int .i64 (j : Int)]) ?_ ?_
    · exact ⟨(V3.out.alloc H0.out (.cells (csF old) 64)).same rfl rfl rfl rfl, (P3.out.alloc (.cells (csF old) 64)).below ((Below.refl W3.heap.size _).drew) (by omega)⟩
    clear x0 x1 x2 x3 x4 x5 k1 k2 f1 f2 g1 g2 V3 P3
    rintro W4 ⟨w4, p4⟩
    have V4 := Lib.hid w4
    have P4 := Lib.hid p4
    clear w4 p4
    rcases Bool.eq_false_or_eq_true bo with hbt | hbt
    · subst hbt
      go_upto_region 14 with (fail)
      refine wp_rename (fun W => WS K w g S b1 b2 b3 sv nm x (n : Int) (.slice sa sl sc) F.wr S.used (fun nm => (fnd S.fs nm).map fun F => flV F.l.length (sv nm)) (fun x => (S.fr x).map frV) W ∧ Whole W W2.heap.size 86 #[.string ⟨nm.toArray⟩, .int .i64 (j : Int)]) ?_ ?_
      · exact ⟨V4.out, P4.out⟩
      clear V4 P4
      rintro W5 ⟨w5, p5⟩
      have V5 := Lib.hid w5
      have P5 := Lib.hid p5
      clear w5 p5
      obtain ⟨x0, x1, x2, x3, x4, x5⟩ := V5.out.raw.cell
      have k1 : W5.cell? ⟨W2.heap.size, 0, none⟩ = some (.string ⟨nm.toArray⟩) := P5.out.cell 0
      have k2 : W5.cell? ⟨W2.heap.size, 1, none⟩ = some (.int .i64 (j : Int)) := P5.out.cell 1
      obtain ⟨w6, r6, R6, t6⟩ := V5.out.raw.drew.put_fr HX.out (.agg (csF x)) S.places (fun y hy => fr_place (by simpa using hy)) (by rw [places_length]; have := HO.out.room; have := HO.out.most; unfold maxLen; omega)
      have V6 := Lib.hid ((V5.out.same (W' := W5.drew) rfl rfl rfl rfl).turned H0.out t6 (.inr (.inr rfl)) R6)
      have P6 := Lib.hid (show Whole w6 W2.heap.size 86 #[.string ⟨nm.toArray⟩, .int .i64 (j : Int)] from (turned_block t6 (by have := H0.out.fresh.lt; omega) P5.out.lt).trans P5.out)
      unfold plV at r6
      clear R6 t6
      have p7' := V5.out.p7
      refine wp_region_held_drew (S := fun w' => w'.cell? ⟨g, 4, none⟩ = some (.map (some b3)) ∧ w'.cell? ⟨W2.heap.size, 0, none⟩ = some (.string ⟨nm.toArray⟩) ∧ w'.cell? ⟨W2.heap.size, 1, none⟩ = some (.int .i64 (j : Int)) ∧ w'.heap[w.heap.size]? = some (.cells (csF x) 64 (0, 0))) (by kernel_rfl) ⟨x4, k1, k2, p7'⟩ (fun hS0 => ?_)
      refine wpAnyH_take (i := 0) (oi := ⟨some 73, _, _, _, _, _⟩) (v := ?_) rfl (by kernel_rfl) (by kernel_rfl) (by kernel_rfl) (fun _ _ _ h => h) (Or.inl ⟨by rfl, ?_⟩) (by assumption) ?_
      rotate_left
      · (intro wS hSw; obtain ⟨s1, s2, s3, s4⟩ := hSw; go_simp); all_goals (with_reducible rfl)
      simp only [Act.put, List.setIfInBounds_toArray, List.set_cons_zero, List.set_cons_succ]
      refine wpAnyH_take (i := 1) (oi := ⟨some 74, _, _, _, _, _⟩) (v := ?_) rfl (by kernel_rfl) (by kernel_rfl) (by kernel_rfl) (fun _ _ _ h => h) (Or.inl ⟨by rfl, ?_⟩) (by assumption) ?_
      rotate_left
      · (intro wS hSw; obtain ⟨s1, s2, s3, s4⟩ := hSw; go_simp); all_goals (with_reducible rfl)
      simp only [Act.put, List.setIfInBounds_toArray, List.set_cons_zero, List.set_cons_succ]
      refine wpAnyH_take (i := 2) (oi := ⟨some 75, _, _, _, _, _⟩) (v := ?_) rfl (by kernel_rfl) (by kernel_rfl) (by kernel_rfl) (fun _ _ _ h => h) (Or.inl ⟨by rfl, ?_⟩) (by assumption) ?_
      rotate_left
      · (intro wS hSw; obtain ⟨s1, s2, s3, s4⟩ := hSw; go_simp); all_goals (with_reducible rfl)
      simp only [Act.put, List.setIfInBounds_toArray, List.set_cons_zero, List.set_cons_succ]
      refine wpAnyH_take (i := 3) (oi := ⟨some 76, _, _, _, _, _⟩) (v := ?_) rfl (by kernel_rfl) (by kernel_rfl) (by kernel_rfl) (fun _ _ _ h => h) (Or.inl ⟨by rfl, ?_⟩) (by assumption) ?_
      rotate_left
      · (intro wS hSw; obtain ⟨s1, s2, s3, s4⟩ := hSw; go_simp); all_goals (with_reducible rfl)
      simp only [Act.put, List.setIfInBounds_toArray, List.set_cons_zero, List.set_cons_succ]
      refine wpAnyH_take (i := 4) (oi := ⟨some 77, _, _, _, _, _⟩) (v := ?_) rfl (by kernel_rfl) (by kernel_rfl) (by kernel_rfl) (fun _ _ _ h => h) (Or.inl ⟨by rfl, ?_⟩) (by assumption) ?_
      rotate_left
      · (intro wS hSw; obtain ⟨s1, s2, s3, s4⟩ := hSw; go_simp); all_goals (with_reducible rfl)
      simp only [Act.put, List.setIfInBounds_toArray, List.set_cons_zero, List.set_cons_succ]
      refine wpAnyH_take (i := 5) (oi := ⟨some 78, _, _, _, _, _⟩) (v := ?_) rfl (by kernel_rfl) (by kernel_rfl) (by kernel_rfl) (fun _ _ _ h => h) (Or.inl ⟨by rfl, ?_⟩) (by assumption) ?_
      rotate_left
      · (intro wS hSw; obtain ⟨s1, s2, s3, s4⟩ := hSw; (with_reducible refine yields64 _ w.heap.size x ?_ s4); rfl)
      simp only [Act.put, List.setIfInBounds_toArray, List.set_cons_zero, List.set_cons_succ]
      refine wpAnyH_ready (rs := [6]) (by kernel_rfl) (by simp) ?_
      refine AllReadyH.cons (o := ⟨none, _, _, _, _, _⟩) rfl (fun K hK => ?_) AllReadyH.nil
      go_simp
      refine hK.out _ _ ?_ (fun hHeld => ?_)
      · exact ⟨V6.out.raw.cell.2.2.2.2.1, P6.out.cell 0, P6.out.cell 1, V6.out.p7⟩
      clear hK K hHeld
      try simp only [Act.put, List.setIfInBounds_toArray, List.set_cons_zero, List.set_cons_succ]
      refine wpAnyH_done (by kernel_rfl) ?_ _
      all_goals
        go_upto_region 15 with (fail)
        clear x0 x1 x2 x3 x4 x5 k1 k2 r6 V5 P5
        obtain ⟨x0, x1, x2, x3, x4, x5⟩ := V6.out.raw.cell
        have x1f := V6.out.raw.frozen 1
        obtain ⟨q0, q1⟩ := V6.out.box
        have qf := V6.out.p9.frozen 0
        go_upto_region 18 with (fail)
        refine wp_rename (WS K w g S b1 b2 b3 sv nm x (n : Int) (.slice sa sl sc) F.wr S.used (fun nm => (fnd S.fs nm).map fun F => flV F.l.length (sv nm)) (upd (fun x => (S.fr x).map frV) (nm, j) (some (.agg (csF x))))) ?_ ?_
        · exact V6.out
        clear x0 x1 x2 x3 x4 x5 q0 q1 qf x1f P6 V6
        rintro W7 w7
        have V7 := Lib.hid w7
        clear w7
        obtain ⟨x0, x1, x2, x3, x4, x5⟩ := V7.out.raw.cell
        obtain ⟨q0, q1⟩ := V7.out.box
        obtain ⟨w8, r8, R8, t8⟩ := V7.out.raw.drew.put_fl hn (.agg #[.int .i64 ((n : Int)), (.slice sa sl sc)]) (S.fs.map (·.1)) names_all (by have := HO.out.few; simp; unfold maxLen; omega)
        have V8 := (V7.out.same (W' := W7.drew) rfl rfl rfl rfl).turned H0.out t8 (.inl rfl) R8
        have eN : ((n : Int) : Int) = ((wrF F j x).l.length : Nat) := by
          have e2 := wrF_length F j x
          rw [HNN.out] at hj ⊢; rw [e2]; rw [if_pos hj]
        have eW : (wrF F j x).wr = F.wr := by
          have hb := HBO.out
          unfold Dv.fr at hb
          rw [HF.out] at hb
          simp only [Option.bind_some] at hb
          unfold wrF
          simp only []
          rw [← hb]
          simp
        have D8 : DevAt (More K w) w8 g (S.put nm (wrF F j x)) b1 b2 b3 (svAt sv nm (.slice sa sl sc)) := by
          refine H0.out.wrote HO.out.rising nm F HF.out j x (by rw [← HNN.out]; omega) (.slice sa sl sc) _ (R8.mono (fun i _ hi => .inl hi) |>.sameF ?_) ?_ (fun i hi => .inl hi) (by rw [eW]; exact V8.row) (fun i hi => ?_) V8.oth
          · simp only [flV]; rw [← eN]
          · have e2 := wrF_length F j x
            rw [e2, ← HNN.out]
            rw [if_pos hj]; simp
          · obtain ⟨_, _, _, _, h9⟩ := V8.vne i hi
            rcases h9 with h9 | h9
            · exact ⟨.inl ((H0.out.rows nm F HF.out).2 i h9), .inl h9⟩
            · exact ⟨.inr (by omega), .inr (by omega)⟩
        have HD8 := Lib.hid D8
        have HT8 := Lib.hid V8.T
        have HL8 := Lib.hid HO.out.left
        unfold nmV at r8
        clear R8 t8 V8 D8 eN eW
        go_region
        all_goals
          go_wp2_with (go_at_call 50; go_must (refine (done_any HD8.out HL8.out).mono ?_); rintro e w9 ⟨rfl, h9, t9⟩; have H9 := Lib.hid h9; have T9 := Lib.hid t9; clear h9 t9)
          go_ret
          exact ⟨rfl, _, H9.out, HT8.out.trans T9.out⟩
    · subst hbt
      obtain ⟨q0, q1⟩ := V4.out.box
      have qf := V4.out.p9.frozen 1
      have lo4 := V4.out.lo
      obtain ⟨i0, hi, hz0, hz1, hz2⟩ := info_parts int_info
      have HI := Lib.hid hi
      have U0 := Lib.hid hz0
      have U1 := Lib.hid hz1
      have U2 := Lib.hid hz2
      have hrow := V4.out.row
      rw [← HSL.out] at hrow
      have HROW := Lib.hid hrow
      have sl5 : sl ≤ 100000 := by have := HWL.out; have := HSL.out; omega
      clear hi hz0 hz1 hz2 hrow
      go_upto_region 14 with (at_builtin; go_must (refine wpList_append_own_at _ rfl _ _ 22 rfl 0 3 i0 (.int .i64 0) 1 8 Try.underlying22 HI.out U0.out U1.out U2.out rfl (by decide) _ sl _ rfl (HROW.out.alloc _) ⟨W4.heap.size, 0, none⟩ 1 1 [.int .i64 (j : Int)] rfl rfl (cell_one_new _ _ _) (ints_oneCell .i64 [(j : Int)]) (by unfold maxLen; omega) (by omega) (Nat.zero_le _) ?_); intro v5 w5 hown5 hgrow5 hnil5 hloc5; obtain ⟨va, vc, rfl, _, _⟩ := own_form hown5; have O5 := Lib.hid hown5; have G5 := Lib.hid hgrow5; have L5 := Lib.hid hloc5; have qc := (cell_kept V4.out H0.out HF.out HSV.out HSL.out _ hgrow5).1; have qfz := (cell_kept V4.out H0.out HF.out HSV.out HSL.out _ hgrow5).2; clear hown5 hgrow5 hnil5 hloc5)
      refine wp_rename (fun W => WS K w g S b1 b2 b3 sv nm x (n : Int) (.slice va (sl + 1) vc) (F.wr ++ [j]) S.used (fun nm => (fnd S.fs nm).map fun F => flV F.l.length (sv nm)) (fun x => (S.fr x).map frV) W ∧ Whole W W2.heap.size 86 #[.string ⟨nm.toArray⟩, .int .i64 (j : Int)]) ?_ ?_
      · refine ⟨V4.out.appended H0.out F HF.out (by rw [HSV.out, HSL.out]) _ (by rw [← HSL.out]; exact O5.out) G5.out L5.out, ?_⟩
        have hp5 : Whole w5 W2.heap.size 86 #[.string ⟨nm.toArray⟩, .int .i64 (j : Int)] := (G5.out.block _ (by have := P4.out.lt; simp; omega) (fun e => by have := row_lt H0.out HF.out (i := W2.heap.size) (by rw [HSV.out, ← HSL.out]; exact e.symm); omega)).trans (P4.out.alloc _)
        exact (Below.heap_setCell w5 _ _ _ (show W2.heap.size ≠ w.heap.size + 1 by omega)).trans hp5
      clear q0 q1 qf V4 P4 O5 G5 L5 qc qfz HI U0 U1 U2 HROW
      rintro W5 ⟨w5', p5⟩
      have V5 := Lib.hid w5'
      have P5 := Lib.hid p5
      clear w5' p5
      obtain ⟨x0, x1, x2, x3, x4, x5⟩ := V5.out.raw.cell
      have k1 : W5.cell? ⟨W2.heap.size, 0, none⟩ = some (.string ⟨nm.toArray⟩) := P5.out.cell 0
      have k2 : W5.cell? ⟨W2.heap.size, 1, none⟩ = some (.int .i64 (j : Int)) := P5.out.cell 1
      obtain ⟨w6, r6, R6, t6⟩ := V5.out.raw.drew.put_fr HX.out (.agg (csF x)) S.places (fun y hy => fr_place (by simpa using hy)) (by rw [places_length]; have := HO.out.room; have := HO.out.most; unfold maxLen; omega)
      have V6 := Lib.hid ((V5.out.same (W' := W5.drew) rfl rfl rfl rfl).turned H0.out t6 (.inr (.inr rfl)) R6)
      have P6 := Lib.hid (show Whole w6 W2.heap.size 86 #[.string ⟨nm.toArray⟩, .int .i64 (j : Int)] from (turned_block t6 (by have := H0.out.fresh.lt; omega) P5.out.lt).trans P5.out)
      unfold plV at r6
      clear R6 t6
      have p7' := V5.out.p7
      refine wp_region_held_drew (S := fun w' => w'.cell? ⟨g, 4, none⟩ = some (.map (some b3)) ∧ w'.cell? ⟨W2.heap.size, 0, none⟩ = some (.string ⟨nm.toArray⟩) ∧ w'.cell? ⟨W2.heap.size, 1, none⟩ = some (.int .i64 (j : Int)) ∧ w'.heap[w.heap.size]? = some (.cells (csF x) 64 (0, 0))) (by kernel_rfl) ⟨x4, k1, k2, p7'⟩ (fun hS0 => ?_)
      refine wpAnyH_take (i := 0) (oi := ⟨some 73, _, _, _, _, _⟩) (v := ?_) rfl (by kernel_rfl) (by kernel_rfl) (by kernel_rfl) (fun _ _ _ h => h) (Or.inl ⟨by rfl, ?_⟩) (by assumption) ?_
      rotate_left
      · (intro wS hSw; obtain ⟨s1, s2, s3, s4⟩ := hSw; go_simp); all_goals (with_reducible rfl)
      simp only [Act.put, List.setIfInBounds_toArray, List.set_cons_zero, List.set_cons_succ]
      refine wpAnyH_take (i := 1) (oi := ⟨some 74, _, _, _, _, _⟩) (v := ?_) rfl (by kernel_rfl) (by kernel_rfl) (by kernel_rfl) (fun _ _ _ h => h) (Or.inl ⟨by rfl, ?_⟩) (by assumption) ?_
      rotate_left
      · (intro wS hSw; obtain ⟨s1, s2, s3, s4⟩ := hSw; go_simp); all_goals (with_reducible rfl)
      simp only [Act.put, List.setIfInBounds_toArray, List.set_cons_zero, List.set_cons_succ]
      refine wpAnyH_take (i := 2) (oi := ⟨some 75, _, _, _, _, _⟩) (v := ?_) rfl (by kernel_rfl) (by kernel_rfl) (by kernel_rfl) (fun _ _ _ h => h) (Or.inl ⟨by rfl, ?_⟩) (by assumption) ?_
      rotate_left
      · (intro wS hSw; obtain ⟨s1, s2, s3, s4⟩ := hSw; go_simp); all_goals (with_reducible rfl)
      simp only [Act.put, List.setIfInBounds_toArray, List.set_cons_zero, List.set_cons_succ]
      refine wpAnyH_take (i := 3) (oi := ⟨some 76, _, _, _, _, _⟩) (v := ?_) rfl (by kernel_rfl) (by kernel_rfl) (by kernel_rfl) (fun _ _ _ h => h) (Or.inl ⟨by rfl, ?_⟩) (by assumption) ?_
      rotate_left
      · (intro wS hSw; obtain ⟨s1, s2, s3, s4⟩ := hSw; go_simp); all_goals (with_reducible rfl)
      simp only [Act.put, List.setIfInBounds_toArray, List.set_cons_zero, List.set_cons_succ]
      refine wpAnyH_take (i := 4) (oi := ⟨some 77, _, _, _, _, _⟩) (v := ?_) rfl (by kernel_rfl) (by kernel_rfl) (by kernel_rfl) (fun _ _ _ h => h) (Or.inl ⟨by rfl, ?_⟩) (by assumption) ?_
      rotate_left
      · (intro wS hSw; obtain ⟨s1, s2, s3, s4⟩ := hSw; go_simp); all_goals (with_reducible rfl)
      simp only [Act.put, List.setIfInBounds_toArray, List.set_cons_zero, List.set_cons_succ]
      refine wpAnyH_take (i := 5) (oi := ⟨some 78, _, _, _, _, _⟩) (v := ?_) rfl (by kernel_rfl) (by kernel_rfl) (by kernel_rfl) (fun _ _ _ h => h) (Or.inl ⟨by rfl, ?_⟩) (by assumption) ?_
      rotate_left
      · (intro wS hSw; obtain ⟨s1, s2, s3, s4⟩ := hSw; (with_reducible refine yields64 _ w.heap.size x ?_ s4); rfl)
      simp only [Act.put, List.setIfInBounds_toArray, List.set_cons_zero, List.set_cons_succ]
      refine wpAnyH_ready (rs := [6]) (by kernel_rfl) (by simp) ?_
      refine AllReadyH.cons (o := ⟨none, _, _, _, _, _⟩) rfl (fun K hK => ?_) AllReadyH.nil
      go_simp
      refine hK.out _ _ ?_ (fun hHeld => ?_)
      · exact ⟨V6.out.raw.cell.2.2.2.2.1, P6.out.cell 0, P6.out.cell 1, V6.out.p7⟩
      clear hK K hHeld
      try simp only [Act.put, List.setIfInBounds_toArray, List.set_cons_zero, List.set_cons_succ]
      refine wpAnyH_done (by kernel_rfl) ?_ _
      all_goals
        go_upto_region 15 with (fail)
        clear x0 x1 x2 x3 x4 x5 k1 k2 r6 V5 P5
        obtain ⟨x0, x1, x2, x3, x4, x5⟩ := V6.out.raw.cell
        have x1f := V6.out.raw.frozen 1
        obtain ⟨q0, q1⟩ := V6.out.box
        have qf := V6.out.p9.frozen 0
        go_upto_region 18 with (fail)
        refine wp_rename (WS K w g S b1 b2 b3 sv nm x (n : Int) (.slice va (sl + 1) vc) (F.wr ++ [j]) S.used (fun nm => (fnd S.fs nm).map fun F => flV F.l.length (sv nm)) (upd (fun x => (S.fr x).map frV) (nm, j) (some (.agg (csF x))))) ?_ ?_
        · exact V6.out
        clear x0 x1 x2 x3 x4 x5 q0 q1 qf x1f P6 V6
        rintro W7 w7
        have V7 := Lib.hid w7
        clear w7
        obtain ⟨x0, x1, x2, x3, x4, x5⟩ := V7.out.raw.cell
        obtain ⟨q0, q1⟩ := V7.out.box
        obtain ⟨w8, r8, R8, t8⟩ := V7.out.raw.drew.put_fl hn (.agg #[.int .i64 ((n : Int)), (.slice va (sl + 1) vc)]) (S.fs.map (·.1)) names_all (by have := HO.out.few; simp; unfold maxLen; omega)
        have V8 := (V7.out.same (W' := W7.drew) rfl rfl rfl rfl).turned H0.out t8 (.inl rfl) R8
        have eN : ((n : Int) : Int) = ((wrF F j x).l.length : Nat) := by
          have e2 := wrF_length F j x
          rw [HNN.out] at hj ⊢; rw [e2]; rw [if_pos hj]
        have eW : (wrF F j x).wr = (F.wr ++ [j]) := by
          have hb := HBO.out
          unfold Dv.fr at hb
          rw [HF.out] at hb
          simp only [Option.bind_some] at hb
          unfold wrF
          simp only []
          rw [← hb]
          simp
        have D8 : DevAt (More K w) w8 g (S.put nm (wrF F j x)) b1 b2 b3 (svAt sv nm (.slice va (sl + 1) vc)) := by
          refine H0.out.wrote HO.out.rising nm F HF.out j x (by rw [← HNN.out]; omega) (.slice va (sl + 1) vc) _ (R8.mono (fun i _ hi => .inl hi) |>.sameF ?_) ?_ (fun i hi => .inl hi) (by rw [eW]; exact V8.row) (fun i hi => ?_) V8.oth
          · simp only [flV]; rw [← eN]
          · have e2 := wrF_length F j x
            rw [e2, ← HNN.out]
            rw [if_pos hj]; simp
          · obtain ⟨_, _, _, _, h9⟩ := V8.vne i hi
            rcases h9 with h9 | h9
            · exact ⟨.inl ((H0.out.rows nm F HF.out).2 i h9), .inl h9⟩
            · exact ⟨.inr (by omega), .inr (by omega)⟩
        have HD8 := Lib.hid D8
        have HT8 := Lib.hid V8.T
        have HL8 := Lib.hid HO.out.left
        unfold nmV at r8
        clear R8 t8 V8 D8 eN eW
        go_region
        all_goals
          go_wp2_with (go_at_call 50; go_must (refine (done_any HD8.out HL8.out).mono ?_); rintro e w9 ⟨rfl, h9, t9⟩; have H9 := Lib.hid h9; have T9 := Lib.hid t9; clear h9 t9)
          go_ret
          exact ⟨rfl, _, H9.out, HT8.out.trans T9.out⟩
set_option maxHeartbeats 4000000 in
theorem write_new (h : DevAt K w g S b1 b2 b3 sv) (hO : Ok S) (nm : Nm) (h20 : nm.length ≤ 20) (j : Nat) (x : Sec) (F : Fil) (hf : fnd S.fs nm = some F) (hp : S.left ≠ 0) (hj : j = F.l.length) (hm : F.l.length ≤ 100000) (hwl : F.wr.length ≤ 100000) (bo : Bool) (hbo : bo = (S.fr (nm, j)).isSome) (hu : S.used < S.most) :
    Calls Try.prog 30 #[ptr g, nmV nm, .int .i64 (j : Int), .agg (csF x)] w fun e w' => e = .returned (.int .i64 0) ∧ ∃ sv', DevAt (More K w) w' g (S.put nm (wrF F j x)).tick b1 b2 b3 sv' ∧ Turn K w w' := by
  have hn : nm.length ≤ maxLen := by unfold maxLen; omega
  obtain ⟨c0, c1, c2, c3, c4, c5⟩ := h.cell
  have hg := h.glt
  have hb1 := h.files.lt
  obtain ⟨A0, hA0⟩ : ∃ A0 : Obj, A0 = .cells (csF x) 64 := ⟨_, rfl⟩
  have e1 := ((h.raw.alloc A0).look_fl hn).1
  rw [hf] at e1
  simp only [Option.map_some, Option.getD_some, Option.isSome_some, flV] at e1
  obtain ⟨sa, sc, hsv, hsc1, hsc2⟩ := own_form (h.rows nm F hf).1
  rw [hsv] at e1
  obtain ⟨n, hnn⟩ : ∃ n, n = F.l.length := ⟨_, rfl⟩
  obtain ⟨sl, hsl⟩ : ∃ sl, sl = F.wr.length := ⟨_, rfl⟩
  rw [← hnn] at e1 hj
  rw [← hsl] at e1
  subst hj
  have hcut : (S.left == 0) = false := by simpa using hp
  have HH := Lib.hid (h.alloc A0)
  have H0 := Lib.hid h
  have HNN := Lib.hid hnn
  have HSL := Lib.hid hsl
  have HSV := Lib.hid hsv
  have HF := Lib.hid hf
  have HBO := Lib.hid hbo
  have HWL := Lib.hid hwl
  have HO := Lib.hid hO
  have HX := Lib.hid (show plOk (nm, j) from ⟨h20, by show j ≤ 1000000; omega⟩)
  clear hbo hwl hO
  subst hA0
  unfold nmV at e1 ⊢
  have hj0 : ¬ (j : Int) < 0 := by omega
  have hj1 : ¬ (j : Int) < (j : Int) := by omega
  have hu2 : decide (S.most ≤ S.used) = false := by simp; omega
  have hu3 : ¬ ((S.most : Int) ≤ (S.used : Int)) := by omega
  have hu4 : S.used ≤ 100000 := by have := HO.out.most; omega
  have hj9 : j ≤ 100000 := by omega
  have hjj : ((j : Int) == (j : Int)) = true := by simp
  have hg8 : ¬ g = w.heap.size + 1 := by omega
  have hg9 : ¬ w.heap.size + 1 = g := by omega
  clear h hf hp hnn hsl hsv
  go_enter Try.func30, Try.ntmps30
  go_upto_region 8 with (first
    | (go_at_call 49; go_must (refine (cut_any HH.out).mono ?_); rintro e w' ⟨rfl, rfl⟩))
  refine wp_rename (WS K w g S b1 b2 b3 sv nm x (j : Int) (.slice sa sl sc) F.wr S.used (fun nm => (fnd S.fs nm).map fun F => flV F.l.length (sv nm)) (fun x => (S.fr x).map frV)) ?_ ?_
  · have hb : Below w.heap.size w ((w.alloc (.cells (csF x) 64)).alloc (.cells #[.int .i64 (j : Int), .slice sa sl sc] 91)) := (((Below.refl _ w).alloc (Nat.le_refl _) _).alloc (by simp) _)
    have hw := Whole.new (w.alloc (.cells (csF x) 64)) 91 #[.int .i64 (j : Int), .slice sa sl sc]
    have hrow := (H0.out.rows nm F HF.out).1
    rw [HSV.out, ← HSL.out] at hrow
    exact ⟨Turn.of_below hb, HH.out.raw.below ((Below.refl _ _).alloc (Nat.le_refl _) _), (Below.heap_alloc _ _ _ (by simp)).trans (heap_alloc_new w _), by simpa using hw, by simp,
      row_block (by rw [← HSL.out]; exact hrow) (fun i hi => by
        obtain ⟨cur, hc⟩ := sv_row hrow hi
        exact hb.block i (Array.getElem?_eq_some_iff.1 hc).1),
      fun i hi => by
        have hi' : (sv nm).ownBlock = some i := by rw [HSV.out, ← HSL.out]; exact hi
        obtain ⟨q1, q2, q3, q4⟩ := row_ne H0.out HF.out hi'
        exact ⟨q1, q2, q3, q4, .inl hi'⟩,
      fun y F' hy hfy i hi => hb.block i (row_lt H0.out hfy hi)⟩
  rintro W2 w2
  have V2 := Lib.hid w2
  obtain ⟨x0, x1, x2, x3, x4, x5⟩ := w2.raw.cell
  obtain ⟨q0, q1⟩ := w2.box
  clear w2 c0 c1 c2 c3 c4 c5 e1 HH
  go_quiet (fail)
  go_upto_region 10 with (fail)
  refine wp_rename (WS K w g S b1 b2 b3 sv nm x (j : Int) (.slice sa sl sc) F.wr S.used (fun nm => (fnd S.fs nm).map fun F => flV F.l.length (sv nm)) (fun x => (S.fr x).map frV)) ?_ ?_
  · exact V2.out.same rfl rfl rfl rfl
  clear x0 x1 x2 x3 x4 x5 q0 q1 V2 W2
  rintro W2 w2
  have V2 := Lib.hid w2
  have hz2 := w2.lo
  clear w2
  go_upto_region 11 with (fail)
  refine wp_rename (fun W => WS K w g S b1 b2 b3 sv nm x (j : Int) (.slice sa sl sc) F.wr S.used (fun nm => (fnd S.fs nm).map fun F => flV F.l.length (sv nm)) (fun x => (S.fr x).map frV) W ∧ Whole W W2.heap.size 86 #[.string ⟨nm.toArray⟩, .int .i64 (j : Int)]) ?_ ?_
  · exact ⟨V2.out.alloc H0.out _, Whole.new _ _ _⟩
  rintro W3 ⟨w3, p3⟩
  have V3 := Lib.hid w3
  have P3 := Lib.hid p3
  obtain ⟨x0, x1, x2, x3, x4, x5⟩ := w3.raw.cell
  have k1 : W3.cell? ⟨W2.heap.size, 0, none⟩ = some (.string ⟨nm.toArray⟩) := p3.cell 0
  have k2 : W3.cell? ⟨W2.heap.size, 1, none⟩ = some (.int .i64 (j : Int)) := p3.cell 1
  have f1 := (w3.raw.drew.look_fr HX.out).1
  have f2 := ((w3.raw.alloc (.cells #[.int .u8 0, .int .u8 0, .int .u8 0, .int .u8 0, .int .u8 0, .int .u8 0, .int .u8 0, .int .u8 0, .int .u8 0, .int .u8 0, .int .u8 0, .int .u8 0, .int .u8 0, .int .u8 0, .int .u8 0, .int .u8 0, .int .u8 0, .int .u8 0, .int .u8 0, .int .u8 0, .int .u8 0, .int .u8 0, .int .u8 0, .int .u8 0, .int .u8 0, .int .u8 0, .int .u8 0, .int .u8 0, .int .u8 0, .int .u8 0, .int .u8 0, .int .u8 0, .int .u8 0, .int .u8 0, .int .u8 0, .int .u8 0, .int .u8 0, .int .u8 0, .int .u8 0, .int .u8 0, .int .u8 0, .int .u8 0, .int .u8 0, .int .u8 0, .int .u8 0, .int .u8 0, .int .u8 0, .int .u8 0, .int .u8 0, .int .u8 0, .int .u8 0, .int .u8 0, .int .u8 0, .int .u8 0, .int .u8 0, .int .u8 0, .int .u8 0, .int .u8 0, .int .u8 0, .int .u8 0, .int .u8 0, .int .u8 0, .int .u8 0, .int .u8 0] 64)).drew.look_fr HX.out).1
  rw [getD_frV, Option.isSome_map] at f1 f2
  have g1 := sc_new W3 64 #[.int .u8 0, .int .u8 0, .int .u8 0, .int .u8 0, .int .u8 0, .int .u8 0, .int .u8 0, .int .u8 0, .int .u8 0, .int .u8 0, .int .u8 0, .int .u8 0, .int .u8 0, .int .u8 0, .int .u8 0, .int .u8 0, .int .u8 0, .int .u8 0, .int .u8 0, .int .u8 0, .int .u8 0, .int .u8 0, .int .u8 0, .int .u8 0, .int .u8 0, .int .u8 0, .int .u8 0, .int .u8 0, .int .u8 0, .int .u8 0, .int .u8 0, .int .u8 0, .int .u8 0, .int .u8 0, .int .u8 0, .int .u8 0, .int .u8 0, .int .u8 0, .int .u8 0, .int .u8 0, .int .u8 0, .int .u8 0, .int .u8 0, .int .u8 0, .int .u8 0, .int .u8 0, .int .u8 0, .int .u8 0, .int .u8 0, .int .u8 0, .int .u8 0, .int .u8 0, .int .u8 0, .int .u8 0, .int .u8 0, .int .u8 0, .int .u8 0, .int .u8 0, .int .u8 0, .int .u8 0, .int .u8 0, .int .u8 0, .int .u8 0, .int .u8 0] (csF ((S.fr (nm, j)).getD zSec)) (by rw [csF_size]; rfl) (csF_one _)
  have g2 := csF_size ((S.fr (nm, j)).getD zSec)
  rw [← HBO.out] at f1 f2
  unfold plV at f1 f2
  have hg3 : g < W3.heap.size := w3.raw.glt
  have lt3 : W2.heap.size < W3.heap.size := p3.lt
  obtain ⟨old, hold⟩ : ∃ old, old = (S.fr (nm, j)).getD zSec := ⟨_, rfl⟩
  rw [← hold] at f1 f2 g1 g2
  clear w3 p3 hold
  go_region
  all_goals
    go_upto_region 12 with (fail)
    refine wp_rename (fun W => WS K w g S b1 b2 b3 sv nm x (j : Int) (.slice sa sl sc) F.wr S.used (fun nm => (fnd S.fs nm).map fun F => flV F.l.length (sv nm)) (fun x => (S.fr x).map frV) W ∧ Whole W W2.heap.size 86 #[.string ⟨nm.toArray⟩, .int .i64 (j : Int)]) ?_ ?_
    · exact ⟨(V3.out.alloc H0.out (.cells (csF old) 64)).same rfl rfl rfl rfl, (P3.out.alloc (.cells (csF old) 64)).below ((Below.refl W3.heap.size _).drew) (by omega)⟩
    clear x0 x1 x2 x3 x4 x5 k1 k2 f1 f2 g1 g2 V3 P3
    rintro W4 ⟨w4, p4⟩
    have V4 := Lib.hid w4
    have P4 := Lib.hid p4
    clear w4 p4
    have hbf : bo = false := by rw [HBO.out]; exact fr_end HF.out (by rw [HNN.out]; exact Nat.le_refl _)
    subst hbf
    obtain ⟨q0, q1⟩ := V4.out.box
    have qf := V4.out.p9.frozen 1
    have lo4 := V4.out.lo
    obtain ⟨i0, hi, hz0, hz1, hz2⟩ := info_parts int_info
    have HI := Lib.hid hi
    have U0 := Lib.hid hz0
    have U1 := Lib.hid hz1
    have U2 := Lib.hid hz2
    have hrow := V4.out.row
    rw [← HSL.out] at hrow
    have HROW := Lib.hid hrow
    have sl5 : sl ≤ 100000 := by have := HWL.out; have := HSL.out; omega
    clear hi hz0 hz1 hz2 hrow
    go_upto_region 14 with (at_builtin; go_must (refine wpList_append_own_at _ rfl _ _ 22 rfl 0 3 i0 (.int .i64 0) 1 8 Try.underlying22 HI.out U0.out U1.out U2.out rfl (by decide) _ sl _ rfl (HROW.out.alloc _) ⟨W4.heap.size, 0, none⟩ 1 1 [.int .i64 (j : Int)] rfl rfl (cell_one_new _ _ _) (ints_oneCell .i64 [(j : Int)]) (by unfold maxLen; omega) (by omega) (Nat.zero_le _) ?_); intro v5 w5 hown5 hgrow5 hnil5 hloc5; obtain ⟨va, vc, rfl, _, _⟩ := own_form hown5; have O5 := Lib.hid hown5; have G5 := Lib.hid hgrow5; have L5 := Lib.hid hloc5; have qc := (cell_kept V4.out H0.out HF.out HSV.out HSL.out _ hgrow5).1; have qfz := (cell_kept V4.out H0.out HF.out HSV.out HSL.out _ hgrow5).2; clear hown5 hgrow5 hnil5 hloc5)
    refine wp_rename (fun W => WS K w g S b1 b2 b3 sv nm x (j : Int) (.slice va (sl + 1) vc) (F.wr ++ [j]) S.used (fun nm => (fnd S.fs nm).map fun F => flV F.l.length (sv nm)) (fun x => (S.fr x).map frV) W ∧ Whole W W2.heap.size 86 #[.string ⟨nm.toArray⟩, .int .i64 (j : Int)]) ?_ ?_
    · refine ⟨V4.out.appended H0.out F HF.out (by rw [HSV.out, HSL.out]) _ (by rw [← HSL.out]; exact O5.out) G5.out L5.out, ?_⟩
      have hp5 : Whole w5 W2.heap.size 86 #[.string ⟨nm.toArray⟩, .int .i64 (j : Int)] := (G5.out.block _ (by have := P4.out.lt; simp; omega) (fun e => by have := row_lt H0.out HF.out (i := W2.heap.size) (by rw [HSV.out, ← HSL.out]; exact e.symm); omega)).trans (P4.out.alloc _)
      exact (Below.heap_setCell w5 _ _ _ (show W2.heap.size ≠ w.heap.size + 1 by omega)).trans hp5
    clear q0 q1 qf V4 P4 O5 G5 L5 qc qfz HI U0 U1 U2 HROW
    rintro W5 ⟨w5', p5⟩
    have V5 := Lib.hid w5'
    have P5 := Lib.hid p5
    clear w5' p5
    obtain ⟨x0, x1, x2, x3, x4, x5⟩ := V5.out.raw.cell
    have k1 : W5.cell? ⟨W2.heap.size, 0, none⟩ = some (.string ⟨nm.toArray⟩) := P5.out.cell 0
    have k2 : W5.cell? ⟨W2.heap.size, 1, none⟩ = some (.int .i64 (j : Int)) := P5.out.cell 1
    obtain ⟨w6, r6, R6, t6⟩ := V5.out.raw.drew.put_fr HX.out (.agg (csF x)) S.places (fun y hy => fr_place (by simpa using hy)) (by rw [places_length]; have := HO.out.room; have := HO.out.most; unfold maxLen; omega)
    have V6 := Lib.hid ((V5.out.same (W' := W5.drew) rfl rfl rfl rfl).turned H0.out t6 (.inr (.inr rfl)) R6)
    have P6 := Lib.hid (show Whole w6 W2.heap.size 86 #[.string ⟨nm.toArray⟩, .int .i64 (j : Int)] from (turned_block t6 (by have := H0.out.fresh.lt; omega) P5.out.lt).trans P5.out)
    unfold plV at r6
    clear R6 t6
    have p7' := V5.out.p7
    refine wp_region_held_drew (S := fun w' => w'.cell? ⟨g, 4, none⟩ = some (.map (some b3)) ∧ w'.cell? ⟨W2.heap.size, 0, none⟩ = some (.string ⟨nm.toArray⟩) ∧ w'.cell? ⟨W2.heap.size, 1, none⟩ = some (.int .i64 (j : Int)) ∧ w'.heap[w.heap.size]? = some (.cells (csF x) 64 (0, 0))) (by kernel_rfl) ⟨x4, k1, k2, p7'⟩ (fun hS0 => ?_)
    refine wpAnyH_take (i := 0) (oi := ⟨some 73, _, _, _, _, _⟩) (v := ?_) rfl (by kernel_rfl) (by kernel_rfl) (by kernel_rfl) (fun _ _ _ h => h) (Or.inl ⟨by rfl, ?_⟩) (by assumption) ?_
    rotate_left
    · (intro wS hSw; obtain ⟨s1, s2, s3, s4⟩ := hSw; go_simp); all_goals (with_reducible rfl)
    simp only [Act.put, List.setIfInBounds_toArray, List.set_cons_zero, List.set_cons_succ]
    refine wpAnyH_take (i := 1) (oi := ⟨some 74, _, _, _, _, _⟩) (v := ?_) rfl (by kernel_rfl) (by kernel_rfl) (by kernel_rfl) (fun _ _ _ h => h) (Or.inl ⟨by rfl, ?_⟩) (by assumption) ?_
    rotate_left
    · (intro wS hSw; obtain ⟨s1, s2, s3, s4⟩ := hSw; go_simp); all_goals (with_reducible rfl)
    simp only [Act.put, List.setIfInBounds_toArray, List.set_cons_zero, List.set_cons_succ]
    refine wpAnyH_take (i := 2) (oi := ⟨some 75, _, _, _, _, _⟩) (v := ?_) rfl (by kernel_rfl) (by kernel_rfl) (by kernel_rfl) (fun _ _ _ h => h) (Or.inl ⟨by rfl, ?_⟩) (by assumption) ?_
    rotate_left
    · (intro wS hSw; obtain ⟨s1, s2, s3, s4⟩ := hSw; go_simp); all_goals (with_reducible rfl)
    simp only [Act.put, List.setIfInBounds_toArray, List.set_cons_zero, List.set_cons_succ]
    refine wpAnyH_take (i := 3) (oi := ⟨some 76, _, _, _, _, _⟩) (v := ?_) rfl (by kernel_rfl) (by kernel_rfl) (by kernel_rfl) (fun _ _ _ h => h) (Or.inl ⟨by rfl, ?_⟩) (by assumption) ?_
    rotate_left
    · (intro wS hSw; obtain ⟨s1, s2, s3, s4⟩ := hSw; go_simp); all_goals (with_reducible rfl)
    simp only [Act.put, List.setIfInBounds_toArray, List.set_cons_zero, List.set_cons_succ]
    refine wpAnyH_take (i := 4) (oi := ⟨some 77, _, _, _, _, _⟩) (v := ?_) rfl (by kernel_rfl) (by kernel_rfl) (by kernel_rfl) (fun _ _ _ h => h) (Or.inl ⟨by rfl, ?_⟩) (by assumption) ?_
    rotate_left
    · (intro wS hSw; obtain ⟨s1, s2, s3, s4⟩ := hSw; go_simp); all_goals (with_reducible rfl)
    simp only [Act.put, List.setIfInBounds_toArray, List.set_cons_zero, List.set_cons_succ]
    refine wpAnyH_take (i := 5) (oi := ⟨some 78, _, _, _, _, _⟩) (v := ?_) rfl (by kernel_rfl) (by kernel_rfl) (by kernel_rfl) (fun _ _ _ h => h) (Or.inl ⟨by rfl, ?_⟩) (by assumption) ?_
    rotate_left
    · (intro wS hSw; obtain ⟨s1, s2, s3, s4⟩ := hSw; (with_reducible refine yields64 _ w.heap.size x ?_ s4); rfl)
    simp only [Act.put, List.setIfInBounds_toArray, List.set_cons_zero, List.set_cons_succ]
    refine wpAnyH_ready (rs := [6]) (by kernel_rfl) (by simp) ?_
    refine AllReadyH.cons (o := ⟨none, _, _, _, _, _⟩) rfl (fun K hK => ?_) AllReadyH.nil
    go_simp
    refine hK.out _ _ ?_ (fun hHeld => ?_)
    · exact ⟨V6.out.raw.cell.2.2.2.2.1, P6.out.cell 0, P6.out.cell 1, V6.out.p7⟩
    clear hK K hHeld
    try simp only [Act.put, List.setIfInBounds_toArray, List.set_cons_zero, List.set_cons_succ]
    refine wpAnyH_done (by kernel_rfl) ?_ _
    all_goals
      go_upto_region 15 with (fail)
      clear x0 x1 x2 x3 x4 x5 k1 k2 r6 V5 P5
      obtain ⟨x0, x1, x2, x3, x4, x5⟩ := V6.out.raw.cell
      have x1f := V6.out.raw.frozen 1
      obtain ⟨q0, q1⟩ := V6.out.box
      have qf := V6.out.p9.frozen 0
      go_upto_region 18 with (fail)
      refine wp_rename (WS K w g S b1 b2 b3 sv nm x ((j : Int) + 1) (.slice va (sl + 1) vc) (F.wr ++ [j]) ((S.used : Int) + 1) (fun nm => (fnd S.fs nm).map fun F => flV F.l.length (sv nm)) (upd (fun x => (S.fr x).map frV) (nm, j) (some (.agg (csF x))))) ?_ ?_
      · exact (V6.out.setBox H0.out _).setUsed H0.out _
      clear x0 x1 x2 x3 x4 x5 q0 q1 qf x1f P6 V6
      rintro W7 w7
      have V7 := Lib.hid w7
      clear w7
      obtain ⟨x0, x1, x2, x3, x4, x5⟩ := V7.out.raw.cell
      obtain ⟨q0, q1⟩ := V7.out.box
      obtain ⟨w8, r8, R8, t8⟩ := V7.out.raw.drew.put_fl hn (.agg #[.int .i64 (((j : Int) + 1)), (.slice va (sl + 1) vc)]) (S.fs.map (·.1)) names_all (by have := HO.out.few; simp; unfold maxLen; omega)
      have V8 := (V7.out.same (W' := W7.drew) rfl rfl rfl rfl).turned H0.out t8 (.inl rfl) R8
      have eN : (((j : Int) + 1) : Int) = ((wrF F j x).l.length : Nat) := by
        have e2 := wrF_length F j x
        rw [e2, if_neg (by have := HNN.out; omega)]; have := HNN.out; push_cast; omega
      have eW : (wrF F j x).wr = (F.wr ++ [j]) := by
        have hb := HBO.out
        unfold Dv.fr at hb
        rw [HF.out] at hb
        simp only [Option.bind_some] at hb
        unfold wrF
        simp only []
        rw [← hb]
        simp
      have D8 : DevAt (More K w) w8 g (S.put nm (wrF F j x)) b1 b2 b3 (svAt sv nm (.slice va (sl + 1) vc)) := by
        refine H0.out.wrote HO.out.rising nm F HF.out j x (by rw [← HNN.out]; omega) (.slice va (sl + 1) vc) _ (R8.mono (fun i _ hi => .inl hi) |>.sameF ?_) ?_ (fun i hi => .inl hi) (by rw [eW]; exact V8.row) (fun i hi => ?_) V8.oth
        · simp only [flV]; rw [← eN]
        · have e2 := wrF_length F j x
          rw [e2, ← HNN.out]
          simp
        · obtain ⟨_, _, _, _, h9⟩ := V8.vne i hi
          rcases h9 with h9 | h9
          · exact ⟨.inl ((H0.out.rows nm F HF.out).2 i h9), .inl h9⟩
          · exact ⟨.inr (by omega), .inr (by omega)⟩
      have HD8 := Lib.hid D8
      have HT8 := Lib.hid V8.T
      have HL8 := Lib.hid HO.out.left
      unfold nmV at r8
      clear R8 t8 V8 D8 eN eW
      go_region
      all_goals
        go_wp2_with (go_at_call 50; go_must (refine (done_any HD8.out HL8.out).mono ?_); rintro e w9 ⟨rfl, h9, t9⟩; have H9 := Lib.hid h9; have T9 := Lib.hid t9; clear h9 t9)
        go_ret
        exact ⟨rfl, _, H9.out, HT8.out.trans T9.out⟩
end
end Go.Proofs.Ytcmffifehpbjnaa
