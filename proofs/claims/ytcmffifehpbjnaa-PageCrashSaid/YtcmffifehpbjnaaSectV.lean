/- Layer 7: Crash. -/
import Derived.Test.YtcmffifehpbjnaaSectT
import Derived.Test.YtcmffifehpbjnaaSectH
namespace Go.Proofs.Ytcmffifehpbjnaa
open Go.RowKit Go.Maps
set_option maxRecDepth 100000
set_option linter.unusedSimpArgs false
set_option linter.unusedVariables false
/-- picks in memory, outside the device -/
def PickAt (K : Nat → Prop) (w : World) (A : Option Addr) (ps : List Int) : Prop :=
  ps = [] ∨ ∃ gb off, A = some ⟨gb, off, none⟩ ∧ gb < w.heap.size ∧ ¬ K gb ∧ ∀ i (h : i < ps.length), w.cell? ⟨gb, off + i, none⟩ = some (.int .i64 ps[i])
def In64 (ps : List Int) : Prop := ∀ p ∈ ps, -9223372036854775808 ≤ p ∧ p < 9223372036854775808
theorem PickAt.turn {K : Nat → Prop} {w w' : World} {A : Option Addr} {ps : List Int} (h : PickAt K w A ps) (t : Turn K w w') : PickAt K w' A ps := by
  refine h.imp id ?_
  rintro ⟨gb, off, h1, h2, h3, h4⟩
  exact ⟨gb, off, h1, Nat.lt_of_lt_of_le h2 t.size, h3, fun i hi => (World.cell?_of_block (w := w) (t.block gb h2 h3)).trans (h4 i hi)⟩
theorem PickAt.mono {K K' : Nat → Prop} {w : World} {A : Option Addr} {ps : List Int} (h : PickAt K w A ps) (hk : ∀ i, i < w.heap.size → K' i → K i) : PickAt K' w A ps := by
  refine h.imp id ?_
  rintro ⟨gb, off, h1, h2, h3, h4⟩
  exact ⟨gb, off, h1, h2, fun e => h3 (hk gb h2 e), h4⟩
theorem PickAt.tail {K : Nat → Prop} {w : World} {A : Option Addr} {p : Int} {ps : List Int} (h : PickAt K w A (p :: ps)) : PickAt K w (A.map (·.add 1)) ps := by
  rcases h with h | ⟨gb, off, rfl, h2, h3, h4⟩
  · cases h
  · refine .inr ⟨gb, off + 1, rfl, h2, h3, fun i hi => ?_⟩
    have := h4 (i + 1) (by simpa using hi)
    rw [show off + 1 + i = off + (i + 1) by omega]
    simpa using this
section
variable {K : Nat → Prop} {w w' : World} {g : Nat} {b1 b2 b3 : Nat} {S : Dv} {sv : Nm → Value}
theorem put_st (nm : Nm) (F : Fil) (k : Nat) (what : Int) (s : Sct) (hk : F.l[k]? = some s) (x : Sec) (hx : s.fr = some x) (hw : what = 0 ∨ what = 1 ∨ what = 2) :
    (stlF (fun x => ((S.put nm F).la x).map laV) (nm, k) x what = fun x => ((S.put nm (setF F k (stl what))).la x).map laV) ∧ (upd (fun x => ((S.put nm F).fr x).map frV) (nm, k) none = fun x => ((S.put nm (setF F k (stl what))).fr x).map frV) := by
  constructor
  · funext y
    obtain ⟨a, b⟩ := y
    rw [la_put]
    by_cases e : (a, b) = (nm, k)
    · cases e
      rw [if_pos rfl, setF_get, if_pos rfl, hk]
      rcases hw with rfl | rfl | rfl
      · unfold stlF
        rw [if_neg (by omega), if_neg (by omega)]
        show ((S.put nm F).la (nm, k)).map laV = _
        rw [la_put, if_pos rfl, hk]
        rfl
      · simp [stlF, stl, upd_self, hx]
      · simp [stlF, stl, upd_self]
        rfl
    · have : stlF (fun x => ((S.put nm F).la x).map laV) (nm, k) x what (a, b) = ((S.put nm F).la (a, b)).map laV := by
        unfold stlF
        split
        · rw [upd_other _ _ _ _ e]
        · split
          · rw [upd_other _ _ _ _ e]
          · rfl
      rw [this, la_put]
      by_cases h1 : a = nm
      · have h2 : b ≠ k := fun h2 => e (by rw [h1, h2])
        rw [if_pos h1, if_pos h1, setF_get, if_neg h2]
      · rw [if_neg h1, if_neg h1]
  · funext y
    obtain ⟨a, b⟩ := y
    by_cases e : (a, b) = (nm, k)
    · cases e
      rw [upd_self, fr_put, if_pos rfl, setF_get, if_pos rfl, hk]
      rfl
    · rw [upd_other _ _ _ _ e, fr_put, fr_put]
      by_cases h1 : a = nm
      · have h2 : b ≠ k := fun h2 => e (by rw [h1, h2])
        rw [if_pos h1, if_pos h1, setF_get, if_neg h2]
      · rw [if_neg h1, if_neg h1]
theorem crStep_has (Sp : Dv × List Int) (nm y : Nm) : (fnd (crStep Sp nm).1.fs y).isSome = (fnd Sp.1.fs y).isSome := by
  unfold crStep
  cases hf : fnd Sp.1.fs nm with
  | none => rfl
  | some F =>
    simp only []
    rw [fnd_put]
    by_cases e : nm = y
    · subst e; rw [if_pos rfl, hf]; rfl
    · rw [if_neg e]
theorem crAll_has (S : Dv) (ns : List Nm) (ps : List Int) (y : Nm) : (fnd (crAll S ns ps).1.fs y).isSome = (fnd S.fs y).isSome := by
  unfold crAll
  induction ns generalizing S ps with
  | nil => rfl
  | cons n ns ih =>
    rw [List.foldl_cons]
    exact (ih (crStep (S, ps) n).1 (crStep (S, ps) n).2).trans (crStep_has (S, ps) n y)
theorem stAll_in64 (F : Fil) (ks : List Nat) (ps : List Int) (h : In64 ps) : In64 (stAll F ks ps).2 := by
  unfold stAll
  induction ks generalizing F ps with
  | nil => exact h
  | cons k ks ih =>
    rw [List.foldl_cons]
    exact ih _ _ (fun p hp => h p (List.mem_of_mem_tail hp))
theorem crAll_in64 (S : Dv) (ns : List Nm) (ps : List Int) (h : In64 ps) : In64 (crAll S ns ps).2 := by
  unfold crAll
  induction ns generalizing S ps with
  | nil => exact h
  | cons n ns ih =>
    rw [List.foldl_cons]
    refine ih (crStep (S, ps) n).1 (crStep (S, ps) n).2 ?_
    unfold crStep
    cases hf : fnd S.fs n with
    | none => exact h
    | some F => exact stAll_in64 _ _ _ h
/-- the state of Crash's inner loop: wr, the world where the file's turn came -/
structure CrI (K : Nat → Prop) (wr : World) (g : Nat) (S : Dv) (b1 b2 b3 : Nat) (sv : Nm → Value) (nm : Nm) (F : Fil) (ps0 : List Int) (v : Value) (i : Nat) (vp : Value) (X : World) : Prop where
  raw : Raw K X g S.most S.used S.left b1 b2 b3 (fun nm => (fnd S.fs nm).map fun F => flV F.l.length (sv nm)) (fun x => ((S.put nm (stAll F ((sortN F.wr).take i) ps0).1).la x).map laV) (fun x => ((S.put nm (stAll F ((sortN F.wr).take i) ps0).1).fr x).map frV)
  T : Turn (fun j => j = g ∨ j = b1 ∨ j = b2 ∨ j = b3 ∨ (sv nm).ownBlock = some j) wr X
  box : Whole X wr.heap.size 91 #[.int .i64 (F.l.length : Int), v]
  row : X.ownsRow 0 3 1 v (sortN F.wr).length (I64 (sortN F.wr))
  pick : ∃ A c, vp = .slice A (stAll F ((sortN F.wr).take i) ps0).2.length c ∧ (stAll F ((sortN F.wr).take i) ps0).2.length ≤ c ∧ c ≤ maxLen ∧ PickAt K X A (stAll F ((sortN F.wr).take i) ps0).2
/-- the state of Crash's outer loop -/
structure CrO (K : Nat → Prop) (w : World) (g : Nat) (S : Dv) (b1 b2 b3 : Nat) (ps0 : List Int) (gn : Nat) (m : Nat) (vp : Value) (X : World) : Prop where
  dev : ∃ sv, DevAt K X g (crAll S ((S.fs.map (·.1)).take m) ps0).1 b1 b2 b3 sv
  T : Turn K w X
  names : ∀ j (h : j < S.fs.length), gn < X.heap.size ∧ ¬ K gn ∧ X.cell? ⟨gn, j, none⟩ = some (.string ⟨S.fs[j].1.toArray⟩)
  pick : ∃ A c, vp = .slice A (crAll S ((S.fs.map (·.1)).take m) ps0).2.length c ∧ (crAll S ((S.fs.map (·.1)).take m) ps0).2.length ≤ c ∧ c ≤ maxLen ∧ PickAt K X A (crAll S ((S.fs.map (·.1)).take m) ps0).2
theorem row_names {W : World} {v : Value} {base : Nat} {L : List Nm} (h : W.ownsRow base 9 1 v L.length (L.map Go.Proofs.encStr)) (hl : 0 < L.length) :
    ∃ gn c, v = .slice (some ⟨gn, 0, none⟩) L.length c ∧ base ≤ gn ∧ gn < W.heap.size ∧ L.length ≤ c ∧ c ≤ maxLen ∧ ∀ j (h : j < L.length), W.cell? ⟨gn, j, none⟩ = some (.string ⟨L[j].toArray⟩) := by
  obtain ⟨h1, h2⟩ := h
  rcases h2 with ⟨_, h0⟩ | ⟨gb, cap, cur, rfl, hb, hh, hn, hc, hs, ht⟩
  · omega
  · refine ⟨gb, cap, rfl, hb, (Array.getElem?_eq_some_iff.1 hh).1, hn, hc, fun j hj => ?_⟩
    rw [cell_of_row W gb j cur _ _ hh]
    have e : (cur.toList.take (L.length * 1))[j]? = some (Go.Proofs.encStr L[j]) := by
      rw [ht]
      simp [hj]
    rw [List.getElem?_take, if_pos (by omega)] at e
    simpa using e
theorem CrI.next {wr : World} {nm : Nm} {F : Fil} {ps0 : List Int} {v : Value} {i : Nat} {vp vp' : Value} {X X' w' : World} (h : CrI K wr g S b1 b2 b3 sv nm F ps0 v i vp X) (H : DevAt K wr g S b1 b2 b3 sv) (hf : fnd S.fs nm = some F)
    (e1 : X'.heap = X.heap) (e2 : X'.os = X.os) (e3 : X'.tape = X.tape) (e4 : X'.output = X.output) (T : Turn (fun j => j = b2 ∨ j = b3) X' w')
    (R : Raw K w' g S.most S.used S.left b1 b2 b3 (fun nm => (fnd S.fs nm).map fun F => flV F.l.length (sv nm)) (fun x => ((S.put nm (stAll F ((sortN F.wr).take (i + 1)) ps0).1).la x).map laV) (fun x => ((S.put nm (stAll F ((sortN F.wr).take (i + 1)) ps0).1).fr x).map frV))
    (hp : ∃ A c, vp' = .slice A (stAll F ((sortN F.wr).take (i + 1)) ps0).2.length c ∧ (stAll F ((sortN F.wr).take (i + 1)) ps0).2.length ≤ c ∧ c ≤ maxLen ∧ PickAt K X A (stAll F ((sortN F.wr).take (i + 1)) ps0).2) : CrI K wr g S b1 b2 b3 sv nm F ps0 v (i + 1) vp' w' := by
  have T2 : Turn (fun j => j = b2 ∨ j = b3) X w' := ⟨T.os.trans e2, T.tape.trans e3, T.output.trans e4, by have := T.size; rw [e1] at this; exact this, fun j hj hn => (T.block j (by rw [e1]; exact hj) hn).trans (by rw [e1])⟩
  have hsz := h.T.size
  have hb2 := H.lasts.lt
  have hb3 := H.fresh.lt
  refine ⟨R, h.T.trans (T2.mono (fun j _ hj => .inl (by rcases hj with rfl | rfl <;> simp))), ?_, row_block h.row (fun j hj => ?_), ?_⟩
  · exact (T2.block _ h.box.lt (by rintro (e | e) <;> omega)).trans h.box
  · obtain ⟨cur, hc⟩ := sv_row h.row hj
    refine T2.block j (Array.getElem?_eq_some_iff.1 hc).1 ?_
    rintro (rfl | rfl)
    · obtain ⟨es, cl, hb⟩ := h.raw.lasts.is; rw [hb] at hc; cases hc
    · obtain ⟨es, cl, hb⟩ := h.raw.fresh.is; rw [hb] at hc; cases hc
  · obtain ⟨A, c, h1, h2, h3, h4⟩ := hp
    exact ⟨A, c, h1, h2, h3, h4.turn (T2.mono (fun j _ hj => by rcases hj with rfl | rfl; exact H.own.2.2.1; exact H.own.2.2.2))⟩
end
end Go.Proofs.Ytcmffifehpbjnaa
