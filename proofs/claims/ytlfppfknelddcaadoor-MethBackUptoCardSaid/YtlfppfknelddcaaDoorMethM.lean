/- A map's literal whose rows may come up in any order: a region of a make, of rows that are built and put, of a move: what the map then holds. No program is imported. -/
import Derived.Test.YtlfppfknelddcaaDoorWords
import Derived.Maps.OwnSet
import Derived.DeepKeys4
import Derived.Orders
import Derived.Lib.Hide
namespace Go.Proofs.YtlfppfknelddcaaDoor
open Go.RowKit

/-! ### whatever comes up next keeps what is said -/
theorem ready_of {md : Region.Mode} {ops : Array Oper} {listed : Array Bool} {i : Nat} (h : i ∈ Region.ready md ops listed) :
    i < ops.size ∧ listed.getD i true = false ∧ ∀ o, ops[i]? = some o → ∀ e ∈ o.after, Region.binds md e = true → listed.getD e.on false = true := by
  simp only [Region.ready, List.mem_filter, List.mem_range, Bool.and_eq_true, Bool.not_eq_true'] at h
  obtain ⟨h1, h2, h3⟩ := h
  refine ⟨h1, h2, fun o ho e he hb => ?_⟩
  rw [ho] at h3
  simp only [Option.map_some, Option.getD_some, Array.all_eq_true] at h3
  obtain ⟨j, hj, rfl⟩ := Array.getElem_of_mem he
  have := h3 j hj
  rw [hb] at this
  simpa using this
theorem ready_nil {md : Region.Mode} {ops : Array Oper} {listed : Array Bool} (hs : listed.size = ops.size) (hup : ∀ (i : Nat) o, ops[i]? = some o → ∀ e ∈ o.after, e.on < i)
    (h : Region.ready md ops listed = []) : ∀ i, i < ops.size → listed.getD i false = true := by
  intro i
  induction i using Nat.strongRecOn with
  | ind i ih =>
    intro hi
    rcases Bool.eq_false_or_eq_true (listed.getD i false) with hl | hl
    · exact hl
    · exfalso
      have hm : i ∈ Region.ready md ops listed := by
        simp only [Region.ready, List.mem_filter, List.mem_range, Bool.and_eq_true, Bool.not_eq_true']
        refine ⟨hi, ?_, ?_⟩
        · have h2 : i < listed.size := by omega
          simp only [Array.getD_eq_getD_getElem?, Array.getElem?_eq_getElem h2, Option.getD_some] at hl ⊢
          exact hl
        · rw [Array.getElem?_eq_getElem hi]
          simp only [Option.map_some, Option.getD_some, Array.all_eq_true]
          intro j hj
          have he : ops[i].after[j] ∈ ops[i].after := Array.getElem_mem hj
          have hlt := hup i _ (Array.getElem?_eq_getElem hi) _ he
          rw [ih _ hlt (by omega)]
          simp
      rw [h] at hm
      cases hm
theorem count_set (listed : Array Bool) (i : Nat) (hi : i < listed.size) (hf : listed.getD i true = false) :
    (listed.setIfInBounds i true).toList.countP (fun b => !b) + 1 = listed.toList.countP (fun b => !b) := by
  have hg : listed[i] = false := by
    simpa [Array.getD_eq_getD_getElem?, Array.getElem?_eq_getElem hi] using hf
  have hl : i < listed.toList.length := by simpa using hi
  rw [Array.toList_setIfInBounds]
  have h1 : listed.toList = listed.toList.take i ++ listed.toList[i] :: listed.toList.drop (i + 1) := by
    rw [← List.drop_eq_getElem_cons hl, List.take_append_drop]
  rw [List.set_eq_take_append_cons_drop, if_pos hl]
  conv => rhs; rw [h1]
  simp [List.countP_append, hg]
  omega
theorem wpAny_keep {P : Program} {md : Region.Mode} {ops : Array Oper} {Q : Exit → Act → World → Prop} (I : Array Bool → Act → World → Prop)
    (hsz : ∀ l a w, I l a w → l.size = ops.size)
    (hstep : ∀ l a w i, I l a w → i ∈ Region.ready md ops l → wpOp P ops Q i (I (l.setIfInBounds i true)) a w)
    (hend : ∀ l a w, I l a w → Region.ready md ops l = [] → Q .normal a w) :
    ∀ (fuel : Nat) (l : Array Bool) (a : Act) (w : World), I l a w → l.toList.countP (fun b => !b) ≤ fuel → wpAny P md ops Q fuel l a w := by
  intro fuel
  induction fuel with
  | zero =>
    intro l a w hI hc
    have hn : Region.ready md ops l = [] := by
      cases hr : Region.ready md ops l with
      | nil => rfl
      | cons x xs =>
        exfalso
        obtain ⟨h1, h2, _⟩ := ready_of (md := md) (ops := ops) (listed := l) (i := x) (by rw [hr]; simp)
        have h3 := count_set l x (by rw [hsz _ _ _ hI]; exact h1) h2
        omega
    exact ⟨hn, hend l a w hI hn⟩
  | succ fuel ih =>
    intro l a w hI hc
    refine ⟨hend l a w hI, fun i hi => wpOp_mono (fun a' w' h' => ih _ a' w' h' ?_) (hstep l a w i hI hi)⟩
    obtain ⟨h1, h2, _⟩ := ready_of hi
    have h3 := count_set l i (by rw [hsz _ _ _ hI]; exact h1) h2
    omega
theorem wpOp_gives {P : Program} {ops : Array Oper} {Q : Exit → Act → World → Prop} {i : Nat} {K : Act → World → Prop} {a : Act} {w w' : World} {o : Oper} {v : Value} (ho : ops[i]? = some o) (hg : o.guard = none)
    (hr : (execOp a.eval o).run P w = .ok (.value v) w') (hK : K (a.put o.dst v) w') : wpOp P ops Q i K a w := by
  unfold wpOp
  rw [ho]
  simp only [Region.wanted, hg, if_true]
  left
  unfold Oper.wp
  rw [hr]
  exact hK
theorem wpOp_skips {P : Program} {ops : Array Oper} {Q : Exit → Act → World → Prop} {i : Nat} {K : Act → World → Prop} {a : Act} {w w' : World} {o : Oper} (ho : ops[i]? = some o) (hg : o.guard = none)
    (hr : (execOp a.eval o).run P w = .ok .skip w') (hK : K (a.put o.dst undef) w') : wpOp P ops Q i K a w := by
  unfold wpOp
  rw [ho]
  simp only [Region.wanted, hg, if_true]
  left
  unfold Oper.wp
  rw [hr]
  exact hK

/-! ### the rows, and the map that has some of them -/
abbrev FRow := Int × Int × List UInt8
def keyV (r : FRow) : Value := .agg #[.int .i64 r.1, .int .i64 r.2.1]
def valV (r : FRow) : Value := .agg #[.string ⟨r.2.2.toArray⟩]
/-- block b is a map that has just those of the rows R of which D is said -/
def MapHas (w : World) (b : Nat) (R : List FRow) (D : Nat → Prop) : Prop :=
  ∃ es clock, w.heap[b]? = some (.map es clock) ∧ (∀ e ∈ es.toList, ∃ k, ∃ h : k < R.length, D k ∧ e.key = keyV R[k] ∧ e.val = valV R[k]) ∧ ∀ k, ∀ h : k < R.length, D k → ∃ e ∈ es.toList, e.key = keyV R[k]
theorem keyV_inj {r s : FRow} (h : keyV r = keyV s) : r.1 = s.1 ∧ r.2.1 = s.2.1 := by
  simp [keyV] at h
  exact h
theorem MapHas.same {w : World} {b : Nat} {R : List FRow} {D D' : Nat → Prop} (h : MapHas w b R D) (hd : ∀ k, k < R.length → (D k ↔ D' k)) : MapHas w b R D' := by
  obtain ⟨es, clock, h1, h2, h3⟩ := h
  refine ⟨es, clock, h1, fun e he => ?_, fun k hk hd' => h3 k hk ((hd k hk).2 hd')⟩
  obtain ⟨k, hk, a1, a2⟩ := h2 e he
  exact ⟨k, hk, (hd k hk).1 a1, a2⟩
theorem MapHas.block {w w' : World} {b : Nat} {R : List FRow} {D : Nat → Prop} (h : MapHas w b R D) (hb : w'.heap[b]? = w.heap[b]?) : MapHas w' b R D := by
  obtain ⟨es, clock, h1, h23⟩ := h
  exact ⟨es, clock, hb.trans h1, h23⟩
theorem MapHas.made (w : World) (R : List FRow) : MapHas (w.alloc (.map #[] 0)) w.heap.size R (fun _ => False) :=
  ⟨#[], 0, (MapKept.heap_alloc w _).1, fun e he => by simp at he, fun k _ h => h.elim⟩
section
variable {P : Program} {kt t vt : TypeId} {w : World} {b : Nat} {R : List FRow} {D : Nat → Prop}
/-- one row more -/
theorem MapHas.put (K : Maps.Keyed P kt) (ht : P.underlying t = some (.map kt vt)) (hk : ∀ r ∈ R, ∃ l, keyOf P kt (keyV r) = some l) (hR : R.Pairwise (fun r s => ¬ (r.1 = s.1 ∧ r.2.1 = s.2.1)))
    (h : MapHas w b R D) (k : Nat) (hkl : k < R.length) (hn : ¬ D k) :
    ∃ w', (Instr.mapUpdate t (.map (some b)) (keyV R[k]) (valV R[k])).run P w = .ok () w' ∧ MapHas w' b R (fun j => D j ∨ j = k) ∧ w.grownBy w' (some b) := by
  obtain ⟨es, clock, hb, h2, h3⟩ := h
  obtain ⟨l, hl⟩ := hk _ (List.getElem_mem hkl)
  have hkeys : ∀ e ∈ es.toList, ∃ l, keyOf P kt e.key = some l := by
    intro e he
    obtain ⟨j, hj, _, e1, _⟩ := h2 e he
    rw [e1]
    exact hk _ (List.getElem_mem hj)
  have hne : ∀ e ∈ es.toList, e.key ≠ keyV R[k] := by
    intro e he e1
    obtain ⟨j, hj, hd, e2, _⟩ := h2 e he
    rw [e2] at e1
    have e3 := keyV_inj e1
    rcases Nat.lt_trichotomy j k with hjk | hjk | hjk
    · exact (List.pairwise_iff_getElem.1 hR) j k hj hkl hjk e3
    · subst hjk; exact hn hd
    · exact (List.pairwise_iff_getElem.1 hR) k j hkl hj hjk ⟨e3.1.symm, e3.2.symm⟩
  rcases K.find w hl es.toList hkeys with ⟨h1, _⟩ | ⟨j, e0, _, h5, h6⟩
  · refine ⟨ChangeMaps.setBlock w b (.map (es.push ⟨keyV R[k], valV R[k], clock⟩) (clock + 1)), ?_, ⟨_, _, ChangeMaps.heap_setBlock_same hb _, ?_, ?_⟩, ⟨rfl, rfl, rfl, by simp [ChangeMaps.setBlock], fun i _ hi => ChangeMaps.heap_setBlock_other hb _ (fun e => hi (by rw [e]))⟩⟩
    · simp [Instr.mapUpdate, run_underlying ht, MapKept.run_getObj_map hb, K.check w false hl, h1, MapKept.run_setObj_map _ hb, Result.andThen, ChangeMaps.setBlock]
    · intro e he
      simp only [Array.toList_push, List.mem_append, List.mem_singleton] at he
      rcases he with he | rfl
      · obtain ⟨j, hj, a1, a2⟩ := h2 e he
        exact ⟨j, hj, .inl a1, a2⟩
      · exact ⟨k, hkl, .inr rfl, rfl, rfl⟩
    · intro j hj hd
      simp only [Array.toList_push, List.mem_append, List.mem_singleton]
      rcases hd with hd | rfl
      · obtain ⟨e, he, e1⟩ := h3 j hj hd
        exact ⟨e, .inl he, e1⟩
      · exact ⟨_, .inr rfl, rfl⟩
  · exact absurd h6 (hne e0 (List.mem_of_getElem? h5))
/-- v, ok := m[k] -/
theorem MapHas.look {z : Value} (K : Maps.Keyed P kt) (ht : P.underlying t = some (.map kt vt)) (hz : (zeroValue vt).run P w = .ok z w) (hk : ∀ r ∈ R, ∃ l, keyOf P kt (keyV r) = some l)
    (h : MapHas w b R (fun _ => True)) (x : FRow) (hx : ∃ l, keyOf P kt (keyV x) = some l) :
    ((∀ r ∈ R, ¬ (r.1 = x.1 ∧ r.2.1 = x.2.1)) ∧ (Instr.lookup t (.map (some b)) (keyV x) true).run P w = .ok (.tuple #[z, .bool false]) w) ∨
    ∃ r ∈ R, r.1 = x.1 ∧ r.2.1 = x.2.1 ∧ (Instr.lookup t (.map (some b)) (keyV x) true).run P w = .ok (.tuple #[valV r, .bool true]) w := by
  obtain ⟨es, clock, hb, h2, h3⟩ := h
  obtain ⟨l, hl⟩ := hx
  have hkeys : ∀ e ∈ es.toList, ∃ l, keyOf P kt e.key = some l := by
    intro e he
    obtain ⟨j, hj, _, e1, _⟩ := h2 e he
    rw [e1]
    exact hk _ (List.getElem_mem hj)
  rcases K.find w hl es.toList hkeys with ⟨h1, hne⟩ | ⟨j, e0, h1, h5, h6⟩
  · left
    refine ⟨fun r hr e => ?_, ?_⟩
    · obtain ⟨i, hi, rfl⟩ := List.getElem_of_mem hr
      obtain ⟨e0, he0, e1⟩ := h3 i hi trivial
      apply hne e0 he0
      rw [e1]
      simp [keyV, e.1, e.2]
    · simp [Instr.lookup, run_underlying ht, MapKept.run_getObj_map hb, K.check w _ hl, h1, hz, Result.andThen]
  · right
    obtain ⟨i, hi, _, e1, e2⟩ := h2 e0 (List.mem_of_getElem? h5)
    rw [e1] at h6
    have e3 := keyV_inj h6
    refine ⟨R[i], List.getElem_mem hi, e3.1, e3.2, ?_⟩
    simp [Instr.lookup, run_underlying ht, MapKept.run_getObj_map hb, K.check w _ hl, h1, Result.andThen, e2]
end
end Go.Proofs.YtlfppfknelddcaaDoor
