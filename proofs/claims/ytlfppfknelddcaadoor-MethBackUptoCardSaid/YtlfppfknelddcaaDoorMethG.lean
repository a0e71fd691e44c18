/- The table of forms: the map that the call makes, in whatever order its rows come up, and what is looked up in it. The table of forms: what the call that makes it leaves, and Form. -/
import Derived.Test.YtlfppfknelddcaaDoorOctsR
import Derived.Test.YtlfppfknelddcaaDoorMethM
import Derived.Tactics
namespace Go.Proofs.YtlfppfknelddcaaDoor
section
open Go.RowKit
set_option maxRecDepth 100000

def formRows : List FRow := [
  (10, 10, [49, 49, 116, 108, 108]),
  (10, 11, [116, 115, 108, 115]),
  (10, 30, [50, 52, 50]),
  (10, 31, [50, 52, 50]),
  (10, 40, [115, 115, 102]),
  (10, 41, [115]),
  (10, 50, [50, 115, 50, 50]),
  (10, 51, []),
  (20, 10, [115]),
  (20, 11, [108]),
  (20, 40, [50, 115, 50, 50]),
  (20, 41, []),
  (40, 10, [50, 115, 115, 102, 102, 102, 102, 102, 116]),
  (40, 11, []),
  (40, 20, [50, 115, 102, 102]),
  (40, 21, []),
  (50, 10, [50, 115, 102, 102, 102, 102, 102, 116]),
  (50, 11, [115, 52, 52]),
  (50, 20, [50, 115, 115, 115, 102, 116]),
  (50, 21, []),
  (50, 30, [50, 115, 102]),
  (50, 31, [52]),
  (50, 40, [50, 115, 102, 102, 102]),
  (50, 41, [52]),
  (50, 50, [50, 115, 115, 115, 116]),
  (50, 51, []),
  (60, 10, [52, 50, 102]),
  (60, 11, []),
  (60, 20, [50, 115, 115, 102, 102, 102, 102, 116]),
  (60, 21, [115]),
  (60, 30, [115, 102]),
  (60, 31, [115]),
  (60, 40, [50, 115, 115, 102, 102]),
  (60, 50, [50, 115, 115, 115]),
  (60, 60, [115, 56, 102, 115, 115]),
  (60, 70, [50, 115, 102]),
  (60, 71, [56, 102, 115, 115, 52]),
  (60, 72, [115]),
  (60, 80, [56, 102]),
  (60, 90, [56, 102]),
  (60, 110, [102]),
  (60, 111, []),
  (60, 120, [56, 102, 102]),
  (90, 10, []),
  (90, 11, []),
  (90, 20, []),
  (90, 21, []),
  (90, 30, []),
  (90, 31, [])]
def opK (k : Nat) (r : FRow) : Oper := { dst := some (2 * k + 2), op := .build 73 #[(0, .const (.int .i64 r.1)), (1, .const (.int .i64 r.2.1))], type := 73, pos := "meth.go:23", after := #[], guard := none }
def opV (k : Nat) (r : FRow) : Oper := { dst := some (2 * k + 3), op := .build 78 #[(0, .const (.string ⟨r.2.2.toArray⟩))], type := 78, pos := "meth.go:23", after := #[], guard := none }
def opI (k : Nat) : Oper := { dst := none, op := .insert 80 (.tmp 1) (.tmp (2 * k + 2)) (.tmp (2 * k + 3)), type := 0, pos := "meth.go:23", after := #[⟨0, .data⟩, ⟨3 * k + 1, .data⟩, ⟨3 * k + 2, .data⟩], guard := none }
def rowOps : List FRow → Nat → List Oper
  | [], _ => []
  | r :: R, k => opK k r :: opV k r :: opI k :: rowOps R (k + 1)
def opMk : Oper := { dst := some 1, op := .makeMap 80 none, type := 80, pos := "meth.go:23", after := #[], guard := none }
def opMv (n : Nat) : Oper := { dst := some (2 * n + 2), op := .move (.tmp 1), type := 80, pos := "meth.go:23", after := ((List.range (3 * n + 1)).map fun i => ⟨i, .data⟩).toArray, guard := none }
def opAs (n : Nat) : Oper := { dst := some 0, op := .assign (.tmp (2 * n + 2)), type := 80, pos := "meth.go:23", after := (⟨3 * n + 1, .data⟩ :: (List.range (3 * n + 2)).map fun i => ⟨i, .phase⟩).toArray, guard := none }
def fillOps (R : List FRow) : List Oper := opMk :: (rowOps R 0 ++ [opMv R.length, opAs R.length])

theorem rowOps_length : ∀ (R : List FRow) (k : Nat), (rowOps R k).length = 3 * R.length := by
  intro R
  induction R with
  | nil => intro k; rfl
  | cons r R ih => intro k; simp [rowOps, ih]; omega
theorem rowOps_at : ∀ (R : List FRow) (k j : Nat) (h : j < R.length), (rowOps R k)[3 * j]? = some (opK (k + j) R[j]) ∧ (rowOps R k)[3 * j + 1]? = some (opV (k + j) R[j]) ∧ (rowOps R k)[3 * j + 2]? = some (opI (k + j)) := by
  intro R
  induction R with
  | nil => intro k j h; simp at h
  | cons r R ih =>
    intro k j h
    cases j with
    | zero => exact ⟨rfl, rfl, rfl⟩
    | succ j =>
      have h' := ih (k + 1) j (by simpa using h)
      rw [show k + 1 + j = k + (j + 1) from by omega] at h'
      rw [show 3 * (j + 1) = 3 * j + 1 + 1 + 1 from by omega]
      simpa [rowOps] using h'
theorem fill_size (R : List FRow) : (fillOps R).toArray.size = 3 * R.length + 3 := by simp [fillOps, rowOps_length]
theorem fill_mk (R : List FRow) : (fillOps R).toArray[0]? = some opMk := rfl
theorem fill_row (R : List FRow) (j : Nat) (h : j < R.length) : (fillOps R).toArray[3 * j + 1]? = some (opK j R[j]) ∧ (fillOps R).toArray[3 * j + 2]? = some (opV j R[j]) ∧ (fillOps R).toArray[3 * j + 3]? = some (opI j) := by
  have h' := rowOps_at R 0 j h
  rw [Nat.zero_add] at h'
  have hl := rowOps_length R 0
  simp only [fillOps, List.getElem?_toArray, List.getElem?_cons_succ]
  rw [List.getElem?_append_left (by omega), List.getElem?_append_left (by omega), List.getElem?_append_left (by omega)]
  exact h'
theorem fill_mv (R : List FRow) : (fillOps R).toArray[3 * R.length + 1]? = some (opMv R.length) := by
  simp only [fillOps, List.getElem?_toArray, List.getElem?_cons_succ]
  rw [List.getElem?_append_right (by rw [rowOps_length]; omega), rowOps_length, Nat.sub_self]
  rfl
theorem fill_as (R : List FRow) : (fillOps R).toArray[3 * R.length + 2]? = some (opAs R.length) := by
  simp only [fillOps, List.getElem?_toArray, List.getElem?_cons_succ]
  rw [List.getElem?_append_right (by rw [rowOps_length]; omega), rowOps_length, show 3 * R.length + 1 - 3 * R.length = 1 from by omega]
  rfl
/-- which operation one is -/
theorem fill_cases (R : List FRow) (i : Nat) (h : i < 3 * R.length + 3) : i = 0 ∨ (∃ j, j < R.length ∧ (i = 3 * j + 1 ∨ i = 3 * j + 2 ∨ i = 3 * j + 3)) ∨ i = 3 * R.length + 1 ∨ i = 3 * R.length + 2 := by
  by_cases h0 : i = 0
  · exact .inl h0
  · by_cases h1 : i ≤ 3 * R.length
    · refine .inr (.inl ⟨(i - 1) / 3, by omega, by omega⟩)
    · exact .inr (.inr (by omega))
theorem fill_up (R : List FRow) (i : Nat) (o : Oper) (h : (fillOps R).toArray[i]? = some o) : ∀ e ∈ o.after, e.on < i := by
  have hi : i < 3 * R.length + 3 := by
    have := (Array.getElem?_eq_some_iff.1 h).1
    rw [fill_size] at this
    exact this
  intro e he
  rcases fill_cases R i hi with rfl | ⟨j, hj, rfl | rfl | rfl⟩ | rfl | rfl
  · rw [fill_mk] at h; injection h with h; subst h; simp [opMk] at he
  · rw [(fill_row R j hj).1] at h; injection h with h; subst h; simp [opK] at he
  · rw [(fill_row R j hj).2.1] at h; injection h with h; subst h; simp [opV] at he
  · rw [(fill_row R j hj).2.2] at h; injection h with h; subst h
    simp [opI] at he
    rcases he with rfl | rfl | rfl <;> simp <;> omega
  · rw [fill_mv] at h; injection h with h; subst h
    simp [opMv] at he
    obtain ⟨a, ha, rfl⟩ := he
    simpa using ha
  · rw [fill_as] at h; injection h with h; subst h
    simp [opAs] at he
    rcases he with rfl | ⟨a, ha, rfl⟩ <;> simp <;> omega

theorem key_law : Maps.Keyed Tryd.prog 73 := Maps.Keyed.of_law (deep_law_laid (m := 2) (by kernel_rfl) (by omega) (of_decide_eq_true (by kernel_rfl)) (by kernel_rfl) (by rw [Tryd.underlying73]))
theorem int_row : Tryd.prog.underlying 3 = some (.int .i64) := Tryd.underlying3
theorem key_read {r : FRow} (h1 : (Lit.int .i64 r.1).wf = true) (h2 : (Lit.int .i64 r.2.1).wf = true) : ∃ l, keyOf Tryd.prog 73 (keyV r) = some l := by
  have k1 : Tryd.prog.keyType 73 = true := by kernel_rfl
  have k2 : (keyV r).formed Tryd.prog 73 = true := by
    have : Tryd.prog.cellsOf 73 = 2 := by kernel_rfl
    simp [keyV, Value.formed, Tryd.underlying73, this]
  obtain ⟨n, hn⟩ : ∃ n, Tryd.prog.types.size + 1 = n + 2 := ⟨Tryd.prog.types.size - 1, by
    have : (decide (2 ≤ Tryd.prog.types.size)) = true := by kernel_rfl
    have := of_decide_eq_true this
    omega⟩
  have c2 : Tryd.prog.cellsOf 73 = 2 := by kernel_rfl
  have c1 : Tryd.prog.cellsOf 3 = 1 := by kernel_rfl
  refine ⟨.string (keyBytes [.int .i64 r.1, .int .i64 r.2.1]), ?_⟩
  unfold keyOf
  rw [Tryd.underlying73, hn]
  simp only [k1, k2, Bool.and_self, if_true]
  simp [keyV, Program.keyLits, Tryd.underlying73, Tryd.underlying3, c1, c2, Value.cells, List.range_succ, h1, h2]
theorem run_key (a b : Int) (w : World) : (Instr.build 73 #[(0, .int .i64 a), (1, .int .i64 b)]).run Tryd.prog w = .ok (.agg #[.int .i64 a, .int .i64 b]) w := by kernel_rfl
theorem run_val (s : ByteArray) (w : World) : (Instr.build 78 #[(0, .string s)]).run Tryd.prog w = .ok (.agg #[.string s]) w := by kernel_rfl
end
section
open Go.RowKit
set_option maxRecDepth 100000
set_option linter.unusedSimpArgs false
set_option linter.unusedVariables false

/-- behind some of the operations -/
structure FillI (R : List FRow) (b0 : Nat) (w0 : World) (l : Array Bool) (a : Act) (w : World) : Prop where
  size : l.size = 3 * R.length + 3
  slots : a.tmps.size = 2 * R.length + 3
  defers : a.defers = []
  none_ : l[0]? = some false → w.heap.size = b0 ∧ ∀ k, k < R.length → l[3 * k + 3]? = some false
  some_ : l[0]? = some true → a.tmps[1]? = some (.map (some b0)) ∧ MapHas w b0 R (fun k => l[3 * k + 3]? = some true) ∧ b0 < w.heap.size
  below : Below b0 w0 w
  keys : ∀ k (h : k < R.length), l[3 * k + 1]? = some true → a.tmps[2 * k + 2]? = some (keyV R[k])
  vals : ∀ k (h : k < R.length), l[3 * k + 2]? = some true → a.tmps[2 * k + 3]? = some (valV R[k])
  moved : l[3 * R.length + 1]? = some true → a.tmps[2 * R.length + 2]? = some (.map (some b0))
  told : l[3 * R.length + 2]? = some true → a.tmps[0]? = some (.map (some b0))

theorem get_set {α : Type} (x : Array α) (i j : Nat) (v : α) (hi : i < x.size) : (x.setIfInBounds i v)[j]? = if i = j then some v else x[j]? := by
  rw [Array.getElem?_setIfInBounds]
  split
  · rename_i h; subst h; simp [hi]
  · rfl
theorem get_of_getD {x : Array Bool} {i : Nat} (h : x.getD i false = true) : x[i]? = some true := by
  rw [Array.getD_eq_getD_getElem?] at h
  cases hx : x[i]? with
  | none => rw [hx] at h; cases h
  | some b => rw [hx] at h; simpa using h
theorem eval_tmp {a : Act} {t : Nat} {v : Value} (h : a.tmps[t]? = some v) : a.eval (.tmp t) = v := by
  simp [Act.eval, Array.getD_eq_getD_getElem?, h]

theorem fill_step {R : List FRow} (hk : ∀ r ∈ R, ∃ l, keyOf Tryd.prog 73 (keyV r) = some l) (hR : R.Pairwise (fun r s => ¬ (r.1 = s.1 ∧ r.2.1 = s.2.1))) (b0 : Nat) (w0 : World) (Q : Exit → Act → World → Prop)
    (l : Array Bool) (a : Act) (w : World) (i : Nat) (hI : FillI R b0 w0 l a w) (hi : i ∈ Region.ready .any (fillOps R).toArray l) :
    wpOp Tryd.prog (fillOps R).toArray Q i (FillI R b0 w0 (l.setIfInBounds i true)) a w := by
  obtain ⟨h1, h2, h3⟩ := ready_of hi
  rw [fill_size] at h1
  have hsz := hI.size
  have htz := hI.slots
  have hil : i < l.size := by omega
  have hif : l[i]? = some false := by
    rw [Array.getD_eq_getD_getElem?, Array.getElem?_eq_getElem hil] at h2
    rw [Array.getElem?_eq_getElem hil]
    simpa using h2
  rcases fill_cases R i h1 with rfl | ⟨j, hj, rfl | rfl | rfl⟩ | rfl | rfl
  · -- the map is made
    obtain ⟨hb, hn⟩ := hI.none_ hif
    refine wpOp_gives (fill_mk R) rfl (v := .map (some w.heap.size)) (w' := w.alloc (.map #[] 0)) (by rfl) ?_
    have hput : (a.put opMk.dst (.map (some w.heap.size))) = { a with tmps := a.tmps.setIfInBounds 1 (.map (some w.heap.size)) } := rfl
    rw [hput]
    refine ⟨by simpa using hsz, by simpa using htz, hI.defers, fun h => ?_, fun _ => ?_, ?_, fun k h hl => ?_, fun k h hl => ?_, fun hl => ?_, fun hl => ?_⟩
    · rw [get_set _ _ _ _ hil, if_pos rfl] at h; cases h
    · refine ⟨?_, ?_, ?_⟩
      · simp only
        rw [get_set _ _ _ _ (by omega), if_pos rfl, hb]
      · rw [← hb]
        refine (MapHas.made w R).same (fun k hk' => ?_)
        rw [get_set _ _ _ _ hil, if_neg (by omega), hn k hk']
        simp
      · rw [← hb]; simp
    · exact hI.below.alloc (by omega) _
    · rw [get_set _ _ _ _ hil, if_neg (by omega)] at hl
      simp only
      rw [get_set _ _ _ _ (by omega), if_neg (by omega)]
      exact hI.keys k h hl
    · rw [get_set _ _ _ _ hil, if_neg (by omega)] at hl
      simp only
      rw [get_set _ _ _ _ (by omega), if_neg (by omega)]
      exact hI.vals k h hl
    · rw [get_set _ _ _ _ hil, if_neg (by omega)] at hl
      simp only
      rw [get_set _ _ _ _ (by omega), if_neg (by omega)]
      exact hI.moved hl
    · rw [get_set _ _ _ _ hil, if_neg (by omega)] at hl
      simp only
      rw [get_set _ _ _ _ (by omega), if_neg (by omega)]
      exact hI.told hl
  · -- a key
    refine wpOp_gives (fill_row R j hj).1 rfl (v := keyV R[j]) (w' := w) ?_ ?_
    · simp [execOp, opK, Act.eval, run_key, Result.andThen, keyV]
    have hput : (a.put (opK j R[j]).dst (keyV R[j])) = { a with tmps := a.tmps.setIfInBounds (2 * j + 2) (keyV R[j]) } := rfl
    rw [hput]
    refine ⟨by simpa using hsz, by simpa using htz, hI.defers, fun h => ?_, fun h => ?_, hI.below, fun k h hl => ?_, fun k h hl => ?_, fun hl => ?_, fun hl => ?_⟩
    · rw [get_set _ _ _ _ hil, if_neg (by omega)] at h
      obtain ⟨q1, q2⟩ := hI.none_ h
      refine ⟨q1, fun k hk' => ?_⟩
      rw [get_set _ _ _ _ hil, if_neg (by omega)]
      exact q2 k hk'
    · rw [get_set _ _ _ _ hil, if_neg (by omega)] at h
      obtain ⟨q1, q2, q3⟩ := hI.some_ h
      refine ⟨?_, q2.same (fun k hk' => ?_), q3⟩
      · simp only
        rw [get_set _ _ _ _ (by omega), if_neg (by omega)]
        exact q1
      · rw [get_set _ _ _ _ hil, if_neg (by omega)]
    · simp only
      rw [get_set _ _ _ _ (by omega)]
      by_cases e : j = k
      · subst e; rw [if_pos rfl]
      · rw [if_neg (by omega)]
        rw [get_set _ _ _ _ hil, if_neg (by omega)] at hl
        exact hI.keys k h hl
    · rw [get_set _ _ _ _ hil, if_neg (by omega)] at hl
      simp only
      rw [get_set _ _ _ _ (by omega), if_neg (by omega)]
      exact hI.vals k h hl
    · rw [get_set _ _ _ _ hil, if_neg (by omega)] at hl
      simp only
      rw [get_set _ _ _ _ (by omega), if_neg (by omega)]
      exact hI.moved hl
    · rw [get_set _ _ _ _ hil, if_neg (by omega)] at hl
      simp only
      rw [get_set _ _ _ _ (by omega), if_neg (by omega)]
      exact hI.told hl
  · -- a value
    refine wpOp_gives (fill_row R j hj).2.1 rfl (v := valV R[j]) (w' := w) ?_ ?_
    · simp [execOp, opV, Act.eval, run_val, Result.andThen, valV]
    have hput : (a.put (opV j R[j]).dst (valV R[j])) = { a with tmps := a.tmps.setIfInBounds (2 * j + 3) (valV R[j]) } := rfl
    rw [hput]
    refine ⟨by simpa using hsz, by simpa using htz, hI.defers, fun h => ?_, fun h => ?_, hI.below, fun k h hl => ?_, fun k h hl => ?_, fun hl => ?_, fun hl => ?_⟩
    · rw [get_set _ _ _ _ hil, if_neg (by omega)] at h
      obtain ⟨q1, q2⟩ := hI.none_ h
      refine ⟨q1, fun k hk' => ?_⟩
      rw [get_set _ _ _ _ hil, if_neg (by omega)]
      exact q2 k hk'
    · rw [get_set _ _ _ _ hil, if_neg (by omega)] at h
      obtain ⟨q1, q2, q3⟩ := hI.some_ h
      refine ⟨?_, q2.same (fun k hk' => ?_), q3⟩
      · simp only
        rw [get_set _ _ _ _ (by omega), if_neg (by omega)]
        exact q1
      · rw [get_set _ _ _ _ hil, if_neg (by omega)]
    · rw [get_set _ _ _ _ hil, if_neg (by omega)] at hl
      simp only
      rw [get_set _ _ _ _ (by omega), if_neg (by omega)]
      exact hI.keys k h hl
    · simp only
      rw [get_set _ _ _ _ (by omega)]
      by_cases e : j = k
      · subst e; rw [if_pos rfl]
      · rw [if_neg (by omega)]
        rw [get_set _ _ _ _ hil, if_neg (by omega)] at hl
        exact hI.vals k h hl
    · rw [get_set _ _ _ _ hil, if_neg (by omega)] at hl
      simp only
      rw [get_set _ _ _ _ (by omega), if_neg (by omega)]
      exact hI.moved hl
    · rw [get_set _ _ _ _ hil, if_neg (by omega)] at hl
      simp only
      rw [get_set _ _ _ _ (by omega), if_neg (by omega)]
      exact hI.told hl
  · -- a row is put
    have ho := (fill_row R j hj).2.2
    have hd := h3 _ ho
    have d0 := get_of_getD (hd ⟨0, .data⟩ (by simp [opI]) rfl)
    have d1 := get_of_getD (hd ⟨3 * j + 1, .data⟩ (by simp [opI]) rfl)
    have d2 := get_of_getD (hd ⟨3 * j + 2, .data⟩ (by simp [opI]) rfl)
    obtain ⟨q1, q2, q3⟩ := hI.some_ d0
    obtain ⟨w', hrun, hm, hg⟩ := q2.put key_law Tryd.underlying80 hk hR j hj (by rw [hif]; simp)
    refine wpOp_skips ho rfl (w' := w') ?_ ?_
    · show (do Instr.mapUpdate 80 (a.eval (.tmp 1)) (a.eval (.tmp (2 * j + 2))) (a.eval (.tmp (2 * j + 3))); pure .skip : Sem Next).run Tryd.prog w = _
      rw [eval_tmp q1, eval_tmp (hI.keys j hj d1), eval_tmp (hI.vals j hj d2), Sem.run_bind, hrun]
      rfl
    have hput : (a.put (opI j).dst undef) = a := rfl
    rw [hput]
    refine ⟨by simpa using hsz, htz, hI.defers, fun h => ?_, fun _ => ?_, ?_, fun k h hl => ?_, fun k h hl => ?_, fun hl => ?_, fun hl => ?_⟩
    · rw [get_set _ _ _ _ hil, if_neg (by omega), d0] at h; cases h
    · refine ⟨q1, hm.same (fun k hk' => ?_), Nat.lt_of_lt_of_le q3 hg.size⟩
      rw [get_set _ _ _ _ hil]
      by_cases e : j = k
      · subst e; simp
      · rw [if_neg (by omega)]
        constructor
        · rintro (h | h)
          · exact h
          · exact absurd h.symm e
        · intro h; exact .inl h
    · exact hI.below.grown hg (Nat.le_of_lt q3) (fun k hk' => by injection hk' with hk'; omega)
    · rw [get_set _ _ _ _ hil, if_neg (by omega)] at hl
      exact hI.keys k h hl
    · rw [get_set _ _ _ _ hil, if_neg (by omega)] at hl
      exact hI.vals k h hl
    · rw [get_set _ _ _ _ hil, if_neg (by omega)] at hl
      exact hI.moved hl
    · rw [get_set _ _ _ _ hil, if_neg (by omega)] at hl
      exact hI.told hl
  · -- the map is read
    have ho := fill_mv R
    have d0 := get_of_getD (h3 _ ho ⟨0, .data⟩ (by simp [opMv]) rfl)
    obtain ⟨q1, q2, q3⟩ := hI.some_ d0
    refine wpOp_gives ho rfl (v := .map (some b0)) (w' := w) ?_ ?_
    · show (pure (.value (a.eval (.tmp 1))) : Sem Next).run Tryd.prog w = _
      rw [eval_tmp q1]
      rfl
    have hput : (a.put (opMv R.length).dst (.map (some b0))) = { a with tmps := a.tmps.setIfInBounds (2 * R.length + 2) (.map (some b0)) } := rfl
    rw [hput]
    refine ⟨by simpa using hsz, by simpa using htz, hI.defers, fun h => ?_, fun h => ?_, hI.below, fun k h hl => ?_, fun k h hl => ?_, fun hl => ?_, fun hl => ?_⟩
    · rw [get_set _ _ _ _ hil, if_neg (by omega), d0] at h; cases h
    · refine ⟨?_, q2.same (fun k hk' => ?_), q3⟩
      · simp only
        rw [get_set _ _ _ _ (by omega), if_neg (by omega)]
        exact q1
      · rw [get_set _ _ _ _ hil, if_neg (by omega)]
    · rw [get_set _ _ _ _ hil, if_neg (by omega)] at hl
      simp only
      rw [get_set _ _ _ _ (by omega), if_neg (by omega)]
      exact hI.keys k h hl
    · rw [get_set _ _ _ _ hil, if_neg (by omega)] at hl
      simp only
      rw [get_set _ _ _ _ (by omega), if_neg (by omega)]
      exact hI.vals k h hl
    · simp only
      rw [get_set _ _ _ _ (by omega), if_pos rfl]
    · rw [get_set _ _ _ _ hil, if_neg (by omega)] at hl
      simp only
      rw [get_set _ _ _ _ (by omega), if_neg (by omega)]
      exact hI.told hl
  · -- the map is told
    have ho := fill_as R
    have d0 := get_of_getD (h3 _ ho ⟨0, .phase⟩ (by simp [opAs]) rfl)
    have d1 := get_of_getD (h3 _ ho ⟨3 * R.length + 1, .data⟩ (by simp [opAs]) rfl)
    obtain ⟨q1, q2, q3⟩ := hI.some_ d0
    have q4 := hI.moved d1
    refine wpOp_gives ho rfl (v := .map (some b0)) (w' := w) ?_ ?_
    · show (pure (.value (a.eval (.tmp (2 * R.length + 2)))) : Sem Next).run Tryd.prog w = _
      rw [eval_tmp q4]
      rfl
    have hput : (a.put (opAs R.length).dst (.map (some b0))) = { a with tmps := a.tmps.setIfInBounds 0 (.map (some b0)) } := rfl
    rw [hput]
    refine ⟨by simpa using hsz, by simpa using htz, hI.defers, fun h => ?_, fun h => ?_, hI.below, fun k h hl => ?_, fun k h hl => ?_, fun hl => ?_, fun hl => ?_⟩
    · rw [get_set _ _ _ _ hil, if_neg (by omega), d0] at h; cases h
    · refine ⟨?_, q2.same (fun k hk' => ?_), q3⟩
      · simp only
        rw [get_set _ _ _ _ (by omega), if_neg (by omega)]
        exact q1
      · rw [get_set _ _ _ _ hil, if_neg (by omega)]
    · rw [get_set _ _ _ _ hil, if_neg (by omega)] at hl
      simp only
      rw [get_set _ _ _ _ (by omega), if_neg (by omega)]
      exact hI.keys k h hl
    · rw [get_set _ _ _ _ hil, if_neg (by omega)] at hl
      simp only
      rw [get_set _ _ _ _ (by omega), if_neg (by omega)]
      exact hI.vals k h hl
    · simp only
      rw [get_set _ _ _ _ (by omega), if_neg (by omega)]
      exact q4
    · simp only
      rw [get_set _ _ _ _ (by omega), if_pos rfl]

theorem wf64 {a : Int} (h1 : -9223372036854775808 ≤ a) (h2 : a ≤ 9223372036854775807) : (Lit.int .i64 a).wf = true := by
  simp [Lit.wf, IntKind.min, IntKind.max, IntKind.signed, IntKind.bits]
  omega
theorem rows_key : ∀ r ∈ formRows, ∃ l, keyOf Tryd.prog 73 (keyV r) = some l := by
  intro r hr
  have h : ∀ r ∈ formRows, (-9223372036854775808 ≤ r.1 ∧ r.1 ≤ 9223372036854775807) ∧ -9223372036854775808 ≤ r.2.1 ∧ r.2.1 ≤ 9223372036854775807 := by decide +kernel
  obtain ⟨⟨a, b⟩, c, d⟩ := h r hr
  exact key_read (wf64 a b) (wf64 c d)
theorem rows_apart : formRows.Pairwise (fun r s => ¬ (r.1 = s.1 ∧ r.2.1 = s.2.1)) := by decide +kernel
theorem rows_length : formRows.length = 49 := rfl

theorem forms_any (w : World) : Calls Tryd.prog 38 #[] w fun e w' => ∃ b, e = .returned (.map (some b)) ∧ MapHas w' b formRows (fun _ => True) ∧ Below w.heap.size w w' := by
  go_enter Tryd.func38, Tryd.ntmps38
  go_wp2_with fail
  change Code.wp _ (Code.region 1 (fillOps formRows).toArray true) _ _ _
  refine wp_region_any (by kernel_rfl) ?_
  refine wpAny_keep (FillI formRows w.heap.size w) (fun l a w h => by rw [fill_size]; exact h.size) (fun l a w' i hI hi => fill_step rows_key rows_apart _ _ _ l a w' i hI hi) (fun l a w' hI hn => ?_) _ _ _ _ ?_ ?_
  · have hall := ready_nil (by rw [fill_size]; exact hI.size) (fill_up formRows) hn
    have hin : ∀ i, i < 3 * formRows.length + 3 → l[i]? = some true := fun i hi => get_of_getD (hall i (by rw [fill_size]; exact hi))
    obtain ⟨q1, q2, q3⟩ := hI.some_ (hin 0 (by omega))
    have q4 := hI.told (hin _ (by omega))
    rename_i hK
    refine hK _ _ (wp_ret ?_)
    refine bodyPost_ret (results_tmp rfl _ _ _) hI.defers ?_
    refine ⟨w.heap.size, ?_, q2.same (fun k hk => ?_), hI.below⟩
    · rw [Array.getD_eq_getD_getElem?, q4]
      rfl
    · rw [hin _ (by omega)]
      simp
  · refine ⟨by rw [Array.size_replicate, fill_size], rfl, rfl, fun _ => ⟨rfl, fun k hk => ?_⟩, fun h => ?_, (Below.refl _ w).drew, fun k h hl => ?_, fun k h hl => ?_, fun hl => ?_, fun hl => ?_⟩
    · rw [Array.getElem?_replicate, fill_size, if_pos (by omega)]
    · rw [Array.getElem?_replicate] at h
      split at h <;> cases h
    · rw [Array.getElem?_replicate] at hl
      split at hl <;> cases hl
    · rw [Array.getElem?_replicate] at hl
      split at hl <;> cases hl
    · rw [Array.getElem?_replicate] at hl
      split at hl <;> cases hl
    · rw [Array.getElem?_replicate] at hl
      split at hl <;> cases hl
  · refine Nat.le_trans List.countP_le_length ?_
    simp

/-- the form of a class and an id: the first row that has them -/
def formF (R : List FRow) (c i : Int) : Option (List UInt8) := (R.find? fun r => r.1 == c && r.2.1 == i).map (·.2.2)
abbrev formB := formF formRows
theorem formF_none {R : List FRow} {c i : Int} (h : ∀ r ∈ R, ¬ (r.1 = c ∧ r.2.1 = i)) : formF R c i = none := by
  unfold formF
  rw [List.find?_eq_none.2]
  · rfl
  · intro r hr
    have := h r hr
    simpa using this
theorem formF_some {R : List FRow} (hR : R.Pairwise (fun r s => ¬ (r.1 = s.1 ∧ r.2.1 = s.2.1))) {c i : Int} {r : FRow} (hr : r ∈ R) (h1 : r.1 = c) (h2 : r.2.1 = i) : formF R c i = some r.2.2 := by
  induction R with
  | nil => cases hr
  | cons s R ih =>
    rw [List.pairwise_cons] at hR
    unfold formF
    rw [List.find?_cons]
    rcases List.mem_cons.1 hr with rfl | hr
    · simp [h1, h2]
    · have hne := hR.1 r hr
      have : (s.1 == c && s.2.1 == i) = false := by
        rw [← h1, ← h2]
        simpa using hne
      rw [this]
      exact ih hR.2 hr
/-- what Form tells -/
def formV (c i : Int) : Value := match formB c i with
  | some s => .tuple #[.string ⟨s.toArray⟩, .bool true]
  | none => .tuple #[.string ⟨#[]⟩, .bool false]
theorem form_any (c i : Int) (w : World) (hc : (Lit.int .i64 c).wf = true) (hi : (Lit.int .i64 i).wf = true) :
    Calls Tryd.prog 18 #[.int .i64 c, .int .i64 i] w fun e w' => e = .returned (formV c i) ∧ Below w.heap.size w w' := by
  have hx := key_read (r := (c, i, [])) hc hi
  have hzero : ∀ w : World, (zeroValue 78).run Tryd.prog w = .ok (.agg #[.string ⟨#[]⟩]) w := fun _ => by kernel_rfl
  have HC := Lib.hid hc
  have HI := Lib.hid hi
  have HX := Lib.hid hx
  have HZ := Lib.hid hzero
  clear hc hi hx hzero
  go_enter Tryd.func18, Tryd.ntmps18
  go_wp2_with fail
  refine (forms_any _).mono ?_
  rintro e w1 ⟨b, rfl, hm, hb⟩
  have HB := Lib.hid hb
  rcases hm.look key_law Tryd.underlying80 (HZ.out w1) rows_key (c, i, []) HX.out with ⟨hn, hrun⟩ | ⟨r, hr, e1, e2, hrun⟩
  · have D : Hid (formV c i = .tuple #[.string ⟨#[]⟩, .bool false]) := Lib.hid (by unfold formV formB; rw [formF_none (c := c) (i := i) hn])
    have hrun' : (Instr.lookup 80 (.map (some b)) (.agg #[.int .i64 c, .int .i64 i]) true).run Tryd.prog w1 = .ok (.tuple #[.agg #[.string ⟨#[]⟩], .bool false]) w1 := hrun
    clear hn hrun hm hb
    go_wp2_with fail
    go_ret2
    exact ⟨by rw [D.out]; rfl, HB.out.alloc HB.out.size _⟩
  · have D : Hid (formV c i = .tuple #[.string ⟨r.2.2.toArray⟩, .bool true]) := Lib.hid (by unfold formV formB; rw [formF_some (c := c) (i := i) rows_apart hr e1 e2])
    obtain ⟨s, hs⟩ : ∃ s, s = r.2.2 := ⟨_, rfl⟩
    have hrun' : (Instr.lookup 80 (.map (some b)) (.agg #[.int .i64 c, .int .i64 i]) true).run Tryd.prog w1 = .ok (.tuple #[.agg #[.string ⟨s.toArray⟩], .bool true]) w1 := by rw [hs]; exact hrun
    rw [← hs] at D
    clear hrun hm hb hr e1 e2 hs
    go_wp2_with fail
    go_ret2
    exact ⟨by rw [D.out]; rfl, HB.out.alloc HB.out.size _⟩
end
end Go.Proofs.YtlfppfknelddcaaDoor
