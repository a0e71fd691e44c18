/- Rows that rise, whatever they hold; texts in their order; what slices.Compact leaves of a sorted row. No program is imported. -/
import Derived.Lib.SlicesCompact
import Derived.Lib.Hide
namespace Go.Proofs.YtocombacjpjdbaaDoor
set_option maxRecDepth 100000
set_option linter.unusedSimpArgs false
set_option linter.unusedVariables false

/-- an order that parts whatever two -/
structure LinO {κ : Type} (lt : κ → κ → Bool) : Prop where
  irr : ∀ a, lt a a = false
  tr : ∀ {a b c}, lt a b = true → lt b c = true → lt a c = true
  tot : ∀ {a b}, lt a b = false → lt b a = false → a = b
section
variable {κ : Type} {lt : κ → κ → Bool}
theorem LinO.ne (h : LinO lt) {a b : κ} (e : lt a b = true) : a ≠ b := by
  rintro rfl
  rw [h.irr] at e
  cases e
theorem LinO.asym (h : LinO lt) {a b : κ} (e : lt a b = true) : lt b a = false := by
  cases e2 : lt b a
  · rfl
  · have := h.tr e e2
    rw [h.irr] at this
    cases this
theorem LinO.gt (h : LinO lt) {a b : κ} (e : lt a b = false) (n : a ≠ b) : lt b a = true := by
  cases e2 : lt b a
  · exact absurd (h.tot e e2) n
  · rfl
def Ris (lt : κ → κ → Bool) (l : List κ) : Prop := l.Pairwise (fun a b => lt a b = true)
theorem Ris.nodup (h : LinO lt) {l : List κ} (hr : Ris lt l) : l.Nodup := by
  rw [List.nodup_iff_pairwise_ne]
  exact hr.imp (fun e => h.ne e)
theorem Ris.ext (h : LinO lt) : ∀ {a b : List κ}, Ris lt a → Ris lt b → (∀ x, x ∈ a ↔ x ∈ b) → a = b
  | [], [], _, _, _ => rfl
  | [], y :: b, _, _, e => absurd ((e y).2 (by simp)) (by simp)
  | x :: a, [], _, _, e => absurd ((e x).1 (by simp)) (by simp)
  | x :: a, y :: b, ha, hb, e => by
    obtain ⟨a1, a2⟩ := List.pairwise_cons.1 ha
    obtain ⟨b1, b2⟩ := List.pairwise_cons.1 hb
    have exy : x = y := by
      rcases List.mem_cons.1 ((e x).1 (by simp)) with h1 | h1
      · exact h1
      · rcases List.mem_cons.1 ((e y).2 (by simp)) with h2 | h2
        · exact h2.symm
        · have := h.asym (a1 y h2)
          rw [b1 x h1] at this
          cases this
    subst exy
    rw [Ris.ext h a2 b2 fun z => ?_]
    constructor
    · intro hz
      rcases List.mem_cons.1 ((e z).1 (List.mem_cons_of_mem _ hz)) with rfl | h2
      · exact absurd (a1 z hz) (by rw [h.irr]; simp)
      · exact h2
    · intro hz
      rcases List.mem_cons.1 ((e z).2 (List.mem_cons_of_mem _ hz)) with rfl | h2
      · exact absurd (b1 z hz) (by rw [h.irr]; simp)
      · exact h2
theorem Ris.filter {l : List κ} (hr : Ris lt l) (p : κ → Bool) : Ris lt (l.filter p) := List.Pairwise.sublist List.filter_sublist hr
/-- x put where it belongs; where it is already, nothing -/
def insR (lt : κ → κ → Bool) (x : κ) : List κ → List κ
  | [] => [x]
  | y :: l => if lt y x = true then y :: insR lt x l else if lt x y = true then x :: y :: l else y :: l
theorem mem_insR (h : LinO lt) (x z : κ) : ∀ l : List κ, z ∈ insR lt x l ↔ z = x ∨ z ∈ l
  | [] => by simp [insR]
  | y :: l => by
    rw [insR]
    split
    · simp only [List.mem_cons, mem_insR h x z l]
      constructor
      · rintro (h | h | h) <;> simp [h]
      · rintro (h | h | h) <;> simp [h]
    · rename_i h1
      split
      · simp
      · rename_i h2
        have e : y = x := h.tot (by simpa using h1) (by simpa using h2)
        subst e
        simp
theorem Ris.ins (h : LinO lt) (x : κ) : ∀ {l : List κ}, Ris lt l → Ris lt (insR lt x l)
  | [], _ => by simp [insR, Ris]
  | y :: l, hr => by
    obtain ⟨h1, h2⟩ := List.pairwise_cons.1 hr
    rw [insR]
    split
    · rename_i e
      refine List.pairwise_cons.2 ⟨fun z hz => ?_, Ris.ins h x h2⟩
      rcases (mem_insR h x z l).1 hz with rfl | hz
      · exact e
      · exact h1 z hz
    · split
      · rename_i e
        refine List.pairwise_cons.2 ⟨fun z hz => ?_, hr⟩
        rcases List.mem_cons.1 hz with rfl | hz
        · exact e
        · exact h.tr e (h1 z hz)
      · exact hr
theorem insR_length (lt : κ → κ → Bool) (x : κ) : ∀ l : List κ, (insR lt x l).length ≤ l.length + 1
  | [] => by simp [insR]
  | y :: l => by
    rw [insR]
    split
    · have := insR_length lt x l
      simp only [List.length_cons]; omega
    · split <;> simp
/-- all of a row, in order, each once -/
def srtR (lt : κ → κ → Bool) (l : List κ) : List κ := l.foldl (fun acc x => insR lt x acc) []
theorem foldl_insR (h : LinO lt) : ∀ (l acc : List κ), Ris lt acc → Ris lt (l.foldl (fun acc x => insR lt x acc) acc) ∧ ∀ z, z ∈ l.foldl (fun acc x => insR lt x acc) acc ↔ z ∈ l ∨ z ∈ acc
  | [], acc, hr => ⟨hr, fun z => by simp⟩
  | x :: l, acc, hr => by
    obtain ⟨r1, r2⟩ := foldl_insR h l (insR lt x acc) (hr.ins h x)
    refine ⟨r1, fun z => ?_⟩
    show z ∈ l.foldl _ (insR lt x acc) ↔ _
    rw [r2 z, mem_insR h]
    simp only [List.mem_cons]
    constructor
    · rintro (h | h | h) <;> simp [h]
    · rintro ((h | h) | h) <;> simp [h]
theorem ris_srtR (h : LinO lt) (l : List κ) : Ris lt (srtR lt l) := (foldl_insR h l [] List.Pairwise.nil).1
theorem mem_srtR (h : LinO lt) (l : List κ) (z : κ) : z ∈ srtR lt l ↔ z ∈ l := by
  rw [srtR, (foldl_insR h l [] List.Pairwise.nil).2 z]
  simp
theorem ris_get (h : LinO lt) {l : List κ} (hr : Ris lt l) {i j : Nat} (hij : i < j) (hj : j < l.length) : lt (l[i]'(by omega)) l[j] = true :=
  List.pairwise_iff_getElem.1 hr i j (by omega) hj hij
end
/-- texts in the order of their octets -/
def ltS (a b : List UInt8) : Bool := decide (a < b)
theorem linS : LinO ltS where
  irr a := by simp [ltS, List.lt_irrefl]
  tr h1 h2 := by
    simp only [ltS, decide_eq_true_eq] at *
    exact List.lt_trans h1 h2
  tot h1 h2 := by
    simp only [ltS, decide_eq_false_iff_not, List.not_lt] at *
    exact List.le_antisymm h2 h1
theorem le_ltS (a b : List UInt8) : decide (a ≤ b) = !ltS b a := by
  unfold ltS
  by_cases h : a ≤ b
  · have : ¬ b < a := List.not_lt.2 h
    simp [h, this]
  · have : b < a := List.not_le.1 h
    simp [h, this]
theorem le_cases {a b : List UInt8} (h : a ≤ b) : ltS a b = true ∨ a = b := by
  cases e : ltS a b
  · right
    refine linS.tot e ?_
    have := le_ltS a b
    rw [decide_eq_true h] at this
    simpa using this.symm
  · exact .inl rfl
/-- what is kept of a row that is sorted: the same members, each once -/
theorem compact_sorted (d : Array (List UInt8)) (hs : ∀ i j, i < j → j < d.size → d[i]! ≤ d[j]!) : ∀ m, m ≤ d.size → Ris ltS (Lib.compactUpTo d m) ∧ (∀ x, x ∈ Lib.compactUpTo d m ↔ ∃ j, j < m ∧ d[j]! = x)
  | 0, _ => ⟨by simp [Lib.compactUpTo, Ris], fun x => by simp [Lib.compactUpTo]⟩
  | m + 1, hm => by
    obtain ⟨h1, h2⟩ := compact_sorted d hs m (by omega)
    rw [Lib.compactUpTo_succ]
    have hmem : ∀ x, (x ∈ Lib.compactUpTo d m ∨ x = d[m]!) ↔ ∃ j, j < m + 1 ∧ d[j]! = x := by
      intro x
      rw [h2]
      constructor
      · rintro (⟨j, hj, e⟩ | e)
        · exact ⟨j, by omega, e⟩
        · exact ⟨m, by omega, e.symm⟩
      · rintro ⟨j, hj, e⟩
        by_cases c : j = m
        · subst c; exact .inr e.symm
        · exact .inl ⟨j, by omega, e⟩
    cases hk : Lib.keeps d m
    · have hm0 : m ≠ 0 := by
        intro e
        rw [e, Lib.keeps_lt_one d 0 (by omega)] at hk
        cases hk
      have he : d[m]! = d[m - 1]! := by
        simp [Lib.keeps] at hk
        exact hk.2
      simp only [Bool.false_eq_true, if_false, List.append_nil]
      refine ⟨h1, fun x => ?_⟩
      rw [← hmem x]
      constructor
      · exact .inl
      · rintro (h | h)
        · exact h
        · rw [h2]; exact ⟨m - 1, by omega, by rw [h, he]⟩
    · simp only [if_true]
      refine ⟨?_, fun x => by rw [List.mem_append, List.mem_singleton]; exact hmem x⟩
      refine List.pairwise_append.2 ⟨h1, by simp, fun a ha b hb => ?_⟩
      rw [List.mem_singleton] at hb
      subst hb
      obtain ⟨j, hj, rfl⟩ := (h2 a).1 ha
      have hne : d[m]! ≠ d[m - 1]! := by
        simp [Lib.keeps] at hk
        rcases hk with e | e
        · omega
        · exact e
      have hlast : ltS d[m - 1]! d[m]! = true := by
        rcases le_cases (hs (m - 1) m (by omega) (by omega)) with h | h
        · exact h
        · exact absurd h.symm hne
      by_cases c : j = m - 1
      · rw [c]; exact hlast
      · rcases le_cases (hs j (m - 1) (by omega) (by omega)) with h | h
        · exact linS.tr h hlast
        · rw [h]; exact hlast
theorem sorted_le (Q : List (List UInt8)) : (Q.mergeSort fun x y => decide (x ≤ y)).Pairwise (fun a b => a ≤ b) := by
  have := List.pairwise_mergeSort (le := fun x y : List UInt8 => decide (x ≤ y)) (fun a b c h1 h2 => by simp only [decide_eq_true_eq] at *; exact List.le_trans h1 h2) (fun a b => by simp only [Bool.or_eq_true, decide_eq_true_eq]; exact List.le_total a b) Q
  exact this.imp (fun h => by simpa using h)
/-- sorted, then compacted: all of the row in order, each once -/
theorem compact_sort (Q : List (List UInt8)) : Lib.compact (Q.mergeSort fun x y => decide (x ≤ y)) = srtR ltS Q := by
  obtain ⟨l, hl⟩ : ∃ l, l = Q.mergeSort fun x y => decide (x ≤ y) := ⟨_, rfl⟩
  have hp : l.Perm Q := by rw [hl]; exact List.mergeSort_perm _ _
  have hs := sorted_le Q
  rw [← hl] at hs ⊢
  obtain ⟨r1, r2⟩ := compact_sorted l.toArray (fun i j hij hj => by
    have hj' : j < l.length := by simpa using hj
    have := List.pairwise_iff_getElem.1 hs i j (by omega) hj' hij
    simpa [getElem!_pos, hj', show i < l.length by omega] using this) l.length (by simp)
  refine Ris.ext linS r1 (ris_srtR linS Q) fun x => ?_
  show x ∈ Lib.compactUpTo l.toArray l.length ↔ _
  rw [r2, mem_srtR linS, ← hp.mem_iff]
  constructor
  · rintro ⟨j, hj, e⟩
    rw [← e]
    simp [getElem!_pos, hj]
  · intro hx
    obtain ⟨j, hj, e⟩ := List.mem_iff_getElem.1 hx
    exact ⟨j, hj, by simpa [getElem!_pos, hj] using e⟩
end Go.Proofs.YtocombacjpjdbaaDoor
