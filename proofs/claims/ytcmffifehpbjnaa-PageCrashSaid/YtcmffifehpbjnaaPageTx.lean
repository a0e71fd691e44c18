/- Layer 9: two files of pages over the same pages: rows of pages that rise; a law's own row grows beside a file; a device's copy is opened. -/
import Derived.Test.YtcmffifehpbjnaaPageCp
namespace Go.Proofs.Ytcmffifehpbjnaa
open Go.RowKit Go.Maps
set_option maxRecDepth 100000
set_option linter.unusedSimpArgs false
set_option linter.unusedVariables false
theorem keeps_iff (n : Nat) (l : List Int) : keepsB n l = true ↔ (∀ x ∈ l, 2 ≤ x ∧ x < (n : Int)) ∧ l.Pairwise (· < ·) := by
  unfold keepsB
  rw [decide_eq_true_iff]
  have hg : ∀ j (hj : j < l.length), l.getD j 0 = l[j] := fun j hj => by simp [List.getD, hj]
  constructor
  · intro h
    refine ⟨fun x hx => ?_, ?_⟩
    · obtain ⟨j, hj, rfl⟩ := List.getElem_of_mem hx
      have := h j hj
      rw [← hg j hj]
      exact ⟨this.1, this.2.1⟩
    · rw [List.pairwise_iff_getElem]
      intro i j hi hj hij
      induction j with
      | zero => omega
      | succ j ih =>
        have h3 := (h (j + 1) hj).2.2 (by omega)
        rw [Nat.add_sub_cancel, hg j (by omega), hg (j + 1) hj] at h3
        by_cases e : i = j
        · subst e; exact h3
        · have := ih (by omega) (by omega)
          omega
  · rintro ⟨h1, h2⟩ j hj
    have h3 := h1 l[j] (List.getElem_mem hj)
    refine ⟨by rw [hg j hj]; exact h3.1, by rw [hg j hj]; exact h3.2, fun h0 => ?_⟩
    rw [hg j hj, hg (j - 1) (by omega)]
    exact (List.pairwise_iff_getElem.1 h2) (j - 1) j (by omega) hj (by omega)
theorem keeps_up {n : Nat} {l : List Int} (h : keepsB n l = true) : ∀ j, j + 1 < l.length → l.getD j 0 < l.getD (j + 1) 0 := fun j hj => by
  have := (of_decide_eq_true h) (j + 1) hj
  have h3 := this.2.2 (by omega)
  rwa [Nat.add_sub_cancel] at h3
theorem keeps_take {n : Nat} {l : List Int} (h : keepsB n l = true) (k : Nat) : keepsB n (l.take k) = true := by
  rw [keeps_iff] at *
  exact ⟨fun x hx => h.1 x (List.mem_of_mem_take hx), h.2.sublist (List.take_sublist k l)⟩
theorem keeps_more {n : Nat} {l : List Int} (h : keepsB n l = true) (hn : 2 ≤ n) : keepsB (n + 1) (l ++ [(n : Int)]) = true := by
  rw [keeps_iff] at *
  refine ⟨fun x hx => ?_, ?_⟩
  · rcases List.mem_append.1 hx with hx | hx
    · have := h.1 x hx; omega
    · have := List.mem_singleton.1 hx; omega
  · rw [List.pairwise_append]
    refine ⟨h.2, List.pairwise_singleton _ _, fun a ha b hb => ?_⟩
    have := List.mem_singleton.1 hb
    have := h.1 a ha
    omega
theorem othP_mem : ∀ (k : Nat) (ids : List Int) (id : Nat), (∀ x ∈ othP ids id k, (id : Int) ≤ x ∧ x < ((id + k : Nat) : Int)) ∧ (othP ids id k).Pairwise (· < ·) := by
  intro k
  induction k with
  | zero => intro ids id; cases ids <;> simp [othP]
  | succ k ih =>
    intro ids id
    have key : ∀ r, (∀ x ∈ (id : Int) :: othP r (id + 1) k, (id : Int) ≤ x ∧ x < ((id + (k + 1) : Nat) : Int)) ∧ ((id : Int) :: othP r (id + 1) k).Pairwise (· < ·) := by
      intro r
      obtain ⟨h1, h2⟩ := ih r (id + 1)
      refine ⟨fun x hx => ?_, List.pairwise_cons.2 ⟨fun x hx => ?_, h2⟩⟩
      · rcases List.mem_cons.1 hx with rfl | hx
        · omega
        · have := h1 x hx; omega
      · have := h1 x hx; omega
    cases ids with
    | nil => exact key []
    | cons y r =>
      simp only [othP]
      split
      · obtain ⟨h1, h2⟩ := ih r (id + 1)
        exact ⟨fun x hx => by have := h1 x hx; omega, h2⟩
      · exact key (y :: r)
theorem othP_keeps (ids : List Int) (k : Nat) : keepsB (k + 2) (othP ids 2 k) = true := by
  rw [keeps_iff]
  obtain ⟨h1, h2⟩ := othP_mem k ids 2
  exact ⟨fun x hx => by have := h1 x hx; omega, h2⟩
theorem othP_count : ∀ (k : Nat) (ids : List Int) (id : Nat), (∀ x ∈ ids, (id : Int) ≤ x ∧ x < ((id + k : Nat) : Int)) → ids.Pairwise (· < ·) → (othP ids id k).length + ids.length = k := by
  intro k
  induction k with
  | zero =>
    intro ids id h1 h2
    cases ids with
    | nil => rfl
    | cons y r => have := h1 y (by simp); omega
  | succ k ih =>
    intro ids id h1 h2
    cases ids with
    | nil =>
      simp only [othP, List.length_cons, List.length_nil]
      have := ih [] (id + 1) (fun x hx => by cases hx) List.Pairwise.nil
      simp at this
      omega
    | cons y r =>
      obtain ⟨h3, h4⟩ := List.pairwise_cons.1 h2
      simp only [othP]
      have hy := h1 y (by simp)
      split
      · rename_i e
        have := ih r (id + 1) (fun x hx => by have := h1 x (by simp [hx]); have := h3 x hx; omega) h4
        simp only [List.length_cons]
        omega
      · rename_i e
        have := ih (y :: r) (id + 1) (fun x hx => by
          have h5 := h1 x hx
          rcases List.mem_cons.1 hx with rfl | hx
          · omega
          · have := h3 x hx; omega) h2
        simp only [List.length_cons] at *
        omega
theorem othP_all {ids : List Int} {k : Nat} (h : keepsB (k + 2) ids = true) : (othP ids 2 k).length + ids.length = k := by
  rw [keeps_iff] at h
  exact othP_count k ids 2 (fun x hx => by have := h.1 x hx; omega) h.2
section
variable {B g fb mo put : Nat} {Y : Nat → Prop} {w0 W W' : World} {S : Dv} {m : Mt} {L : List Int} {dead : Bool} {a0 a1 : Option Mt} {D : List (List UInt8)} {row : Option Nat}
/-- a row of the law's own grows -/
theorem FAt.grown (h : FAt B g fb Y w0 S m L put dead W) (hg : W.grownBy W' row) (hr : ∀ k, row = some k → Y k) : FAt B g fb (fun i => Y i ∨ (W.heap.size ≤ i ∧ i < W'.heap.size)) w0 S m L put dead W' := by
  obtain ⟨Z, h1, h2, h3, v, h4, h5, h6⟩ := h.at_
  have h7 := h1.grown hg (fun k hk => .inl (hr k hk))
  have hkz : ∀ i, Z i → W'.heap[i]? = W.heap[i]? := fun i hi => hg.block i (h1.xs i (.inr hi)).2 (fun e => h2 i (hr i e.symm) hi)
  refine ⟨⟨Z, h7.less ?_, ?_, h3, v, (hkz fb h3).trans h4, own_block h5 (fun i hi => hkz i (h6 i hi)), h6⟩, h.lo, h.num, h.putle⟩
  · rintro i ((hi | hi) | hi)
    · exact .inl (.inl hi)
    · exact .inr hi
    · exact .inl (.inr hi)
  · rintro i (hi | hi) hz
    · exact h2 i hi hz
    · have := (h1.xs i (.inr hz)).2
      omega
theorem PAt.grown (h : PAt B g fb mo Y w0 a0 a1 D m L put W) (hg : W.grownBy W' row) (hr : ∀ k, row = some k → Y k) : PAt B g fb mo (fun i => Y i ∨ (W.heap.size ≤ i ∧ i < W'.heap.size)) w0 a0 a1 D m L put W' := by
  obtain ⟨S, h1, h2⟩ := h.ex
  exact ⟨S, h1, h2.grown hg hr⟩
theorem at_copy (h : At B Y w0 g S W) : Calls Try.prog 15 #[ptr g] W fun e w' => ∃ g2, e = .returned (ptr g2) ∧ At W.heap.size (fun _ => False) W g2 S w' := by
  obtain ⟨hO, b1, b2, b3, sv, hd⟩ := h.dev
  exact copy_any hd hO
/-- a device that holds pages -/
structure GAt (B g mo : Nat) (w0 : World) (a0 a1 : Option Mt) (D : List (List UInt8)) (W : World) : Prop where
  ex : ∃ S, PD mo a0 a1 D S ∧ At B (fun _ => False) w0 g S W
theorem p_copy (h : PAt B g fb mo Y w0 a0 a1 D m L put W) : Calls Try.prog 15 #[ptr g] W fun e w' => ∃ g2, e = .returned (ptr g2) ∧ GAt W.heap.size g2 mo W a0 a1 D w' := by
  obtain ⟨S, h1, h2⟩ := h.ex
  exact (at_copy h2.dev).mono fun e w' ⟨g2, r1, r2⟩ => ⟨g2, r1, ⟨S, h1, r2⟩⟩
theorem g_open {m' : Mt} (h : GAt B g mo w0 a0 a1 D W) (f0 : ∀ m, a0 = some m → m.fit) (f1 : ∀ m, a1 = some m → m.fit) (hn : newM a1 1 (D.length + 2) (newM a0 0 (D.length + 2) ⟨0, 0, 0, 0⟩) = m') (hg : m'.gen ≠ 0) :
    Calls Try.prog 10 #[ptr g] W fun e w' => ∃ gb, e = .returned (.tuple #[ptr gb, .int .i64 0]) ∧ PAt B g gb mo none9 w0 a0 a1 D m' [] 0 w' := by
  obtain ⟨S, hpd, hat⟩ := h.ex
  have hlen : S.fs.length < 1000000 := by
    obtain ⟨F, rfl, _⟩ := hpd.file
    show 1 < 1000000
    omega
  have hcr : createP S = (9, S) := by
    obtain ⟨F, rfl, _⟩ := hpd.file
    have hmk : pMake (one mo (-1) nmP F) nmP = (9, one mo (-1) nmP F) := by
      unfold pMake
      rw [if_neg (by show ¬ (-1 : Int) = 0; omega), if_neg (by decide), one_fnd]
      rfl
    unfold createP
    rw [hmk]
    rfl
  obtain ⟨S2, e2, hpd2⟩ := hpd.sync
  have hnew : newP S2 = m' := by rw [hpd2.new f0 f1, hn]
  have hop : openP S = (0, S2) := by
    unfold openP
    rw [hcr]
    simp only [e2, hnew]
    simp [hg]
  refine (open_any hat hlen).mono ?_
  rintro e w' ⟨vp, r1, r2, r3, r4⟩
  rw [hop] at r1 r2
  obtain ⟨gb, rfl, hgb, hfa2⟩ := r2 rfl
  simp only [hnew] at hfa2
  exact ⟨gb, r1, ⟨S2, hpd2, hfa2⟩⟩
end
end Go.Proofs.Ytcmffifehpbjnaa
