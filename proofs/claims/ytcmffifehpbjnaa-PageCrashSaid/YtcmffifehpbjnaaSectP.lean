/- Layer 7, plain: devices of sectors. No program is imported. -/
import Derived.Test.YtcmffifehpbjnaaWords
namespace Go.Proofs.Ytcmffifehpbjnaa

abbrev Nm := List UInt8
abbrev Sec := {l : List UInt8 // l.length = 64}
/-- a sector: what was written of it and not synced; what lasts of it, and whether that is bad -/
structure Sct where
  fr : Option Sec
  la : Option (Sec × Bool)
/-- a file: its sectors, and which of them stand in fr, as they came -/
structure Fil where
  l : List Sct
  wr : List Nat
structure Dv where
  most : Nat
  left : Int
  fs : List (Nm × Fil)

/-! ### rows by names -/
section
variable {α : Type}
def fnd : List (Nm × α) → Nm → Option α
  | [], _ => none
  | (a, x) :: r, nm => if a = nm then some x else fnd r nm
def ins : List (Nm × α) → Nm → α → List (Nm × α)
  | [], nm, x => [(nm, x)]
  | (a, y) :: r, nm, x => if a = nm then (nm, x) :: r else if nm < a then (nm, x) :: (a, y) :: r else (a, y) :: ins r nm x
def rem : List (Nm × α) → Nm → List (Nm × α)
  | [], _ => []
  | (a, y) :: r, nm => if a = nm then r else (a, y) :: rem r nm
def Rising (L : List (Nm × α)) : Prop := L.Pairwise fun p q => p.1 < q.1
theorem nm_lt_trans {a b c : Nm} (h : a < b) (k : b < c) : a < c := List.lt_trans h k
theorem nm_irrefl (a : Nm) : ¬ a < a := List.lt_irrefl a
theorem nm_total {a b : Nm} (h : a ≠ b) : a < b ∨ b < a := by
  by_cases h1 : a < b
  · exact .inl h1
  · right
    rcases List.le_iff_lt_or_eq.1 (List.not_lt.1 h1) with h2 | h2
    · exact h2
    · exact absurd h2.symm h
theorem fnd_ins (L : List (Nm × α)) (nm : Nm) (x : α) (y : Nm) : fnd (ins L nm x) y = if nm = y then some x else fnd L y := by
  induction L with
  | nil => simp [ins, fnd]
  | cons p r ih =>
    obtain ⟨a, z⟩ := p
    unfold ins
    split
    · rename_i h
      subst h
      simp only [fnd]
      split <;> rfl
    · rename_i h
      split
      · simp only [fnd]
      · simp only [fnd, ih]
        split
        · rename_i h2
          subst h2
          rw [if_neg (fun e => h e.symm)]
        · rfl
theorem fnd_mem {L : List (Nm × α)} {nm : Nm} {x : α} (h : fnd L nm = some x) : (nm, x) ∈ L := by
  induction L with
  | nil => cases h
  | cons p r ih =>
    obtain ⟨a, z⟩ := p
    unfold fnd at h
    split at h
    · rename_i e
      cases h
      subst e
      simp
    · exact List.mem_cons_of_mem _ (ih h)
theorem rising_head {a : Nm} {z : α} {r : List (Nm × α)} (h : Rising ((a, z) :: r)) : fnd r a = none := by
  have h1 := (List.pairwise_cons.1 h).1
  cases hf : fnd r a with
  | none => rfl
  | some x => exact absurd (h1 _ (fnd_mem hf)) (nm_irrefl a)
theorem mem_fnd {L : List (Nm × α)} (hr : Rising L) {nm : Nm} {x : α} (h : (nm, x) ∈ L) : fnd L nm = some x := by
  induction L with
  | nil => cases h
  | cons p r ih =>
    obtain ⟨a, z⟩ := p
    obtain ⟨h1, h2⟩ := List.pairwise_cons.1 hr
    unfold fnd
    rcases List.mem_cons.1 h with e | e
    · cases e; simp
    · have := h1 _ e
      rw [if_neg (fun e1 => by subst e1; exact nm_irrefl _ this)]
      exact ih h2 e
theorem fnd_rem {L : List (Nm × α)} (hr : Rising L) (nm : Nm) (y : Nm) : fnd (rem L nm) y = if nm = y then none else fnd L y := by
  induction L with
  | nil => simp [rem, fnd]
  | cons p r ih =>
    obtain ⟨a, z⟩ := p
    have hh := rising_head hr
    unfold rem
    split
    · rename_i h
      subst h
      by_cases e : a = y
      · subst e; simp [hh]
      · simp [e, fnd]
    · rename_i h
      simp only [fnd, ih (List.pairwise_cons.1 hr).2]
      by_cases e : a = y
      · subst e; simp [Ne.symm h]
      · simp [e]
theorem mem_ins {L : List (Nm × α)} {nm : Nm} {x : α} {p : Nm × α} (h : p ∈ ins L nm x) : p = (nm, x) ∨ p ∈ L := by
  induction L with
  | nil => simp [ins] at h; exact .inl h
  | cons q r ih =>
    obtain ⟨a, z⟩ := q
    unfold ins at h
    split at h
    · rcases List.mem_cons.1 h with h | h
      · exact .inl h
      · exact .inr (List.mem_cons_of_mem _ h)
    · split at h
      · rcases List.mem_cons.1 h with h | h
        · exact .inl h
        · exact .inr h
      · rcases List.mem_cons.1 h with h | h
        · exact .inr (by simp [h])
        · rcases ih h with h | h
          · exact .inl h
          · exact .inr (List.mem_cons_of_mem _ h)
theorem mem_rem {L : List (Nm × α)} {nm : Nm} {p : Nm × α} (h : p ∈ rem L nm) : p ∈ L := by
  induction L with
  | nil => cases h
  | cons q r ih =>
    obtain ⟨a, z⟩ := q
    unfold rem at h
    split at h
    · exact List.mem_cons_of_mem _ h
    · rcases List.mem_cons.1 h with h | h
      · simp [h]
      · exact List.mem_cons_of_mem _ (ih h)
theorem rising_ins {L : List (Nm × α)} (hr : Rising L) (nm : Nm) (x : α) : Rising (ins L nm x) := by
  induction L with
  | nil => simp [ins, Rising]
  | cons q r ih =>
    obtain ⟨a, z⟩ := q
    obtain ⟨h1, h2⟩ := List.pairwise_cons.1 hr
    unfold ins
    split
    · rename_i e
      subst e
      exact List.pairwise_cons.2 ⟨fun p hp => h1 p hp, h2⟩
    · rename_i e
      split
      · rename_i hl
        refine List.pairwise_cons.2 ⟨fun p hp => ?_, hr⟩
        rcases List.mem_cons.1 hp with rfl | hp
        · exact hl
        · exact nm_lt_trans hl (h1 p hp)
      · rename_i hl
        refine List.pairwise_cons.2 ⟨fun p hp => ?_, ih h2⟩
        rcases mem_ins hp with rfl | hp
        · rcases nm_total e with h | h
          · exact h
          · exact absurd h hl
        · exact h1 p hp
theorem rising_rem {L : List (Nm × α)} (hr : Rising L) (nm : Nm) : Rising (rem L nm) := by
  induction L with
  | nil => exact hr
  | cons q r ih =>
    obtain ⟨a, z⟩ := q
    obtain ⟨h1, h2⟩ := List.pairwise_cons.1 hr
    unfold rem
    split
    · exact h2
    · exact List.pairwise_cons.2 ⟨fun p hp => h1 p (mem_rem hp), ih h2⟩
/-- a sum over all rows -/
def tot (g : α → Nat) (L : List (Nm × α)) : Nat := (L.map fun p => g p.2).sum
theorem tot_cons (g : α → Nat) (p : Nm × α) (L : List (Nm × α)) : tot g (p :: L) = g p.2 + tot g L := by simp [tot]
theorem tot_ins {L : List (Nm × α)} (hr : Rising L) (g : α → Nat) (nm : Nm) (x : α) : tot g (ins L nm x) + (match fnd L nm with | some y => g y | none => 0) = tot g L + g x := by
  induction L with
  | nil => simp [ins, fnd, tot]
  | cons q r ih =>
    obtain ⟨a, z⟩ := q
    obtain ⟨h1, h2⟩ := List.pairwise_cons.1 hr
    unfold ins fnd
    split
    · simp only [tot_cons]; omega
    · rename_i e
      split
      · rename_i hl
        have : fnd r nm = none := by
          cases hf : fnd r nm with
          | none => rfl
          | some y => exact absurd (nm_lt_trans hl (h1 _ (fnd_mem hf))) (nm_irrefl _)
        simp only [tot_cons, this]; omega
      · have := ih h2
        simp only [tot_cons]; omega
theorem tot_rem {L : List (Nm × α)} (g : α → Nat) (nm : Nm) {x : α} (h : fnd L nm = some x) : tot g (rem L nm) + g x = tot g L := by
  induction L with
  | nil => cases h
  | cons q r ih =>
    obtain ⟨a, z⟩ := q
    unfold fnd at h
    unfold rem
    split at h
    · rename_i e
      cases h
      rw [if_pos e, tot_cons]; simp only []; omega
    · rename_i e
      rw [if_neg e, tot_cons, tot_cons]
      have := ih h
      omega
theorem tot_fnd {L : List (Nm × α)} (g : α → Nat) (nm : Nm) {x : α} (h : fnd L nm = some x) : g x ≤ tot g L := by
  have := tot_rem g nm h
  omega
theorem length_ins (L : List (Nm × α)) (nm : Nm) (x : α) : (ins L nm x).length ≤ L.length + 1 := by
  induction L with
  | nil => simp [ins]
  | cons q r ih =>
    obtain ⟨a, z⟩ := q
    unfold ins
    split
    · simp
    · split
      · simp
      · simp; omega
theorem length_ins_yes {L : List (Nm × α)} (hr : Rising L) {nm : Nm} {y : α} (x : α) (h : fnd L nm = some y) : (ins L nm x).length = L.length := by
  induction L with
  | nil => cases h
  | cons q r ih =>
    obtain ⟨a, z⟩ := q
    obtain ⟨h1, h2⟩ := List.pairwise_cons.1 hr
    unfold fnd at h
    unfold ins
    split
    · simp
    · rename_i e
      rw [if_neg e] at h
      split
      · rename_i hl
        exact absurd (nm_lt_trans hl (h1 _ (fnd_mem h))) (nm_irrefl _)
      · simp [ih h2 h]
theorem length_rem (L : List (Nm × α)) (nm : Nm) : (rem L nm).length ≤ L.length := by
  induction L with
  | nil => simp [rem]
  | cons q r ih =>
    obtain ⟨a, z⟩ := q
    unfold rem
    split
    · simp
    · simp; omega
end
end Go.Proofs.Ytcmffifehpbjnaa
namespace Go.Proofs.Ytcmffifehpbjnaa
/-! ### one file turned, one sector turned -/
def Dv.put (S : Dv) (nm : Nm) (F : Fil) : Dv := { S with fs := ins S.fs nm F }
def modL (l : List Sct) (k : Nat) (f : Sct → Sct) : List Sct := l.modify k f
theorem modL_length (l : List Sct) (k : Nat) (f : Sct → Sct) : (modL l k f).length = l.length := by simp [modL]
theorem modL_get (l : List Sct) (k : Nat) (f : Sct → Sct) (j : Nat) : (modL l k f)[j]? = if j = k then (l[j]?).map f else l[j]? := by
  unfold modL
  rw [List.getElem?_modify]
  by_cases h : k = j
  · subst h; simp
  · simp [h, Ne.symm h]
/-- what a pick makes of a fresh sector -/
def stl (what : Int) (s : Sct) : Sct := { fr := none, la := if what = 1 then s.fr.map fun x => (x, false) else if what = 2 then some (⟨List.replicate 64 0, by simp⟩, true) else s.la }
end Go.Proofs.Ytcmffifehpbjnaa
namespace Go.Proofs.Ytcmffifehpbjnaa
/-- a file of which sector j is written -/
def wrF (F : Fil) (j : Nat) (x : Sec) : Fil :=
  { l := if j < F.l.length then modL F.l j (fun s => { s with fr := some x }) else F.l ++ [{ fr := some x, la := none }],
    wr := if (F.l[j]?.bind (·.fr)).isSome then F.wr else F.wr ++ [j] }
theorem wrF_length (F : Fil) (j : Nat) (x : Sec) : (wrF F j x).l.length = if j < F.l.length then F.l.length else F.l.length + 1 := by
  unfold wrF
  simp only []
  split
  · rw [modL_length]
  · simp
theorem wrF_get (F : Fil) (j : Nat) (x : Sec) (hj : j ≤ F.l.length) (k : Nat) : (wrF F j x).l[k]? = if k = j then some { fr := some x, la := F.l[j]?.bind (·.la) } else F.l[k]? := by
  unfold wrF
  simp only []
  split
  · rename_i h
    rw [modL_get]
    by_cases e : k = j
    · subst e
      simp [List.getElem?_eq_getElem h]
    · simp [e]
  · have h : j = F.l.length := by omega
    subst h
    by_cases e : k = F.l.length
    · subst e
      simp
    · rw [if_neg e]
      rcases Nat.lt_or_ge k F.l.length with h1 | h1
      · rw [List.getElem?_append_left h1]
      · rw [List.getElem?_append_right h1, List.getElem?_eq_none (by simp; omega), List.getElem?_eq_none h1]
end Go.Proofs.Ytcmffifehpbjnaa
namespace Go.Proofs.Ytcmffifehpbjnaa
/-- a file that is synced -/
def syS (s : Sct) : Sct := match s.fr with | some x => { fr := none, la := some (x, false) } | none => s
def syF (F : Fil) : Fil := { l := F.l.map syS, wr := [] }
end Go.Proofs.Ytcmffifehpbjnaa
