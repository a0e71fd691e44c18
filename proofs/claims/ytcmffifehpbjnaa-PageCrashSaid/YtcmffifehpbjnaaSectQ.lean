/- Layer 7, plain: a crash. -/
import Derived.Test.YtcmffifehpbjnaaSectO
namespace Go.Proofs.Ytcmffifehpbjnaa
open Go.RowKit Go.Maps
set_option linter.unusedSimpArgs false
set_option linter.unusedVariables false
def setF (F : Fil) (k : Nat) (f : Sct → Sct) : Fil := { F with l := modL F.l k f }
theorem setF_length (F : Fil) (k : Nat) (f : Sct → Sct) : (setF F k f).l.length = F.l.length := modL_length _ _ _
theorem setF_get (F : Fil) (k : Nat) (f : Sct → Sct) (j : Nat) : (setF F k f).l[j]? = if j = k then (F.l[j]?).map f else F.l[j]? := modL_get _ _ _ _
/-- what the next pick says -/
def pk : List Int → Int
  | [] => 0
  | p :: _ => p % 3
theorem pk_three (ps : List Int) : pk ps = 0 ∨ pk ps = 1 ∨ pk ps = 2 := by
  cases ps with
  | nil => exact .inl rfl
  | cons p r => simp only [pk]; omega
def stStep (Fp : Fil × List Int) (k : Nat) : Fil × List Int := (setF Fp.1 k (stl (pk Fp.2)), Fp.2.tail)
def stAll (F : Fil) (ks : List Nat) (ps : List Int) : Fil × List Int := ks.foldl stStep (F, ps)
theorem stAll_snoc (F : Fil) (ks : List Nat) (k : Nat) (ps : List Int) : stAll F (ks ++ [k]) ps = stStep (stAll F ks ps) k := by simp [stAll]
theorem stAll_length (ks : List Nat) (F : Fil) (ps : List Int) : (stAll F ks ps).1.l.length = F.l.length := by
  induction ks generalizing F ps with
  | nil => rfl
  | cons k ks ih => unfold stAll; rw [List.foldl_cons]; exact (ih _ _).trans (setF_length _ _ _)
theorem stAll_fr (ks : List Nat) (F : Fil) (ps : List Int) (j : Nat) (hj : j ∉ ks) : (stAll F ks ps).1.l[j]? = F.l[j]? := by
  induction ks generalizing F ps with
  | nil => rfl
  | cons k ks ih =>
    unfold stAll
    rw [List.foldl_cons]
    refine (ih _ _ (fun h => hj (by simp [h]))).trans ?_
    show (setF F k _).l[j]? = _
    rw [setF_get, if_neg (fun e => hj (by simp [e]))]
theorem stAll_none (ks : List Nat) (F : Fil) (ps : List Int) (j : Nat) (hj : j ∈ ks) (s : Sct) (hs : (stAll F ks ps).1.l[j]? = some s) : s.fr = none := by
  induction ks generalizing F ps with
  | nil => cases hj
  | cons k ks ih =>
    by_cases h : j ∈ ks
    · exact ih _ _ h hs
    · have e : j = k := by simp [h] at hj; exact hj
      subst e
      unfold stAll at hs
      rw [List.foldl_cons] at hs
      have h2 := stAll_fr ks (setF F j (stl (pk ps))) ps.tail j h
      have hs' : (stAll (setF F j (stl (pk ps))) ks ps.tail).1.l[j]? = some s := hs
      rw [h2, setF_get, if_pos rfl] at hs'
      cases hg : F.l[j]? with
      | none => rw [hg] at hs'; cases hs'
      | some s0 => rw [hg] at hs'; simp at hs'; rw [← hs']; rfl
/-- how long a file is behind its last sector that is there -/
def lastN (l : List Sct) : Nat → Nat
  | 0 => 0
  | n + 1 => if (l[n]?.bind (·.la)).isSome then n + 1 else lastN l n
theorem lastN_le (l : List Sct) (n : Nat) : lastN l n ≤ n := by
  induction n with
  | zero => exact Nat.le_refl _
  | succ n ih => unfold lastN; split; exact Nat.le_refl _; omega
theorem lastN_none (l : List Sct) (n k : Nat) (h1 : lastN l n ≤ k) (h2 : k < n) : (l[k]?.bind (·.la)).isSome = false := by
  induction n with
  | zero => omega
  | succ n ih =>
    unfold lastN at h1
    split at h1
    · omega
    · rename_i hn
      by_cases e : k = n
      · subst e; simpa using hn
      · exact ih h1 (by omega)
def bd (n : Nat) (F : Fil) (k : Nat) : Fil := if k < n ∧ (F.l[k]?.bind (·.la)).isSome = false then setF F k (fun s => { s with la := some (zSec, true) }) else F
def bdAll (n : Nat) (F : Fil) (ks : List Nat) : Fil := ks.foldl (bd n) F
theorem bdAll_snoc (n : Nat) (F : Fil) (ks : List Nat) (k : Nat) : bdAll n F (ks ++ [k]) = bd n (bdAll n F ks) k := by simp [bdAll]
theorem bd_length (n : Nat) (F : Fil) (k : Nat) : (bd n F k).l.length = F.l.length := by unfold bd; split; exact setF_length _ _ _; rfl
theorem bdAll_length (n : Nat) (ks : List Nat) (F : Fil) : (bdAll n F ks).l.length = F.l.length := by
  induction ks generalizing F with
  | nil => rfl
  | cons k ks ih => unfold bdAll; rw [List.foldl_cons]; exact (ih _).trans (bd_length _ _ _)
theorem bd_get (n : Nat) (F : Fil) (k j : Nat) (h : n ≤ j ∨ j ≠ k) : (bd n F k).l[j]? = F.l[j]? := by
  unfold bd
  split
  · rename_i hk
    rw [setF_get, if_neg (by omega)]
  · rfl
theorem bdAll_get (n : Nat) (ks : List Nat) (F : Fil) (j : Nat) (h : n ≤ j) : (bdAll n F ks).l[j]? = F.l[j]? := by
  induction ks generalizing F with
  | nil => rfl
  | cons k ks ih => unfold bdAll; rw [List.foldl_cons]; exact (ih _).trans (bd_get _ _ _ _ (.inl h))
theorem bd_fr (n : Nat) (F : Fil) (k j : Nat) : ((bd n F k).l[j]?.bind (·.fr)) = (F.l[j]?.bind (·.fr)) := by
  unfold bd
  split
  · rw [setF_get]
    by_cases e : j = k
    · rw [if_pos e]; cases F.l[j]? <;> rfl
    · rw [if_neg e]
  · rfl
theorem bdAll_fr (n : Nat) (ks : List Nat) (F : Fil) (j : Nat) : ((bdAll n F ks).l[j]?.bind (·.fr)) = (F.l[j]?.bind (·.fr)) := by
  induction ks generalizing F with
  | nil => rfl
  | cons k ks ih => unfold bdAll; rw [List.foldl_cons]; exact (ih _).trans (bd_fr _ _ _ _)
theorem bd_la_some (n : Nat) (F : Fil) (k j : Nat) (h : (F.l[j]?.bind (·.la)).isSome = true) : ((bd n F k).l[j]?.bind (·.la)) = (F.l[j]?.bind (·.la)) := by
  unfold bd
  split
  · rename_i hk
    rw [setF_get]
    by_cases e : j = k
    · subst e; rw [hk.2] at h; cases h
    · rw [if_neg e]
  · rfl
theorem bdAll_la_some (n : Nat) (ks : List Nat) (F : Fil) (j : Nat) (h : (F.l[j]?.bind (·.la)).isSome = true) : ((bdAll n F ks).l[j]?.bind (·.la)) = (F.l[j]?.bind (·.la)) := by
  induction ks generalizing F with
  | nil => rfl
  | cons k ks ih =>
    unfold bdAll; rw [List.foldl_cons]
    have e := bd_la_some n F k j h
    exact (ih (bd n F k) (by rw [e]; exact h)).trans e
theorem bdAll_in (n : Nat) (ks : List Nat) (F : Fil) (j : Nat) (hj : j ∈ ks) (hn : j < n) (hl : j < F.l.length) : ((bdAll n F ks).l[j]?.bind (·.la)).isSome = true := by
  induction ks generalizing F with
  | nil => cases hj
  | cons k ks ih =>
    unfold bdAll; rw [List.foldl_cons]
    by_cases e : j = k
    · subst e
      have h1 : ((bd n F j).l[j]?.bind (·.la)).isSome = true := by
        by_cases h : (F.l[j]?.bind (·.la)).isSome = true
        · rw [bd_la_some n F j j h]; exact h
        · unfold bd
          rw [if_pos ⟨hn, by simpa using h⟩, setF_get, if_pos rfl, List.getElem?_eq_getElem hl]
          rfl
      exact (congrArg Option.isSome (bdAll_la_some n ks _ j h1)).trans h1
    · exact ih _ (by simpa [e] using hj) (by rw [bd_length]; exact hl)
/-- a file behind a crash, ks its fresh sectors, settled -/
def shF (F : Fil) (ks : List Nat) : Fil := { l := (bdAll (lastN F.l F.l.length) F ks).l.take (lastN F.l F.l.length), wr := [] }
def crStep (Sp : Dv × List Int) (nm : Nm) : Dv × List Int :=
  match fnd Sp.1.fs nm with
  | some F => (Sp.1.put nm (shF (stAll F (sortN F.wr) Sp.2).1 (sortN F.wr)), (stAll F (sortN F.wr) Sp.2).2)
  | none => Sp
def crAll (S : Dv) (ns : List Nm) (ps : List Int) : Dv × List Int := ns.foldl crStep (S, ps)
theorem crAll_snoc (S : Dv) (ns : List Nm) (nm : Nm) (ps : List Int) : crAll S (ns ++ [nm]) ps = crStep (crAll S ns ps) nm := by simp [crAll]
def crash (S : Dv) (ps : List Int) : Dv := { (crAll S (S.fs.map (·.1)) ps).1 with left := -1 }
theorem shF_length (F : Fil) (ks : List Nat) : (shF F ks).l.length = lastN F.l F.l.length := by
  have h1 := lastN_le F.l F.l.length
  have h2 := bdAll_length (lastN F.l F.l.length) ks F
  unfold shF
  simp only [List.length_take]
  omega
theorem shF_get (F : Fil) (ks : List Nat) (k : Nat) : (shF F ks).l[k]? = if k < lastN F.l F.l.length then (bdAll (lastN F.l F.l.length) F ks).l[k]? else none := by
  unfold shF
  simp only [List.getElem?_take]
theorem Ok.put {S : Dv} (h : Ok S) {nm : Nm} {F F' : Fil} (hf : fnd S.fs nm = some F) (hu : (S.put nm F').used ≤ S.most) (ho : F'.wr.Nodup ∧ ∀ k, k ∈ F'.wr ↔ ∃ s, F'.l[k]? = some s ∧ s.fr.isSome = true)
    (hl : ∀ s ∈ F'.l, s.fr.isSome = true ∨ s.la.isSome = true) : Ok (S.put nm F') where
  rising := rising_ins h.rising nm F'
  names := fun y G hy => by
    rw [fnd_put] at hy
    by_cases e : nm = y
    · subst e; exact h.names _ F hf
    · rw [if_neg e] at hy; exact h.names y G hy
  few := by
    have := length_ins_yes h.rising F' hf
    show (ins S.fs nm F').length ≤ _
    rw [this]; exact h.few
  room := hu
  most := h.most
  left := h.left
  once := fun y G hy => by
    rw [fnd_put] at hy
    by_cases e : nm = y
    · rw [if_pos e] at hy; cases hy; exact ho
    · rw [if_neg e] at hy; exact h.once y G hy
  full := fun y G hy => by
    rw [fnd_put] at hy
    by_cases e : nm = y
    · rw [if_pos e] at hy; cases hy; exact hl
    · rw [if_neg e] at hy; exact h.full y G hy
theorem used_le_put {S : Dv} (h : Ok S) {nm : Nm} {F F' : Fil} (hf : fnd S.fs nm = some F) (hl : F'.l.length ≤ F.l.length) : (S.put nm F').used ≤ S.most := by
  have := used_put h.rising nm F'
  have e : S.len nm = F.l.length := by simp [Dv.len, hf]
  have := h.room
  omega
theorem fil_le {S : Dv} (h : Ok S) {nm : Nm} {F : Fil} (hf : fnd S.fs nm = some F) : F.l.length ≤ S.used ∧ F.l.length ≤ 100000 := by
  have h1 := tot_fnd (fun F : Fil => F.l.length) nm hf
  have h2 := h.room
  have h3 := h.most
  have h4 : S.used = tot (fun F : Fil => F.l.length) S.fs := rfl
  omega
theorem wr_le {S : Dv} (h : Ok S) {nm : Nm} {F : Fil} (hf : fnd S.fs nm = some F) : F.wr.length ≤ 100000 := by
  obtain ⟨h1, h2⟩ := h.once nm F hf
  have h3 := nodup_le F.wr (List.range F.l.length) h1 (fun k hk => by
    obtain ⟨s, hs, _⟩ := (h2 k).1 hk
    exact List.mem_range.2 (List.getElem?_eq_some_iff.1 hs).1)
  have := (fil_le h hf).2
  simp at h3
  omega
theorem crStep_ok {Sp : Dv × List Int} (h : Ok Sp.1) (nm : Nm) : Ok (crStep Sp nm).1 := by
  unfold crStep
  cases hf : fnd Sp.1.fs nm with
  | none => exact h
  | some F =>
    have hn := lastN_le (stAll F (sortN F.wr) Sp.2).1.l (stAll F (sortN F.wr) Sp.2).1.l.length
    have hl := stAll_length (sortN F.wr) F Sp.2
    refine h.put hf (used_le_put h hf ?_) ⟨List.nodup_nil, fun k => ⟨(fun hk => by cases hk), ?_⟩⟩ ?_
    · rw [shF_length]; omega
    · rintro ⟨s, hs, hs2⟩
      exfalso
      rw [shF_get] at hs
      split at hs
      · have h1 := bdAll_fr (lastN (stAll F (sortN F.wr) Sp.2).1.l (stAll F (sortN F.wr) Sp.2).1.l.length) (sortN F.wr) (stAll F (sortN F.wr) Sp.2).1 k
        rw [hs] at h1
        simp only [Option.bind_some] at h1
        rw [h1] at hs2
        cases hg : (stAll F (sortN F.wr) Sp.2).1.l[k]? with
        | none => rw [hg] at hs2; cases hs2
        | some s0 =>
          rw [hg] at hs2
          by_cases hk : k ∈ sortN F.wr
          · rw [Option.bind_some, stAll_none _ _ _ k hk s0 hg] at hs2; cases hs2
          · rw [stAll_fr _ _ _ k hk] at hg
            exact hk ((sortN_perm F.wr).mem_iff.2 (((h.once nm F hf).2 k).2 ⟨s0, hg, hs2⟩))
      · cases hs
    · intro s hs
      right
      obtain ⟨k, hk, rfl⟩ := List.getElem_of_mem hs
      have hk2 := hk
      rw [shF_length] at hk2
      have hg := shF_get (stAll F (sortN F.wr) Sp.2).1 (sortN F.wr) k
      rw [if_pos hk2, List.getElem?_eq_getElem hk] at hg
      have hklt : k < (stAll F (sortN F.wr) Sp.2).1.l.length := by omega
      by_cases hm : k ∈ sortN F.wr
      · have := bdAll_in (lastN (stAll F (sortN F.wr) Sp.2).1.l (stAll F (sortN F.wr) Sp.2).1.l.length) (sortN F.wr) (stAll F (sortN F.wr) Sp.2).1 k hm hk2 hklt
        rw [← hg] at this
        simpa using this
      · have h0 := stAll_fr (sortN F.wr) F Sp.2 k hm
        have hkF : k < F.l.length := by omega
        have hla : ((stAll F (sortN F.wr) Sp.2).1.l[k]?.bind (·.la)).isSome = true := by
          rw [h0, List.getElem?_eq_getElem hkF, Option.bind_some]
          rcases h.full nm F hf _ (List.getElem_mem hkF) with h1 | h1
          · exact absurd ((sortN_perm F.wr).mem_iff.2 (((h.once nm F hf).2 k).2 ⟨_, List.getElem?_eq_getElem hkF, h1⟩)) hm
          · exact h1
        have := bdAll_la_some (lastN (stAll F (sortN F.wr) Sp.2).1.l (stAll F (sortN F.wr) Sp.2).1.l.length) (sortN F.wr) _ k hla
        rw [← hg] at this
        simp only [Option.bind_some] at this
        rw [this]; exact hla
theorem crAll_ok {S : Dv} (h : Ok S) (ns : List Nm) (ps : List Int) : Ok (crAll S ns ps).1 := by
  unfold crAll
  induction ns generalizing S ps with
  | nil => exact h
  | cons n ns ih =>
    rw [List.foldl_cons]
    have := crStep_ok (Sp := (S, ps)) h n
    exact ih (S := (crStep (S, ps) n).1) this (crStep (S, ps) n).2
end Go.Proofs.Ytcmffifehpbjnaa
