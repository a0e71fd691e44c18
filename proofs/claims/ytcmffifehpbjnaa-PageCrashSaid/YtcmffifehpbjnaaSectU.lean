/- Layer 7, plain: a device of one file. -/
import Derived.Test.YtcmffifehpbjnaaSectY0
namespace Go.Proofs.Ytcmffifehpbjnaa
open Go.RowKit Go.Maps
set_option maxRecDepth 100000
set_option linter.unusedSimpArgs false
set_option linter.unusedVariables false
def one (mo : Nat) (le : Int) (nm : Nm) (F : Fil) : Dv := ⟨mo, le, [(nm, F)]⟩
def tkD (le : Int) : Int := if 0 < le then le - 1 else le
section
variable {mo : Nat} {le : Int} {nm : Nm} {F G : Fil}
theorem one_fnd : fnd (one mo le nm F).fs nm = some F := by simp [one, fnd]
theorem one_put : (one mo le nm F).put nm G = one mo le nm G := by simp [one, Dv.put, ins]
theorem one_used : (one mo le nm F).used = F.l.length := by simp [one, Dv.used, tot]
theorem one_len : (one mo le nm F).len nm = F.l.length := by simp [Dv.len, one_fnd]
theorem one_tick : (one mo le nm F).tick = one mo (tkD le) nm F := rfl
theorem one_write (hle : le ≠ 0) (k : Nat) (hk : k ≤ F.l.length) (hm : F.l.length < mo) (x : Sec) : pWrite (one mo le nm F) nm k x = (0, one mo (tkD le) nm (wrF F k x)) := by
  unfold pWrite
  rw [if_neg (show ¬ (one mo le nm F).left = 0 from hle), one_fnd]
  simp only []
  rw [if_neg (by omega), if_neg (by rw [one_used]; show ¬ (_ ∧ mo ≤ _); omega), one_put, one_tick]
  rfl
theorem one_sync (hle : le ≠ 0) : pSync (one mo le nm F) nm = (0, one mo (tkD le) nm (syF F)) := by
  unfold pSync
  rw [if_neg (show ¬ (one mo le nm F).left = 0 from hle), one_fnd]
  simp only []
  rw [one_put, one_tick]
theorem one_crash (ps : List Int) : crash (one mo le nm F) ps = one mo (-1) nm (shF (stAll F (sortN F.wr) ps).1 (sortN F.wr)) := by
  unfold crash crAll
  show ({ (crStep (one mo le nm F, ps) nm).1 with left := -1 } : Dv) = _
  unfold crStep
  simp only [one_fnd, one_put]
  rfl
theorem one_make (nm' : Nm) (hne : nm ≠ nm') (h1 : 1 ≤ nm'.length ∧ nm'.length ≤ 20) (hle : le ≠ 0) : ∃ S', pMake (one mo le nm F) nm' = (0, S') := by
  unfold pMake
  rw [if_neg (show ¬ (one mo le nm F).left = 0 from hle), if_neg (by simpa using h1), if_neg (by simp [one, fnd, hne])]
  exact ⟨_, rfl⟩
end
theorem pWrite_pow {S : Dv} (h : S.left = 0) (nm : Nm) (k : Int) (x : Sec) : pWrite S nm k x = (8, S) := by simp [pWrite, h]
theorem pSync_pow {S : Dv} (h : S.left = 0) (nm : Nm) : pSync S nm = (8, S) := by simp [pSync, h]
theorem pMake_pow {S : Dv} (h : S.left = 0) (nm : Nm) : pMake S nm = (8, S) := by simp [pMake, h]
theorem pDrop_pow {S : Dv} (h : S.left = 0) (nm : Nm) : pDrop S nm = (8, S) := by simp [pDrop, h]
theorem lastN_all {l : List Sct} {n : Nat} (h : ∀ k, k + 1 = n → (l[k]?.bind (·.la)).isSome = true) : lastN l n = n := by
  cases n with
  | zero => rfl
  | succ n => unfold lastN; rw [if_pos (h n rfl)]
/-- each of the picks that settle takes what was written -/
theorem stAll_ones (ks : List Nat) (hn : ks.Nodup) (F : Fil) (ps : List Int) (hp : ∀ p ∈ ps, p % 3 = 1) (hl : ks.length ≤ ps.length) (j : Nat) (hj : j ∈ ks) (s : Sct) (hs : F.l[j]? = some s) :
    (stAll F ks ps).1.l[j]? = some { fr := none, la := s.fr.map fun x => (x, false) } := by
  induction ks generalizing F ps with
  | nil => cases hj
  | cons k ks ih =>
    obtain ⟨n1, n2⟩ := List.nodup_cons.1 hn
    cases ps with
    | nil => simp at hl
    | cons p ps =>
      have hpk : p % 3 = 1 := hp p (by simp)
      unfold stAll
      rw [List.foldl_cons]
      show (stAll (setF F k (stl (p % 3))) ks ps).1.l[j]? = _
      by_cases e : j = k
      · subst e
        rw [stAll_fr _ _ _ _ n1, setF_get, if_pos rfl, hs, hpk]
        simp [stl]
      · refine ih n2 _ _ (fun q hq => hp q (by simp [hq])) (by simpa using hl) (by simpa [e] using hj) ?_
        rw [setF_get, if_neg e, hs]
theorem crash_ones {mo : Nat} {le : Int} {nm : Nm} {F : Fil} (hO : Ok (one mo le nm F)) (ps : List Int) (hp : ∀ p ∈ ps, p % 3 = 1) (hl : F.l.length ≤ ps.length) :
    ∃ F', crash (one mo le nm F) ps = one mo (-1) nm F' ∧ F'.l.length = F.l.length := by
  refine ⟨_, one_crash ps, ?_⟩
  obtain ⟨o1, o2⟩ := hO.once nm F one_fnd
  have hperm := sortN_perm F.wr
  have hlen : (sortN F.wr).length ≤ ps.length := by
    rw [hperm.length_eq]
    have h3 := nodup_le F.wr (List.range F.l.length) o1 (fun k hk => by
      obtain ⟨s, hs, _⟩ := (o2 k).1 hk
      exact List.mem_range.2 (List.getElem?_eq_some_iff.1 hs).1)
    simp at h3
    omega
  rw [shF_length, lastN_all, stAll_length]
  intro k hk
  rw [stAll_length] at hk
  have hkl : k < F.l.length := by omega
  have hg := List.getElem?_eq_getElem hkl
  by_cases hm : k ∈ sortN F.wr
  · rw [stAll_ones _ (hperm.nodup_iff.2 o1) F ps hp hlen k hm _ hg]
    obtain ⟨s, hs, hs2⟩ := (o2 k).1 (hperm.mem_iff.1 hm)
    rw [hg] at hs
    cases hs
    simpa using hs2
  · rw [stAll_fr _ _ _ _ hm, hg]
    rcases hO.full nm F one_fnd _ (List.getElem_mem hkl) with h1 | h1
    · exact absurd (hperm.mem_iff.2 ((o2 k).2 ⟨_, hg, h1⟩)) hm
    · exact h1
end Go.Proofs.Ytcmffifehpbjnaa
