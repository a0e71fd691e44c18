/- Layer 7, plain: what is synced lasts; what is written behind it may be lost. -/
import Derived.Test.YtloomcompnopkaaSectE0
namespace Go.Proofs.Ytloomcompnopkaa
open Go.RowKit Go.Maps
set_option maxRecDepth 100000
set_option linter.unusedSimpArgs false
set_option linter.unusedVariables false
/-- whichever sectors are settled, in whatever order: each by one of the three -/
theorem stAll_some (ks : List Nat) (hn : ks.Nodup) (F : Fil) (ps : List Int) (j : Nat) (hj : j ∈ ks) (s : Sct) (hs : F.l[j]? = some s) :
    ∃ what : Int, (what = 0 ∨ what = 1 ∨ what = 2) ∧ (stAll F ks ps).1.l[j]? = some (stl what s) := by
  induction ks generalizing F ps with
  | nil => cases hj
  | cons k ks ih =>
    obtain ⟨n1, n2⟩ := List.nodup_cons.1 hn
    unfold stAll
    rw [List.foldl_cons]
    show ∃ what : Int, (what = 0 ∨ what = 1 ∨ what = 2) ∧ (stAll (setF F k (stl (pk ps))) ks ps.tail).1.l[j]? = _
    by_cases e : j = k
    · subst e
      refine ⟨pk ps, pk_three ps, ?_⟩
      rw [stAll_fr _ _ _ _ n1, setF_get, if_pos rfl, hs]
      rfl
    · refine ih n2 _ _ (by simpa [e] using hj) ?_
      rw [setF_get, if_neg e, hs]
/-- a sector of which the first n were synced, and some written again -/
def agS (n : Nat) (ov : Nat → Bool) (k : Nat) : Sct := ⟨if ov k then some (secI (100 + k)) else none, if k < n then some (secI k, false) else none⟩
def AgF (n long : Nat) (ov : Nat → Bool) (F : Fil) : Prop := F.l.length = long ∧ n ≤ long ∧ (∀ k, k < long → F.l[k]? = some (agS n ov k)) ∧ ∀ k, n ≤ k → k < long → ov k = true
/-- what may stand of it behind a crash -/
def agY (n : Nat) (ov : Nat → Bool) (k : Nat) (y : Sec × Bool) : Prop :=
  (ov k = false ∧ k < n ∧ y = (secI k, false)) ∨ (ov k = true ∧ (y = (zSec, true) ∨ y = (secI (100 + k), false) ∨ (k < n ∧ y = (secI k, false))))
theorem agF_sync (n : Nat) : AgF n n (fun _ => false) (syF (endF n)) := by
  refine ⟨by simp [syF, endF], Nat.le_refl n, fun k hk => ?_, fun k h1 h2 => absurd h2 (by omega)⟩
  simp [syF, endF, hk, agS, syS]
theorem agF_write {n long : Nat} {ov : Nat → Bool} {F : Fil} (h : AgF n long ov F) (k : Nat) (hk : k ≤ long) :
    AgF n (max long (k + 1)) (fun j => if j = k then true else ov j) (wrF F k (secI (100 + k))) := by
  obtain ⟨h1, h2, h3, h4⟩ := h
  refine ⟨?_, by omega, fun j hj => ?_, fun j hj1 hj2 => ?_⟩
  · rw [wrF_length]; split <;> omega
  · rw [wrF_get F k _ (by omega)]
    by_cases e : j = k
    · subst e
      rw [if_pos rfl]
      unfold agS
      simp only [if_true]
      congr 2
      rcases Nat.lt_or_ge j long with hl | hl
      · rw [h3 j hl]; rfl
      · rw [List.getElem?_eq_none (by omega), if_neg (by omega)]; rfl
    · rw [if_neg e, h3 j (by omega)]
      unfold agS
      simp only [if_neg e]
  · by_cases e : j = k
    · simp [e]
    · simp only [if_neg e]; exact h4 j hj1 (by omega)
theorem lastN_ge (l : List Sct) (n m : Nat) (hnm : n ≤ m) (h : ∀ k, k < n → (l[k]?.bind (·.la)).isSome = true) : n ≤ lastN l m := by
  induction m with
  | zero => omega
  | succ m ih =>
    unfold lastN
    split
    · omega
    · rename_i hn
      by_cases e : n = m + 1
      · exact absurd (h m (by omega)) hn
      · exact ih (by omega)
theorem crash_ag {mo : Nat} {le : Int} {nm : Nm} {F : Fil} {n long : Nat} {ov : Nat → Bool} (hO : Ok (one mo le nm F)) (h : AgF n long ov F) (ps : List Int) :
    ∃ F', crash (one mo le nm F) ps = one mo (-1) nm F' ∧ n ≤ F'.l.length ∧ F'.l.length ≤ long ∧ ∀ k, k < F'.l.length → ∃ y, agY n ov k y ∧ F'.l[k]? = some ⟨none, some y⟩ := by
  obtain ⟨h1, h2, h3, h4⟩ := h
  obtain ⟨o1, o2⟩ := hO.once nm F one_fnd
  have hperm := sortN_perm F.wr
  have hnd := hperm.nodup_iff.2 o1
  have hmem : ∀ k, k < long → (k ∈ sortN F.wr ↔ ov k = true) := fun k hk => by
    rw [hperm.mem_iff, o2, h3 k hk]
    unfold agS
    constructor
    · rintro ⟨s, hs, hs2⟩
      cases hs
      cases hov : ov k with
      | true => rfl
      | false => simp [hov] at hs2
    · intro hov
      exact ⟨_, rfl, by simp [hov]⟩
  refine ⟨_, one_crash ps, ?_⟩
  generalize hG : (stAll F (sortN F.wr) ps).1 = G
  have hGl : G.l.length = long := by rw [← hG, stAll_length, h1]
  have hGa : ∀ k, k < long → ∃ s, G.l[k]? = some s ∧ s.fr = none ∧ ((ov k = false ∧ s.la = some (secI k, false)) ∨ (ov k = true ∧ (s.la = some (zSec, true) ∨ s.la = some (secI (100 + k), false) ∨ (k < n ∧ s.la = some (secI k, false)) ∨ (n ≤ k ∧ s.la = none)))) := by
    intro k hk
    cases hov : ov k with
    | false =>
      have hkn : k < n := by
        rcases Nat.lt_or_ge k n with hh | hh
        · exact hh
        · rw [h4 k hh hk] at hov; cases hov
      have hnm : k ∉ sortN F.wr := fun hm => by rw [(hmem k hk).1 hm] at hov; cases hov
      refine ⟨agS n ov k, by rw [← hG, stAll_fr _ _ _ _ hnm, h3 k hk], by simp [agS, hov], .inl ⟨rfl, by simp [agS, hkn]⟩⟩
    | true =>
      obtain ⟨what, hw, hs⟩ := stAll_some (sortN F.wr) hnd F ps k ((hmem k hk).2 hov) _ (h3 k hk)
      rw [hG] at hs
      refine ⟨_, hs, rfl, .inr ⟨rfl, ?_⟩⟩
      rcases hw with rfl | rfl | rfl
      · rcases Nat.lt_or_ge k n with hh | hh
        · exact .inr (.inr (.inl ⟨hh, by simp [stl, agS, hh]⟩))
        · exact .inr (.inr (.inr ⟨hh, by simp [stl, agS, show ¬ k < n by omega]⟩))
      · exact .inr (.inl (by simp [stl, agS, hov]))
      · exact .inl (by simp [stl]; rfl)
  have hge : n ≤ lastN G.l G.l.length := lastN_ge _ _ _ (by omega) (fun k hk => by
    obtain ⟨s, hs, _, hc⟩ := hGa k (by omega)
    rw [hs]
    rcases hc with ⟨_, hc⟩ | ⟨_, hc | hc | ⟨_, hc⟩ | ⟨hh, _⟩⟩
    · simp [hc]
    · simp [hc]
    · simp [hc]
    · simp [hc]
    · omega)
  have hle := lastN_le G.l G.l.length
  refine ⟨by rw [shF_length]; exact hge, by rw [shF_length]; omega, fun k hk => ?_⟩
  rw [shF_length] at hk
  have hkl : k < long := by omega
  obtain ⟨s, hs, hfr, hc⟩ := hGa k hkl
  have hbl : (bdAll (lastN G.l G.l.length) G (sortN F.wr)).l.length = long := (bdAll_length _ _ _).trans hGl
  have hkb : k < (bdAll (lastN G.l G.l.length) G (sortN F.wr)).l.length := by omega
  have hf1 := bdAll_fr (lastN G.l G.l.length) (sortN F.wr) G k
  rw [hs, List.getElem?_eq_getElem hkb] at hf1
  have hfr2 : ((bdAll (lastN G.l G.l.length) G (sortN F.wr)).l[k]).fr = none := hf1.trans hfr
  have key : ∀ y, ((bdAll (lastN G.l G.l.length) G (sortN F.wr)).l[k]?.bind (·.la)) = some y → (shF G (sortN F.wr)).l[k]? = some ⟨none, some y⟩ := by
    intro y hy
    rw [shF_get, if_pos hk]
    rw [List.getElem?_eq_getElem hkb] at hy ⊢
    congr 1
    rw [← hfr2, ← hy]
    rfl
  have same : ∀ y, s.la = some y → ((bdAll (lastN G.l G.l.length) G (sortN F.wr)).l[k]?.bind (·.la)) = some y := by
    intro y hy
    rw [bdAll_la_some _ _ _ k (by rw [hs]; simp [hy]), hs]
    simp [hy]
  rcases hc with ⟨hov, hc⟩ | ⟨hov, hc | hc | ⟨hn, hc⟩ | ⟨hn, hc⟩⟩
  · refine ⟨_, .inl ⟨hov, ?_, rfl⟩, key _ (same _ hc)⟩
    rcases Nat.lt_or_ge k n with hh | hh
    · exact hh
    · rw [h4 k hh hkl] at hov; cases hov
  · exact ⟨_, .inr ⟨hov, .inl rfl⟩, key _ (same _ hc)⟩
  · exact ⟨_, .inr ⟨hov, .inr (.inl rfl)⟩, key _ (same _ hc)⟩
  · exact ⟨_, .inr ⟨hov, .inr (.inr ⟨hn, rfl⟩)⟩, key _ (same _ hc)⟩
  · exact ⟨_, .inr ⟨hov, .inl rfl⟩, key _ (bdAll_fill _ _ _ k ((hmem k hkl).2 hov) hk (by omega) (by rw [hs]; simp [hc]))⟩
end Go.Proofs.Ytloomcompnopkaa
