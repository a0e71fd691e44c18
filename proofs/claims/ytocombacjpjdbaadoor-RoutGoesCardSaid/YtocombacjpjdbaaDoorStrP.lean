/- Words of a text as the library splits them: plain. No program is imported. -/
import Derived.Test.YtocombacjpjdbaaDoorTopcS
import Derived.Lib.Split
import Derived.Lib.SplitLaws
namespace Go.Proofs.YtocombacjpjdbaaDoor
open Go.Lib
set_option linter.unusedSimpArgs false
set_option linter.unusedVariables false

theorem index_one (c : UInt8) : ∀ l : List UInt8, index l [c] = indexByte l c
  | [] => rfl
  | b :: l => by
    rw [index, indexByte, ← index_one c l]
    by_cases h : b = c
    · subst h; simp [List.isPrefixOf]
    · rw [show ([c] : List UInt8).isPrefixOf (b :: l) = false from by simp [List.isPrefixOf, Ne.symm h], if_neg (by simp [h])]
      simp [h]
theorem index_point_cons (b : UInt8) (l : List UInt8) : index (b :: l) [46] = if b = 46 then 0 else if index l [46] = -1 then -1 else index l [46] + 1 := by
  rw [index]
  by_cases h : b = 46
  · subst h; simp [List.isPrefixOf]
  · rw [show ([46] : List UInt8).isPrefixOf (b :: l) = false from by simp [List.isPrefixOf, Ne.symm h], if_neg h]
    simp
theorem splitK_words : ∀ l : List UInt8, splitK [46] 0 (count l [46]) l = wsL l
  | [] => by rw [count_one]; rfl
  | b :: l => by
    have ih := splitK_words l
    by_cases h : b = 46
    · subst h
      rw [count_cons_eq, Nat.add_comm, splitK, index_point_cons, if_pos rfl, if_neg (by decide), wsL_point, ← ih]
      simp
    · rw [count_cons_ne b 46 l h, wsL_other h, ← ih]
      cases hk : count l [46] with
      | zero => rfl
      | succ k =>
        have hm : index l [46] ≠ -1 := fun e => by rw [count_miss e] at hk; cases hk
        have hge := index_ge l [46]
        obtain ⟨i, hi⟩ : ∃ i : Nat, index l [46] = (i : Int) := ⟨(index l [46]).toNat, by omega⟩
        rw [splitK, splitK, index_point_cons, if_neg h, if_neg hm, hi]
        rw [if_neg (by simp; omega), if_neg (by simp)]
        have e : ((i : Int) + 1).toNat = i + 1 := by omega
        rw [e, Int.toNat_natCast]
        simp [Nat.add_right_comm]
/-- texts as cells -/
def S8 (l : List (List UInt8)) : List Value := l.map fun s => Value.string ⟨s.toArray⟩
theorem S8_length (l : List (List UInt8)) : (S8 l).length = l.length := by simp [S8]
theorem S8_get (l : List (List UInt8)) (j : Nat) (h : j < l.length) : (S8 l)[j]? = some (.string ⟨l[j].toArray⟩) := by
  simp [S8, List.getElem?_map, List.getElem?_eq_getElem h]
theorem S8_one (l : List (List UInt8)) : ∀ u ∈ S8 l, u.oneCell' = true := by
  intro u hu
  simp only [S8, List.mem_map] at hu
  obtain ⟨c, _, rfl⟩ := hu
  rfl
theorem splitB_words (s : List UInt8) : (splitB ⟨#[46]⟩ 0 (countB ⟨s.toArray⟩ ⟨#[46]⟩) ⟨s.toArray⟩).map Value.string = S8 (wsL s) := by
  have e : S8 ((splitB ⟨#[46]⟩ 0 (countB ⟨s.toArray⟩ ⟨#[46]⟩) ⟨s.toArray⟩).map (·.data.toList)) = (splitB ⟨#[46]⟩ 0 (countB ⟨s.toArray⟩ ⟨#[46]⟩) ⟨s.toArray⟩).map Value.string := by
    rw [S8, List.map_map]
    rfl
  rw [← e, splitB_data]
  have c : countB ⟨s.toArray⟩ ⟨#[46]⟩ = count s [46] := rfl
  rw [c, splitK_words]
theorem countB_words (s : List UInt8) : countB ⟨s.toArray⟩ ⟨#[46]⟩ + 1 = (wsL s).length := by
  rw [wsL_length]
  exact congrArg (· + 1) (count_one 46 s)
end Go.Proofs.YtocombacjpjdbaaDoor
