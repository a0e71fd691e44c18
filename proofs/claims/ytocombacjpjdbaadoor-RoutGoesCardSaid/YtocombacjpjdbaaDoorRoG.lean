/- Layer 16: what the law RoutGoes wants beside. -/
import Derived.Test.YtocombacjpjdbaaDoorRoD
import Derived.Test.YtocombacjpjdbaaDoorRoW
namespace Go.Proofs.YtocombacjpjdbaaDoor
open Go.RowKit Go.Maps Go.Sort Go.Shelf
set_option linter.unusedSimpArgs false
set_option linter.unusedVariables false
/-- how many of the first j keep p -/
def cnt (p : Bnd → Bool) (B : List Bnd) (j : Nat) : Nat := ((B.take j).filter p).length
theorem cnt_zero (p : Bnd → Bool) (B : List Bnd) : cnt p B 0 = 0 := by simp [cnt]
theorem cnt_le (p : Bnd → Bool) (B : List Bnd) (j : Nat) : cnt p B j ≤ j := Nat.le_trans (List.length_filter_le _ _) (List.length_take_le _ _)
theorem cnt_next (p : Bnd → Bool) (B : List Bnd) (j : Nat) (h : j < B.length) : cnt p B (j + 1) = cnt p B j + if p B[j] = true then 1 else 0 := by
  unfold cnt
  rw [List.take_succ_eq_append_getElem h, List.filter_append, List.length_append]
  by_cases e : p B[j] = true <;> simp [e]
theorem cnt_all (p : Bnd → Bool) (B : List Bnd) : cnt p B B.length = (B.filter p).length := by simp [cnt]
theorem cnt_at (p : Bnd → Bool) (B : List Bnd) (j : Nat) (h : j < B.length) (hp : p B[j] = true) : ∃ hl : cnt p B j < (B.filter p).length, (B.filter p)[cnt p B j] = B[j] := by
  have e : B = B.take j ++ (B[j] :: B.drop (j + 1)) := by
    rw [← List.drop_eq_getElem_cons h, List.take_append_drop]
  have e2 : B.filter p = (B.take j).filter p ++ (B[j] :: (B.drop (j + 1)).filter p) := by
    conv => lhs; rw [e]
    rw [List.filter_append, List.filter_cons, if_pos hp]
  have hl : cnt p B j < (B.filter p).length := by
    rw [e2, List.length_append]; unfold cnt; simp
  refine ⟨hl, ?_⟩
  simp only [e2]
  unfold cnt
  rw [List.getElem_append_right (Nat.le_refl _)]
  simp
theorem own_over {w w' : World} {base n size j : Nat} {e : TypeId} {v : Value} {xs : List Value} (h : w.ownsRow base e size v n xs) (hg : w.grownBy w' (some j)) (hj : j < base) : w'.ownsRow base e size v n xs :=
  own_block16 h (fun i hi => hg.block i (h.lt i hi).2 (fun e => by have h1 := (h.lt i hi).1; have h2 := Option.some.inj e; omega))
theorem own_under {w w' : World} {base n size : Nat} {e : TypeId} {v : Value} {xs : List Value} (h : w.ownsRow base e size v n xs) (hb : Below w.heap.size w w') : w'.ownsRow base e size v n xs :=
  own_block16 h (fun i hi => hb.block i (h.lt i hi).2)
/-- the names, one taken away -/
theorem drop_names (k : Nat) : (dropX (nm3 k) rt0.X).length = 3 := by
  rcases m3 k with h | h | h
  · have e : nm3 k = nDirect := by simp [nm3, h]
    rw [e]; decide
  · have e : nm3 k = nFanout := by simp [nm3, h]
    rw [e]; decide
  · have e : nm3 k = nTopic := by simp [nm3, h]
    rw [e]; decide
end Go.Proofs.YtocombacjpjdbaaDoor
