/- Layer 10, plain: a node whose rows rise, of one. -/
import Derived.Test.YtdjkkppefgppmaaNodeJ
namespace Go.Proofs.Ytdjkkppefgppmaa
open Go.RowKit
set_option maxRecDepth 100000

/-- a row before it is held against the last one; then -/
def tmK (r : Rw) : List UInt8 := 107 :: r.key.take 100
def tmV (leaf : Bool) (r : Rw) : List UInt8 := if leaf then r.val.take 20 else []
def tmP (leaf : Bool) (r : Rw) : Int := if leaf then 0 else 2 + r.page % 65536
def tmKey (acc : List Rw) (r : Rw) : List UInt8 := if ltL (lastK [] acc) (tmK r) then tmK r else lastK [] acc ++ [43]
def tmRow (leaf : Bool) (acc : List Rw) (r : Rw) : Rw := ⟨tmKey acc r, tmV leaf r, tmP leaf r⟩
def tameGo (leaf : Bool) : List Rw → List Rw → List Rw
  | [], acc => acc
  | r :: l, acc => if 130 < (tmKey acc r).length then acc else if 512 < sizeN leaf (acc ++ [tmRow leaf acc r]) then acc else tameGo leaf l (acc ++ [tmRow leaf acc r])
def tameN (leaf : Bool) (l : List Rw) : List Rw := tameGo leaf (l.take 40) []

theorem ltL_snoc (a : List UInt8) (c : UInt8) : ltL a (a ++ [c]) = true := by
  simp only [ltL, decide_eq_true_eq]
  induction a with
  | nil => simp
  | cons x a ih => simpa [List.cons_lt_cons_iff] using ih
theorem tmKey_rises (acc : List Rw) (r : Rw) : ltL (lastK [] acc) (tmKey acc r) = true := by
  unfold tmKey
  split
  · assumption
  · exact ltL_snoc _ _
theorem tmRow_fits (leaf : Bool) (acc : List Rw) (r : Rw) (h : ¬ 130 < (tmKey acc r).length) : fitR leaf (tmRow leaf acc r) = true := by
  have h1 : (tmKey acc r).length ≤ 130 := by omega
  unfold fitR tmRow
  cases leaf
  · have h2 := Int.emod_nonneg r.page (b := 65536) (by omega)
    have h3 := Int.emod_lt_of_pos r.page (b := 65536) (by omega)
    have h4 : (2 : Int) ≤ 2 + r.page % 65536 := by omega
    have h5 : 2 + r.page % 65536 ≤ (4294967295 : Int) := by omega
    simp [tmV, tmP, h1, h4, h5]
  · have h2 : (r.val.take 20).length ≤ 20 := List.length_take_le _ _
    simp [tmV, tmP, h1]
    omega
structure TameOk (leaf : Bool) (acc : List Rw) : Prop where
  ok : okR leaf [] acc = true
  size : sizeN leaf acc ≤ 512
theorem tameGo_ok (leaf : Bool) : ∀ (l acc : List Rw), TameOk leaf acc → TameOk leaf (tameGo leaf l acc)
  | [], _, h => h
  | r :: l, acc, h => by
    rw [tameGo]
    split
    · exact h
    · split
      · exact h
      · rename_i h1 h2
        refine tameGo_ok leaf l _ ⟨?_, by omega⟩
        rw [okR_snoc, h.ok, Bool.true_and, Bool.and_eq_true]
        exact ⟨tmKey_rises acc r, tmRow_fits leaf acc r h1⟩
theorem tameN_ok (leaf : Bool) (l : List Rw) : TameOk leaf (tameN leaf l) := tameGo_ok leaf _ [] ⟨rfl, by simp [sizeN]⟩
theorem tame_okN {leaf : Bool} {l : List Rw} (h : TameOk leaf l) (hn : leaf = true ∨ 0 < l.length) : okN leaf l = true := by
  rw [okN, h.ok, Bool.and_true, Bool.not_eq_true', Bool.or_eq_false_iff]
  refine ⟨?_, decide_eq_false (by have := h.size; omega)⟩
  rcases hn with rfl | hn
  · rfl
  · rw [decide_eq_false (by omega), Bool.and_false]
theorem tame_fit {leaf : Bool} {l : List Rw} (h : TameOk leaf l) : ∀ r ∈ l, fitR leaf r = true := okR_fit h.ok
theorem fitR_len {leaf : Bool} {r : Rw} (h : fitR leaf r = true) : r.key.length ≤ 130 ∧ r.val.length ≤ 20 := by
  unfold fitR at h
  cases leaf
  · simp only [Bool.false_eq_true, if_false, Bool.and_eq_true, decide_eq_true_eq] at h
    obtain ⟨h1, h2, _⟩ := h
    rw [h2]
    exact ⟨h1, by simp⟩
  · simp only [if_true, Bool.and_eq_true, decide_eq_true_eq] at h
    exact ⟨h.1, h.2.1⟩
theorem tame_few {leaf : Bool} {l : List Rw} (h : TameOk leaf l) : Few l := by
  refine ⟨by have := sizeN_count leaf l; have := h.size; omega, fun r hr => ?_⟩
  have := fitR_len (tame_fit h r hr)
  omega
theorem tameGo_nil (leaf : Bool) (acc : List Rw) : tameGo leaf [] acc = acc := rfl
theorem lastK_at : ∀ (l : List Rw) (p : List UInt8) (h : 0 < l.length), lastK p l = (l[l.length - 1]'(by omega)).key
  | [], _, h => by simp at h
  | [r], _, _ => rfl
  | x :: y :: l, p, _ => by
    rw [lastK, lastK_at (y :: l) x.key (by simp)]
    simp
end Go.Proofs.Ytdjkkppefgppmaa
