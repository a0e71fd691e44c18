/- More words: one octet turned in an owned row. -/
import Derived.Test.YtplijhhjclfhaaaWords2
import Derived.Laws.BitsAllLaws
namespace Go.Proofs.Ytplijhhjclfhaaa
open Go.RowKit

theorem u8_flip (a b : UInt8) : bits .xor .u8 (a.toNat : Int) (b.toNat : Int) = ((a ^^^ b).toNat : Int) := by
  rw [u8_xor_nat _ _ a.toNat_lt b.toNat_lt]
  rfl
/-- one octet turned -/
def flip (l : List UInt8) (j : Nat) (y : UInt8) : List UInt8 := l.set j (l.getD j 0 ^^^ y)
theorem flip_length (l : List UInt8) (j : Nat) (y : UInt8) : (flip l j y).length = l.length := by simp [flip]
theorem flip_lies {w : World} {B g o : Nat} {l : List UInt8} (h : Lies w B (some ⟨g, o, none⟩) (B8 l)) (j : Nat) (hj : j < l.length) (y : UInt8) :
    Lies (w.setCell ⟨g, o + j, none⟩ (.int .u8 ((l.getD j 0 ^^^ y).toNat : Int))) B (some ⟨g, o, none⟩) (B8 (flip l j y)) := by
  rcases h.octets with h | ⟨b, o', e, hb, hc⟩
  · rw [h] at hj; simp at hj
  · injection e with e
    injection e with e1 e2 e3
    subst e1 e2
    refine .inr ⟨g, o, rfl, hb, fun i u hu => ?_⟩
    have hi : i < (flip l j y).length := by
      rw [← B8_length]
      exact (List.getElem?_eq_some_iff.1 hu).1
    rw [B8_get _ i hi] at hu
    injection hu with hu
    rw [flip_length] at hi
    rw [← hu]
    by_cases hij : j = i
    · subst hij
      rw [World.cell?_setCell_same _ _ _ (hc j hj)]
      simp [flip]
    · rw [World.cell?_setCell_other _ _ _ _ (by intro h; injection h; omega), hc i hi]
      simp [flip, hij]
theorem own_head {w : World} {base : Nat} {e : TypeId} {n c : Nat} {A : Option Addr} {xs : List Value} (h : w.ownsRow base e 1 (.slice A n c) n xs) (hn : 0 < n) : ∃ g, A = some ⟨g, 0, none⟩ ∧ base ≤ g ∧ g < w.heap.size ∧ ∀ i, w.frozen? ⟨g, i, none⟩ = false := by
  rcases h.2 with ⟨_, h0⟩ | ⟨g, cap, cur, hv, hgb, hg, _⟩
  · omega
  · refine ⟨g, by injection hv, hgb, (Array.getElem?_eq_some_iff.1 hg).1, fun i => ?_⟩
    simp [World.frozen?, hg]
/-- which octet is turned -/
theorem turn_at (x : Int) (n : Nat) (hn : 0 < n) : ∃ j, j < n ∧ (bits .and .i64 x 65535).tmod (n : Int) = (j : Int) := by
  obtain ⟨q, _, _, eq⟩ := mask_is x 65535 16 (by omega) rfl
  refine ⟨q % n, Nat.mod_lt _ hn, ?_⟩
  rw [eq]
  exact (Int.ofNat_tmod q n).symm
end Go.Proofs.Ytplijhhjclfhaaa
