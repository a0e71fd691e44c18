/- Layer 12: the answers of the program and of the document, in one form each. -/
import Derived.Test.YtgdlgkbckblagaaKeyOf
import Derived.Test.YtgdlgkbckblagaaKeyO
namespace Go.Proofs.Ytgdlgkbckblagaa
open Go.RowKit
set_option maxRecDepth 100000
set_option linter.unusedSimpArgs false
set_option linter.unusedVariables false

theorem tells_form {k : Int} {A B C : List UInt8} {id : Nat} {w : World} {e : Ending} {w' : World} {t : List UInt8} {f : Bool} (ht : t = if okK k A B C id then txK k A B C id else []) (hf : f = okK k A B C id) (h : tellsT k A B C id w e w') :
    e = .returned (.tuple #[.string ⟨t.toArray⟩, .bool f]) ∧ Below w.heap.size w w' := by
  subst ht hf
  exact h
theorem tells_short {k : Int} {A B C : List UInt8} {id : Nat} {t : List UInt8} (ht : t = if okK k A B C id then txK k A B C id else []) : t.length ≤ 130 := by
  subst ht
  split
  next h => exact tx_length h
  next => simp
def kvOf (r : Option (Int × List UInt8 × List UInt8 × List UInt8 × Nat)) : Int × List UInt8 × List UInt8 × List UInt8 × Nat := r.getD (0, [], [], [], 0)
theorem parse_form {r : Option (Int × List UInt8 × List UInt8 × List UInt8 × Nat)} {w : World} {e : Ending} {w' : World} {k : Int} {A B C : List UInt8} {id : Nat} {f : Bool} (hv : (k, A, B, C, id) = kvOf r) (hf : f = r.isSome) (h : tellsP r w e w') :
    e = .returned (.tuple #[kyV k A B C id, .bool f]) ∧ Below w.heap.size w w' := by
  unfold kvOf at hv
  rcases r with _ | ⟨k0, A0, B0, C0, i0⟩
  · injection hv with h1 hv
    injection hv with h2 hv
    injection hv with h3 hv
    injection hv with h4 h5
    subst h1 h2 h3 h4 h5 hf
    exact h
  · injection hv with h1 hv
    injection hv with h2 hv
    injection hv with h3 hv
    injection hv with h4 h5
    subst h1 h2 h3 h4 h5 hf
    exact h
theorem msg_form {E K T : List UInt8} {m : Int} {b Z : List UInt8} {f : Bool} {w : World} {e : Ending} {w' : World} (hZ : Z = if okM E.length K.length T.length m b.length then msB E K T m.toNat b else []) (hf : f = okM E.length K.length T.length m b.length) (h : tellsM E K T m b w e w') :
    ∃ A c, e = .returned (.tuple #[.slice A Z.length c, .bool f]) ∧ Z.length ≤ c ∧ c ≤ maxLen ∧ Lies w' w'.heap.size A (B8 Z) ∧ Below w.heap.size w w' := by
  rcases h with ⟨h1, h2, h3⟩ | ⟨h1, v, h2, h3, h4⟩
  · rw [h1] at hZ hf
    rw [if_neg (by decide)] at hZ
    subst hZ hf
    exact ⟨none, 0, h2, Nat.le_refl _, Nat.zero_le _, Lies.empty _ _ _, h3⟩
  · rw [h1] at hZ hf
    rw [if_pos rfl] at hZ
    subst hZ hf
    obtain ⟨A, c, rfl, hc, hm⟩ := own_form h3
    exact ⟨A, c, h2, hc, hm, Lies.own h3 (Nat.le_refl _), h4⟩
theorem msg_short {E K T : List UInt8} {m : Int} {b Z : List UInt8} (hZ : Z = if okM E.length K.length T.length m b.length then msB E K T m.toNat b else []) : Z.length ≤ 20000 := by
  subst hZ
  split
  next h =>
    obtain ⟨_, _, _, h4, _, _⟩ := okM_yes h
    obtain ⟨n, rfl⟩ := Int.eq_ofNat_of_zero_le h4
    rw [Int.toNat_natCast]
    exact msB_length h
  next => simp
def mvOf (r : Option (List UInt8 × List UInt8 × List UInt8 × Nat × List UInt8)) : List UInt8 × List UInt8 × List UInt8 × Nat × List UInt8 := r.getD ([], [], [], 0, [])
theorem pmsg_form {r : Option (List UInt8 × List UInt8 × List UInt8 × Nat × List UInt8)} {w : World} {e : Ending} {w' : World} {E K T : List UInt8} {m : Nat} {b : List UInt8} {f : Bool} (hv : (E, K, T, m, b) = mvOf r) (hf : f = r.isSome) (h : tellsN r w e w') :
    ∃ A c, e = .returned (.tuple #[msV E K T (m : Int) (.slice A b.length c), .bool f]) ∧ Lies w' w'.heap.size A (B8 b) ∧ Below w.heap.size w w' := by
  unfold mvOf at hv
  rcases r with _ | ⟨E0, K0, T0, m0, b0⟩
  · injection hv with h1 hv
    injection hv with h2 hv
    injection hv with h3 hv
    injection hv with h4 h5
    subst h1 h2 h3 h4 h5 hf
    exact ⟨none, 0, h.1, Lies.empty _ _ _, h.2⟩
  · injection hv with h1 hv
    injection hv with h2 hv
    injection hv with h3 hv
    injection hv with h4 h5
    subst h1 h2 h3 h4 h5 hf
    obtain ⟨⟨A, c, g1, _, _, g2⟩, g3⟩ := h
    exact ⟨A, c, g1, g2, g3⟩
theorem rmsg_form {B : Nat} {r : Option (List UInt8 × List UInt8 × List UInt8 × Nat × List UInt8)} {w : World} {e : Ending} {w' : World} {E K T : List UInt8} {m : Nat} {b : List UInt8} {f : Bool} (hv : (E, K, T, m, b) = mvOf r) (hf : f = r.isSome) (h : tellsR B r w e w') :
    ∃ A c, e = .returned (.tuple #[msV E K T (m : Int) (.slice A b.length c), .bool f]) ∧ Lies w' B A (B8 b) ∧ Below w.heap.size w w' := by
  unfold mvOf at hv
  rcases r with _ | ⟨E0, K0, T0, m0, b0⟩
  · injection hv with h1 hv
    injection hv with h2 hv
    injection hv with h3 hv
    injection hv with h4 h5
    subst h1 h2 h3 h4 h5 hf
    exact ⟨none, 0, h.1, Lies.empty _ _ _, h.2⟩
  · injection hv with h1 hv
    injection hv with h2 hv
    injection hv with h3 hv
    injection hv with h4 h5
    subst h1 h2 h3 h4 h5 hf
    obtain ⟨⟨A, c, g1, _, _, g2⟩, g3⟩ := h
    exact ⟨A, c, g1, g2, g3⟩
/-- a string made octets may be written -/
theorem bytes_free (w : World) (e : TypeId) (s : ByteArray) (j : Nat) (hj : j < s.size) : (Lib.bytesWorld w e s).frozen? ⟨w.heap.size, j, none⟩ = false := by
  have h := Lib.bytesWorld_at_new w e s
  have hc : ∃ u, (Lib.bytesWorld w e s).cell? ⟨w.heap.size, j, none⟩ = some u := ⟨_, Lib.bytesWorld_cell w e s j hj⟩
  obtain ⟨u, hu⟩ := hc
  have hlt : j < (Lib.bytesCells w e s).size := by
    unfold World.cell? at hu
    simp only [h] at hu
    exact (Array.getElem?_eq_some_iff.1 hu).1
  unfold World.frozen?
  simp only [h]
  simp
  omega
end Go.Proofs.Ytgdlgkbckblagaa
