/- Layer 7: cells in blocks of one kind; what a device's calls leave as it is. -/
import Derived.Test.YtcmffifehpbjnaaSectZ
namespace Go.Proofs.Ytcmffifehpbjnaa
open Go.RowKit Go.Maps
set_option maxRecDepth 100000
set_option linter.unusedSimpArgs false
set_option linter.unusedVariables false
/-- the cells xs lie at A, in a block of P -/
def LiesP (w : World) (P : Nat → Prop) (A : Option Addr) (xs : List Value) : Prop :=
  xs = [] ∨ ∃ b o, A = some ⟨b, o, none⟩ ∧ P b ∧ b < w.heap.size ∧ ∀ j u, xs[j]? = some u → w.cell? ⟨b, o + j, none⟩ = some u
section
variable {w w' : World} {P Q : Nat → Prop} {A : Option Addr} {xs : List Value}
theorem LiesP.nil (w : World) (P : Nat → Prop) (A : Option Addr) : LiesP w P A [] := .inl rfl
theorem LiesP.lies (h : LiesP w P A xs) : Lies w w.heap.size A xs := by
  rcases h with h | ⟨b, o, h1, _, h2, h3⟩
  · exact .inl h
  · exact .inr ⟨b, o, h1, h2, h3⟩
theorem LiesP.kept (h : LiesP w P A xs) (hk : ∀ i, i < w.heap.size → P i → w'.heap[i]? = w.heap[i]?) (hs : w.heap.size ≤ w'.heap.size) : LiesP w' P A xs := by
  rcases h with h | ⟨b, o, h1, h2, h3, h4⟩
  · exact .inl h
  · exact .inr ⟨b, o, h1, h2, by omega, fun j u hu => (World.cell?_of_block (hk b h3 h2)).trans (h4 j u hu)⟩
theorem LiesP.mono (h : LiesP w P A xs) (hk : ∀ i, i < w.heap.size → P i → Q i) : LiesP w Q A xs := by
  rcases h with h | ⟨b, o, h1, h2, h3, h4⟩
  · exact .inl h
  · exact .inr ⟨b, o, h1, hk b h3 h2, h3, h4⟩
theorem LiesP.below (h : LiesP w P A xs) (hb : Below w.heap.size w w') : LiesP w' P A xs := h.kept (fun i hi _ => hb.block i hi) hb.size
theorem LiesP.take (h : LiesP w P A xs) (k : Nat) : LiesP w P A (xs.take k) := by
  rcases h with h | ⟨b, o, h1, h2, h3, h4⟩
  · left; rw [h]; simp
  · refine .inr ⟨b, o, h1, h2, h3, fun j u hu => h4 j u ?_⟩
    rw [List.getElem?_take] at hu
    split at hu
    · exact hu
    · cases hu
theorem LiesP.own {base : Nat} {e : TypeId} {size n c : Nat} (h : w.ownsRow base e size (.slice A n c) n xs) (hP : ∀ i, (Value.slice A n c).ownBlock = some i → P i) : LiesP w P A xs := by
  rcases h.2 with ⟨hv, hn⟩ | ⟨g, cap, cur, hv, h3, hg, _⟩
  · left
    apply List.eq_nil_of_length_eq_zero
    rw [h.1, hn, Nat.zero_mul]
  · have hA : A = some ⟨g, 0, none⟩ := by injection hv
    subst hA
    refine .inr ⟨g, 0, rfl, hP g rfl, (Array.getElem?_eq_some_iff.1 hg).1, fun j u hu => ?_⟩
    have := h.cells (g := g) rfl j u hu
    have hadd : (⟨g, 0, none⟩ : Addr).add j = ⟨g, j, none⟩ := by unfold Addr.add; split <;> simp_all
    rw [hadd] at this
    simpa using this
end
theorem own_block {w w' : World} {base n size : Nat} {e : TypeId} {v : Value} {xs : List Value} (h : w.ownsRow base e size v n xs) (hb : ∀ i, v.ownBlock = some i → w'.heap[i]? = w.heap[i]?) : w'.ownsRow base e size v n xs := by
  obtain ⟨h1, h2⟩ := h
  refine ⟨h1, h2.imp id ?_⟩
  rintro ⟨g, cap, cur, rfl, h3, h4, h5⟩
  exact ⟨g, cap, cur, rfl, h3, (hb g rfl).trans h4, h5⟩
theorem own_apart_types {w : World} {b1 b2 : Nat} {e1 e2 : TypeId} {s1 s2 n1 n2 : Nat} {v1 v2 : Value} {xs1 xs2 : List Value} (h1 : w.ownsRow b1 e1 s1 v1 n1 xs1) (h2 : w.ownsRow b2 e2 s2 v2 n2 xs2) (hne : e1 ≠ e2) : v1.ownBlock = none ∨ v1.ownBlock ≠ v2.ownBlock := by
  rcases h1.2 with ⟨rfl, _⟩ | ⟨g1, c1, u1, rfl, _, hg1, _⟩
  · exact .inl rfl
  · right
    rcases h2.2 with ⟨rfl, _⟩ | ⟨g2, c2, u2, rfl, _, hg2, _⟩
    · intro e; cases e
    · intro e
      have e2 : g1 = g2 := Option.some.inj e
      subst e2
      rw [hg1] at hg2
      injection hg2 with hg2
      injection hg2 with _ hg2
      exact hne hg2
theorem Whole.put5 {w : World} {g : Nat} {t : TypeId} {a0 a1 a2 a3 a4 : Value} (h : Whole w g t #[a0, a1, a2, a3, a4]) (u0 u1 u2 u3 u4 : Value) :
    Whole (((((w.setCell ⟨g, 0, none⟩ u0).setCell ⟨g, 1, none⟩ u1).setCell ⟨g, 2, none⟩ u2).setCell ⟨g, 3, none⟩ u3).setCell ⟨g, 4, none⟩ u4) g t #[u0, u1, u2, u3, u4] := Whole.put (Whole.put (Whole.put (Whole.put (Whole.put h 0 u0) 1 u1) 2 u2) 3 u3) 4 u4
theorem below_put5 {B : Nat} {a w : World} {g : Nat} (h : Below B a w) (hg : B ≤ g) (u0 u1 u2 u3 u4 : Value) :
    Below B a (((((w.setCell ⟨g, 0, none⟩ u0).setCell ⟨g, 1, none⟩ u1).setCell ⟨g, 2, none⟩ u2).setCell ⟨g, 3, none⟩ u3).setCell ⟨g, 4, none⟩ u4) := ((((h.setCell (p := ⟨g, 0, none⟩) hg u0).setCell (p := ⟨g, 1, none⟩) hg u1).setCell (p := ⟨g, 2, none⟩) hg u2).setCell (p := ⟨g, 3, none⟩) hg u3).setCell (p := ⟨g, 4, none⟩) hg u4
theorem other_put5 {w : World} {g i : Nat} (h : i ≠ g) (u0 u1 u2 u3 u4 : Value) :
    (((((w.setCell ⟨g, 0, none⟩ u0).setCell ⟨g, 1, none⟩ u1).setCell ⟨g, 2, none⟩ u2).setCell ⟨g, 3, none⟩ u3).setCell ⟨g, 4, none⟩ u4).heap[i]? = w.heap[i]? := by
  rw [Below.heap_setCell _ ⟨g, 4, none⟩ _ i h, Below.heap_setCell _ ⟨g, 3, none⟩ _ i h, Below.heap_setCell _ ⟨g, 2, none⟩ _ i h, Below.heap_setCell _ ⟨g, 1, none⟩ _ i h, Below.heap_setCell _ ⟨g, 0, none⟩ _ i h]
theorem Whole.five {w : World} {g : Nat} {t : TypeId} {a0 a1 a2 a3 a4 : Value} (h : Whole w g t #[a0, a1, a2, a3, a4]) : w.cell? ⟨g, 0, none⟩ = some a0 ∧ w.cell? ⟨g, 1, none⟩ = some a1 ∧ w.cell? ⟨g, 2, none⟩ = some a2 ∧ w.cell? ⟨g, 3, none⟩ = some a3 ∧ w.cell? ⟨g, 4, none⟩ = some a4 :=
  ⟨(Whole.cell h 0).trans rfl, (Whole.cell h 1).trans rfl, (Whole.cell h 2).trans rfl, (Whole.cell h 3).trans rfl, (Whole.cell h 4).trans rfl⟩
theorem whole_apart {w : World} {b base size n : Nat} {t e : TypeId} {cs : Array Value} {v : Value} {xs : List Value} (h : Whole w b t cs) (hr : w.ownsRow base e size v n xs) (hne : t ≠ e) : some b ≠ v.ownBlock := by
  rcases hr.2 with ⟨rfl, _⟩ | ⟨g1, c1, u1, rfl, _, hg1, _⟩
  · intro e; cases e
  · intro e2
    have e3 : b = g1 := Option.some.inj e2
    subst e3
    unfold Whole at h
    rw [hg1] at h
    injection h with h
    injection h with _ h
    exact hne h.symm
section
variable {B g : Nat} {X : Nat → Prop} {w0 W : World} {S : Dv}
/-- what was made in between is no device's -/
theorem At.fence (h : At B X w0 g S W) {w' : World} (hb : Below W.heap.size W w') : At B (fun i => X i ∨ (W.heap.size ≤ i ∧ i < w'.heap.size)) w0 g S w' := by
  have hle := h.le
  refine ⟨((h.dev.mono (K' := fun i => B ≤ i ∧ ¬ (X i ∨ (W.heap.size ≤ i ∧ i < w'.heap.size))) (fun i hi hk => ⟨hk.1, fun e => by rcases e with e | e; exact hk.2 e; omega⟩)).below hb), h.bel.trans (hb.mono hle), Nat.le_trans hle hb.size, fun i hi => ?_⟩
  rcases hi with hi | hi
  · have := h.xs i hi
    have := hb.size
    omega
  · omega
theorem At.drewN (h : At B X w0 g S W) (n : Nat) : At B X w0 g S (W.drewN n) :=
  ⟨h.dev.kept fun i _ _ => rfl, ⟨h.bel.os, h.bel.tape, h.bel.output, h.bel.size, h.bel.block⟩, h.le, h.xs⟩
end
theorem KeptX.refl' (X : Nat → Prop) (W : World) : KeptX X W W := ⟨fun _ _ => rfl, Nat.le_refl _⟩
theorem KeptX.trans' {X : Nat → Prop} {a b c : World} (h : KeptX X a b) (k : KeptX X b c) : KeptX X a c := ⟨fun i hi => (k.1 i hi).trans (h.1 i hi), Nat.le_trans h.2 k.2⟩
section
variable {W w' : World} {jb : Nat}
/-- the other blocks of X are as they were -/
def KeptO (X : Nat → Prop) (jb : Nat) (W w' : World) : Prop := (∀ i, X i → i ≠ jb → w'.heap[i]? = W.heap[i]?) ∧ W.heap.size ≤ w'.heap.size
theorem KeptO.of {X : Nat → Prop} (h : KeptX X W w') : KeptO X jb W w' := ⟨fun i hi _ => h.1 i hi, h.2⟩
theorem KeptO.refl (X : Nat → Prop) (jb : Nat) (W : World) : KeptO X jb W W := ⟨fun _ _ _ => rfl, Nat.le_refl _⟩
theorem KeptO.trans {X : Nat → Prop} {a b c : World} (h : KeptO X jb a b) (k : KeptO X jb b c) : KeptO X jb a c := ⟨fun i hi hn => (k.1 i hi hn).trans (h.1 i hi hn), Nat.le_trans h.2 k.2⟩
theorem KeptO.set {X : Nat → Prop} (h : KeptO X jb W w') (i : Nat) (u : Value) : KeptO X jb W (w'.setCell ⟨jb, i, none⟩ u) :=
  ⟨fun k hk hn => (Below.heap_setCell _ _ _ _ hn).trans (h.1 k hk hn), by simpa using h.2⟩
end
theorem LiesP.drop {w : World} {P : Nat → Prop} {A : Option Addr} {xs : List Value} (h : LiesP w P A xs) (k cap : Nat) (hk : k ≤ xs.length) (hc : xs.length ≤ cap) : LiesP w P (if cap = k then A else A.map (·.add k)) (xs.drop k) := by
  rcases h with h | ⟨b, o, rfl, hp, hb, hcell⟩
  · left; rw [h]; simp
  · by_cases e : cap = k
    · left
      apply List.eq_nil_of_length_eq_zero
      rw [List.length_drop]
      omega
    · rw [if_neg e]
      have hadd : (⟨b, o, none⟩ : Addr).add k = ⟨b, o + k, none⟩ := by unfold Addr.add; split <;> simp_all
      refine .inr ⟨b, o + k, by rw [Option.map_some, hadd], hp, hb, fun j u hu => ?_⟩
      rw [List.getElem?_drop] at hu
      rw [Nat.add_assoc]
      exact hcell _ _ hu
theorem Whole.kept {X : Nat → Prop} {w w' : World} {b : Nat} {t : TypeId} {cs : Array Value} (h : Whole w b t cs) (hk : KeptX X w w') (hX : X b) : Whole w' b t cs := (hk.1 b hX).trans h
end Go.Proofs.Ytcmffifehpbjnaa
