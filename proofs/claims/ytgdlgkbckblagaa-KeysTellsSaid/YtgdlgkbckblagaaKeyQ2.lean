/- Layer 12, plain: what is a key is told by its text. -/
import Derived.Test.YtgdlgkbckblagaaKeyQ
namespace Go.Proofs.Ytgdlgkbckblagaa
open Go.RowKit
set_option maxRecDepth 100000
set_option linter.unusedSimpArgs false
set_option linter.unusedVariables false

theorem be_nat12 (l : List UInt8) : be l.length (nat l) = l := by
  apply nat_inj
  · rw [be_length]
  · rw [nat_be, Nat.mod_eq_of_lt (nat_lt l)]
theorem tk_rst12 {n : Nat} {l : List UInt8} (h : short n l = false) : l = tk n l ++ rst n l ∧ (tk n l).length = n := by
  have hn : n ≤ l.length := by simpa [short] using h
  rw [tk_yes hn, rst_yes hn, List.take_append_drop, List.length_take]
  exact ⟨rfl, by omega⟩
theorem num_is12 {n : Nat} {l : List UInt8} (h : short n l = false) : l = be n (nat (tk n l)) ++ rst n l := by
  obtain ⟨h1, h2⟩ := tk_rst12 h
  have h3 := be_nat12 (tk n l)
  rw [h2] at h3
  rw [h3]
  exact h1
theorem txt_is12 {l : List UInt8} (h : txtShort 1 l = false) : l = shortB (txt 1 l) ++ txtRest 1 l := by
  unfold txtShort at h
  obtain ⟨h1, h2⟩ : short 1 l = false ∧ short (nat (tk 1 l)) (rst 1 l) = false := by
    cases ha : short 1 l <;> simp_all
  obtain ⟨e2, l2⟩ := tk_rst12 h2
  have e3 : (txt 1 l).length = nat (tk 1 l) := l2
  unfold shortB
  rw [e3, List.append_assoc]
  have e4 : txt 1 l ++ txtRest 1 l = rst 1 l := e2.symm
  rw [e4]
  exact num_is12 h1
theorem rdT_is (a : Bool) (l : List UInt8) (h : rdS a l = false) : l = gapT a (rdT a l) ++ rdR a l := by
  cases a
  · rfl
  · have h' : txtShort 1 l = false := by simpa [rdS] using h
    exact txt_is12 h'
theorem rdK_is (a b i : Bool) (l : List UInt8) (h : (rdK a b i l).bad = false) (hr : (rdK a b i l).rest = []) :
    l = gapT a (rdK a b i l).A ++ (gapT b (rdK a b i l).B ++ (gapT b (rdK a b i l).C ++ gapI i (rdK a b i l).id)) := by
  unfold rdK at h hr ⊢
  simp only at h hr ⊢
  simp only [Bool.or_eq_false_iff] at h
  obtain ⟨⟨⟨h1, h2⟩, h3⟩, h4⟩ := h
  have e3 : rdR b (rdR b (rdR a l)) = gapI i (if i then nat (tk 8 (rdR b (rdR b (rdR a l)))) else 0) := by
    cases i
    · exact hr
    · have h5 : short 8 (rdR b (rdR b (rdR a l))) = false := by simpa using h4
      have h6 := num_is12 h5
      rw [if_pos rfl] at hr
      rw [hr, List.append_nil] at h6
      exact h6
  have e1 := rdT_is a l h1
  have e2 := rdT_is b (rdR a l) h2
  have e4 := rdT_is b (rdR b (rdR a l)) h3
  rw [← e3, ← e4, ← e2, ← e1]
theorem keyOf_some {s : List UInt8} {k : Int} {A B C : List UInt8} {id : Nat} (h : keyOf s = some (k, A, B, C, id)) :
    k = (nat (tk 1 s) : Int) ∧ pkOk k = true ∧ rdOk s (pkA k) (pkB k) (pkI k) (rdK (pkA k) (pkB k) (pkI k) (rst 1 s)) = true ∧ (rdK (pkA k) (pkB k) (pkI k) (rst 1 s)).A = A ∧ (rdK (pkA k) (pkB k) (pkI k) (rst 1 s)).B = B ∧ (rdK (pkA k) (pkB k) (pkI k) (rst 1 s)).C = C ∧ (rdK (pkA k) (pkB k) (pkI k) (rst 1 s)).id = id := by
  unfold keyOf at h
  split at h
  next hc =>
    rw [Bool.and_eq_true] at hc
    injection h with h
    injection h with h1 h
    injection h with h2 h
    injection h with h3 h
    injection h with h4 h5
    subst h1
    exact ⟨rfl, hc.1, hc.2, h2, h3, h4, h5⟩
  next => cases h
theorem key_is {s : List UInt8} {k : Int} {A B C : List UInt8} {id : Nat} (h : keyOf s = some (k, A, B, C, id)) : okK k A B C id = true ∧ txK k A B C id = s := by
  obtain ⟨h1, h2, h3, h4, h5, h6, h7⟩ := keyOf_some h
  unfold rdOk at h3
  simp only [Bool.and_eq_true, Bool.not_eq_true', Bool.or_eq_false_iff] at h3
  obtain ⟨⟨⟨g1, g2⟩, g3⟩, g4⟩ := h3
  have hr := rdK_is (pkA k) (pkB k) (pkI k) (rst 1 s) g2 (by simpa using g3)
  rw [h4, h5, h6, h7] at hr
  rw [h4, h5, h6, h7] at g4
  refine ⟨?_, ?_⟩
  · unfold okK
    rw [h2, g4]; rfl
  · rw [txK_gaps, ← hr]
    have h8 : k.toNat = nat (tk 1 s) := by rw [h1]; rfl
    rw [h8]
    exact (num_is12 g1).symm
theorem keyOf_none {s : List UInt8} {kn : Nat} (hk : nat (tk 1 s) = kn) {A B C : List UInt8} {id : Nat}
    (hR : pkOk kn = true → (rdK (pkA kn) (pkB kn) (pkI kn) (rst 1 s)).A = A ∧ (rdK (pkA kn) (pkB kn) (pkI kn) (rst 1 s)).B = B ∧ (rdK (pkA kn) (pkB kn) (pkI kn) (rst 1 s)).C = C ∧ (rdK (pkA kn) (pkB kn) (pkI kn) (rst 1 s)).id = id)
    (hno : ¬ (okK kn A B C id = true ∧ txK kn A B C id = s)) : keyOf s = none := by
  cases h : keyOf s with
  | none => rfl
  | some K =>
    obtain ⟨k0, A0, B0, C0, id0⟩ := K
    obtain ⟨h1, h2, h3, h4, h5, h6, h7⟩ := keyOf_some h
    rw [hk] at h1
    subst h1
    obtain ⟨r1, r2, r3, r4⟩ := hR h2
    rw [h4] at r1
    rw [h5] at r2
    rw [h6] at r3
    rw [h7] at r4
    subst r1 r2 r3 r4
    exact absurd (key_is h) hno
theorem keyOf_bad {s : List UInt8} {kn : Nat} (hk : nat (tk 1 s) = kn) (hb : pkOk kn = true → (rdK (pkA kn) (pkB kn) (pkI kn) (rst 1 s)).bad = true) : keyOf s = none := by
  cases h : keyOf s with
  | none => rfl
  | some K =>
    obtain ⟨k0, A0, B0, C0, id0⟩ := K
    obtain ⟨h1, h2, h3, h4, h5, h6, h7⟩ := keyOf_some h
    rw [hk] at h1
    subst h1
    unfold rdOk at h3
    rw [hb h2] at h3
    simp at h3
end Go.Proofs.Ytgdlgkbckblagaa
