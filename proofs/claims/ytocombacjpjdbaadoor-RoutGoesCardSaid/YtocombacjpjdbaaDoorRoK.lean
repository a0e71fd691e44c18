/- Layer 16: bindings to the broker's own exchanges, one behind the other: plain, and in a law's walk. -/
import Derived.Test.YtocombacjpjdbaaDoorRoO
import Derived.Laws.Cover1
import Derived.Sort.Walk0
namespace Go.Proofs.YtocombacjpjdbaaDoor
open Go.RowKit Go.Maps Go.Sort Go.Shelf
set_option maxRecDepth 100000
set_option linter.unusedSimpArgs false
set_option linter.unusedVariables false
def nm3 (i : Nat) : List UInt8 := if i % 3 = 0 then nDirect else if i % 3 = 1 then nFanout else nTopic
def kd3 (i : Nat) : Int := ((i % 3 : Nat) : Int) + 1
def xc3k (i : Nat) : Xc := ⟨nm3 i, kd3 i, true⟩
theorem m3 (i : Nat) : i % 3 = 0 ∨ i % 3 = 1 ∨ i % 3 = 2 := by omega
theorem nm3_fnd (i : Nat) : fndX rt0.X (nm3 i) = some (xc3k i) := by
  rcases m3 i with h | h | h
  · have e : nm3 i = nDirect := by simp [nm3, h]
    have e2 : xc3k i = xc1 := by unfold xc3k; rw [e]; simp [kd3, h, xc1]
    rw [e, e2]; decide
  · have e : nm3 i = nFanout := by simp [nm3, h]
    have e2 : xc3k i = xc2 := by unfold xc3k; rw [e]; simp [kd3, h, xc2]
    rw [e, e2]; decide
  · have e : nm3 i = nTopic := by simp [nm3, h]
    have e2 : xc3k i = xc3 := by unfold xc3k; rw [e]; simp [kd3, h, xc3]
    rw [e, e2]; decide
theorem nm3_ne (i : Nat) : nm3 i ≠ [] := by
  rcases m3 i with h | h | h <;> simp [nm3, h, nDirect, nFanout, nTopic]
theorem nm3_le (i : Nat) : (nm3 i).length ≤ 10 := by
  rcases m3 i with h | h | h <;> simp [nm3, h, nDirect, nFanout, nTopic]
theorem nm3_inj (i k : Nat) : nm3 i = nm3 k ↔ i % 3 = k % 3 := by
  constructor
  · intro e
    rcases m3 i with h | h | h <;> rcases m3 k with h' | h' | h' <;> simp [nm3, h, h', nDirect, nFanout, nTopic] at e ⊢
  · intro e
    simp [nm3, e]
/-- the binding of place i -/
def bd3 (l : List Bnd) (i : Nat) (h : i < l.length) : Bnd := ⟨nm3 i, l[i].q, l[i].k⟩
/-- what stands behind the first j bindings -/
structure Bnds (S : Rt) (l : List Bnd) (j : Nat) : Prop where
  x : S.X = rt0.X
  mem : ∀ b, b ∈ S.B ↔ ∃ i, i < j ∧ ∃ h : i < l.length, b = bd3 l i h
  few : S.B.length ≤ j
theorem Bnds.start (l : List Bnd) : Bnds rt0 l 0 := ⟨rfl, fun b => Iff.intro (fun h => (by cases h)) (fun ⟨i, h, _⟩ => (by omega)), Nat.le_refl _⟩
theorem mem_bind {S : Rt} {b : Bnd} (h1 : (fndX S.X b.e).isSome = true) (h2 : b.e ≠ []) (y : Bnd) : y ∈ (S.bind b).B ↔ y = b ∨ y ∈ S.B := by
  unfold Rt.bind
  split
  · exact mem_insR linB b y _
  · rename_i hn
    have hb : b ∈ S.B := by
      simp [Rt.binds, h1, h2] at hn
      exact hn
    constructor
    · exact .inr
    · rintro (rfl | h)
      · exact hb
      · exact h
theorem Bnds.next {S : Rt} {l : List Bnd} {j : Nat} (h : Bnds S l j) (hj : j < l.length) : Bnds (S.bind (bd3 l j hj)) l (j + 1) := by
  refine ⟨(S.X_bind _).trans h.x, fun b => ?_, ?_⟩
  · rw [mem_bind (by rw [h.x]; show (fndX rt0.X (nm3 j)).isSome = true; rw [nm3_fnd]; rfl) (nm3_ne j), h.mem b]
    constructor
    · rintro (rfl | ⟨i, hi, hl, e⟩)
      · exact ⟨j, by omega, hj, rfl⟩
      · exact ⟨i, by omega, hl, e⟩
    · rintro ⟨i, hi, hl, e⟩
      by_cases c : i = j
      · subst c; exact .inl e
      · exact .inr ⟨i, by omega, hl, e⟩
  · unfold Rt.bind
    split
    · exact Nat.le_trans (insR_length _ _ _) (by have := h.few; omega)
    · have := h.few; omega
/-- does the binding of place i lead on what has key, at the exchange k? -/
def isP (key : List UInt8) (k i : Nat) (b : Bnd) : Bool := decide (i % 3 = k) && leadP (kd3 k) b.k key
theorem Bnds.route {S : Rt} {l : List Bnd} {j : Nat} (h : Bnds S l j) (key : List UInt8) {k : Nat} (hk : k < 3) (q : List UInt8) : q ∈ S.route (nm3 k) key ↔ ∃ i, i < j ∧ ∃ hl : i < l.length, isP key k i l[i] = true ∧ l[i].q = q := by
  rw [S.mem_route (x := xc3k k) (by rw [h.x]; exact nm3_fnd k) (nm3_ne k)]
  constructor
  · rintro ⟨b, hb, h1, h2, h3⟩
    obtain ⟨i, hi, hl, rfl⟩ := (h.mem b).1 hb
    have e : i % 3 = k := by
      have := (nm3_inj i k).1 h1
      omega
    exact ⟨i, hi, hl, by simp only [isP, e, decide_true, Bool.true_and]; exact h2, h3⟩
  · rintro ⟨i, hi, hl, h1, h2⟩
    simp only [isP, Bool.and_eq_true, decide_eq_true_eq] at h1
    exact ⟨bd3 l i hl, (h.mem _).2 ⟨i, hi, hl, rfl⟩, (nm3_inj i k).2 (by omega), h1.2, h2⟩
/-- the literal of the three names -/
def nms : List Value := [.string ⟨nDirect.toArray⟩, .string ⟨nFanout.toArray⟩, .string ⟨nTopic.toArray⟩]
theorem nms_at {w : World} {nb : Nat} (h : Whole w nb 9 nms.toArray) (i : Nat) : w.cell? ⟨nb, i % 3, none⟩ = some (.string ⟨(nm3 i).toArray⟩) := by
  rw [h.cell]
  rcases m3 i with e | e | e <;> rw [e] <;> simp [nm3, e, nms]
/-- a Rout and the names beside it, in a law's walk -/
structure KAt (W : World) (g bx bb nb : Nat) (S : Rt) (w : World) : Prop where
  ro : RoAt w g bx bb S
  nm : Whole w nb 9 nms.toArray
  bel : Below W.heap.size W w
  ids : W.heap.size ≤ bx ∧ W.heap.size ≤ bb ∧ W.heap.size ≤ nb ∧ nb ≠ bb ∧ nb ≠ bx
section
variable {W w w' : World} {g bx bb nb : Nat} {S S' : Rt}
theorem KAt.below (h : KAt W g bx bb nb S w) (hb : Below w.heap.size w w') : KAt W g bx bb nb S w' := ⟨h.ro.below hb, h.nm.below hb h.nm.lt, h.bel.trans (hb.mono h.bel.size), h.ids⟩
theorem KAt.turn (h : KAt W g bx bb nb S w) (hr : RoAt w' g bx bb S') {j : Nat} (hg : w.grownBy w' (some j)) (hj : j = bb ∨ j = bx) : KAt W g bx bb nb S' w' := by
  obtain ⟨i1, i2, i3, i4, i5⟩ := h.ids
  refine ⟨hr, h.nm.grown hg (fun e => ?_), h.bel.grown hg h.bel.size (fun k hk => ?_), h.ids⟩
  · have := Option.some.inj e
    rcases hj with rfl | rfl
    · exact i4 this
    · exact i5 this
  · cases hk
    rcases hj with rfl | rfl
    · exact i2
    · exact i1
/-- a row's three texts -/
theorem Lies.bind_at {B b o i : Nat} {l : List Bnd} (h : Lies w B (some ⟨b, o, none⟩) (bdCs l)) (hi : i < l.length) :
    w.cell? ⟨b, o + i * 3, none⟩ = some (.string ⟨l[i].e.toArray⟩) ∧ w.cell? ⟨b, o + i * 3 + 1, none⟩ = some (.string ⟨l[i].q.toArray⟩) ∧ w.cell? ⟨b, o + i * 3 + 2, none⟩ = some (.string ⟨l[i].k.toArray⟩) := by
  have hl := bdCs_length l
  have g0 := bdCs_get l i hi 0 (by omega)
  have g1 := bdCs_get l i hi 1 (by omega)
  have g2 := bdCs_get l i hi 2 (by omega)
  rcases h with h | ⟨b', o', e, _, hc⟩
  · rw [h] at hl
    simp at hl
    omega
  · cases e
    have e3 : i * 3 = 3 * i := by omega
    have k0 := hc (3 * i) _ g0
    have k1 := hc (3 * i + 1) _ g1
    have k2 := hc (3 * i + 2) _ g2
    rw [e3]
    exact ⟨k0, k1, k2⟩
theorem Lies.bind_some {B : Nat} {A : Option Addr} {l : List Bnd} (h : Lies w B A (bdCs l)) (hl : 0 < l.length) : ∃ b o, A = some ⟨b, o, none⟩ ∧ b < B := by
  rcases h with h | ⟨b, o, e, hb, _⟩
  · have := bdCs_length l
    rw [h] at this
    simp at this
    omega
  · exact ⟨b, o, e, hb⟩
end
/-- is one of the first i bindings led on to x? -/
def wasP (l : List Bnd) (key : List UInt8) (k : Nat) (x : List UInt8) (i : Nat) : Bool := (List.range i).any fun t => match l[t]? with | some b => isP key k t b && (b.q == x) | none => false
theorem wasP_zero (l : List Bnd) (key : List UInt8) (k : Nat) (x : List UInt8) : wasP l key k x 0 = false := rfl
theorem wasP_next (l : List Bnd) (key : List UInt8) (k : Nat) (x : List UInt8) (i : Nat) (h : i < l.length) : wasP l key k x (i + 1) = (wasP l key k x i || (isP key k i l[i] && (l[i].q == x))) := by
  unfold wasP
  rw [List.range_succ, List.any_append]
  simp [List.getElem?_eq_getElem h]
theorem wasP_true (l : List Bnd) (key : List UInt8) (k : Nat) (x : List UInt8) (m : Nat) (h : ∃ i, i < m ∧ ∃ hl : i < l.length, isP key k i l[i] = true ∧ l[i].q = x) : wasP l key k x m = true := by
  obtain ⟨i, hi, hl, h1, h2⟩ := h
  unfold wasP
  refine List.any_eq_true.2 ⟨i, List.mem_range.2 hi, ?_⟩
  simp [List.getElem?_eq_getElem hl, h1, h2]
/-- is x among the first q of the row? -/
def inR (R : List (List UInt8)) (x : List UInt8) (q : Nat) : Bool := (R.take q).any (· == x)
theorem inR_zero (R : List (List UInt8)) (x : List UInt8) : inR R x 0 = false := by simp [inR]
theorem inR_next (R : List (List UInt8)) (x : List UInt8) (q : Nat) (h : q < R.length) : inR R x (q + 1) = (inR R x q || (R[q] == x)) := by
  unfold inR
  rw [List.take_succ_eq_append_getElem h, List.any_append]
  simp
theorem inR_all (R : List (List UInt8)) (x : List UInt8) (h : x ∈ R) : inR R x R.length = true := by
  unfold inR
  rw [List.take_length]
  exact List.any_eq_true.2 ⟨x, h, by simp⟩
theorem bytesLess_is (a b : List UInt8) : Op.bytesLess a b = ltS a b := bytesLess_eq a b
end Go.Proofs.YtocombacjpjdbaaDoor
