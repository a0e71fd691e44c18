/- Maps that are ranged over, cloned: said of what a map tells. No program is imported. -/
import Derived.Test.YtocombacjpjdbaaDoorSectM
import Derived.Maps.RangeWalk
namespace Go.Proofs.YtocombacjpjdbaaDoor
open Go.RowKit Go.Maps
set_option maxRecDepth 100000
set_option linter.unusedSimpArgs false
set_option linter.unusedVariables false
section
variable {P : Program} {kt t vt : TypeId} {κ : Type} {kv : κ → Value} {ok : κ → Prop} {kl : κ → Lit} {w w' : World} {b : Nat} {f : κ → Option Value}
/-- the same entries in another block -/
theorem MapF.copied (h : MapF P kt ok kl w b f) : ∃ es clock, w.heap[b]? = some (.map es clock) ∧ MapF P kt ok kl (w.alloc (.map es clock)) w.heap.size f := by
  obtain ⟨D, ⟨es, clock, h1, h2⟩, h3⟩ := h
  exact ⟨es, clock, h1, D, ⟨es, clock, heap_alloc_new w _, h2⟩, h3⟩
/-- what holds between a map's data and what it tells -/
def TellsF (ok : κ → Prop) (kl : κ → Lit) (D : DataW Value) (f : κ → Option Value) : Prop :=
  (∀ x, ok x → Maps.has D (kl x) = (f x).isSome ∧ ∀ v, f x = some v → ∀ z, D.atKey (kl x) z = .held v) ∧ (∀ l, Maps.has D l = true → ∃ x, ok x ∧ l = kl x) ∧ ∀ x v, f x = some v → ok x
/-- a map that is ranged over: it tells f; what is still to come is told by left -/
def RngF (P : Program) (kt : TypeId) (ok : κ → Prop) (kl : κ → Lit) (w : World) (b r : Nat) (f : κ → Option Value) (left : κ → Bool) (cnt : Nat) : Prop :=
  ∃ (D : DataW Value) (lf : Lit → Bool) (n : Nat), w.ranges P kt rid b r n D lf cnt ∧ TellsF ok kl D f ∧ (∀ x, ok x → lf (kl x) = left x) ∧ ∀ l, lf l = true → Maps.has D l = true
section
variable {left : κ → Bool} {cnt r : Nat}
theorem RngF.lt (h : RngF P kt ok kl w b r f left cnt) : r < w.heap.size := by
  obtain ⟨D, lf, n, h1, _⟩ := h
  exact h1.lt
theorem RngF.ne (h : RngF P kt ok kl w b r f left cnt) : r ≠ b := by
  obtain ⟨D, lf, n, h1, _⟩ := h
  exact h1.ne
theorem RngF.left_eq (h : RngF P kt ok kl w b r f left cnt) : w.rangeLeft b r = cnt := by
  obtain ⟨D, lf, n, h1, _⟩ := h
  exact h1.left_eq
theorem RngF.map (h : RngF P kt ok kl w b r f left cnt) : MapF P kt ok kl w b f := by
  obtain ⟨D, lf, n, h1, h2, _⟩ := h
  exact ⟨D, owns_size h1.owns, h2⟩
theorem RngF.kept {row : Option Nat} (h : RngF P kt ok kl w b r f left cnt) (hg : w.grownBy w' row) (hb : some b ≠ row) (hr : some r ≠ row) : RngF P kt ok kl w' b r f left cnt := by
  obtain ⟨D, lf, n, h1, h2⟩ := h
  exact ⟨D, lf, n, h1.kept hg hb hr, h2⟩
theorem RngF.blocks (h : RngF P kt ok kl w b r f left cnt) (hb : w'.heap[b]? = w.heap[b]?) (hr : w'.heap[r]? = w.heap[r]?) : RngF P kt ok kl w' b r f left cnt := by
  obtain ⟨D, lf, n, ⟨es, clock, since, seen, c0, k1, k2, k3, k4, k5, k6⟩, h2⟩ := h
  exact ⟨D, lf, n, ⟨es, clock, since, seen, c0, hb.trans k1, k2, k3, k4, hr.trans k5, k6⟩, h2⟩
variable {ops : Array Oper} {rest : List Oper} {o : Oper} {a : Act} {Q : Exit → Act → World → Prop}
/-- 'range m' -/
theorem wpList_range_f (hg : o.guard = none) (m : Operand) (hop : o.op = Op.range t m) (K : KeyKind P kt kv ok kl) (ht : P.underlying t = some (.map kt vt)) (hm : a.eval m = .map (some b)) (h : MapF P kt ok kl w b f)
    (hK : ∀ w' cnt, RngF P kt ok kl w' b w.heap.size f (fun x => (f x).isSome) cnt → w.grownBy w' none → w'.heap.size = w.heap.size + 1 → wpList P ops Q rest (a.put o.dst (.pointer (some ⟨w.heap.size, 0, none⟩))) w') :
    wpList P ops Q (o :: rest) a w := by
  obtain ⟨D, h1, h2, h3, h4⟩ := h
  refine wpList_range_own w hg m t hop kt vt K.law ht rid b _ D hm h1 fun w' r1 r2 r3 => ?_
  exact hK w' _ ⟨D, _, _, r1, ⟨h2, h3, h4⟩, fun x hx => (h2 x hx).1, fun l hl => hl⟩ r2 r3
/-- the step of a range over a map -/
theorem wpList_next_f [DecidableEq κ] (hg : o.guard = none) (it : Operand) (hop : o.op = Op.next it false) (K : KeyKind P kt kv ok kl) (hit : a.eval it = .pointer (some ⟨r, 0, none⟩)) (h : RngF P kt ok kl w b r f left cnt)
    (hDone : (∀ x, ok x → left x = false) → wpList P ops Q rest (a.put o.dst (.tuple #[.bool false])) w)
    (hMore : ∀ (x : κ) (v : Value) (w' : World) (cnt' : Nat), ok x → left x = true → f x = some v → RngF P kt ok kl w' b r f (fun z => left z && !decide (z = x)) cnt' → cnt' < cnt → w.grownBy w' (some r) → w'.heap.size = w.heap.size →
      (Instr.entry (.pointer (some ⟨r, 0, none⟩))).run P w' = .ok (.tuple #[kv x, v]) w' → wpList P ops Q rest (a.put o.dst (.tuple #[.bool true, kv x, v])) w') :
    wpList P ops Q (o :: rest) a w := by
  obtain ⟨D, lf, n, h1, ⟨h2, h3, h4⟩, h5, h6⟩ := h
  refine wpList_next_ranges w hg it hop kt K.law rid id id (fun key kl _ => ⟨key, rfl⟩) (fun v y _ => ⟨v, rfl⟩) b r n D lf cnt hit h1 ?_ ?_
  · intro _ hl
    exact hDone fun x hx => by rw [← h5 x hx]; exact hl _
  · intro key v l y w' cnt' hkey hl hy hat hrg hlt hgr hsz hen
    obtain ⟨x, hx, rfl⟩ := h3 l (h6 l hl)
    obtain rfl : key = kv x := K.law.inj hkey (K.read x hx)
    obtain rfl : y = (.held v, []) := (Option.some.inj hy).symm
    have hf : f x = some v := by
      have hs := (h2 x hx).1
      rw [h6 _ hl] at hs
      obtain ⟨u, hu⟩ := Option.isSome_iff_exists.1 hs.symm
      have h7 := (h2 x hx).2 u hu (.held v)
      rw [hat (.held v)] at h7
      injection h7 with h8
      rw [hu, h8]
    have hk : ∀ z, ok z → lf (kl z) = left z := h5
    refine hMore x v w' cnt' hx (by rw [← h5 x hx]; exact hl) hf ⟨D, _, n, hrg, ⟨h2, h3, h4⟩, fun z hz => ?_, fun l hl => h6 l ?_⟩ hlt hgr hsz hen
    · show (lf (kl z) && !(kl z).sameKey (kl x)) = _
      rw [h5 z hz]
      congr 2
      by_cases e : z = x
      · subst e
        rw [WideAt.sameKey_self (K.law.key (K.read z hz))]
        simp
      · have : (kl z).sameKey (kl x) = false := by
          cases hs : (kl z).sameKey (kl x)
          · rfl
          · exact absurd (K.apart hz hx (WideAt.sameKey_eq hs)) e
        rw [this]
        simp [e]
    · have : (lf l && !l.sameKey (kl x)) = true := hl
      exact (Bool.and_eq_true_iff.1 this).1
end
end
end Go.Proofs.YtocombacjpjdbaaDoor
