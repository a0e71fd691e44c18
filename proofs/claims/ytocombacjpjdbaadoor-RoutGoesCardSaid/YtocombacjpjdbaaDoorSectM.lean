/- Maps whose elements are whatever values: a map's block said as a function from keys to values. No program is imported. -/
import Derived.Maps.OwnSet
import Derived.Maps.Range
import Derived.DeepKeys4
import Derived.Lib.Hide
namespace Go.Proofs.YtocombacjpjdbaaDoor
open Go.RowKit Go.Maps

/-- a value as it is -/
def rid (v : Value) : Option (DataW Value × List MemPlace) := some (.held v, [])
/-- a kind of keys: how a key stands in memory (kv), which keys are met (ok), what a key reads as (kl) -/
structure KeyKind (P : Program) (kt : TypeId) {κ : Type} (kv : κ → Value) (ok : κ → Prop) (kl : κ → Lit) : Prop where
  law : Keyed P kt
  read : ∀ x, ok x → keyOf P kt (kv x) = some (kl x)
  inj : ∀ x y, kv x = kv y → x = y
section
variable {P : Program} {kt t vt : TypeId} {κ : Type} {kv : κ → Value} {ok : κ → Prop} {kl : κ → Lit} {w w' : World} {b : Nat}
theorem KeyKind.apart (K : KeyKind P kt kv ok kl) {x y : κ} (hx : ok x) (hy : ok y) (h : kl x = kl y) : x = y :=
  K.inj x y (K.law.inj (K.read x hx) (h ▸ K.read y hy))
/-- block b is a map that has just what f tells -/
def MapF (P : Program) (kt : TypeId) (ok : κ → Prop) (kl : κ → Lit) (w : World) (b : Nat) (f : κ → Option Value) : Prop :=
  ∃ D, w.ownsMap P kt rid b (Maps.size D) D ∧ (∀ x, ok x → Maps.has D (kl x) = (f x).isSome ∧ ∀ v, f x = some v → ∀ z, D.atKey (kl x) z = .held v) ∧
    (∀ l, Maps.has D l = true → ∃ x, ok x ∧ l = kl x) ∧ ∀ x v, f x = some v → ok x
variable {f : κ → Option Value}
theorem owns_size {D : DataW Value} {n : Nat} (h : w.ownsMap P kt rid b n D) : w.ownsMap P kt rid b (Maps.size D) D := by
  obtain ⟨es, clock, h1, h2, h3, h4⟩ := h
  refine ⟨es, clock, h1, h2, ?_, h4⟩
  rw [h4]
  simp [Maps.size, length_sorted]
theorem MapF.made (w : World) : MapF P kt ok kl (w.alloc (.map #[] 0)) w.heap.size (fun _ => none) :=
  ⟨.map [], World.ownsMap_made w P kt rid, fun x _ => ⟨rfl, fun v h => by cases h⟩, fun l h => by simp [Maps.has] at h, fun x v h => by cases h⟩
theorem MapF.lt (h : MapF P kt ok kl w b f) : b < w.heap.size := h.choose_spec.1.lt
theorem MapF.block (h : MapF P kt ok kl w b f) (hb : w'.heap[b]? = w.heap[b]?) : MapF P kt ok kl w' b f := by
  obtain ⟨D, ⟨es, clock, h1, h2⟩, h3⟩ := h
  exact ⟨D, ⟨es, clock, hb.trans h1, h2⟩, h3⟩
theorem MapF.same {f' : κ → Option Value} (h : MapF P kt ok kl w b f) (he : ∀ x, f' x = f x) : MapF P kt ok kl w b f' := by
  have e : f' = f := funext he
  rw [e]; exact h
/-- v, ok := m[k] -/
theorem MapF.look {z : Value} (h : MapF P kt ok kl w b f) (K : KeyKind P kt kv ok kl) (ht : P.underlying t = some (.map kt vt)) (hz : (zeroValue vt).run P w = .ok z w) {x : κ} (hx : ok x) :
    (Instr.lookup t (.map (some b)) (kv x) true).run P w = .ok (.tuple #[(f x).getD z, .bool (f x).isSome]) w := by
  obtain ⟨D, h1, h2, h3, h4⟩ := h
  obtain ⟨v, ps, hr, hv⟩ := h1.look_ok K.law ht hz (zd := .held z) (zp := []) rfl (K.read x hx)
  have hv' : DataW.held v = D.atKey (kl x) (.held z) := by
    simp [rid] at hv
    exact hv.1
  obtain ⟨e1, e2⟩ := h2 x hx
  rw [hr, e1]
  cases hf : f x with
  | none =>
    rw [hf] at e1
    rw [Maps.atKey_of_not_has e1] at hv'
    cases hv'
    rfl
  | some u =>
    rw [e2 u hf] at hv'
    cases hv'
    rfl
/-- m[k] -/
theorem MapF.look1 {z : Value} (h : MapF P kt ok kl w b f) (K : KeyKind P kt kv ok kl) (ht : P.underlying t = some (.map kt vt)) (hz : (zeroValue vt).run P w = .ok z w) {x : κ} (hx : ok x) :
    (Instr.lookup t (.map (some b)) (kv x) false).run P w = .ok ((f x).getD z) w := by
  obtain ⟨D, h1, h2, h3, h4⟩ := h
  obtain ⟨v, ps, hr, hv⟩ := h1.lookup K.law ht hz (zd := .held z) (zp := []) rfl (K.read x hx)
  have hv' : DataW.held v = D.atKey (kl x) (.held z) := by
    simp [rid] at hv
    exact hv.1
  obtain ⟨e1, e2⟩ := h2 x hx
  rw [hr]
  cases hf : f x with
  | none =>
    rw [hf] at e1
    rw [Maps.atKey_of_not_has e1] at hv'
    cases hv'
    rfl
  | some u =>
    rw [e2 u hf] at hv'
    cases hv'
    rfl
open Classical in
/-- f, but at x -/
noncomputable def upd (f : κ → Option Value) (x : κ) (o : Option Value) : κ → Option Value := fun y => if y = x then o else f y
theorem upd_self (f : κ → Option Value) (x : κ) (o : Option Value) : upd f x o x = o := by simp [upd]
theorem upd_other (f : κ → Option Value) (x y : κ) (o : Option Value) (h : y ≠ x) : upd f x o y = f y := by simp [upd, h]
/-- m[k] = v -/
theorem MapF.put (h : MapF P kt ok kl w b f) (K : KeyKind P kt kv ok kl) (ht : P.underlying t = some (.map kt vt)) {x : κ} (hx : ok x) (v : Value)
    (hroom : ∀ D : DataW Value, w.ownsMap P kt rid b (Maps.size D) D → (∀ l, Maps.has D l = true → ∃ x, ok x ∧ l = kl x ∧ (f x).isSome = true) → Maps.size D < maxLen) :
    ∃ w', (Instr.mapUpdate t (.map (some b)) (kv x) v).run P w = .ok () w' ∧ MapF P kt ok kl w' b (upd f x (some v)) ∧ w.mapTurned w' b := by
  obtain ⟨D, h1, h2, h3, h4⟩ := h
  have hsz : Maps.size D < maxLen := hroom D h1 (fun l hl => by
    obtain ⟨y, hy, rfl⟩ := h3 l hl
    exact ⟨y, hy, rfl, by rw [← (h2 y hy).1]; exact hl⟩)
  obtain ⟨w1, hr, ho, hm⟩ := h1.store K.law ht hsz (val := v) (d := .held v) (ps := []) (K.read x hx) rfl
  have hk := K.law.key (K.read x hx)
  refine ⟨w1, hr, ⟨D.put (kl x) (.held v), owns_size ho, fun y hy => ?_, fun l hl => ?_, fun y u hy => ?_⟩, hm⟩
  · by_cases e : y = x
    · subst e
      rw [upd_self]
      exact ⟨Maps.has_put_same h1.isMap hk _, fun u hu z => by cases hu; exact Maps.atKey_put_same h1.isMap hk _ _⟩
    · have hne : kl y ≠ kl x := fun e1 => e (K.apart hy hx e1)
      rw [upd_other _ _ _ _ e, Maps.has_put_other hne]
      exact ⟨(h2 y hy).1, fun u hu z => by rw [Maps.atKey_put_other hne]; exact (h2 y hy).2 u hu z⟩
  · by_cases e : l = kl x
    · exact ⟨x, hx, e⟩
    · rw [Maps.has_put_other e] at hl
      exact h3 l hl
  · by_cases e : y = x
    · subst e; exact hx
    · rw [upd_other _ _ _ _ e] at hy
      exact h4 y u hy
/-- delete(m, k) -/
theorem MapF.del (h : MapF P kt ok kl w b f) (K : KeyKind P kt kv ok kl) (ht : P.underlying t = some (.map kt vt)) {x : κ} (hx : ok x) (ty : TypeId) :
    ∃ w', (Builtin.delete_ #[t, kt] ty #[.map (some b), kv x]).run P w = .ok (.tuple #[]) w' ∧ MapF P kt ok kl w' b (upd f x none) ∧ w.mapTurned w' b := by
  obtain ⟨D, h1, h2, h3, h4⟩ := h
  obtain ⟨w1, hr, ho, hm⟩ := h1.drop K.law ht (K.read x hx) ty
  refine ⟨w1, hr, ⟨D.del (kl x), owns_size ho, fun y hy => ?_, fun l hl => ?_, fun y u hy => ?_⟩, hm⟩
  · by_cases e : y = x
    · subst e
      rw [upd_self]
      exact ⟨Maps.has_del_same, fun u hu => by cases hu⟩
    · have hne : kl y ≠ kl x := fun e1 => e (K.apart hy hx e1)
      rw [upd_other _ _ _ _ e, Maps.has_del_other hne]
      exact ⟨(h2 y hy).1, fun u hu z => by rw [Maps.atKey_del_other hne]; exact (h2 y hy).2 u hu z⟩
  · by_cases e : l = kl x
    · subst e; rw [Maps.has_del_same] at hl; cases hl
    · rw [Maps.has_del_other e] at hl
      exact h3 l hl
  · by_cases e : y = x
    · subst e; exact hx
    · rw [upd_other _ _ _ _ e] at hy
      exact h4 y u hy
theorem nodup_le {α : Type} : ∀ (a b : List α), a.Nodup → a ⊆ b → a.length ≤ b.length
  | [], _, _, _ => Nat.zero_le _
  | x :: a, b, h, hs => by
    haveI : DecidableEq α := fun a b => Classical.propDecidable (a = b)
    obtain ⟨h1, h2⟩ := List.nodup_cons.1 h
    have hx : x ∈ b := hs (by simp)
    have h3 := nodup_le a (b.erase x) h2 (fun y hy => by
      have hne : y ≠ x := fun e => h1 (e ▸ hy)
      exact (List.mem_erase_of_ne hne).2 (hs (by simp [hy])))
    rw [List.length_erase_of_mem hx] at h3
    have := List.length_pos_of_mem hx
    simp
    omega
/-- as many entries as keys at most -/
theorem size_bound {D : DataW Value} {n : Nat} (K : KeyKind P kt kv ok kl) (h : w.ownsMap P kt rid b n D) (L : List κ) (hL : ∀ l, Maps.has D l = true → ∃ x ∈ L, l = kl x) : Maps.size D ≤ L.length := by
  obtain ⟨es, rfl, hp, hk⟩ := h.entries K.law
  have h1 : (es.map (·.1)).Nodup := by
    rw [List.nodup_iff_pairwise_ne, List.pairwise_map]
    exact hp
  have h2 : (es.map (·.1)) ⊆ L.map kl := by
    intro l hl
    obtain ⟨p, hp', rfl⟩ := List.mem_map.1 hl
    obtain ⟨x, hx, e⟩ := hL p.1 (by
      rw [Maps.has_eq]
      exact List.any_eq_true.2 ⟨p, hp', WideAt.sameKey_self (hk p hp')⟩)
    exact List.mem_map.2 ⟨x, hx, e.symm⟩
  have h3 := nodup_le _ _ h1 h2
  simpa [Maps.size] using h3
end
end Go.Proofs.YtocombacjpjdbaaDoor
