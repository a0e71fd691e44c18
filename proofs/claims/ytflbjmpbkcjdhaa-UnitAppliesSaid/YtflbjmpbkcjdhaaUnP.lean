/- Layer 13, plain: ops done to a map that is a list of rows, rising. -/
import Derived.Test.YtflbjmpbkcjdhaaUnK
import Derived.Test.YtflbjmpbkcjdhaaSectM
namespace Go.Proofs.Ytflbjmpbkcjdhaa
open Go.RowKit Go.Maps
set_option maxRecDepth 100000
set_option linter.unusedSimpArgs false
set_option linter.unusedVariables false

def ltL (a b : List UInt8) : Bool := decide (a < b)
theorem ltL_self (a : List UInt8) : ltL a a = false := by simp [ltL, List.lt_irrefl]
theorem ltL_trans {a b c : List UInt8} (h1 : ltL a b = true) (h2 : ltL b c = true) : ltL a c = true := by
  simp only [ltL, decide_eq_true_eq] at *
  exact List.lt_trans h1 h2
theorem ltL_ne {a b : List UInt8} (h : ltL a b = true) : a ≠ b := by
  rintro rfl
  rw [ltL_self] at h
  cases h
theorem ltL_asymm {a b : List UInt8} (h : ltL a b = true) : ltL b a = false := by
  cases e : ltL b a
  · rfl
  · have := ltL_trans h e
    rw [ltL_self] at this
    cases this
theorem ltL_total {a b : List UInt8} (h1 : ltL a b = false) (h2 : ltL b a = false) : a = b := by
  simp only [ltL, decide_eq_false_iff_not, List.not_lt] at *
  exact List.le_antisymm h2 h1
/-- the order of octets as the model asks it -/
theorem less_is : ∀ (l l' : List UInt8), Op.bytesLess l l' = ltL l l' := by
  intro l
  induction l with
  | nil => intro l'; cases l' <;> simp [Op.bytesLess, ltL]
  | cons c l ih =>
    intro l'
    cases l' with
    | nil => simp [Op.bytesLess, ltL]
    | cons d l' =>
      rw [Op.bytesLess, ih, Bool.eq_iff_iff]
      simp [ltL, List.cons_lt_cons_iff]

abbrev KV : Type := List UInt8 × List UInt8
def insK (o : Opx) : List KV := if o.del then [] else [(o.key, o.val)]
def doK : List KV → Opx → List KV
  | [], o => insK o
  | p :: L, o => if ltL p.1 o.key = true then p :: doK L o else insK o ++ (if p.1 = o.key then L else p :: L)
def doAll (L : List KV) (l : List Opx) : List KV := l.foldl doK L
theorem doAll_take (L : List KV) (l : List Opx) (j : Nat) (h : j < l.length) : doAll L (l.take (j + 1)) = doK (doAll L (l.take j)) l[j] := by
  unfold doAll
  rw [List.take_succ_eq_append_getElem h, List.foldl_append]
  rfl
theorem doAll_append (L : List KV) (a b : List Opx) : doAll L (a ++ b) = doAll (doAll L a) b := by
  unfold doAll
  rw [List.foldl_append]
/-- where the walk of it stands -/
theorem doK_at (o : Opx) : ∀ (L : List KV) (k : Nat), k ≤ L.length → (∀ i (h : i < L.length), i < k → ltL L[i].1 o.key = true) → (∀ h : k < L.length, ltL L[k].1 o.key = false) →
    doK L o = L.take k ++ insK o ++ (if h : k < L.length then (if L[k].1 = o.key then L.drop (k + 1) else L.drop k) else [])
  | [], k, hk, _, _ => by
    have : k = 0 := by simpa using hk
    subst this
    simp [doK]
  | p :: L, 0, _, _, h2 => by
    have h := h2 (by simp)
    simp only [List.getElem_cons_zero] at h
    rw [doK, h]
    simp
  | p :: L, k + 1, hk, h1, h2 => by
    have h := h1 0 (by simp) (by omega)
    simp only [List.getElem_cons_zero] at h
    rw [doK, h, if_pos rfl, doK_at o L k (by simpa using hk) (fun i hi hik => by have := h1 (i + 1) (by simp; omega) (by omega); simpa using this) (fun hh => by have := h2 (by simp; omega); simpa using this)]
    simp
def Rising (L : List KV) : Prop := L.Pairwise (fun a b => ltL a.1 b.1 = true)
theorem insK_mem {o : Opx} {p : KV} (h : p ∈ insK o) : p.1 = o.key := by
  unfold insK at h
  split at h
  · cases h
  · rw [List.mem_singleton] at h; rw [h]
theorem doK_mem {o : Opx} : ∀ {L : List KV} {p : KV}, p ∈ doK L o → p.1 = o.key ∨ p ∈ L
  | [], p, h => .inl (insK_mem h)
  | q :: L, p, h => by
    rw [doK] at h
    split at h
    · rcases List.mem_cons.1 h with rfl | h
      · exact .inr (by simp)
      · rcases doK_mem h with h | h
        · exact .inl h
        · exact .inr (by simp [h])
    · rcases List.mem_append.1 h with h | h
      · exact .inl (insK_mem h)
      · split at h
        · exact .inr (by simp [h])
        · exact .inr h
theorem ins_cons {o : Opx} {M : List KV} (hM : ∀ p ∈ M, ltL o.key p.1 = true) (hr : Rising M) : Rising (insK o ++ M) := by
  unfold insK
  split
  · simpa using hr
  · exact List.pairwise_cons.2 ⟨fun p hp => hM p hp, hr⟩
theorem doK_rising {o : Opx} : ∀ {L : List KV}, Rising L → Rising (doK L o)
  | [], _ => by
    rw [doK]
    have := ins_cons (o := o) (M := []) (fun p hp => by cases hp) List.Pairwise.nil
    simpa using this
  | q :: L, h => by
    obtain ⟨h1, h2⟩ := List.pairwise_cons.1 h
    rw [doK]
    split
    · rename_i hq
      refine List.pairwise_cons.2 ⟨fun p hp => ?_, doK_rising h2⟩
      rcases doK_mem hp with hp | hp
      · rw [hp]; exact hq
      · exact h1 p hp
    · rename_i hq
      have hq : ltL q.1 o.key = false := by simpa using hq
      split
      · rename_i e
        exact ins_cons (fun p hp => by rw [← e]; exact h1 p hp) h2
      · rename_i e
        have hgt : ltL o.key q.1 = true := by
          cases e2 : ltL o.key q.1
          · exact absurd (ltL_total hq e2) e
          · rfl
        refine ins_cons (fun p hp => ?_) h
        rcases List.mem_cons.1 hp with rfl | hp
        · exact hgt
        · exact ltL_trans hgt (h1 p hp)
def fmK : List KV → List UInt8 → Option (List UInt8)
  | [], _ => none
  | p :: L, x => if x = p.1 then some p.2 else fmK L x
theorem fmK_none : ∀ {L : List KV} {x : List UInt8}, (∀ p ∈ L, ltL x p.1 = true) → fmK L x = none
  | [], _, _ => rfl
  | p :: L, x, h => by
    rw [fmK, if_neg (ltL_ne (h p (by simp)))]
    exact fmK_none fun q hq => h q (by simp [hq])
theorem fmK_some : ∀ {L : List KV} {x v : List UInt8}, fmK L x = some v → (x, v) ∈ L
  | [], _, _, h => by cases h
  | p :: L, x, v, h => by
    rw [fmK] at h
    split at h
    · rename_i e
      injection h with h
      rw [e, ← h]
      simp
    · simp [fmK_some h]
theorem fmK_at : ∀ {L : List KV}, Rising L → ∀ i (h : i < L.length), fmK L L[i].1 = some L[i].2
  | p :: L, hr, 0, _ => by simp [fmK]
  | p :: L, hr, i + 1, h => by
    obtain ⟨h1, h2⟩ := List.pairwise_cons.1 hr
    have hi : i < L.length := by simpa using h
    have := h1 L[i] (List.getElem_mem hi)
    simp only [List.getElem_cons_succ]
    rw [fmK, if_neg (fun e => ltL_ne this e.symm), fmK_at h2 i hi]
theorem fmK_ins (o : Opx) (M : List KV) (x : List UInt8) : fmK (insK o ++ M) x = if x = o.key then (if o.del then fmK M x else some o.val) else fmK M x := by
  unfold insK
  cases o.del
  · simp only [Bool.false_eq_true, if_false, List.cons_append, List.nil_append, fmK]
  · simp
theorem fmK_do (o : Opx) : ∀ {L : List KV}, Rising L → ∀ x, fmK (doK L o) x = if x = o.key then (if o.del then none else some o.val) else fmK L x
  | [], _, x => by
    rw [doK]
    have := fmK_ins o [] x
    rw [List.append_nil] at this
    rw [this]
    rfl
  | p :: L, hr, x => by
    obtain ⟨h1, h2⟩ := List.pairwise_cons.1 hr
    rw [doK]
    split
    · rename_i hq
      have hne := ltL_ne hq
      rw [fmK, fmK_do o h2 x, fmK]
      by_cases e : x = p.1
      · have : ¬ x = o.key := fun e2 => hne (e ▸ e2)
        rw [if_pos e, if_neg this, if_pos e]
      · rw [if_neg e, if_neg e]
    · rename_i hq
      have hq : ltL p.1 o.key = false := by simpa using hq
      split
      · rename_i e
        rw [fmK_ins, fmK]
        by_cases ex : x = o.key
        · have hn : fmK L x = none := fmK_none fun q hq => by rw [ex, ← e]; exact h1 q hq
          rw [if_pos ex, if_pos ex, hn]
        · rw [if_neg ex, if_neg ex, if_neg (by rw [e]; exact ex)]
      · rename_i e
        have hgt : ltL o.key p.1 = true := by
          cases e2 : ltL o.key p.1
          · exact absurd (ltL_total hq e2) e
          · rfl
        rw [fmK_ins]
        by_cases ex : x = o.key
        · have hn : fmK (p :: L) x = none := fmK_none fun q hq => by
            rw [ex]
            rcases List.mem_cons.1 hq with rfl | hq
            · exact hgt
            · exact ltL_trans hgt (h1 q hq)
          rw [if_pos ex, if_pos ex, hn]
        · rw [if_neg ex, if_neg ex]
theorem doAll_rising {L : List KV} (h : Rising L) : ∀ l : List Opx, Rising (doAll L l) := by
  intro l
  induction l generalizing L with
  | nil => exact h
  | cons o l ih => exact ih (doK_rising h)
theorem doK_length (L : List KV) (o : Opx) : (doK L o).length ≤ L.length + 1 := by
  induction L with
  | nil => unfold doK insK; split <;> simp
  | cons p L ih =>
    rw [doK]
    split
    · simp only [List.length_cons]; omega
    · have : (insK o).length ≤ 1 := by unfold insK; split <;> simp
      split <;> simp only [List.length_append, List.length_cons] <;> omega
theorem doAll_length (L : List KV) (l : List Opx) : (doAll L l).length ≤ L.length + l.length := by
  induction l generalizing L with
  | nil => simp [doAll]
  | cons o l ih =>
    have h1 := ih (doK L o)
    have h2 := doK_length L o
    show (doAll (doK L o) l).length ≤ _
    rw [List.length_cons]
    omega
/-! ### strings as keys, in memory -/
def ksV (x : List UInt8) : Value := .string ⟨x.toArray⟩
def ksOk (x : List UInt8) : Prop := x.length ≤ maxLen
def ksL' (x : List UInt8) : Lit := .string x
theorem ks_kind : KeyKind Try.prog 9 ksV ksOk ksL' where
  law := string_keyed Try.underlying9
  read x hx := by
    have := WideMaps.keyOf_string_mk (s := ⟨x.toArray⟩) Try.underlying9 (by simpa [ByteArray.size, ksOk] using hx)
    simpa [ksV, ksL'] using this
  inj x y h := by
    simp [ksV] at h
    exact h
/-- block b is the map of the rows L -/
def MapK (w : World) (b : Nat) (L : List KV) : Prop := MapF Try.prog 9 ksOk ksL' w b (fun x => (fmK L x).map ksV)
theorem map_len {w : World} {b : Nat} {L : List KV} (h : MapK w b L) (hr : Rising L) (hk : ∀ p ∈ L, ksOk p.1) (ty : TypeId) : (Builtin.len_ #[42] ty #[.map (some b)]).run Try.prog w = .ok (.int .i64 L.length) w := by
  obtain ⟨D, h1, h2, h3, h4⟩ := h
  rw [h1.len Try.underlying42]
  have e1 : Maps.size D ≤ L.length := by
    have := size_bound ks_kind h1 (L.map (·.1)) (fun l hl => by
      obtain ⟨x, hx, rfl⟩ := h3 l hl
      have h7 : has D (ksL' x) = ((fmK L x).map ksV).isSome := (h2 x hx).1
      rw [hl] at h7
      cases hf : fmK L x with
      | none => rw [hf] at h7; cases h7
      | some v => exact ⟨x, List.mem_map.2 ⟨(x, v), fmK_some hf, rfl⟩, rfl⟩)
    simpa using this
  have e2 : L.length ≤ Maps.size D := by
    obtain ⟨es, rfl, hp, hkk⟩ := h1.entries ks_kind.law
    have hnd : (L.map fun p => ksL' p.1).Nodup := by
      rw [List.nodup_iff_pairwise_ne, List.pairwise_map]
      refine List.Pairwise.imp (R := fun (a b : KV) => ltL a.1 b.1 = true) (S := fun (a b : KV) => ksL' a.1 ≠ ksL' b.1) (fun {a b} hab e => ?_) hr
      have e2 : Lit.string a.1 = Lit.string b.1 := e
      injection e2 with e3
      exact ltL_ne hab e3
    have hsub : (L.map fun p => ksL' p.1) ⊆ es.map (·.1) := by
      intro l hl
      obtain ⟨p, hp', rfl⟩ := List.mem_map.1 hl
      obtain ⟨i, hi, rfl⟩ := List.mem_iff_getElem.1 hp'
      have h5 : has (.map es) (ksL' L[i].1) = ((fmK L L[i].1).map ksV).isSome := (h2 L[i].1 (hk _ hp')).1
      rw [fmK_at hr i hi, Maps.has_eq] at h5
      obtain ⟨q, hq, hs⟩ := List.any_eq_true.1 (h5.trans rfl)
      refine List.mem_map.2 ⟨q, hq, ?_⟩
      by_cases e : q.1 = ksL' L[i].1
      · exact e
      · rw [Maps.sameKey_ne e] at hs
        cases hs
    have := nodup_le _ _ hnd hsub
    simpa [Maps.size] using this
  rw [show Maps.size D = L.length by omega]
theorem ks_map (x : List UInt8) (h : x.length ≤ 1000000) : ksOk x := room63 (by omega)
/-- an op done to the map -/
theorem MapK.put {w : World} {b : Nat} {L : List KV} (h : MapK w b L) (hr : Rising L) (o : Opx) (hd : o.del = false) (hk : ksOk o.key) (hl : L.length < maxLen) :
    ∃ w', (Instr.mapUpdate 42 (.map (some b)) (.string ⟨o.key.toArray⟩) (.string ⟨o.val.toArray⟩)).run Try.prog w = .ok () w' ∧ MapK w' b (doK L o) ∧ w.mapTurned w' b := by
  obtain ⟨w', h1, h2, h3⟩ := MapF.put h ks_kind Try.underlying42 hk (ksV o.val) (fun D hD hkk => by
    refine Nat.lt_of_le_of_lt (size_bound ks_kind hD (L.map (·.1)) (fun l hl => ?_)) (by simpa using hl)
    obtain ⟨x, _, e, hs⟩ := hkk l hl
    cases hf : fmK L x with
    | none =>
      have : ((fmK L x).map ksV).isSome = true := hs
      rw [hf] at this
      cases this
    | some v => exact ⟨x, List.mem_map.2 ⟨(x, v), fmK_some hf, rfl⟩, e⟩)
  refine ⟨w', h1, h2.same (fun x => ?_), h3⟩
  show (fmK (doK L o) x).map ksV = upd (fun x => (fmK L x).map ksV) o.key (some (ksV o.val)) x
  rw [fmK_do o hr x, hd]
  by_cases e : x = o.key
  · subst e
    rw [upd_self, if_pos rfl]
    rfl
  · rw [upd_other _ _ _ _ e, if_neg e]
theorem MapK.del {w : World} {b : Nat} {L : List KV} (h : MapK w b L) (hr : Rising L) (o : Opx) (hd : o.del = true) (hk : ksOk o.key) (ty : TypeId) :
    ∃ w', (Builtin.delete_ #[42, 9] ty #[.map (some b), .string ⟨o.key.toArray⟩]).run Try.prog w = .ok (.tuple #[]) w' ∧ MapK w' b (doK L o) ∧ w.mapTurned w' b := by
  obtain ⟨w', h1, h2, h3⟩ := MapF.del h ks_kind Try.underlying42 hk ty
  refine ⟨w', h1, h2.same (fun x => ?_), h3⟩
  show (fmK (doK L o) x).map ksV = upd (fun x => (fmK L x).map ksV) o.key none x
  rw [fmK_do o hr x, hd]
  by_cases e : x = o.key
  · subst e
    rw [upd_self, if_pos rfl]
    rfl
  · rw [upd_other _ _ _ _ e, if_neg e]
theorem MapK.look {w : World} {b : Nat} {L : List KV} (h : MapK w b L) (hr : Rising L) (i : Nat) (hi : i < L.length) (hk : ksOk L[i].1) :
    (Instr.lookup 42 (.map (some b)) (.string ⟨L[i].1.toArray⟩) true).run Try.prog w = .ok (.tuple #[.string ⟨L[i].2.toArray⟩, .bool true]) w := by
  have h1 := MapF.look h ks_kind Try.underlying42 (z := .string ⟨#[]⟩) (by go_simp) hk
  simp only [fmK_at hr i hi] at h1
  exact h1
end Go.Proofs.Ytflbjmpbkcjdhaa
