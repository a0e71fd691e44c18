/- A region that draws its order, one of whose stores turns a cell that was loaded ahead: what is loaded holds till that store comes up. -/
import Derived.Test.YtcmffifehpbjnaaWords2
import Derived.Deep.RegionHeld
namespace Go.Proofs.Ytcmffifehpbjnaa
open Go.RowKit
section
variable {P : Program} {ops : Array Oper} {Q : Exit → Act → World → Prop} {md : Region.Mode} {k : Nat} {S0 S1 : World → Prop}
/-- S0 holds behind each operation that comes up, S1 as long as number k has not come up -/
def TillAt (k : Nat) (S0 S1 : World → Prop) (listed : Array Bool) (w : World) : Prop := S0 w ∧ (listed.getD k false = false → S1 w)
def Till (P : Program) (md : Region.Mode) (ops : Array Oper) (Q : Exit → Act → World → Prop) (k : Nat) (S0 S1 : World → Prop) : Nat → Array Bool → Act → World → Prop
  | 0, l, a, w => Region.ready md ops l = [] ∧ Q .normal a w
  | n + 1, l, a, w => (Region.ready md ops l = [] → Q .normal a w) ∧ ∀ i ∈ Region.ready md ops l, wpOp P ops Q i (fun a' w' => TillAt k S0 S1 (l.setIfInBounds i true) w' ∧ Till P md ops Q k S0 S1 n (l.setIfInBounds i true) a' w') a w
theorem Till.any : ∀ (n : Nat) (l : Array Bool) (a : Act) (w : World), Till P md ops Q k S0 S1 n l a w → wpAny P md ops Q n l a w
  | 0, _, _, _, h => h
  | n + 1, _, _, _, h => ⟨h.1, fun i hi => wpOp_mono (fun a' w' h' => Till.any n _ a' w' h'.2) (h.2 i hi)⟩
/-- number k waits for number i -/
def waits (md : Region.Mode) (ops : Array Oper) (k i : Nat) : Bool := match ops[k]? with
  | some o => o.after.any fun e => Region.binds md e && e.on == i
  | none => false
theorem not_ready_both {i : Nat} {l : Array Bool} (hk : waits md ops k i = true) (hi : i ∈ Region.ready md ops l) (hkr : k ∈ Region.ready md ops l) : False := by
  obtain ⟨_, o, ho, hall⟩ := mem_ready.1 hkr
  have h0 := (mem_ready.1 hi).1
  unfold waits at hk
  rw [ho] at hk
  simp only [Array.any_eq_true', Bool.and_eq_true, beq_iff_eq] at hk
  obtain ⟨e, he, hb, heq⟩ := hk
  have h1 := hall e he hb
  rw [heq] at h1
  rcases Nat.lt_or_ge i l.size with h' | h'
  · simp [h'] at h0 h1; rw [h0] at h1; cases h1
  · simp [Array.getElem?_eq_none h'] at h1
/-- what yields in all worlds that meet R may be taken first; R: S0, or both, where k waits for it -/
theorem Till.first {R : World → Prop} {i : Nat} {oi : Oper} {v : Value} (hi : ops[i]? = some oi) (hsel : ∀ (j : Nat) (o : Oper) cs b, ops[j]? = some o → o.op ≠ .select cs b)
    (hQ : ∀ c a w, Q (.panic c) (a.put oi.dst v) w → Q (.panic c) a w) (hne : i ≠ k) (I : Array Bool → Prop) (hR : ∀ l w, I l → TillAt k S0 S1 l w → R w)
    (hI : ∀ l j, j ∈ Region.ready md ops l → i ∈ Region.ready md ops l → j ≠ i → I l → I (l.setIfInBounds j true)) :
    ∀ (n : Nat) (l : Array Bool) (a : Act) (w : World),
      (∀ j oj, ops[j]? = some oj → j ≠ i → l.getD j true = false → (∀ e ∈ oj.after, Region.binds md e = true → e.on ≠ i) → oi.apart ops oj = true) →
      i ∈ Region.ready md ops l → YieldsIf P ops R oi v a → I l → TillAt k S0 S1 l w →
      Till P md ops Q k S0 S1 n (l.setIfInBounds i true) (a.put oi.dst v) w → Till P md ops Q k S0 S1 (n + 1) l a w := by
  intro n
  induction n with
  | zero =>
    intro l a w _ hr hy hl hT H
    refine ⟨fun h => (by rw [h] at hr; cases hr), fun j hj => ?_⟩
    by_cases hji : j = i
    · subst hji
      exact hy.wpOp hi (hR l w hl hT) ⟨⟨hT.1, fun hg => hT.2 (by rwa [getD_set_ne false hne] at hg)⟩, H⟩
    · have := ready_mono hj hji
      rw [H.1] at this
      cases this
  | succ n ih =>
    intro l a w hfree hr hy hl hT H
    refine ⟨fun h => (by rw [h] at hr; cases hr), fun j hj => ?_⟩
    by_cases hji : j = i
    · subst hji
      exact hy.wpOp hi (hR l w hl hT) ⟨⟨hT.1, fun hg => hT.2 (by rwa [getD_set_ne false hne] at hg)⟩, H⟩
    · have h1 := H.2 j (ready_mono hj hji)
      obtain ⟨hjun, oj, hoj, hall⟩ := mem_ready.1 hj
      have hnot : ∀ e ∈ oj.after, Region.binds md e = true → e.on ≠ i := fun e he hb heq => by
        have h1 := hall e he hb
        have h0 := (mem_ready.1 hr).1
        rw [heq] at h1
        rcases Nat.lt_or_ge i l.size with h' | h'
        · simp [h'] at h0 h1; rw [h0] at h1; cases h1
        · simp [Array.getElem?_eq_none h'] at h1
      have h2 := wpOp_putIf hoj (hfree j oj hoj hji hjun hnot) (fun cs b => hsel i oi cs b hi) (fun cs b => hsel j oj cs b hoj) hQ hy h1
      have hfree' : ∀ q oq, ops[q]? = some oq → q ≠ i → (l.setIfInBounds j true).getD q true = false → (∀ e ∈ oq.after, Region.binds md e = true → e.on ≠ i) → oi.apart ops oq = true := fun q oq hq hqi hun hno => by
        refine hfree q oq hq hqi ?_ hno
        by_cases hjq : j = q
        · subst hjq; exact hjun
        · rwa [getD_set_ne true hjq] at hun
      have hc : ∀ w', TillAt k S0 S1 ((l.setIfInBounds i true).setIfInBounds j true) w' → TillAt k S0 S1 (l.setIfInBounds j true) w' := fun w' h => by
        rw [Array.setIfInBounds_comm _ _ (Ne.symm hji)] at h
        exact ⟨h.1, fun hg => h.2 (by rw [getD_set_ne false hne]; exact hg)⟩
      refine wpOp_mono (fun a' w' h3 => ⟨hc w' h3.2.1, ih (l.setIfInBounds j true) a' w' hfree' (ready_mono hr (Ne.symm hji)) h3.1 (hI l j hj hr hji hl) (hc w' h3.2.1) ?_⟩) h2
      rw [Array.setIfInBounds_comm _ _ hji]
      exact h3.2.2
/-- taken first in every world that meets S0 -/
theorem Till.take0 {i : Nat} {oi : Oper} {v : Value} {n : Nat} {l : Array Bool} {a : Act} {w : World} (hi : ops[i]? = some oi) (hs : Region.noSelect ops = true) (hf : Region.free md ops l i = true) (hr : (Region.ready md ops l).contains i = true)
    (hQ : ∀ c a w, Q (.panic c) (a.put oi.dst v) w → Q (.panic c) a w) (hne : (i != k) = true) (hy : YieldsIf P ops S0 oi v a) (hT : TillAt k S0 S1 l w)
    (h : Till P md ops Q k S0 S1 n (l.setIfInBounds i true) (a.put oi.dst v) w) : Till P md ops Q k S0 S1 (n + 1) l a w :=
  Till.first hi (Region.noSelect_spec hs) hQ (bne_iff_ne.1 hne) (fun _ => True) (fun _ _ _ t => t.1) (fun _ _ _ _ _ _ => trivial) n l a w (Region.free_spec hi hf) (by simpa using hr) hy trivial hT h
/-- taken first in every world that meets both, where k waits for it -/
theorem Till.take1 {i : Nat} {oi : Oper} {v : Value} {n : Nat} {l : Array Bool} {a : Act} {w : World} (hi : ops[i]? = some oi) (hs : Region.noSelect ops = true) (hf : Region.free md ops l i = true) (hr : (Region.ready md ops l).contains i = true)
    (hQ : ∀ c a w, Q (.panic c) (a.put oi.dst v) w → Q (.panic c) a w) (hne : (i != k) = true) (hk : waits md ops k i = true) (hl : l.getD k false = false) (hy : YieldsIf P ops (fun w => S0 w ∧ S1 w) oi v a) (hT : TillAt k S0 S1 l w)
    (h : Till P md ops Q k S0 S1 n (l.setIfInBounds i true) (a.put oi.dst v) w) : Till P md ops Q k S0 S1 (n + 1) l a w :=
  Till.first hi (Region.noSelect_spec hs) hQ (bne_iff_ne.1 hne) (fun l => l.getD k false = false) (fun _ _ g t => ⟨t.1, t.2 g⟩)
    (fun l j hj hi _ g => by rw [getD_set_ne false (fun e => by subst e; exact not_ready_both hk hi hj)]; exact g) n l a w (Region.free_spec hi hf) (by simpa using hr) hy hl hT h
theorem till_at {l : Array Bool} {w : World} (h : S0 w ∧ S1 w) : TillAt k S0 S1 l w := ⟨h.1, fun _ => h.2⟩
theorem till_past {l : Array Bool} {w : World} (h : S0 w) (hl : l.getD k false = true) : TillAt k S0 S1 l w := ⟨h, fun e => by rw [hl] at e; cases e⟩
def TillReady (P : Program) (md : Region.Mode) (ops : Array Oper) (Q : Exit → Act → World → Prop) (k : Nat) (S0 S1 : World → Prop) (n : Nat) (l : Array Bool) (a : Act) (w : World) (rs : List Nat) : Prop :=
  ∀ i ∈ rs, wpOp P ops Q i (fun a' w' => TillAt k S0 S1 (l.setIfInBounds i true) w' ∧ Till P md ops Q k S0 S1 n (l.setIfInBounds i true) a' w') a w
theorem TillReady.nil {n : Nat} {l : Array Bool} {a : Act} {w : World} : TillReady P md ops Q k S0 S1 n l a w [] := fun _ h => by cases h
theorem TillReady.cons {n : Nat} {l : Array Bool} {a : Act} {w : World} {i : Nat} {o : Oper} {rs : List Nat} (ho : ops[i]? = some o)
    (h : ∀ K' : Act → World → Prop, Shut (∀ a w, TillAt k S0 S1 (l.setIfInBounds i true) w → (TillAt k S0 S1 (l.setIfInBounds i true) w → Till P md ops Q k S0 S1 n (l.setIfInBounds i true) a w) → K' a w) → if Region.wanted o (yielded ops a.tmps) = true then Oper.wp P o a w K' Q else K' (a.put o.dst undef) w)
    (hs : TillReady P md ops Q k S0 S1 n l a w rs) : TillReady P md ops Q k S0 S1 n l a w (i :: rs) := fun j hj => by
  rcases List.mem_cons.1 hj with rfl | hj
  · exact wpOp_step ho (fun K' hK => h K' (fun a w hT hW => hK a w ⟨hT, hW hT⟩))
  · exact hs j hj
theorem Till.ready {rs : List Nat} {n : Nat} {l : Array Bool} {a : Act} {w : World} (hr : Region.ready md ops l = rs) (hne : rs ≠ []) (h : TillReady P md ops Q k S0 S1 n l a w rs) : Till P md ops Q k S0 S1 (n + 1) l a w :=
  ⟨fun h0 => absurd (hr ▸ h0) hne, hr ▸ h⟩
theorem Till.done {l : Array Bool} {a : Act} {w : World} (hr : Region.ready md ops l = []) (h : Q .normal a w) : ∀ n, Till P md ops Q k S0 S1 n l a w
  | 0 => ⟨hr, h⟩
  | _ + 1 => ⟨fun _ => h, by rw [hr]; simp⟩
theorem Till.begin {id : Nat} {a : Act} {w : World} (hm : P.follows .mixedOrders = true) (hT : S0 w.drew ∧ S1 w.drew)
    (h : S0 w.drew ∧ S1 w.drew → Till P .any ops Q k S0 S1 ops.size (Array.replicate ops.size false) a w.drew) : (Code.region id ops true).wp P Q a w :=
  wp_region_any hm (Till.any _ _ _ _ (h hT))
end
section
variable {P : Program} {w : World}
theorem step_append_own2 {ops : Array Oper} {o : Oper} {a : Act} {K : Act → World → Prop} {Q : Exit → Act → World → Prop} {E : Prop} (hgd : o.guard = none) (s x : Operand) (t : TypeId)
    (ho : o.op = .call { callee := .builtin .append, args := #[s, x], argTypes := #[t, t] })
    (base : Nat) (e : TypeId) (i : TypeInfo) (z : Value) (size bytes : Nat) (ht : P.underlying t = some (.slice e)) (hi : P.info? e = some i) (hz : i.zero = some z)
    (hsize : i.size = size) (hby : i.bytes = bytes) (hzs : z.cells.size = size) (hsz : 0 < size)
    (v : Value) (n : Nat) (xs : List Value) (hs : a.eval s = v) (hown : w.ownsRow base e size v n xs)
    (B : Nat) (A : Option Addr) (m c : Nat) (ys : List Value) (hx : a.eval x = .slice A m c) (hl : Lies w B A ys) (hm : ys.length = m * size) (hone : ∀ u ∈ ys, u.oneCell' = true)
    (h63 : n + m ≤ maxLen) (hbytes : (n + m) * bytes ≤ 140737488355328) (hbase : base ≤ w.heap.size)
    (h : ∀ v' w', w'.ownsRow base e size v' (n + m) (xs ++ ys) → w.grownBy w' v.ownBlock → (v'.ownBlock = v.ownBlock ∨ v'.ownBlock = some w.heap.size) → K (a.put o.dst v') w') : if Region.wanted o (yielded ops a.tmps) = true then Oper.wp P o a w K Q else E := by
  have hw : Region.wanted o (yielded ops a.tmps) = true := by simp [Region.wanted, hgd]
  rw [if_pos hw]
  obtain ⟨v', w', hrun, h2, h3, h4⟩ := run_append_cells2 (P := P) base t o.type e i z size bytes ht hi hz hsize hby hzs hsz v n xs hown B A m c ys hl hm hone h63 hbytes hbase
  unfold Oper.wp execOp
  simp only [ho, resolve, invoke, builtin, Sem.run_bind, Sem.run_pure, Result.andThen_ok, List.map_toArray, List.map_cons, List.map_nil, hs, hx, hrun]
  exact h v' w' h2 h3 h4
end
end Go.Proofs.Ytcmffifehpbjnaa
