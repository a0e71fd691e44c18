/- What the statements' own maker of methods makes of a form's letters: plain words, and its walk. -/
import Derived.Test.YtlfppfknelddcaaDoorMethC
import Derived.Test.YtlfppfknelddcaaDoorMethR
import Derived.Deep.DeepCutAuto
import Derived.Deep.DeepMust
import Derived.BigRegion
import Derived.Test.YtlfppfknelddcaaDoorStep2
namespace Go.Proofs.YtlfppfknelddcaaDoor
open Go.RowKit
set_option maxRecDepth 100000
set_option linter.unusedSimpArgs false
set_option linter.unusedVariables false

/-! ### plain -/
/-- the cells of the two numbers of each row -/
def pairC (R : List FRow) : List Value := R.flatMap fun r => [.int .i64 r.1, .int .i64 r.2.1]
theorem pairC_get : ∀ (R : List FRow) (j : Nat) (h : j < R.length), (pairC R)[2 * j]? = some (.int .i64 R[j].1) ∧ (pairC R)[2 * j + 1]? = some (.int .i64 R[j].2.1)
  | [], j, h => by simp at h
  | r :: R, 0, h => ⟨rfl, rfl⟩
  | r :: R, j + 1, h => by
    have ih := pairC_get R j (by simpa using h)
    exact ih
theorem bad_app : ∀ (ls ls2 : List UInt8) (p q : Parts), Asked ls p → badP (ls ++ ls2) ⟨p.n ++ q.n, p.s ++ q.s, p.f ++ q.f, p.t⟩ = (badP ls p || badP ls2 ⟨q.n, q.s, q.f, p.t⟩) := by
  intro ls
  induction ls with
  | nil =>
    intro ls2 p q ha
    have h1 : p.n = [] := List.eq_nil_of_length_eq_zero ha.n
    have h2 : p.s = [] := List.eq_nil_of_length_eq_zero ha.s
    have h3 : p.f = [] := List.eq_nil_of_length_eq_zero ha.f
    rw [h1, h2, h3]
    simp [badP]
  | cons ch ls ih =>
    intro ls2 p q ha
    obtain ⟨an, asx, af⟩ := ha
    rcases letter_cases ch with e | e | e | e | ⟨h1, h2, h3, h4⟩
    · subst e
      have hs : p.s.length = cS ls + 1 := by rw [asx]; unfold cS; simp; omega
      obtain ⟨x, xs, hx⟩ : ∃ x xs, p.s = x :: xs := by
        cases h : p.s with
        | nil => rw [h] at hs; simp at hs
        | cons x xs => exact ⟨x, xs, rfl⟩
      have ha2 : Asked ls { p with s := xs } := ⟨by simpa [cN] using an, by rw [hx] at hs; simpa using hs, by simpa [cF] using af⟩
      have := ih ls2 { p with s := xs } q ha2
      simp only [List.cons_append, badP, if_true, hx, List.headD_cons, List.tail_cons] at this ⊢
      simp only [this, Bool.or_assoc]
      try rfl
    · subst e
      have hs : p.s.length = cS ls + 1 := by rw [asx]; unfold cS; simp; omega
      obtain ⟨x, xs, hx⟩ : ∃ x xs, p.s = x :: xs := by
        cases h : p.s with
        | nil => rw [h] at hs; simp at hs
        | cons x xs => exact ⟨x, xs, rfl⟩
      have ha2 : Asked ls { p with s := xs } := ⟨by simpa [cN] using an, by rw [hx] at hs; simpa using hs, by simpa [cF] using af⟩
      have := ih ls2 { p with s := xs } q ha2
      simp only [List.cons_append, badP, if_true, hx, List.headD_cons, List.tail_cons, show ¬ ((108 : UInt8) = 115) by decide, if_false] at this ⊢
      rw [this]
    · subst e
      have hs : p.f.length = cF ls + 1 := by rw [af]; unfold cF; simp
      obtain ⟨x, xs, hx⟩ : ∃ x xs, p.f = x :: xs := by
        cases h : p.f with
        | nil => rw [h] at hs; simp at hs
        | cons x xs => exact ⟨x, xs, rfl⟩
      have ha2 : Asked ls { p with f := xs } := ⟨by simpa [cN] using an, by simpa [cS] using asx, by rw [hx] at hs; simpa using hs⟩
      have := ih ls2 { p with f := xs } q ha2
      simp only [List.cons_append, badP, if_true, hx, List.headD_cons, List.tail_cons, show ¬ ((102 : UInt8) = 115) by decide, show ¬ ((102 : UInt8) = 108) by decide, if_false] at this ⊢
      rw [this]
    · subst e
      have ha2 : Asked ls p := ⟨by simpa [cN] using an, by simpa [cS] using asx, by simpa [cF] using af⟩
      have := ih ls2 p q ha2
      simp only [List.cons_append, badP, if_true, show ¬ ((116 : UInt8) = 115) by decide, show ¬ ((116 : UInt8) = 108) by decide, show ¬ ((116 : UInt8) = 102) by decide, if_false] at this ⊢
      simp only [this, Bool.or_assoc]
      try rfl
    · have hs : p.n.length = cN ls + 1 := by rw [an]; unfold cN; rw [List.countP_cons]; simp [h1, h2, h3, h4]
      obtain ⟨x, xs, hx⟩ : ∃ x xs, p.n = x :: xs := by
        cases h : p.n with
        | nil => rw [h] at hs; simp at hs
        | cons x xs => exact ⟨x, xs, rfl⟩
      have ha2 : Asked ls { p with n := xs } := ⟨by rw [hx] at hs; simpa using hs, by rw [asx]; unfold cS; simp [h1, h2], by rw [af]; unfold cF; simp [h3]⟩
      have := ih ls2 { p with n := xs } q ha2
      simp only [List.cons_append, badP, h1, h2, h3, h4, if_false, hx, List.headD_cons, List.tail_cons] at this ⊢
      simp only [this, Bool.or_assoc]
      try rfl
/-- the table that stands beside the parts hangs on nothing else -/
theorem bad_table : ∀ (ls : List UInt8) (p : Parts) (t : List Fld), okB p.t = true → okB t = true → badP ls { p with t := t } = badP ls p := by
  intro ls
  induction ls with
  | nil => intro p t _ _; rfl
  | cons ch ls ih =>
    intro p t h1 h2
    unfold badP
    split
    · rw [ih { p with s := p.s.tail } t h1 h2]
    split
    · rw [ih { p with s := p.s.tail } t h1 h2]
    split
    · rw [ih { p with f := p.f.tail } t h1 h2]
    split
    · rw [ih p t h1 h2, h1, h2]
    · rw [ih { p with n := p.n.tail } t h1 h2]
/-- parts made so far, of letters -/
structure MadeOf (ls : List UInt8) (p : Parts) : Prop where
  asked : Asked ls p
  good : badP ls p = false
  fine : Fine p
  tab : okB p.t = true
  s255 : ∀ x ∈ p.s, x.length ≤ 255
theorem okB_nil : okB [] = true := by rfl
theorem MadeOf.start : MadeOf [] Parts.none_ := ⟨⟨rfl, rfl, rfl⟩, rfl, ⟨fun x hx => by simp [Parts.none_] at hx, fun x hx => by simp [Parts.none_] at hx⟩, okB_nil, fun x hx => by simp [Parts.none_] at hx⟩
section
variable {ls : List UInt8} {p : Parts}
theorem MadeOf.text (h : MadeOf ls p) {ch : UInt8} (hc : ch = 115 ∨ ch = 108) {v : List UInt8} (hv : v.length ≤ 255) : MadeOf (ls ++ [ch]) { p with s := p.s ++ [v] } := by
  have hb := bad_app ls [ch] p (pS v) h.asked
  refine ⟨?_, ?_, ⟨?_, h.fine.2⟩, h.tab, ?_⟩
  · obtain ⟨an, asx, af⟩ := h.asked
    rcases hc with rfl | rfl
    · exact ⟨by rw [an]; simp [cN], by simp [asx, cS]; omega, by rw [af]; simp [cF]⟩
    · exact ⟨by rw [an]; simp [cN], by simp [asx, cS]; omega, by rw [af]; simp [cF]⟩
  · simp only [List.append_nil] at hb
    rw [hb, h.good]
    rcases hc with rfl | rfl
    · simp [badP]; omega
    · simp [badP]
  · intro x hx
    rcases List.mem_append.1 hx with hx | hx
    · exact h.fine.1 x hx
    · rw [List.mem_singleton] at hx; subst hx; omega
  · intro x hx
    rcases List.mem_append.1 hx with hx | hx
    · exact h.s255 x hx
    · rw [List.mem_singleton] at hx; subst hx; exact hv
theorem MadeOf.flag (h : MadeOf ls p) (v : Bool) : MadeOf (ls ++ [102]) { p with f := p.f ++ [v] } := by
  have hb := bad_app ls [102] p (pF v) h.asked
  refine ⟨?_, ?_, ⟨h.fine.1, h.fine.2⟩, h.tab, h.s255⟩
  · obtain ⟨an, asx, af⟩ := h.asked
    exact ⟨by rw [an]; simp [cN], by rw [asx]; simp [cS], by simp [af, cF]⟩
  · simp only [List.append_nil] at hb
    rw [hb, h.good]
    simp [badP]
theorem MadeOf.table (h : MadeOf ls p) {t : List Fld} (ht : okB t = true) : MadeOf (ls ++ [116]) { p with t := t } := by
  have hb := bad_app ls [116] { p with t := t } Parts.none_ ⟨h.asked.1, h.asked.2, h.asked.3⟩
  refine ⟨?_, ?_, ⟨h.fine.1, h.fine.2⟩, ht, h.s255⟩
  · obtain ⟨an, asx, af⟩ := h.asked
    exact ⟨by rw [an]; simp [cN], by rw [asx]; simp [cS], by rw [af]; simp [cF]⟩
  · simp only [Parts.none_, List.append_nil] at hb
    rw [hb, bad_table ls p t h.tab ht, h.good]
    simp [badP, ht]
theorem MadeOf.num (h : MadeOf ls p) {ch : UInt8} (hc : ch ≠ 115 ∧ ch ≠ 108 ∧ ch ≠ 102 ∧ ch ≠ 116) {v : Nat} (hv : v < 256 ^ wd ch) (hv2 : v < 18446744073709551616) : MadeOf (ls ++ [ch]) { p with n := p.n ++ [v] } := by
  obtain ⟨h1, h2, h3, h4⟩ := hc
  have hb := bad_app ls [ch] p (pN v) h.asked
  refine ⟨?_, ?_, ⟨h.fine.1, ?_⟩, h.tab, h.s255⟩
  · obtain ⟨an, asx, af⟩ := h.asked
    exact ⟨by simp [an, cN, h1, h2, h3, h4], by rw [asx]; simp [cS, h1, h2], by rw [af]; simp [cF, h3]⟩
  · simp only [List.append_nil] at hb
    rw [hb, h.good]
    simp [badP, h1, h2, h3, h4]
    omega
  · intro x hx
    rcases List.mem_append.1 hx with hx | hx
    · exact h.fine.2 x hx
    · rw [List.mem_singleton] at hx; subst hx; exact hv2
end
/-! ### the walk -/
/-- what lies there while parts are made -/
structure MAt (w wr : World) (g : Nat) (c i : Int) (vN vS vF vT : Value) (p : Parts) : Prop where
  ms : Whole wr g 32 #[.int .i64 c, .int .i64 i, vN, vS, vF, vT]
  bel : Below w.heap.size w wr
  n : wr.ownsRow (g + 1) 27 1 vN p.n.length (cellsN p.n)
  s : wr.ownsRow (g + 1) 9 1 vS p.s.length (cellsS p.s)
  f : wr.ownsRow (g + 1) 4 1 vF p.f.length (cellsB p.f)
theorem nums_info : (Tryd.prog.info? 27).map (fun i => (i.zero, i.size, i.bytes)) = some (some (.int .u64 0), 1, 8) := by kernel_rfl
theorem flags_info : (Tryd.prog.info? 4).map (fun i => (i.zero, i.size, i.bytes)) = some (some (.bool false), 1, 1) := by kernel_rfl
theorem texts_info : (Tryd.prog.info? 9).map (fun i => (i.zero, i.size, i.bytes)) = some (some (.string ⟨#[]⟩), 1, 16) := by kernel_rfl
/-- rows of other kinds lie apart -/
theorem own_types {w : World} {b1 b2 : Nat} {e1 e2 : TypeId} {s1 s2 n1 n2 : Nat} {v1 v2 : Value} {xs1 xs2 : List Value} (h1 : w.ownsRow b1 e1 s1 v1 n1 xs1) (h2 : w.ownsRow b2 e2 s2 v2 n2 xs2) (hne : e1 ≠ e2) : v1.ownBlock = none ∨ v1.ownBlock ≠ v2.ownBlock := by
  rcases h1.2 with ⟨rfl, _⟩ | ⟨g1, c1, u1, rfl, _, hg1, _⟩
  · exact .inl rfl
  · right
    rcases h2.2 with ⟨rfl, _⟩ | ⟨g2, c2, u2, rfl, _, hg2, _⟩
    · intro e; cases e
    · intro e
      have e2 : g1 = g2 := Option.some.inj e
      subst e2
      rw [hg1] at hg2
      injection hg2 with hg2
      injection hg2 with _ hg2
      exact hne hg2
theorem extract_list0 (s : List UInt8) (j : Nat) : (⟨s.toArray⟩ : ByteArray).extract 0 j = ⟨(s.take j).toArray⟩ := by
  have e : ((⟨s.toArray⟩ : ByteArray).extract 0 j).data = (s.take j).toArray := by simp
  cases h : (⟨s.toArray⟩ : ByteArray).extract 0 j with
  | mk d => rw [h] at e; simp only at e; rw [e]
theorem own_set {w : World} {g n e sz k : Nat} {v u : Value} {xs : List Value} (h : w.ownsRow (g + 1) e sz v n xs) : (w.setCell ⟨g, k, none⟩ u).ownsRow (g + 1) e sz v n xs :=
  h.kept (only_set (only_refl w (some g)) k u) (by
    cases hv : v.ownBlock with
    | none => exact .inl rfl
    | some b =>
      right
      intro e
      have := (h.lt b hv).1
      have e2 : b = g := Option.some.inj e
      omega)
section
variable {w wr w3 : World} {g : Nat} {c i : Int} {vN vS vF vT v3 : Value} {p : Parts} {o : Obj}
theorem MAt.keepN (h : MAt w wr g c i vN vS vF vT p) {v : Value} {e n : Nat} {xs : List Value} (ho : wr.ownsRow (g + 1) e 1 v n xs) (he : 27 ≠ e) (hg : (wr.alloc o).grownBy w3 v.ownBlock) : w3.ownsRow (g + 1) 27 1 vN p.n.length (cellsN p.n) :=
  (h.n.alloc o).kept hg (own_types h.n ho he)
theorem MAt.keepS (h : MAt w wr g c i vN vS vF vT p) {v : Value} {e n : Nat} {xs : List Value} (ho : wr.ownsRow (g + 1) e 1 v n xs) (he : 9 ≠ e) (hg : (wr.alloc o).grownBy w3 v.ownBlock) : w3.ownsRow (g + 1) 9 1 vS p.s.length (cellsS p.s) :=
  (h.s.alloc o).kept hg (own_types h.s ho he)
theorem MAt.keepF (h : MAt w wr g c i vN vS vF vT p) {v : Value} {e n : Nat} {xs : List Value} (ho : wr.ownsRow (g + 1) e 1 v n xs) (he : 4 ≠ e) (hg : (wr.alloc o).grownBy w3 v.ownBlock) : w3.ownsRow (g + 1) 4 1 vF p.f.length (cellsB p.f) :=
  (h.f.alloc o).kept hg (own_types h.f ho he)
theorem MAt.keepM (h : MAt w wr g c i vN vS vF vT p) {v : Value} {e n : Nat} {xs : List Value} (ho : wr.ownsRow (g + 1) e 1 v n xs) (hg : (wr.alloc o).grownBy w3 v.ownBlock) : Whole w3 g 32 #[.int .i64 c, .int .i64 i, vN, vS, vF, vT] :=
  (h.ms.alloc o).grown hg (fun e => by have := (ho.lt g e.symm).1; omega)
theorem MAt.keepB (h : MAt w wr g c i vN vS vF vT p) (hwg : w.heap.size ≤ g) {v : Value} {e n : Nat} {xs : List Value} (ho : wr.ownsRow (g + 1) e 1 v n xs) (hg : (wr.alloc o).grownBy w3 v.ownBlock) : Below w.heap.size w w3 :=
  (h.bel.alloc h.bel.size o).grown hg (Nat.le_trans h.bel.size (by simp)) (fun k hk => by have := (ho.lt k hk).1; omega)
theorem MAt.text (h : MAt w wr g c i vN vS vF vT p) (hwg : w.heap.size ≤ g) {v : List UInt8} (hown : w3.ownsRow (g + 1) 9 1 v3 (p.s.length + 1) (cellsS p.s ++ [St v])) (hg : (wr.alloc o).grownBy w3 vS.ownBlock) :
    MAt w (w3.setCell ⟨g, 3, none⟩ v3) g c i vN v3 vF vT { p with s := p.s ++ [v] } := by
  refine ⟨(h.keepM h.s hg).put 3 v3, (h.keepB hwg h.s hg).setCell (p := ⟨g, 3, none⟩) hwg _, own_set (h.keepN h.s (by decide) hg), ?_, own_set (h.keepF h.s (by decide) hg)⟩
  have e : cellsS (p.s ++ [v]) = cellsS p.s ++ [St v] := by simp [cellsS]
  show (w3.setCell ⟨g, 3, none⟩ v3).ownsRow (g + 1) 9 1 v3 (p.s ++ [v]).length (cellsS (p.s ++ [v]))
  rw [e, List.length_append]
  exact own_set hown
theorem MAt.flag (h : MAt w wr g c i vN vS vF vT p) (hwg : w.heap.size ≤ g) {v : Bool} (hown : w3.ownsRow (g + 1) 4 1 v3 (p.f.length + 1) (cellsB p.f ++ [.bool v])) (hg : (wr.alloc o).grownBy w3 vF.ownBlock) :
    MAt w (w3.setCell ⟨g, 4, none⟩ v3) g c i vN vS v3 vT { p with f := p.f ++ [v] } := by
  refine ⟨(h.keepM h.f hg).put 4 v3, (h.keepB hwg h.f hg).setCell (p := ⟨g, 4, none⟩) hwg _, own_set (h.keepN h.f (by decide) hg), own_set (h.keepS h.f (by decide) hg), ?_⟩
  have e : cellsB (p.f ++ [v]) = cellsB p.f ++ [.bool v] := by simp [cellsB]
  show (w3.setCell ⟨g, 4, none⟩ v3).ownsRow (g + 1) 4 1 v3 (p.f ++ [v]).length (cellsB (p.f ++ [v]))
  rw [e, List.length_append]
  exact own_set hown
theorem MAt.num (h : MAt w wr g c i vN vS vF vT p) (hwg : w.heap.size ≤ g) {v : Nat} (hown : w3.ownsRow (g + 1) 27 1 v3 (p.n.length + 1) (cellsN p.n ++ [.int .u64 (v : Int)])) (hg : (wr.alloc o).grownBy w3 vN.ownBlock) :
    MAt w (w3.setCell ⟨g, 2, none⟩ v3) g c i v3 vS vF vT { p with n := p.n ++ [v] } := by
  refine ⟨(h.keepM h.n hg).put 2 v3, (h.keepB hwg h.n hg).setCell (p := ⟨g, 2, none⟩) hwg _, ?_, own_set (h.keepS h.n (by decide) hg), own_set (h.keepF h.n (by decide) hg)⟩
  have e : cellsN (p.n ++ [v]) = cellsN p.n ++ [.int .u64 (v : Int)] := by simp [cellsN]
  show (w3.setCell ⟨g, 2, none⟩ v3).ownsRow (g + 1) 27 1 v3 (p.n ++ [v]).length (cellsN (p.n ++ [v]))
  rw [e, List.length_append]
  exact own_set hown
theorem MAt.table (h : MAt w wr g c i vN vS vF vT p) (hwg : w.heap.size ≤ g) (t : List Fld) (v : Value) : MAt w (wr.setCell ⟨g, 5, none⟩ v) g c i vN vS vF v { p with t := t } :=
  ⟨h.ms.put 5 v, h.bel.setCell (p := ⟨g, 5, none⟩) hwg _, own_set h.n, own_set h.s, own_set h.f⟩
theorem MAt.later (h : MAt w wr g c i vN vS vF vT p) {w2 : World} (hb : Below wr.heap.size wr w2) : MAt w w2 g c i vN vS vF vT p :=
  ⟨h.ms.below hb h.ms.lt, h.bel.trans (hb.mono h.bel.size), h.n.kept (only_below hb none) (by cases hv : vN.ownBlock <;> simp), h.s.kept (only_below hb none) (by cases hv : vS.ownBlock <;> simp), h.f.kept (only_below hb none) (by cases hv : vF.ownBlock <;> simp)⟩
theorem MAt.ended {w2 : World} (h : MAt w2 wr g c i vN vS vF vT p) (hb : Below w.heap.size w wr) (hlt : w.heap.size < g) (v0 v1 v2 u3 v4 v5 : Value) : MAt w (six wr w.heap.size v0 v1 v2 u3 v4 v5) g c i vN vS vF vT p := by
  have hg : wr.grownBy (six wr w.heap.size v0 v1 v2 u3 v4 v5) (some w.heap.size) := only_set (only_set (only_set (only_set (only_set (only_set (only_refl wr _) 0 v0) 1 v1) 2 v2) 3 u3) 4 v4) 5 v5
  have hown : ∀ {v : Value} {e n : Nat} {xs : List Value}, wr.ownsRow (g + 1) e 1 v n xs → (six wr w.heap.size v0 v1 v2 u3 v4 v5).ownsRow (g + 1) e 1 v n xs := fun {v e n xs} ho => ho.kept hg (by
    cases hv : v.ownBlock with
    | none => exact .inl rfl
    | some b =>
      right
      intro e
      have := (ho.lt b hv).1
      have e2 : b = w.heap.size := Option.some.inj e
      omega)
  exact ⟨h.ms.grown hg (by intro e; have e2 : g = w.heap.size := Option.some.inj e; omega), (((((hb.setCell (p := ⟨w.heap.size, 0, none⟩) (Nat.le_refl _) v0).setCell (p := ⟨w.heap.size, 1, none⟩) (Nat.le_refl _) v1).setCell (p := ⟨w.heap.size, 2, none⟩) (Nat.le_refl _) v2).setCell (p := ⟨w.heap.size, 3, none⟩) (Nat.le_refl _) u3).setCell (p := ⟨w.heap.size, 4, none⟩) (Nat.le_refl _) v4).setCell (p := ⟨w.heap.size, 5, none⟩) (Nat.le_refl _) v5, hown h.n, hown h.s, hown h.f⟩
end
/-- the table that stands beside the parts made so far -/
def TSay (ls : List UInt8) (ok : Bool) (t : List Fld) (vt : Value) (p : Parts) (vT : Value) : Prop := (p.t = [] ∧ vT = .slice none 0 0) ∨ (p.t = t ∧ 116 ∈ ls ∧ ok = true ∧ vT = vt)
theorem TSay.more {ls : List UInt8} {ok : Bool} {t : List Fld} {vt vT : Value} {p q : Parts} (h : TSay ls ok t vt p vT) (ch : UInt8) (hq : q.t = p.t) : TSay (ls ++ [ch]) ok t vt q vT := by
  rcases h with ⟨h1, h2⟩ | ⟨h1, h2, h3, h4⟩
  · exact .inl ⟨by rw [hq, h1], h2⟩
  · exact .inr ⟨by rw [hq, h1], by simp [h2], h3, h4⟩
/-- what is made -/
def MadeIs (w : World) (ok : Bool) (t : List Fld) (vt : Value) (e : Ending) (w' : World) : Prop :=
  ∃ (c i : Int) (L : List UInt8) (p : Parts) (g : Nat) (vN vS vF vT : Value), ((c, i, L) : FRow) ∈ formRows ∧ e = .returned (.agg #[.int .i64 c, .int .i64 i, vN, vS, vF, vT]) ∧ MadeOf L p ∧ w.heap.size < g ∧ MAt w w' g c i vN vS vF vT p ∧ TSay L ok t vt p vT
set_option maxHeartbeats 4000000 in
theorem made_any (x f : Int) (ln : List Nat) (ls : List (List UInt8)) (AN AS AT : Option Addr) (cN_ cS_ cT_ : Nat) (t : List Fld) (dT : Nat) (ok : Bool) (w : World)
    (hln : Lies w w.heap.size AN (cellsN ln)) (hnc : ln.length ≤ cN_) (hnm : cN_ ≤ maxLen) (hn64 : ∀ v ∈ ln, v < 18446744073709551616) (hls : Lies w w.heap.size AS (cellsS ls)) (hsc : ls.length ≤ cS_) (hsm : cS_ ≤ maxLen) (htt : TabAt dT w w.heap.size t AT cT_) (hok : ok = okB t)
    (hT : ∀ w', Below w.heap.size w w' → Calls Tryd.prog 36 #[.slice AT t.length cT_] w' fun e w'' => e = .returned (.bool ok) ∧ Below w'.heap.size w' w'') :
    Calls Tryd.prog 15 #[.int .i64 x, .slice AN ln.length cN_, .slice AS ls.length cS_, .int .i64 f, .slice AT t.length cT_] w (MadeIs w ok t (.slice AT t.length cT_)) := by
  obtain ⟨J, hJ, hJe⟩ := turn_at x 49 (by omega)
  have hJ49 : J < formRows.length := by rw [rows_length]; exact hJ
  obtain ⟨r, hr⟩ : ∃ r, r = formRows[J] := ⟨_, rfl⟩
  have hrm : r ∈ formRows := by rw [hr]; exact List.getElem_mem _
  obtain ⟨⟨hc0, hc1⟩, ⟨hi0, hi1⟩, hLl, hLk, _, _⟩ := forms_good r hrm
  have hform : formV r.1 r.2.1 = .tuple #[.string ⟨r.2.2.toArray⟩, .bool true] := by
    unfold formV formB
    rw [formF_some rows_apart hrm rfl rfl]
  obtain ⟨w1, hw1⟩ : ∃ w1, w1 = (w.alloc (.cells #[.int .i64 0, .int .i64 0, .slice none 0 0, .slice none 0 0, .slice none 0 0, .slice none 0 0] 32)).alloc (.cells #[.int .i64 10, .int .i64 10, .int .i64 10, .int .i64 11, .int .i64 10, .int .i64 30, .int .i64 10, .int .i64 31, .int .i64 10, .int .i64 40, .int .i64 10, .int .i64 41, .int .i64 10, .int .i64 50, .int .i64 10, .int .i64 51, .int .i64 20, .int .i64 10, .int .i64 20, .int .i64 11, .int .i64 20, .int .i64 40, .int .i64 20, .int .i64 41, .int .i64 40, .int .i64 10, .int .i64 40, .int .i64 11, .int .i64 40, .int .i64 20, .int .i64 40, .int .i64 21, .int .i64 50, .int .i64 10, .int .i64 50, .int .i64 11, .int .i64 50, .int .i64 20, .int .i64 50, .int .i64 21, .int .i64 50, .int .i64 30, .int .i64 50, .int .i64 31, .int .i64 50, .int .i64 40, .int .i64 50, .int .i64 41, .int .i64 50, .int .i64 50, .int .i64 50, .int .i64 51, .int .i64 60, .int .i64 10, .int .i64 60, .int .i64 11, .int .i64 60, .int .i64 20, .int .i64 60, .int .i64 21, .int .i64 60, .int .i64 30, .int .i64 60, .int .i64 31, .int .i64 60, .int .i64 40, .int .i64 60, .int .i64 50, .int .i64 60, .int .i64 60, .int .i64 60, .int .i64 70, .int .i64 60, .int .i64 71, .int .i64 60, .int .i64 72, .int .i64 60, .int .i64 80, .int .i64 60, .int .i64 90, .int .i64 60, .int .i64 110, .int .i64 60, .int .i64 111, .int .i64 60, .int .i64 120, .int .i64 90, .int .i64 10, .int .i64 90, .int .i64 11, .int .i64 90, .int .i64 20, .int .i64 90, .int .i64 21, .int .i64 90, .int .i64 30, .int .i64 90, .int .i64 31] 73) := ⟨_, rfl⟩
  have hb1 : Below w.heap.size w w1 := by rw [hw1]; exact ((Below.refl _ _).alloc (Nat.le_refl _) _).alloc (by simp) _
  have hs1 : w1.heap.size = w.heap.size + 2 := by rw [hw1]; simp
  have hk1 : Whole w1 (w.heap.size + 1) 73 (pairC formRows).toArray := by
    have h := Whole.new (w.alloc (.cells #[.int .i64 0, .int .i64 0, .slice none 0 0, .slice none 0 0, .slice none 0 0, .slice none 0 0] 32)) 73 #[.int .i64 10, .int .i64 10, .int .i64 10, .int .i64 11, .int .i64 10, .int .i64 30, .int .i64 10, .int .i64 31, .int .i64 10, .int .i64 40, .int .i64 10, .int .i64 41, .int .i64 10, .int .i64 50, .int .i64 10, .int .i64 51, .int .i64 20, .int .i64 10, .int .i64 20, .int .i64 11, .int .i64 20, .int .i64 40, .int .i64 20, .int .i64 41, .int .i64 40, .int .i64 10, .int .i64 40, .int .i64 11, .int .i64 40, .int .i64 20, .int .i64 40, .int .i64 21, .int .i64 50, .int .i64 10, .int .i64 50, .int .i64 11, .int .i64 50, .int .i64 20, .int .i64 50, .int .i64 21, .int .i64 50, .int .i64 30, .int .i64 50, .int .i64 31, .int .i64 50, .int .i64 40, .int .i64 50, .int .i64 41, .int .i64 50, .int .i64 50, .int .i64 50, .int .i64 51, .int .i64 60, .int .i64 10, .int .i64 60, .int .i64 11, .int .i64 60, .int .i64 20, .int .i64 60, .int .i64 21, .int .i64 60, .int .i64 30, .int .i64 60, .int .i64 31, .int .i64 60, .int .i64 40, .int .i64 60, .int .i64 50, .int .i64 60, .int .i64 60, .int .i64 60, .int .i64 70, .int .i64 60, .int .i64 71, .int .i64 60, .int .i64 72, .int .i64 60, .int .i64 80, .int .i64 60, .int .i64 90, .int .i64 60, .int .i64 110, .int .i64 60, .int .i64 111, .int .i64 60, .int .i64 120, .int .i64 90, .int .i64 10, .int .i64 90, .int .i64 11, .int .i64 90, .int .i64 20, .int .i64 90, .int .i64 21, .int .i64 90, .int .i64 30, .int .i64 90, .int .i64 31]
    rw [World.size_alloc] at h
    rw [hw1]
    exact h
  have hm1 : Whole w1 w.heap.size 32 #[.int .i64 0, .int .i64 0, .slice none 0 0, .slice none 0 0, .slice none 0 0, .slice none 0 0] := by
    rw [hw1]
    exact (Whole.new w _ _).alloc _
  obtain ⟨q0, q1⟩ := pairC_get formRows J hJ49
  rw [← hr] at q0 q1
  have d0 : w1.cell? ⟨w.heap.size + 1, J * 2, none⟩ = some (.int .i64 r.1) := by rw [hk1.cell, Nat.mul_comm]; simpa using q0
  have d1 : w1.cell? ⟨w.heap.size + 1, J * 2 + 1, none⟩ = some (.int .i64 r.2.1) := by rw [hk1.cell, Nat.mul_comm]; simpa using q1
  have B1 := Lib.hid hb1
  have S1 := Lib.hid hs1
  have M1 := Lib.hid hm1
  have D01 := Lib.hid (And.intro d0 d1)
  have HW1 := Lib.hid hw1
  have HFORM := Lib.hid hform
  have HGOOD := Lib.hid (And.intro hLl hLk)
  have HRM := Lib.hid hrm
  have HT := Lib.hid hT
  have HLN := Lib.hid hln
  have HLS := Lib.hid hls
  have HTT := Lib.hid htt
  have HOKT := Lib.hid hok
  have HN64 := Lib.hid hn64
  clear hk1 hb1 hm1 d0 d1 q0 q1 hr hform hLk hrm hT hln hls htt hok hn64
  obtain ⟨c, i, L⟩ := r
  simp only at *
  go_enter Tryd.func15, Tryd.ntmps15
  go_upto_region 1 with fail
  go_cut [11] (fun s11 wx => s11 = .slice (some ⟨w.heap.size + 1, 0, none⟩) 49 49 ∧ wx = w1)
  case first =>
    clear hs1
    go_wp2_with fail
    go_meet
    exact ⟨rfl, HW1.out.symm⟩
  case rest =>
    obtain ⟨rfl, hwc⟩ := hcut
    subst wc
    clear hw1 hs1
    have hJi : (J : Int) < 49 := by omega
    have hJ0 : (0 : Int) ≤ (J : Int) := by omega
    obtain ⟨d0, d1⟩ := D01.out
    have hJe2 : (bits .and .i64 x 65535).tmod 49 = (J : Int) := hJe
    clear hJe
    obtain ⟨g, hg⟩ : ∃ g, g = w1.heap.size + 1 := ⟨_, rfl⟩
    obtain ⟨w2, hw2⟩ : ∃ w2, w2 = w1.alloc (.cells #[.int .i64 c, .int .i64 i] 73) := ⟨_, rfl⟩
    have hb2 : Below w1.heap.size w1 w2 := by rw [hw2]; exact (Below.refl _ _).alloc (Nat.le_refl _) _
    have hs2 : w2.heap.size = g := by rw [hw2, hg]; simp
    have B2 := Lib.hid (B1.out.trans (hb2.mono (by rw [S1.out]; omega)))
    have M2 := Lib.hid (M1.out.below hb2 (by rw [S1.out]; omega))
    have hz2 := B2.out.size
    have hwg2 : w2.heap.size ≤ g := by omega
    obtain ⟨w3, hw3⟩ : ∃ w3, w3 = w2.alloc (.cells #[.int .i64 c, .int .i64 i, .slice none 0 0, .slice none 0 0, .slice none 0 0, .slice none 0 0] 32) := ⟨_, rfl⟩
    have hwg : w.heap.size < g := by rw [hg, S1.out]; omega
    have hb3 : Below w2.heap.size w2 w3 := by rw [hw3]; exact (Below.refl _ _).alloc (Nat.le_refl _) _
    have M0 : Hid (MAt w2 w3 g c i (.slice none 0 0) (.slice none 0 0) (.slice none 0 0) (.slice none 0 0) Parts.none_) := Lib.hid (by
      refine ⟨?_, hb3, World.ownsRow_nil _ _ _ _, World.ownsRow_nil _ _ _ _, World.ownsRow_nil _ _ _ _⟩
      have h := Whole.new w2 32 #[.int .i64 c, .int .i64 i, .slice none 0 0, .slice none 0 0, .slice none 0 0, .slice none 0 0]
      rw [hs2] at h
      rw [hw3]
      exact h)
    have RM : Hid (∀ wr, Below w.heap.size w wr → ∀ vr, Below w.heap.size w (wr.setCell ⟨w.heap.size, 0, none⟩ vr)) := Lib.hid (fun wr h vr => h.setCell (p := ⟨w.heap.size, 0, none⟩) (Nat.le_refl _) _)
    have HG := Lib.hid hg
    have HW3 := Lib.hid hw3
    have HW2 := Lib.hid hw2
    clear hg hw3 hb3 hw2 hb2
    go_wp2_with fail
    refine (rform_any c i _).mono ?_
    rintro e w' ⟨rfl, rfl⟩
    rw [HFORM.out, ← HW2.out, ← HW3.out, ← HG.out]
    obtain ⟨hLl, hLk⟩ := HGOOD.out
    have HLK := Lib.hid hLk
    clear hLk d0 d1 hJe2
    go_wp2_with fail
    go_loopw [16] (fun vi wr => ∃ (j : Nat) (p : Parts) (vN vS vF vT : Value), vi = .int .i64 j ∧ j ≤ L.length ∧ MadeOf (L.take j) p ∧ MAt w2 wr g c i vN vS vF vT p ∧ TSay (L.take j) ok t (.slice AT t.length cT_) p vT) (fun vi _ => L.length - (intOf vi).toNat)
    case atStart => exact ⟨0, Parts.none_, _, _, _, _, rfl, Nat.zero_le _, MadeOf.start, M0.out, .inl ⟨rfl, rfl⟩⟩
    case round =>
      obtain ⟨j, p, vN, vS, vF, vT, rfl, hj, hmo, hma, hts⟩ := hrel
      have MO := Lib.hid hmo
      have MA := Lib.hid hma
      have BWR := Lib.hid (B2.out.trans (hma.bel.mono hz2))
      have TS := Lib.hid hts
      have zr := hma.bel.size
      have hgr := hma.ms.lt
      obtain ⟨An, kn, rfl, hn1, hn2⟩ := own_form hma.n
      obtain ⟨As, ks, rfl, hs1, hs2⟩ := own_form hma.s
      obtain ⟨Af, kf, rfl, hf1, hf2⟩ := own_form hma.f
      have hlenN : p.n.length ≤ 255 := by have := hmo.asked.n; have := c_all (L.take j); rw [List.length_take] at this; omega
      have hlenS : p.s.length ≤ 255 := by have := hmo.asked.s; have := c_all (L.take j); rw [List.length_take] at this; omega
      have hlenF : p.f.length ≤ 255 := by have := hmo.asked.f; have := c_all (L.take j); rw [List.length_take] at this; omega
      clear hmo hma hts
      by_cases hlt : j < L.length
      · have q1 : (j : Int) < (L.length : Int) := by omega
        have q0 : (0 : Int) ≤ (j : Int) := by omega
        have hjs : j < (⟨L.toArray⟩ : ByteArray).size := by show j < L.toArray.size; simpa using hlt
        obtain ⟨ch, hch⟩ : ∃ ch, ch = L[j] := ⟨_, rfl⟩
        have hidx : ((⟨L.toArray⟩ : ByteArray)[j]'hjs).toNat = ch.toNat := by rw [hch]; rfl
        have hokl := HLK.out ch (by rw [hch]; exact List.getElem_mem _)
        have HNX : Hid (L.take (j + 1) = L.take j ++ [ch]) := Lib.hid (by rw [List.take_succ_eq_append_getElem hlt, hch])
        clear hch
        have c2 : wr.cell? ⟨g, 2, none⟩ = some (.slice An p.n.length kn) := MA.out.ms.cell 2
        have c3 : wr.cell? ⟨g, 3, none⟩ = some (.slice As p.s.length ks) := MA.out.ms.cell 3
        have c4 : wr.cell? ⟨g, 4, none⟩ = some (.slice Af p.f.length kf) := MA.out.ms.cell 4
        have c5 : wr.cell? ⟨g, 5, none⟩ = some vT := MA.out.ms.cell 5
        have z5 := MA.out.ms.frozen 5
        clear z5
        rcases hokl with rfl | rfl | rfl | rfl | rfl | rfl | rfl | rfl
        · have hx : (((⟨L.toArray⟩ : ByteArray)[j]'hjs).toNat : Int) = 115 := by rw [hidx]; rfl
          clear hidx
          obtain ⟨V, hV⟩ : ∃ V, V = if p.s.length < ls.length then ls.getD p.s.length [] else [] := ⟨_, rfl⟩
          have HV := Lib.hid hV
          clear hV
          obtain ⟨i0, hi, hz0, hz1, hz2⟩ := info_parts texts_info
          have HI := Lib.hid hi
          have G0 := Lib.hid hz0
          have G1 := Lib.hid hz1
          have G2 := Lib.hid hz2
          clear hi hz0 hz1 hz2
          go_upto_if 141 with fail
          go_cut [17] (fun s17 wx => s17 = .string ⟨V.toArray⟩ ∧ wx = wr)
          case first =>
            by_cases hk : p.s.length < ls.length
            · have hk1 : (p.s.length : Int) < (ls.length : Int) := by omega
              have hk0 : (0 : Int) ≤ (p.s.length : Int) := by omega
              obtain ⟨b, o, rfl, hb, hcc⟩ := (HLS.out.below BWR.out).resolve_left (by intro h; have := congrArg List.length h; simp [cellsS] at this; rw [this] at hk; simp at hk)
              have hc : wr.cell? ⟨b, o + p.s.length, none⟩ = some (.string ⟨V.toArray⟩) := hcc p.s.length _ (by rw [HV.out, if_pos hk]; simp [cellsS, List.getD, hk, St])
              clear hcc hb
              go_wp2_with fail
              go_meet
              exact ⟨rfl, rfl⟩
            · have hk1 : ¬ (p.s.length : Int) < (ls.length : Int) := by omega
              have hV0 : V = [] := by rw [HV.out, if_neg hk]
              subst hV0
              go_wp2_with fail
              go_meet
              exact ⟨rfl, rfl⟩
          case rest =>
            obtain ⟨rfl, hwc⟩ := hcut
            subst wc
            have hsA : p.s.length + 1 ≤ maxLen := by unfold maxLen; omega
            have hsB : (p.s.length + 1) * 16 ≤ 140737488355328 := by omega
            by_cases h255 : (255 : Int) < (V.length : Int)
            · have hE : ((⟨V.toArray⟩ : ByteArray).extract 0 255) = ⟨((V.take 255)).toArray⟩ := by rw [extract_list0]
              have hU : ((V.take 255) : List UInt8).length ≤ 255 := by rw [List.length_take]; omega
              obtain ⟨wa, hwa⟩ : ∃ wa, wa = (wr.alloc (.cells #[.string ((⟨V.toArray⟩ : ByteArray).extract 0 255)] 9)).drew := ⟨_, rfl⟩
              have LIT : Hid (Lies wa (wr.heap.size + 1) (some ⟨wr.heap.size, 0, none⟩) [St ((V.take 255))]) := Lib.hid (by rw [hwa, hE]; exact Lies.one wr 9 _)
              have HOS : Hid (wa.ownsRow (g + 1) 9 1 (.slice As p.s.length ks) p.s.length (cellsS p.s)) := Lib.hid (by rw [hwa]; exact MA.out.s.alloc _)
              have hza : g + 1 ≤ wa.heap.size := by rw [hwa]; show g + 1 ≤ (wr.alloc _).heap.size; simp; omega
              have HGR : Hid (∀ w7 row, wa.grownBy w7 row → (wr.alloc (.cells #[.string ((⟨V.toArray⟩ : ByteArray).extract 0 255)] 9)).grownBy w7 row) := Lib.hid (fun w7 row h => by rw [hwa] at h; exact ⟨h.os, h.tape, h.output, h.size, h.block⟩)
              have HWA := Lib.hid hwa
              have D : Hid (∀ (w7 : World) (v7 : Value), w7.ownsRow (g + 1) 9 1 v7 (p.s.length + 1) (cellsS p.s ++ [St ((V.take 255))]) → wa.grownBy w7 (Value.slice As p.s.length ks).ownBlock → ∃ p', MadeOf (L.take (j + 1)) p' ∧ MAt w2 (w7.setCell ⟨g, 3, none⟩ v7) g c i (.slice An p.n.length kn) v7 (.slice Af p.f.length kf) vT p' ∧ TSay (L.take (j + 1)) ok t (.slice AT t.length cT_) p' vT) := Lib.hid (fun w7 v7 ho hgw =>
                ⟨{ p with s := p.s ++ [(V.take 255)] }, by rw [HNX.out]; exact MO.out.text (by simp) hU, MA.out.text hwg2 ho (HGR.out _ _ hgw), by rw [HNX.out]; exact TS.out.more 115 rfl⟩)
              have KM : Hid (∀ w7, wa.grownBy w7 (Value.slice As p.s.length ks).ownBlock → w7.cell? ⟨g, 3, none⟩ = some (.slice As p.s.length ks) ∧ w7.frozen? ⟨g, 3, none⟩ = false) := Lib.hid (fun w7 h => ⟨(MA.out.keepM MA.out.s (HGR.out _ _ h)).cell 3, (MA.out.keepM MA.out.s (HGR.out _ _ h)).frozen 3⟩)
              clear hwa hE hU
              have hle : (255 : Int) ≤ (V.length : Int) ∨ ¬ ((255 : Int) < (V.length : Int)) := by omega
              have h255b : (255 : Int) ≤ (V.length : Int) := by omega
              clear hle
              go_upto_region 22 with fail
              go_region_law (rw [← HWA.out]; refine step_append_own2 rfl _ _ 29 rfl (g + 1) 9 i0 (.string ⟨#[]⟩) 1 16 Tryd.underlying29 HI.out G0.out G1.out G2.out rfl (by omega) _ p.s.length (cellsS p.s) (by rfl) HOS.out (wr.heap.size + 1) (some ⟨wr.heap.size, 0, none⟩) 1 1 [St ((V.take 255))] (by rfl) LIT.out rfl (by simp [Value.oneCell', St]) hsA hsB hza ?_; intro v7 w7 hown7 hg7 _; obtain ⟨A7, k7, rfl, _, _⟩ := own_form hown7; have HO7 := Lib.hid hown7; have HG7 := Lib.hid hg7; obtain ⟨e3, z3⟩ := KM.out _ hg7; clear hown7 hg7)
              all_goals
                obtain ⟨p', m1, m2, m3⟩ := D.out _ _ HO7.out HG7.out
                first
                | exact ⟨⟨j + 1, p', _, _, _, _, by go_num, by omega, m1, m2, m3⟩, by simp [intOf]; omega⟩
                | (go_wp2_with fail
                   go_roundw
                   case rel => exact ⟨j + 1, p', _, _, _, _, by go_num, by omega, m1, m2, m3⟩
                   case measure => simp [intOf]; omega)
            · have hE : ((⟨V.toArray⟩ : ByteArray).extract 0 V.length) = ⟨(V).toArray⟩ := by rw [extract_list0, List.take_length]
              have hU : (V : List UInt8).length ≤ 255 := by omega
              obtain ⟨wa, hwa⟩ : ∃ wa, wa = (wr.alloc (.cells #[.string ((⟨V.toArray⟩ : ByteArray).extract 0 V.length)] 9)).drew := ⟨_, rfl⟩
              have LIT : Hid (Lies wa (wr.heap.size + 1) (some ⟨wr.heap.size, 0, none⟩) [St (V)]) := Lib.hid (by rw [hwa, hE]; exact Lies.one wr 9 _)
              have HOS : Hid (wa.ownsRow (g + 1) 9 1 (.slice As p.s.length ks) p.s.length (cellsS p.s)) := Lib.hid (by rw [hwa]; exact MA.out.s.alloc _)
              have hza : g + 1 ≤ wa.heap.size := by rw [hwa]; show g + 1 ≤ (wr.alloc _).heap.size; simp; omega
              have HGR : Hid (∀ w7 row, wa.grownBy w7 row → (wr.alloc (.cells #[.string ((⟨V.toArray⟩ : ByteArray).extract 0 V.length)] 9)).grownBy w7 row) := Lib.hid (fun w7 row h => by rw [hwa] at h; exact ⟨h.os, h.tape, h.output, h.size, h.block⟩)
              have HWA := Lib.hid hwa
              have D : Hid (∀ (w7 : World) (v7 : Value), w7.ownsRow (g + 1) 9 1 v7 (p.s.length + 1) (cellsS p.s ++ [St (V)]) → wa.grownBy w7 (Value.slice As p.s.length ks).ownBlock → ∃ p', MadeOf (L.take (j + 1)) p' ∧ MAt w2 (w7.setCell ⟨g, 3, none⟩ v7) g c i (.slice An p.n.length kn) v7 (.slice Af p.f.length kf) vT p' ∧ TSay (L.take (j + 1)) ok t (.slice AT t.length cT_) p' vT) := Lib.hid (fun w7 v7 ho hgw =>
                ⟨{ p with s := p.s ++ [V] }, by rw [HNX.out]; exact MO.out.text (by simp) hU, MA.out.text hwg2 ho (HGR.out _ _ hgw), by rw [HNX.out]; exact TS.out.more 115 rfl⟩)
              have KM : Hid (∀ w7, wa.grownBy w7 (Value.slice As p.s.length ks).ownBlock → w7.cell? ⟨g, 3, none⟩ = some (.slice As p.s.length ks) ∧ w7.frozen? ⟨g, 3, none⟩ = false) := Lib.hid (fun w7 h => ⟨(MA.out.keepM MA.out.s (HGR.out _ _ h)).cell 3, (MA.out.keepM MA.out.s (HGR.out _ _ h)).frozen 3⟩)
              clear hwa hE hU
              have hle : (255 : Int) ≤ (V.length : Int) ∨ ¬ ((255 : Int) < (V.length : Int)) := by omega
              have h255b : (V.length : Int) ≤ 255 := by omega
              clear hle
              go_upto_region 22 with fail
              go_region_law (rw [← HWA.out]; refine step_append_own2 rfl _ _ 29 rfl (g + 1) 9 i0 (.string ⟨#[]⟩) 1 16 Tryd.underlying29 HI.out G0.out G1.out G2.out rfl (by omega) _ p.s.length (cellsS p.s) (by rfl) HOS.out (wr.heap.size + 1) (some ⟨wr.heap.size, 0, none⟩) 1 1 [St (V)] (by rfl) LIT.out rfl (by simp [Value.oneCell', St]) hsA hsB hza ?_; intro v7 w7 hown7 hg7 _; obtain ⟨A7, k7, rfl, _, _⟩ := own_form hown7; have HO7 := Lib.hid hown7; have HG7 := Lib.hid hg7; obtain ⟨e3, z3⟩ := KM.out _ hg7; clear hown7 hg7)
              all_goals
                obtain ⟨p', m1, m2, m3⟩ := D.out _ _ HO7.out HG7.out
                first
                | exact ⟨⟨j + 1, p', _, _, _, _, by go_num, by omega, m1, m2, m3⟩, by simp [intOf]; omega⟩
                | (go_wp2_with fail
                   go_roundw
                   case rel => exact ⟨j + 1, p', _, _, _, _, by go_num, by omega, m1, m2, m3⟩
                   case measure => simp [intOf]; omega)
        · have hx : (((⟨L.toArray⟩ : ByteArray)[j]'hjs).toNat : Int) = 108 := by rw [hidx]; rfl
          clear hidx
          obtain ⟨V, hV⟩ : ∃ V, V = if p.s.length < ls.length then ls.getD p.s.length [] else [] := ⟨_, rfl⟩
          have HV := Lib.hid hV
          clear hV
          obtain ⟨i0, hi, hz0, hz1, hz2⟩ := info_parts texts_info
          have HI := Lib.hid hi
          have G0 := Lib.hid hz0
          have G1 := Lib.hid hz1
          have G2 := Lib.hid hz2
          clear hi hz0 hz1 hz2
          go_upto_if 141 with fail
          go_cut [17] (fun s17 wx => s17 = .string ⟨V.toArray⟩ ∧ wx = wr)
          case first =>
            by_cases hk : p.s.length < ls.length
            · have hk1 : (p.s.length : Int) < (ls.length : Int) := by omega
              have hk0 : (0 : Int) ≤ (p.s.length : Int) := by omega
              obtain ⟨b, o, rfl, hb, hcc⟩ := (HLS.out.below BWR.out).resolve_left (by intro h; have := congrArg List.length h; simp [cellsS] at this; rw [this] at hk; simp at hk)
              have hc : wr.cell? ⟨b, o + p.s.length, none⟩ = some (.string ⟨V.toArray⟩) := hcc p.s.length _ (by rw [HV.out, if_pos hk]; simp [cellsS, List.getD, hk, St])
              clear hcc hb
              go_wp2_with fail
              go_meet
              exact ⟨rfl, rfl⟩
            · have hk1 : ¬ (p.s.length : Int) < (ls.length : Int) := by omega
              have hV0 : V = [] := by rw [HV.out, if_neg hk]
              subst hV0
              go_wp2_with fail
              go_meet
              exact ⟨rfl, rfl⟩
          case rest =>
            obtain ⟨rfl, hwc⟩ := hcut
            subst wc
            have hsA : p.s.length + 1 ≤ maxLen := by unfold maxLen; omega
            have hsB : (p.s.length + 1) * 16 ≤ 140737488355328 := by omega
            by_cases h255 : (255 : Int) < (V.length : Int)
            · have hE : ((⟨V.toArray⟩ : ByteArray).extract 0 255) = ⟨((V.take 255)).toArray⟩ := by rw [extract_list0]
              have hU : ((V.take 255) : List UInt8).length ≤ 255 := by rw [List.length_take]; omega
              obtain ⟨wa, hwa⟩ : ∃ wa, wa = (wr.alloc (.cells #[.string ((⟨V.toArray⟩ : ByteArray).extract 0 255)] 9)).drew := ⟨_, rfl⟩
              have LIT : Hid (Lies wa (wr.heap.size + 1) (some ⟨wr.heap.size, 0, none⟩) [St ((V.take 255))]) := Lib.hid (by rw [hwa, hE]; exact Lies.one wr 9 _)
              have HOS : Hid (wa.ownsRow (g + 1) 9 1 (.slice As p.s.length ks) p.s.length (cellsS p.s)) := Lib.hid (by rw [hwa]; exact MA.out.s.alloc _)
              have hza : g + 1 ≤ wa.heap.size := by rw [hwa]; show g + 1 ≤ (wr.alloc _).heap.size; simp; omega
              have HGR : Hid (∀ w7 row, wa.grownBy w7 row → (wr.alloc (.cells #[.string ((⟨V.toArray⟩ : ByteArray).extract 0 255)] 9)).grownBy w7 row) := Lib.hid (fun w7 row h => by rw [hwa] at h; exact ⟨h.os, h.tape, h.output, h.size, h.block⟩)
              have HWA := Lib.hid hwa
              have D : Hid (∀ (w7 : World) (v7 : Value), w7.ownsRow (g + 1) 9 1 v7 (p.s.length + 1) (cellsS p.s ++ [St ((V.take 255))]) → wa.grownBy w7 (Value.slice As p.s.length ks).ownBlock → ∃ p', MadeOf (L.take (j + 1)) p' ∧ MAt w2 (w7.setCell ⟨g, 3, none⟩ v7) g c i (.slice An p.n.length kn) v7 (.slice Af p.f.length kf) vT p' ∧ TSay (L.take (j + 1)) ok t (.slice AT t.length cT_) p' vT) := Lib.hid (fun w7 v7 ho hgw =>
                ⟨{ p with s := p.s ++ [(V.take 255)] }, by rw [HNX.out]; exact MO.out.text (by simp) hU, MA.out.text hwg2 ho (HGR.out _ _ hgw), by rw [HNX.out]; exact TS.out.more 108 rfl⟩)
              have KM : Hid (∀ w7, wa.grownBy w7 (Value.slice As p.s.length ks).ownBlock → w7.cell? ⟨g, 3, none⟩ = some (.slice As p.s.length ks) ∧ w7.frozen? ⟨g, 3, none⟩ = false) := Lib.hid (fun w7 h => ⟨(MA.out.keepM MA.out.s (HGR.out _ _ h)).cell 3, (MA.out.keepM MA.out.s (HGR.out _ _ h)).frozen 3⟩)
              clear hwa hE hU
              have hle : (255 : Int) ≤ (V.length : Int) ∨ ¬ ((255 : Int) < (V.length : Int)) := by omega
              have h255b : (255 : Int) ≤ (V.length : Int) := by omega
              clear hle
              go_upto_region 22 with fail
              go_region_law (rw [← HWA.out]; refine step_append_own2 rfl _ _ 29 rfl (g + 1) 9 i0 (.string ⟨#[]⟩) 1 16 Tryd.underlying29 HI.out G0.out G1.out G2.out rfl (by omega) _ p.s.length (cellsS p.s) (by rfl) HOS.out (wr.heap.size + 1) (some ⟨wr.heap.size, 0, none⟩) 1 1 [St ((V.take 255))] (by rfl) LIT.out rfl (by simp [Value.oneCell', St]) hsA hsB hza ?_; intro v7 w7 hown7 hg7 _; obtain ⟨A7, k7, rfl, _, _⟩ := own_form hown7; have HO7 := Lib.hid hown7; have HG7 := Lib.hid hg7; obtain ⟨e3, z3⟩ := KM.out _ hg7; clear hown7 hg7)
              all_goals
                obtain ⟨p', m1, m2, m3⟩ := D.out _ _ HO7.out HG7.out
                first
                | exact ⟨⟨j + 1, p', _, _, _, _, by go_num, by omega, m1, m2, m3⟩, by simp [intOf]; omega⟩
                | (go_wp2_with fail
                   go_roundw
                   case rel => exact ⟨j + 1, p', _, _, _, _, by go_num, by omega, m1, m2, m3⟩
                   case measure => simp [intOf]; omega)
            · have hE : ((⟨V.toArray⟩ : ByteArray).extract 0 V.length) = ⟨(V).toArray⟩ := by rw [extract_list0, List.take_length]
              have hU : (V : List UInt8).length ≤ 255 := by omega
              obtain ⟨wa, hwa⟩ : ∃ wa, wa = (wr.alloc (.cells #[.string ((⟨V.toArray⟩ : ByteArray).extract 0 V.length)] 9)).drew := ⟨_, rfl⟩
              have LIT : Hid (Lies wa (wr.heap.size + 1) (some ⟨wr.heap.size, 0, none⟩) [St (V)]) := Lib.hid (by rw [hwa, hE]; exact Lies.one wr 9 _)
              have HOS : Hid (wa.ownsRow (g + 1) 9 1 (.slice As p.s.length ks) p.s.length (cellsS p.s)) := Lib.hid (by rw [hwa]; exact MA.out.s.alloc _)
              have hza : g + 1 ≤ wa.heap.size := by rw [hwa]; show g + 1 ≤ (wr.alloc _).heap.size; simp; omega
              have HGR : Hid (∀ w7 row, wa.grownBy w7 row → (wr.alloc (.cells #[.string ((⟨V.toArray⟩ : ByteArray).extract 0 V.length)] 9)).grownBy w7 row) := Lib.hid (fun w7 row h => by rw [hwa] at h; exact ⟨h.os, h.tape, h.output, h.size, h.block⟩)
              have HWA := Lib.hid hwa
              have D : Hid (∀ (w7 : World) (v7 : Value), w7.ownsRow (g + 1) 9 1 v7 (p.s.length + 1) (cellsS p.s ++ [St (V)]) → wa.grownBy w7 (Value.slice As p.s.length ks).ownBlock → ∃ p', MadeOf (L.take (j + 1)) p' ∧ MAt w2 (w7.setCell ⟨g, 3, none⟩ v7) g c i (.slice An p.n.length kn) v7 (.slice Af p.f.length kf) vT p' ∧ TSay (L.take (j + 1)) ok t (.slice AT t.length cT_) p' vT) := Lib.hid (fun w7 v7 ho hgw =>
                ⟨{ p with s := p.s ++ [V] }, by rw [HNX.out]; exact MO.out.text (by simp) hU, MA.out.text hwg2 ho (HGR.out _ _ hgw), by rw [HNX.out]; exact TS.out.more 108 rfl⟩)
              have KM : Hid (∀ w7, wa.grownBy w7 (Value.slice As p.s.length ks).ownBlock → w7.cell? ⟨g, 3, none⟩ = some (.slice As p.s.length ks) ∧ w7.frozen? ⟨g, 3, none⟩ = false) := Lib.hid (fun w7 h => ⟨(MA.out.keepM MA.out.s (HGR.out _ _ h)).cell 3, (MA.out.keepM MA.out.s (HGR.out _ _ h)).frozen 3⟩)
              clear hwa hE hU
              have hle : (255 : Int) ≤ (V.length : Int) ∨ ¬ ((255 : Int) < (V.length : Int)) := by omega
              have h255b : (V.length : Int) ≤ 255 := by omega
              clear hle
              go_upto_region 22 with fail
              go_region_law (rw [← HWA.out]; refine step_append_own2 rfl _ _ 29 rfl (g + 1) 9 i0 (.string ⟨#[]⟩) 1 16 Tryd.underlying29 HI.out G0.out G1.out G2.out rfl (by omega) _ p.s.length (cellsS p.s) (by rfl) HOS.out (wr.heap.size + 1) (some ⟨wr.heap.size, 0, none⟩) 1 1 [St (V)] (by rfl) LIT.out rfl (by simp [Value.oneCell', St]) hsA hsB hza ?_; intro v7 w7 hown7 hg7 _; obtain ⟨A7, k7, rfl, _, _⟩ := own_form hown7; have HO7 := Lib.hid hown7; have HG7 := Lib.hid hg7; obtain ⟨e3, z3⟩ := KM.out _ hg7; clear hown7 hg7)
              all_goals
                obtain ⟨p', m1, m2, m3⟩ := D.out _ _ HO7.out HG7.out
                first
                | exact ⟨⟨j + 1, p', _, _, _, _, by go_num, by omega, m1, m2, m3⟩, by simp [intOf]; omega⟩
                | (go_wp2_with fail
                   go_roundw
                   case rel => exact ⟨j + 1, p', _, _, _, _, by go_num, by omega, m1, m2, m3⟩
                   case measure => simp [intOf]; omega)
        · have hx : (((⟨L.toArray⟩ : ByteArray)[j]'hjs).toNat : Int) = 102 := by rw [hidx]; rfl
          clear hidx
          obtain ⟨i0, hi, hz0, hz1, hz2⟩ := info_parts flags_info
          have HI := Lib.hid hi
          have G0 := Lib.hid hz0
          have G1 := Lib.hid hz1
          have G2 := Lib.hid hz2
          clear hi hz0 hz1 hz2
          have hsA : p.f.length + 1 ≤ maxLen := by unfold maxLen; omega
          have hsB : (p.f.length + 1) * 1 ≤ 140737488355328 := by omega
          have hu : IntKind.u64.wrap (p.f.length : Int) = (p.f.length : Int) := IntWalk.u64_in _ ⟨by omega, by omega⟩
          have D : Hid (∀ (w7 : World) (v7 : Value) (b : Bool) (o : Obj), w7.ownsRow (g + 1) 4 1 v7 (p.f.length + 1) (cellsB p.f ++ [.bool b]) → (wr.alloc o).grownBy w7 (Value.slice Af p.f.length kf).ownBlock → ∃ p', MadeOf (L.take (j + 1)) p' ∧ MAt w2 (w7.setCell ⟨g, 4, none⟩ v7) g c i (.slice An p.n.length kn) (.slice As p.s.length ks) v7 vT p' ∧ TSay (L.take (j + 1)) ok t (.slice AT t.length cT_) p' vT) := Lib.hid (fun w7 v7 b o ho hgw =>
            ⟨{ p with f := p.f ++ [b] }, by rw [HNX.out]; exact MO.out.flag b, MA.out.flag hwg2 ho hgw, by rw [HNX.out]; exact TS.out.more 102 rfl⟩)
          have KM : Hid (∀ w7 (o : Obj), (wr.alloc o).grownBy w7 (Value.slice Af p.f.length kf).ownBlock → w7.cell? ⟨g, 4, none⟩ = some (.slice Af p.f.length kf) ∧ w7.frozen? ⟨g, 4, none⟩ = false) := Lib.hid (fun w7 o h => ⟨(MA.out.keepM MA.out.f h).cell 4, (MA.out.keepM MA.out.f h).frozen 4⟩)
          go_wp2_with (at_builtin; refine wpList_append_apart rfl _ _ 22 rfl (g + 1) 4 i0 (.bool false) 1 1 Tryd.underlying22 HI.out G0.out G1.out G2.out rfl (by omega) _ p.f.length (cellsB p.f) rfl (MA.out.f.alloc _) _ _ 1 1 _ rfl (Lies.one wr 4 _) rfl (fun u hu => by rw [List.mem_singleton] at hu; subst hu; rfl) hsA hsB (by simp; omega) ?_; intro v7 w7 hown7 hg7; obtain ⟨A7, k7, rfl, _, _⟩ := own_form hown7; have HO7 := Lib.hid hown7; have HG7 := Lib.hid hg7; obtain ⟨e3, z3⟩ := KM.out _ _ hg7; clear hown7 hg7)
          all_goals
            obtain ⟨p', m1, m2, m3⟩ := D.out _ _ _ _ HO7.out HG7.out
            first
            | exact ⟨⟨j + 1, p', _, _, _, _, by go_num, by omega, m1, m2, m3⟩, by simp [intOf]; omega⟩
            | (go_wp2_with fail
               go_roundw
               case rel => exact ⟨j + 1, p', _, _, _, _, by go_num, by omega, m1, m2, m3⟩
               case measure => simp [intOf]; omega)
        · have hx : (((⟨L.toArray⟩ : ByteArray)[j]'hjs).toNat : Int) = 116 := by rw [hidx]; rfl
          clear hidx
          go_wp2_with fail
          refine (HT.out _ BWR.out).mono ?_
          rintro e w4 ⟨rfl, hb4⟩
          have MA4 := Lib.hid (MA.out.later hb4)
          have e5 : w4.cell? ⟨g, 5, none⟩ = some vT := MA4.out.ms.cell 5
          have z5 : w4.frozen? ⟨g, 5, none⟩ = false := MA4.out.ms.frozen 5
          have HB4 := Lib.hid hb4
          clear hb4
          cases ok with
          | true =>
            have D : Hid (∃ p', MadeOf (L.take (j + 1)) p' ∧ MAt w2 (w4.setCell ⟨g, 5, none⟩ (.slice AT t.length cT_)) g c i (.slice An p.n.length kn) (.slice As p.s.length ks) (.slice Af p.f.length kf) (.slice AT t.length cT_) p' ∧ TSay (L.take (j + 1)) true t (.slice AT t.length cT_) p' (.slice AT t.length cT_)) := Lib.hid
              ⟨{ p with t := t }, by rw [HNX.out]; exact MO.out.table HOKT.out.symm, MA4.out.table hwg2 t _, .inr ⟨rfl, by rw [HNX.out]; simp, rfl, rfl⟩⟩
            go_wp2_with fail
            go_roundw
            case rel =>
              obtain ⟨p', m1, m2, m3⟩ := D.out
              exact ⟨j + 1, p', _, _, _, _, by go_num, by omega, m1, m2, m3⟩
            case measure => simp [intOf]; omega
          | false =>
            have D : Hid (∃ p', MadeOf (L.take (j + 1)) p' ∧ MAt w2 w4 g c i (.slice An p.n.length kn) (.slice As p.s.length ks) (.slice Af p.f.length kf) vT p' ∧ TSay (L.take (j + 1)) false t (.slice AT t.length cT_) p' vT) := Lib.hid
              ⟨p, by rw [HNX.out]; exact MO.out.table MO.out.tab, MA4.out, by rw [HNX.out]; exact TS.out.more 116 rfl⟩
            go_wp2_with fail
            go_roundw
            case rel =>
              obtain ⟨p', m1, m2, m3⟩ := D.out
              exact ⟨j + 1, p', _, _, _, _, by go_num, by omega, m1, m2, m3⟩
            case measure => simp [intOf]; omega
        · have hx : (((⟨L.toArray⟩ : ByteArray)[j]'hjs).toNat : Int) = 49 := by rw [hidx]; rfl
          clear hidx
          obtain ⟨V, hV⟩ : ∃ V, V = if p.n.length < ln.length then ln.getD p.n.length 0 else 0 := ⟨_, rfl⟩
          have HV := Lib.hid hV
          have HV64 : Hid (V < 18446744073709551616) := Lib.hid (by
            rw [hV]
            split
            · rename_i hk
              rw [show ln.getD p.n.length 0 = ln[p.n.length] from by simp [List.getD, hk]]
              exact HN64.out _ (List.getElem_mem _)
            · omega)
          clear hV
          obtain ⟨i0, hi, hz0, hz1, hz2⟩ := info_parts nums_info
          have HI := Lib.hid hi
          have G0 := Lib.hid hz0
          have G1 := Lib.hid hz1
          have G2 := Lib.hid hz2
          clear hi hz0 hz1 hz2
          go_upto_if 107 with fail
          go_cut [19] (fun s19 wx => s19 = .int .u64 (V : Int) ∧ wx = wr)
          case first =>
            by_cases hk : p.n.length < ln.length
            · have hk1 : (p.n.length : Int) < (ln.length : Int) := by omega
              have hk0 : (0 : Int) ≤ (p.n.length : Int) := by omega
              obtain ⟨b, o, rfl, hb, hcc⟩ := (HLN.out.below BWR.out).resolve_left (by intro h; have := congrArg List.length h; simp [cellsN] at this; rw [this] at hk; simp at hk)
              have hc : wr.cell? ⟨b, o + p.n.length, none⟩ = some (.int .u64 (V : Int)) := hcc p.n.length _ (by rw [HV.out, if_pos hk]; simp [cellsN, List.getD, hk])
              clear hcc hb
              go_wp2_with fail
              go_meet
              exact ⟨rfl, rfl⟩
            · have hk1 : ¬ (p.n.length : Int) < (ln.length : Int) := by omega
              have hV0 : V = 0 := by rw [HV.out, if_neg hk]
              subst hV0
              go_wp2_with fail
              go_meet
              exact ⟨rfl, rfl⟩
          case rest =>
            obtain ⟨rfl, hwc⟩ := hcut
            subst wc
            have hmask : bits .and .u64 (V : Int) 255 = ((V % 256 : Nat) : Int) := by rw [show (255 : Int) = ((255 : Nat) : Int) from rfl, u64_and_nat V 255 HV64.out (by omega), show 255 = 2 ^ 8 - 1 from rfl, Nat.and_two_pow_sub_one_eq_mod]
            have hUw : (V % 256) < 256 ^ wd 49 := by
              have e : 256 ^ wd 49 = 256 := by decide
              rw [e]
              have := HV64.out
              omega
            have hsA : p.n.length + 1 ≤ maxLen := by unfold maxLen; omega
            have hsB : (p.n.length + 1) * 8 ≤ 140737488355328 := by omega
            have D : Hid (∀ (w7 : World) (v7 : Value) (o : Obj), w7.ownsRow (g + 1) 27 1 v7 (p.n.length + 1) (cellsN p.n ++ [.int .u64 (((V % 256) : Nat) : Int)]) → (wr.alloc o).grownBy w7 (Value.slice An p.n.length kn).ownBlock → ∃ p', MadeOf (L.take (j + 1)) p' ∧ MAt w2 (w7.setCell ⟨g, 2, none⟩ v7) g c i v7 (.slice As p.s.length ks) (.slice Af p.f.length kf) vT p' ∧ TSay (L.take (j + 1)) ok t (.slice AT t.length cT_) p' vT) := Lib.hid (fun w7 v7 o ho hgw =>
              ⟨{ p with n := p.n ++ [(V % 256)] }, by rw [HNX.out]; exact MO.out.num (by decide) hUw (by have := HV64.out; omega), MA.out.num hwg2 ho hgw, by rw [HNX.out]; exact TS.out.more 49 rfl⟩)
            have KM : Hid (∀ w7 (o : Obj), (wr.alloc o).grownBy w7 (Value.slice An p.n.length kn).ownBlock → w7.cell? ⟨g, 2, none⟩ = some (.slice An p.n.length kn) ∧ w7.frozen? ⟨g, 2, none⟩ = false) := Lib.hid (fun w7 o h => ⟨(MA.out.keepM MA.out.n h).cell 2, (MA.out.keepM MA.out.n h).frozen 2⟩)
            clear hUw
            go_wp2_with (at_builtin; refine wpList_append_apart rfl _ _ 28 rfl (g + 1) 27 i0 (.int .u64 0) 1 8 Tryd.underlying28 HI.out G0.out G1.out G2.out rfl (by omega) _ p.n.length (cellsN p.n) rfl (MA.out.n.alloc _) _ _ 1 1 [.int .u64 (((V % 256) : Nat) : Int)] rfl (Lies.one wr 27 _) rfl (fun u hu => by rw [List.mem_singleton] at hu; subst hu; rfl) hsA hsB (by simp; omega) ?_; intro v7 w7 hown7 hg7; obtain ⟨A7, k7, rfl, _, _⟩ := own_form hown7; have HO7 := Lib.hid hown7; have HG7 := Lib.hid hg7; obtain ⟨e3, z3⟩ := KM.out _ _ hg7; clear hown7 hg7)
            all_goals
              obtain ⟨p', m1, m2, m3⟩ := D.out _ _ _ HO7.out HG7.out
              first
              | exact ⟨⟨j + 1, p', _, _, _, _, by go_num, by omega, m1, m2, m3⟩, by simp [intOf]; omega⟩
              | (go_wp2_with fail
                 go_roundw
                 case rel => exact ⟨j + 1, p', _, _, _, _, by go_num, by omega, m1, m2, m3⟩
                 case measure => simp [intOf]; omega)
        · have hx : (((⟨L.toArray⟩ : ByteArray)[j]'hjs).toNat : Int) = 50 := by rw [hidx]; rfl
          clear hidx
          obtain ⟨V, hV⟩ : ∃ V, V = if p.n.length < ln.length then ln.getD p.n.length 0 else 0 := ⟨_, rfl⟩
          have HV := Lib.hid hV
          have HV64 : Hid (V < 18446744073709551616) := Lib.hid (by
            rw [hV]
            split
            · rename_i hk
              rw [show ln.getD p.n.length 0 = ln[p.n.length] from by simp [List.getD, hk]]
              exact HN64.out _ (List.getElem_mem _)
            · omega)
          clear hV
          obtain ⟨i0, hi, hz0, hz1, hz2⟩ := info_parts nums_info
          have HI := Lib.hid hi
          have G0 := Lib.hid hz0
          have G1 := Lib.hid hz1
          have G2 := Lib.hid hz2
          clear hi hz0 hz1 hz2
          go_upto_if 107 with fail
          go_cut [19] (fun s19 wx => s19 = .int .u64 (V : Int) ∧ wx = wr)
          case first =>
            by_cases hk : p.n.length < ln.length
            · have hk1 : (p.n.length : Int) < (ln.length : Int) := by omega
              have hk0 : (0 : Int) ≤ (p.n.length : Int) := by omega
              obtain ⟨b, o, rfl, hb, hcc⟩ := (HLN.out.below BWR.out).resolve_left (by intro h; have := congrArg List.length h; simp [cellsN] at this; rw [this] at hk; simp at hk)
              have hc : wr.cell? ⟨b, o + p.n.length, none⟩ = some (.int .u64 (V : Int)) := hcc p.n.length _ (by rw [HV.out, if_pos hk]; simp [cellsN, List.getD, hk])
              clear hcc hb
              go_wp2_with fail
              go_meet
              exact ⟨rfl, rfl⟩
            · have hk1 : ¬ (p.n.length : Int) < (ln.length : Int) := by omega
              have hV0 : V = 0 := by rw [HV.out, if_neg hk]
              subst hV0
              go_wp2_with fail
              go_meet
              exact ⟨rfl, rfl⟩
          case rest =>
            obtain ⟨rfl, hwc⟩ := hcut
            subst wc
            have hmask : bits .and .u64 (V : Int) 65535 = ((V % 65536 : Nat) : Int) := by rw [show (65535 : Int) = ((65535 : Nat) : Int) from rfl, u64_and_nat V 65535 HV64.out (by omega), show 65535 = 2 ^ 16 - 1 from rfl, Nat.and_two_pow_sub_one_eq_mod]
            have hUw : (V % 65536) < 256 ^ wd 50 := by
              have e : 256 ^ wd 50 = 65536 := by decide
              rw [e]
              have := HV64.out
              omega
            have hsA : p.n.length + 1 ≤ maxLen := by unfold maxLen; omega
            have hsB : (p.n.length + 1) * 8 ≤ 140737488355328 := by omega
            have D : Hid (∀ (w7 : World) (v7 : Value) (o : Obj), w7.ownsRow (g + 1) 27 1 v7 (p.n.length + 1) (cellsN p.n ++ [.int .u64 (((V % 65536) : Nat) : Int)]) → (wr.alloc o).grownBy w7 (Value.slice An p.n.length kn).ownBlock → ∃ p', MadeOf (L.take (j + 1)) p' ∧ MAt w2 (w7.setCell ⟨g, 2, none⟩ v7) g c i v7 (.slice As p.s.length ks) (.slice Af p.f.length kf) vT p' ∧ TSay (L.take (j + 1)) ok t (.slice AT t.length cT_) p' vT) := Lib.hid (fun w7 v7 o ho hgw =>
              ⟨{ p with n := p.n ++ [(V % 65536)] }, by rw [HNX.out]; exact MO.out.num (by decide) hUw (by have := HV64.out; omega), MA.out.num hwg2 ho hgw, by rw [HNX.out]; exact TS.out.more 50 rfl⟩)
            have KM : Hid (∀ w7 (o : Obj), (wr.alloc o).grownBy w7 (Value.slice An p.n.length kn).ownBlock → w7.cell? ⟨g, 2, none⟩ = some (.slice An p.n.length kn) ∧ w7.frozen? ⟨g, 2, none⟩ = false) := Lib.hid (fun w7 o h => ⟨(MA.out.keepM MA.out.n h).cell 2, (MA.out.keepM MA.out.n h).frozen 2⟩)
            clear hUw
            go_wp2_with (at_builtin; refine wpList_append_apart rfl _ _ 28 rfl (g + 1) 27 i0 (.int .u64 0) 1 8 Tryd.underlying28 HI.out G0.out G1.out G2.out rfl (by omega) _ p.n.length (cellsN p.n) rfl (MA.out.n.alloc _) _ _ 1 1 [.int .u64 (((V % 65536) : Nat) : Int)] rfl (Lies.one wr 27 _) rfl (fun u hu => by rw [List.mem_singleton] at hu; subst hu; rfl) hsA hsB (by simp; omega) ?_; intro v7 w7 hown7 hg7; obtain ⟨A7, k7, rfl, _, _⟩ := own_form hown7; have HO7 := Lib.hid hown7; have HG7 := Lib.hid hg7; obtain ⟨e3, z3⟩ := KM.out _ _ hg7; clear hown7 hg7)
            all_goals
              obtain ⟨p', m1, m2, m3⟩ := D.out _ _ _ HO7.out HG7.out
              first
              | exact ⟨⟨j + 1, p', _, _, _, _, by go_num, by omega, m1, m2, m3⟩, by simp [intOf]; omega⟩
              | (go_wp2_with fail
                 go_roundw
                 case rel => exact ⟨j + 1, p', _, _, _, _, by go_num, by omega, m1, m2, m3⟩
                 case measure => simp [intOf]; omega)
        · have hx : (((⟨L.toArray⟩ : ByteArray)[j]'hjs).toNat : Int) = 52 := by rw [hidx]; rfl
          clear hidx
          obtain ⟨V, hV⟩ : ∃ V, V = if p.n.length < ln.length then ln.getD p.n.length 0 else 0 := ⟨_, rfl⟩
          have HV := Lib.hid hV
          have HV64 : Hid (V < 18446744073709551616) := Lib.hid (by
            rw [hV]
            split
            · rename_i hk
              rw [show ln.getD p.n.length 0 = ln[p.n.length] from by simp [List.getD, hk]]
              exact HN64.out _ (List.getElem_mem _)
            · omega)
          clear hV
          obtain ⟨i0, hi, hz0, hz1, hz2⟩ := info_parts nums_info
          have HI := Lib.hid hi
          have G0 := Lib.hid hz0
          have G1 := Lib.hid hz1
          have G2 := Lib.hid hz2
          clear hi hz0 hz1 hz2
          go_upto_if 107 with fail
          go_cut [19] (fun s19 wx => s19 = .int .u64 (V : Int) ∧ wx = wr)
          case first =>
            by_cases hk : p.n.length < ln.length
            · have hk1 : (p.n.length : Int) < (ln.length : Int) := by omega
              have hk0 : (0 : Int) ≤ (p.n.length : Int) := by omega
              obtain ⟨b, o, rfl, hb, hcc⟩ := (HLN.out.below BWR.out).resolve_left (by intro h; have := congrArg List.length h; simp [cellsN] at this; rw [this] at hk; simp at hk)
              have hc : wr.cell? ⟨b, o + p.n.length, none⟩ = some (.int .u64 (V : Int)) := hcc p.n.length _ (by rw [HV.out, if_pos hk]; simp [cellsN, List.getD, hk])
              clear hcc hb
              go_wp2_with fail
              go_meet
              exact ⟨rfl, rfl⟩
            · have hk1 : ¬ (p.n.length : Int) < (ln.length : Int) := by omega
              have hV0 : V = 0 := by rw [HV.out, if_neg hk]
              subst hV0
              go_wp2_with fail
              go_meet
              exact ⟨rfl, rfl⟩
          case rest =>
            obtain ⟨rfl, hwc⟩ := hcut
            subst wc
            have hmask : bits .and .u64 (V : Int) 4294967295 = ((V % 4294967296 : Nat) : Int) := by rw [show (4294967295 : Int) = ((4294967295 : Nat) : Int) from rfl, u64_and_nat V 4294967295 HV64.out (by omega), show 4294967295 = 2 ^ 32 - 1 from rfl, Nat.and_two_pow_sub_one_eq_mod]
            have hUw : (V % 4294967296) < 256 ^ wd 52 := by
              have e : 256 ^ wd 52 = 4294967296 := by decide
              rw [e]
              have := HV64.out
              omega
            have hsA : p.n.length + 1 ≤ maxLen := by unfold maxLen; omega
            have hsB : (p.n.length + 1) * 8 ≤ 140737488355328 := by omega
            have D : Hid (∀ (w7 : World) (v7 : Value) (o : Obj), w7.ownsRow (g + 1) 27 1 v7 (p.n.length + 1) (cellsN p.n ++ [.int .u64 (((V % 4294967296) : Nat) : Int)]) → (wr.alloc o).grownBy w7 (Value.slice An p.n.length kn).ownBlock → ∃ p', MadeOf (L.take (j + 1)) p' ∧ MAt w2 (w7.setCell ⟨g, 2, none⟩ v7) g c i v7 (.slice As p.s.length ks) (.slice Af p.f.length kf) vT p' ∧ TSay (L.take (j + 1)) ok t (.slice AT t.length cT_) p' vT) := Lib.hid (fun w7 v7 o ho hgw =>
              ⟨{ p with n := p.n ++ [(V % 4294967296)] }, by rw [HNX.out]; exact MO.out.num (by decide) hUw (by have := HV64.out; omega), MA.out.num hwg2 ho hgw, by rw [HNX.out]; exact TS.out.more 52 rfl⟩)
            have KM : Hid (∀ w7 (o : Obj), (wr.alloc o).grownBy w7 (Value.slice An p.n.length kn).ownBlock → w7.cell? ⟨g, 2, none⟩ = some (.slice An p.n.length kn) ∧ w7.frozen? ⟨g, 2, none⟩ = false) := Lib.hid (fun w7 o h => ⟨(MA.out.keepM MA.out.n h).cell 2, (MA.out.keepM MA.out.n h).frozen 2⟩)
            clear hUw
            go_wp2_with (at_builtin; refine wpList_append_apart rfl _ _ 28 rfl (g + 1) 27 i0 (.int .u64 0) 1 8 Tryd.underlying28 HI.out G0.out G1.out G2.out rfl (by omega) _ p.n.length (cellsN p.n) rfl (MA.out.n.alloc _) _ _ 1 1 [.int .u64 (((V % 4294967296) : Nat) : Int)] rfl (Lies.one wr 27 _) rfl (fun u hu => by rw [List.mem_singleton] at hu; subst hu; rfl) hsA hsB (by simp; omega) ?_; intro v7 w7 hown7 hg7; obtain ⟨A7, k7, rfl, _, _⟩ := own_form hown7; have HO7 := Lib.hid hown7; have HG7 := Lib.hid hg7; obtain ⟨e3, z3⟩ := KM.out _ _ hg7; clear hown7 hg7)
            all_goals
              obtain ⟨p', m1, m2, m3⟩ := D.out _ _ _ HO7.out HG7.out
              first
              | exact ⟨⟨j + 1, p', _, _, _, _, by go_num, by omega, m1, m2, m3⟩, by simp [intOf]; omega⟩
              | (go_wp2_with fail
                 go_roundw
                 case rel => exact ⟨j + 1, p', _, _, _, _, by go_num, by omega, m1, m2, m3⟩
                 case measure => simp [intOf]; omega)
        · have hx : (((⟨L.toArray⟩ : ByteArray)[j]'hjs).toNat : Int) = 56 := by rw [hidx]; rfl
          clear hidx
          obtain ⟨V, hV⟩ : ∃ V, V = if p.n.length < ln.length then ln.getD p.n.length 0 else 0 := ⟨_, rfl⟩
          have HV := Lib.hid hV
          have HV64 : Hid (V < 18446744073709551616) := Lib.hid (by
            rw [hV]
            split
            · rename_i hk
              rw [show ln.getD p.n.length 0 = ln[p.n.length] from by simp [List.getD, hk]]
              exact HN64.out _ (List.getElem_mem _)
            · omega)
          clear hV
          obtain ⟨i0, hi, hz0, hz1, hz2⟩ := info_parts nums_info
          have HI := Lib.hid hi
          have G0 := Lib.hid hz0
          have G1 := Lib.hid hz1
          have G2 := Lib.hid hz2
          clear hi hz0 hz1 hz2
          go_upto_if 107 with fail
          go_cut [19] (fun s19 wx => s19 = .int .u64 (V : Int) ∧ wx = wr)
          case first =>
            by_cases hk : p.n.length < ln.length
            · have hk1 : (p.n.length : Int) < (ln.length : Int) := by omega
              have hk0 : (0 : Int) ≤ (p.n.length : Int) := by omega
              obtain ⟨b, o, rfl, hb, hcc⟩ := (HLN.out.below BWR.out).resolve_left (by intro h; have := congrArg List.length h; simp [cellsN] at this; rw [this] at hk; simp at hk)
              have hc : wr.cell? ⟨b, o + p.n.length, none⟩ = some (.int .u64 (V : Int)) := hcc p.n.length _ (by rw [HV.out, if_pos hk]; simp [cellsN, List.getD, hk])
              clear hcc hb
              go_wp2_with fail
              go_meet
              exact ⟨rfl, rfl⟩
            · have hk1 : ¬ (p.n.length : Int) < (ln.length : Int) := by omega
              have hV0 : V = 0 := by rw [HV.out, if_neg hk]
              subst hV0
              go_wp2_with fail
              go_meet
              exact ⟨rfl, rfl⟩
          case rest =>
            obtain ⟨rfl, hwc⟩ := hcut
            subst wc
            have hUw : V < 256 ^ wd 56 := by
              have e : 256 ^ wd 56 = 18446744073709551616 := by decide
              rw [e]
              have := HV64.out
              omega
            have hsA : p.n.length + 1 ≤ maxLen := by unfold maxLen; omega
            have hsB : (p.n.length + 1) * 8 ≤ 140737488355328 := by omega
            have D : Hid (∀ (w7 : World) (v7 : Value) (o : Obj), w7.ownsRow (g + 1) 27 1 v7 (p.n.length + 1) (cellsN p.n ++ [.int .u64 ((V : Nat) : Int)]) → (wr.alloc o).grownBy w7 (Value.slice An p.n.length kn).ownBlock → ∃ p', MadeOf (L.take (j + 1)) p' ∧ MAt w2 (w7.setCell ⟨g, 2, none⟩ v7) g c i v7 (.slice As p.s.length ks) (.slice Af p.f.length kf) vT p' ∧ TSay (L.take (j + 1)) ok t (.slice AT t.length cT_) p' vT) := Lib.hid (fun w7 v7 o ho hgw =>
              ⟨{ p with n := p.n ++ [V] }, by rw [HNX.out]; exact MO.out.num (by decide) hUw (by have := HV64.out; omega), MA.out.num hwg2 ho hgw, by rw [HNX.out]; exact TS.out.more 56 rfl⟩)
            have KM : Hid (∀ w7 (o : Obj), (wr.alloc o).grownBy w7 (Value.slice An p.n.length kn).ownBlock → w7.cell? ⟨g, 2, none⟩ = some (.slice An p.n.length kn) ∧ w7.frozen? ⟨g, 2, none⟩ = false) := Lib.hid (fun w7 o h => ⟨(MA.out.keepM MA.out.n h).cell 2, (MA.out.keepM MA.out.n h).frozen 2⟩)
            clear hUw
            go_wp2_with (at_builtin; refine wpList_append_apart rfl _ _ 28 rfl (g + 1) 27 i0 (.int .u64 0) 1 8 Tryd.underlying28 HI.out G0.out G1.out G2.out rfl (by omega) _ p.n.length (cellsN p.n) rfl (MA.out.n.alloc _) _ _ 1 1 [.int .u64 ((V : Nat) : Int)] rfl (Lies.one wr 27 _) rfl (fun u hu => by rw [List.mem_singleton] at hu; subst hu; rfl) hsA hsB (by simp; omega) ?_; intro v7 w7 hown7 hg7; obtain ⟨A7, k7, rfl, _, _⟩ := own_form hown7; have HO7 := Lib.hid hown7; have HG7 := Lib.hid hg7; obtain ⟨e3, z3⟩ := KM.out _ _ hg7; clear hown7 hg7)
            all_goals
              obtain ⟨p', m1, m2, m3⟩ := D.out _ _ _ HO7.out HG7.out
              first
              | exact ⟨⟨j + 1, p', _, _, _, _, by go_num, by omega, m1, m2, m3⟩, by simp [intOf]; omega⟩
              | (go_wp2_with fail
                 go_roundw
                 case rel => exact ⟨j + 1, p', _, _, _, _, by go_num, by omega, m1, m2, m3⟩
                 case measure => simp [intOf]; omega)
      · obtain rfl : j = L.length := by omega
        have q1 : ¬ (L.length : Int) < (L.length : Int) := Int.lt_irrefl _
        have ZR := M2.out.below MA.out.bel (by omega)
        have y0 : wr.cell? ⟨w.heap.size, 0, none⟩ = some (.int .i64 0) := ZR.cell 0
        have y1 : wr.cell? ⟨w.heap.size, 1, none⟩ = some (.int .i64 0) := ZR.cell 1
        have y2 : wr.cell? ⟨w.heap.size, 2, none⟩ = some (.slice none 0 0) := ZR.cell 2
        have y3 : wr.cell? ⟨w.heap.size, 3, none⟩ = some (.slice none 0 0) := ZR.cell 3
        have y4 : wr.cell? ⟨w.heap.size, 4, none⟩ = some (.slice none 0 0) := ZR.cell 4
        have y5 : wr.cell? ⟨w.heap.size, 5, none⟩ = some (.slice none 0 0) := ZR.cell 5
        have f0 := ZR.frozen 0
        have f1 := ZR.frozen 1
        have f2 := ZR.frozen 2
        have f3 := ZR.frozen 3
        have f4 := ZR.frozen 4
        have f5 := ZR.frozen 5
        have g0 : wr.cell? ⟨g, 0, none⟩ = some (.int .i64 c) := MA.out.ms.cell 0
        have g1 : wr.cell? ⟨g, 1, none⟩ = some (.int .i64 i) := MA.out.ms.cell 1
        have g2 : wr.cell? ⟨g, 2, none⟩ = some (.slice An p.n.length kn) := MA.out.ms.cell 2
        have g3 : wr.cell? ⟨g, 3, none⟩ = some (.slice As p.s.length ks) := MA.out.ms.cell 3
        have g4 : wr.cell? ⟨g, 4, none⟩ = some (.slice Af p.f.length kf) := MA.out.ms.cell 4
        have DE : Hid (∀ v0 v1 v2 u3 v4 v5, MAt w (six wr w.heap.size v0 v1 v2 u3 v4 v5) g c i (.slice An p.n.length kn) (.slice As p.s.length ks) (.slice Af p.f.length kf) vT p) := Lib.hid (fun v0 v1 v2 u3 v4 v5 => MA.out.ended BWR.out (by omega) v0 v1 v2 u3 v4 v5)
        have MOL : Hid (MadeOf L p) := Lib.hid (by have h := MO.out; rw [List.take_length] at h; exact h)
        have TSL : Hid (TSay L ok t (.slice AT t.length cT_) p vT) := Lib.hid (by have h := TS.out; rw [List.take_length] at h; exact h)
        obtain ⟨Ax, nx, kx, rfl⟩ : ∃ Ax nx kx, vT = .slice Ax nx kx := by
          rcases TS.out with ⟨_, rfl⟩ | ⟨_, _, _, rfl⟩
          · exact ⟨_, _, _, rfl⟩
          · exact ⟨_, _, _, rfl⟩
        have g5 : wr.cell? ⟨g, 5, none⟩ = some (.slice Ax nx kx) := MA.out.ms.cell 5
        obtain ⟨wf, hwf⟩ : ∃ wf, wf = six wr w.heap.size (.int .i64 c) (.int .i64 i) (.slice An p.n.length kn) (.slice As p.s.length ks) (.slice Af p.f.length kf) (.slice Ax nx kx) := ⟨_, rfl⟩
        have hf6 := (six_is ZR BWR.out (.int .i64 c) (.int .i64 i) (.slice An p.n.length kn) (.slice As p.s.length ks) (.slice Af p.f.length kf) (.slice Ax nx kx)).1
        rw [← hwf] at hf6
        have DF : MAt w wf g c i (.slice An p.n.length kn) (.slice As p.s.length ks) (.slice Af p.f.length kf) (.slice Ax nx kx) p := by rw [hwf]; exact DE.out _ _ _ _ _ _
        have e0 : wf.cell? ⟨w.heap.size, 0, none⟩ = some (.int .i64 c) := hf6.cell 0
        have e1 : wf.cell? ⟨w.heap.size, 1, none⟩ = some (.int .i64 i) := hf6.cell 1
        have e2 : wf.cell? ⟨w.heap.size, 2, none⟩ = some (.slice An p.n.length kn) := hf6.cell 2
        have e3 : wf.cell? ⟨w.heap.size, 3, none⟩ = some (.slice As p.s.length ks) := hf6.cell 3
        have e4 : wf.cell? ⟨w.heap.size, 4, none⟩ = some (.slice Af p.f.length kf) := hf6.cell 4
        have e5 : wf.cell? ⟨w.heap.size, 5, none⟩ = some (.slice Ax nx kx) := hf6.cell 5
        have DFH := Lib.hid DF
        have HWF := Lib.hid hwf
        clear ZR hf6 DF hwf
        go_wp2_with fail
        have hwf2 := HWF.out
        unfold six at hwf2
        rw [← hwf2]
        refine bodyPost_ret (v := .agg #[.int .i64 c, .int .i64 i, .slice An p.n.length kn, .slice As p.s.length ks, .slice Af p.f.length kf, .slice Ax nx kx]) (by simp [results, Tryd.results15, go_sem, e0, e1, e2, e3, e4, e5]) rfl ?_
        exact ⟨c, i, L, p, g, _, _, _, _, HRM.out, rfl, MOL.out, hwg, DFH.out, TSL.out⟩
end Go.Proofs.YtlfppfknelddcaaDoor
