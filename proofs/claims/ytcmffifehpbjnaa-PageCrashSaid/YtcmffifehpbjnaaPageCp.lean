/- A device's copy: maps.Clone laid over this program, maps cloned whole, a map ranged over, said of what a map tells. -/
import Derived.Test.YtcmffifehpbjnaaPageTw
import Derived.Shelf.SlMaps.Clone
import Derived.Ground.SlmcProg
import Derived.Maps.RangeWalk
namespace Go.Proofs.Ytcmffifehpbjnaa
open Go.RowKit Go.Maps
open Go.Shelf
def clLa_ren : Go.Shelf.Ren := ⟨fun | 5 => 38 | 7 => 55 | n => n, fun | 23 => 72 | 25 => 86 | 3 => 88 | 4 => 4 | 20 => 20 | n => n, fun | n => n⟩
theorem clLa : Go.Proofs.SlLaysW.n5 Try.prog clLa_ren := {
  mixed := by kernel_rfl
  f5 := ⟨Try.f38.name, by decide, Try.func38.trans (congrArg some (by kernel_rfl))⟩
  f7 := Try.func55.trans (congrArg some (by kernel_rfl))
  t4 := Try.underlying4
  a4 := Try.isAgg4
  z4 := Try.sizeOf4
  v4 := Try.zeroValue4
  t20 := Try.underlying20
  a20 := Try.isAgg20
  z20 := Try.sizeOf20
  v20 := Try.zeroValue20
  t23 := Try.underlying72
  a23 := Try.isAgg72
  z23 := Try.sizeOf72
  v23 := Try.zeroValue72 }
def clFr_ren : Go.Shelf.Ren := ⟨fun | 5 => 39 | 7 => 55 | n => n, fun | 23 => 73 | 25 => 86 | 3 => 64 | 4 => 4 | 20 => 20 | n => n, fun | n => n⟩
theorem clFr : Go.Proofs.SlLaysW.n5 Try.prog clFr_ren := {
  mixed := by kernel_rfl
  f5 := ⟨Try.f39.name, by decide, Try.func39.trans (congrArg some (by kernel_rfl))⟩
  f7 := Try.func55.trans (congrArg some (by kernel_rfl))
  t4 := Try.underlying4
  a4 := Try.isAgg4
  z4 := Try.sizeOf4
  v4 := Try.zeroValue4
  t20 := Try.underlying20
  a20 := Try.isAgg20
  z20 := Try.sizeOf20
  v20 := Try.zeroValue20
  t23 := Try.underlying73
  a23 := Try.isAgg73
  z23 := Try.sizeOf73
  v23 := Try.zeroValue73 }
section
variable {P : Program} {kt t vt : TypeId} {κ : Type} {kv : κ → Value} {ok : κ → Prop} {kl : κ → Lit} {w w' : World} {b : Nat} {f : κ → Option Value}
/-- the same entries in another block -/
theorem MapF.copied (h : MapF P kt ok kl w b f) : ∃ es clock, w.heap[b]? = some (.map es clock) ∧ MapF P kt ok kl (w.alloc (.map es clock)) w.heap.size f := by
  obtain ⟨D, ⟨es, clock, h1, h2⟩, h3⟩ := h
  exact ⟨es, clock, h1, D, ⟨es, clock, heap_alloc_new w _, h2⟩, h3⟩
/-- what holds between a map's data and what it tells -/
def TellsF (ok : κ → Prop) (kl : κ → Lit) (D : DataW Value) (f : κ → Option Value) : Prop :=
  (∀ x, ok x → Maps.has D (kl x) = (f x).isSome ∧ ∀ v, f x = some v → ∀ z, D.atKey (kl x) z = .held v) ∧ (∀ l, Maps.has D l = true → ∃ x, ok x ∧ l = kl x) ∧ ∀ x v, f x = some v → ok x
/-- a map that is ranged over: it tells f; what is still to come is told by left -/
def RngF (P : Program) (kt : TypeId) (ok : κ → Prop) (kl : κ → Lit) (w : World) (b r : Nat) (f : κ → Option Value) (left : κ → Bool) (cnt : Nat) : Prop :=
  ∃ (D : DataW Value) (lf : Lit → Bool) (n : Nat), w.ranges P kt rid b r n D lf cnt ∧ TellsF ok kl D f ∧ (∀ x, ok x → lf (kl x) = left x) ∧ ∀ l, lf l = true → Maps.has D l = true
section
variable {left : κ → Bool} {cnt r : Nat}
theorem RngF.lt (h : RngF P kt ok kl w b r f left cnt) : r < w.heap.size := by
  obtain ⟨D, lf, n, h1, _⟩ := h
  exact h1.lt
theorem RngF.ne (h : RngF P kt ok kl w b r f left cnt) : r ≠ b := by
  obtain ⟨D, lf, n, h1, _⟩ := h
  exact h1.ne
theorem RngF.left_eq (h : RngF P kt ok kl w b r f left cnt) : w.rangeLeft b r = cnt := by
  obtain ⟨D, lf, n, h1, _⟩ := h
  exact h1.left_eq
theorem RngF.map (h : RngF P kt ok kl w b r f left cnt) : MapF P kt ok kl w b f := by
  obtain ⟨D, lf, n, h1, h2, _⟩ := h
  exact ⟨D, owns_size h1.owns, h2⟩
theorem RngF.kept {row : Option Nat} (h : RngF P kt ok kl w b r f left cnt) (hg : w.grownBy w' row) (hb : some b ≠ row) (hr : some r ≠ row) : RngF P kt ok kl w' b r f left cnt := by
  obtain ⟨D, lf, n, h1, h2⟩ := h
  exact ⟨D, lf, n, h1.kept hg hb hr, h2⟩
theorem RngF.blocks (h : RngF P kt ok kl w b r f left cnt) (hb : w'.heap[b]? = w.heap[b]?) (hr : w'.heap[r]? = w.heap[r]?) : RngF P kt ok kl w' b r f left cnt := by
  obtain ⟨D, lf, n, ⟨es, clock, since, seen, c0, k1, k2, k3, k4, k5, k6⟩, h2⟩ := h
  exact ⟨D, lf, n, ⟨es, clock, since, seen, c0, hb.trans k1, k2, k3, k4, hr.trans k5, k6⟩, h2⟩
variable {ops : Array Oper} {rest : List Oper} {o : Oper} {a : Act} {Q : Exit → Act → World → Prop}
/-- 'range m' -/
theorem wpList_range_f (hg : o.guard = none) (m : Operand) (hop : o.op = Op.range t m) (K : KeyKind P kt kv ok kl) (ht : P.underlying t = some (.map kt vt)) (hm : a.eval m = .map (some b)) (h : MapF P kt ok kl w b f)
    (hK : ∀ w' cnt, RngF P kt ok kl w' b w.heap.size f (fun x => (f x).isSome) cnt → w.grownBy w' none → w'.heap.size = w.heap.size + 1 → wpList P ops Q rest (a.put o.dst (.pointer (some ⟨w.heap.size, 0, none⟩))) w') :
    wpList P ops Q (o :: rest) a w := by
  obtain ⟨D, h1, h2, h3, h4⟩ := h
  refine wpList_range_own w hg m t hop kt vt K.law ht rid b _ D hm h1 fun w' r1 r2 r3 => ?_
  exact hK w' _ ⟨D, _, _, r1, ⟨h2, h3, h4⟩, fun x hx => (h2 x hx).1, fun l hl => hl⟩ r2 r3
/-- the step of a range over a map -/
theorem wpList_next_f [DecidableEq κ] (hg : o.guard = none) (it : Operand) (hop : o.op = Op.next it false) (K : KeyKind P kt kv ok kl) (hit : a.eval it = .pointer (some ⟨r, 0, none⟩)) (h : RngF P kt ok kl w b r f left cnt)
    (hDone : (∀ x, ok x → left x = false) → wpList P ops Q rest (a.put o.dst (.tuple #[.bool false])) w)
    (hMore : ∀ (x : κ) (v : Value) (w' : World) (cnt' : Nat), ok x → left x = true → f x = some v → RngF P kt ok kl w' b r f (fun z => left z && !decide (z = x)) cnt' → cnt' < cnt → w.grownBy w' (some r) → w'.heap.size = w.heap.size →
      (Instr.entry (.pointer (some ⟨r, 0, none⟩))).run P w' = .ok (.tuple #[kv x, v]) w' → wpList P ops Q rest (a.put o.dst (.tuple #[.bool true, kv x, v])) w') :
    wpList P ops Q (o :: rest) a w := by
  obtain ⟨D, lf, n, h1, ⟨h2, h3, h4⟩, h5, h6⟩ := h
  refine wpList_next_ranges w hg it hop kt K.law rid id id (fun key kl _ => ⟨key, rfl⟩) (fun v y _ => ⟨v, rfl⟩) b r n D lf cnt hit h1 ?_ ?_
  · intro _ hl
    exact hDone fun x hx => by rw [← h5 x hx]; exact hl _
  · intro key v l y w' cnt' hkey hl hy hat hrg hlt hgr hsz hen
    obtain ⟨x, hx, rfl⟩ := h3 l (h6 l hl)
    obtain rfl : key = kv x := K.law.inj hkey (K.read x hx)
    obtain rfl : y = (.held v, []) := (Option.some.inj hy).symm
    have hf : f x = some v := by
      have hs := (h2 x hx).1
      rw [h6 _ hl] at hs
      obtain ⟨u, hu⟩ := Option.isSome_iff_exists.1 hs.symm
      have h7 := (h2 x hx).2 u hu (.held v)
      rw [hat (.held v)] at h7
      injection h7 with h8
      rw [hu, h8]
    have hk : ∀ z, ok z → lf (kl z) = left z := h5
    refine hMore x v w' cnt' hx (by rw [← h5 x hx]; exact hl) hf ⟨D, _, n, hrg, ⟨h2, h3, h4⟩, fun z hz => ?_, fun l hl => h6 l ?_⟩ hlt hgr hsz hen
    · show (lf (kl z) && !(kl z).sameKey (kl x)) = _
      rw [h5 z hz]
      congr 2
      by_cases e : z = x
      · subst e
        rw [WideAt.sameKey_self (K.law.key (K.read z hz))]
        simp
      · have : (kl z).sameKey (kl x) = false := by
          cases hs : (kl z).sameKey (kl x)
          · rfl
          · exact absurd (K.apart hz hx (WideAt.sameKey_eq hs)) e
        rw [this]
        simp [e]
    · have : (lf l && !l.sameKey (kl x)) = true := hl
      exact (Bool.and_eq_true_iff.1 this).1
end
end
theorem clone_la {w : World} {b : Nat} {f : Nm × Nat → Option Value} (h : MapF Try.prog 86 plOk plL w b f) :
    Calls Try.prog 38 #[.map (some b)] w fun e w' => e = .returned (.map (some w.heap.size)) ∧ MapF Try.prog 86 plOk plL w' w.heap.size f ∧ Below w.heap.size w w' ∧ w'.heap.size = w.heap.size + 1 := by
  obtain ⟨es, clock, h1, h2⟩ := h.copied
  refine (AnyW.maps_Clone clLa b es clock w h1).mono ?_
  rintro e w' ⟨r1, rfl⟩
  exact ⟨r1, h2, (Below.refl _ _).alloc (Nat.le_refl _) _, by simp⟩
theorem clone_fr {w : World} {b : Nat} {f : Nm × Nat → Option Value} (h : MapF Try.prog 86 plOk plL w b f) :
    Calls Try.prog 39 #[.map (some b)] w fun e w' => e = .returned (.map (some w.heap.size)) ∧ MapF Try.prog 86 plOk plL w' w.heap.size f ∧ Below w.heap.size w w' ∧ w'.heap.size = w.heap.size + 1 := by
  obtain ⟨es, clock, h1, h2⟩ := h.copied
  refine (AnyW.maps_Clone clFr b es clock w h1).mono ?_
  rintro e w' ⟨r1, rfl⟩
  exact ⟨r1, h2, (Below.refl _ _).alloc (Nat.le_refl _) _, by simp⟩
def ffS (S : Dv) (sv : Nm → Value) : Nm → Option Value := fun nm => (fnd S.fs nm).map fun F => flV F.l.length (sv nm)
def ffC (S : Dv) (sv : Nm → Value) (left : Nm → Bool) : Nm → Option Value := fun nm => if left nm then none else (fnd S.fs nm).map fun F => flV F.l.length (sv nm)
theorem own_low {w : World} {b base : Nat} {e : TypeId} {size n : Nat} {v : Value} {xs : List Value} (h : w.ownsRow base e size v n xs) (hb : b ≤ base) : w.ownsRow b e size v n xs := by
  obtain ⟨h1, h2⟩ := h
  refine ⟨h1, ?_⟩
  rcases h2 with h | ⟨g, cap, cur, k1, k2, k3⟩
  · exact .inl h
  · exact .inr ⟨g, cap, cur, k1, Nat.le_trans hb k2, k3⟩
theorem run_makeMap_hint {P : Program} (t k e : TypeId) (z : Int) (w : World) (ht : P.underlying t = some (.map k e)) : (Instr.makeMap t (some (.int .i64 z))).run P w = .ok (.map (some w.heap.size)) (w.alloc (.map #[] 0)) := by
  simp [Instr.makeMap, run_underlying ht, asInt, asIntOf, Result.andThen]
theorem ffC_start (S : Dv) (sv sv' : Nm → Value) : ffC S sv' (fun x => (ffS S sv x).isSome) = fun _ => none := by
  funext nm
  unfold ffC ffS
  cases h : fnd S.fs nm <;> simp [h]
theorem wr_few {S : Dv} (hO : Ok S) {nm : Nm} {F : Fil} (hF : fnd S.fs nm = some F) : F.wr.length ≤ 1000000 := by
  obtain ⟨h1, h2⟩ := hO.once nm F hF
  have h3 := nodup_le F.wr (List.range F.l.length) h1 (fun k hk => by
    obtain ⟨s, hs, _⟩ := (h2 k).1 hk
    exact List.mem_range.2 (List.getElem?_eq_some_iff.1 hs).1)
  rw [List.length_range] at h3
  have := (fil_le hO hF).2
  omega
theorem file_build (a : Int) (A : Option Addr) (n c : Nat) (w : World) : (Instr.build 91 #[(0, .int .i64 a), (1, .slice A n c)]).run Try.prog w = .ok (.agg #[.int .i64 a, .slice A n c]) w := by kernel_rfl
theorem put_named {P : Program} {t : TypeId} {m xv v : Value} {x : Nm} {fl : Int} {n : Nat} {w w' : World} (h1 : xv = nmV x) (h2 : fl = (n : Int)) (h : (Instr.mapUpdate t m (nmV x) (flV n v)).run P w = .ok () w') : (Instr.mapUpdate t m xv (.agg #[.int .i64 fl, v])).run P w = .ok () w' := by
  subst h1 h2
  exact h
/-- a device's copy under way: the files that have been seen lie in the copy's map -/
structure CpAt (W : World) (gC b1 bF bL bR r lo hi : Nat) (S : Dv) (sv sv' : Nm → Value) (lr left : Nm → Bool) (cnt : Nat) (w : World) : Prop where
  rng : RngF Try.prog 9 nmOk nmL w b1 r (ffS S sv) lr cnt
  raw : Raw (fun i => gC ≤ i ∧ ¬ False) w gC S.most S.used S.left bF bL bR (ffC S sv' left) (fun x => (S.la x).map laV) (fun x => (S.fr x).map frV)
  bel : Below gC W w
  ids : b1 < gC ∧ gC < r ∧ bF < r ∧ bL < r ∧ bR < r ∧ r < lo ∧ lo ≤ hi ∧ hi ≤ w.heap.size
  rows : ∀ nm F, fnd S.fs nm = some F → left nm = false → w.ownsRow 0 3 1 (sv' nm) F.wr.length (I64 F.wr) ∧ ∀ i, (sv' nm).ownBlock = some i → lo ≤ i ∧ i < hi
  alone : ∀ nm nm' F F', nm ≠ nm' → fnd S.fs nm = some F → fnd S.fs nm' = some F' → left nm = false → left nm' = false → ∀ i, (sv' nm).ownBlock = some i → (sv' nm').ownBlock ≠ some i
section
variable {W : World} {gC b1 bF bL bR r lo hi cnt : Nat} {S : Dv} {sv sv' : Nm → Value} {lr left : Nm → Bool} {w w' : World}
theorem CpAt.below (h : CpAt W gC b1 bF bL bR r lo hi S sv sv' lr left cnt w) (hb : Below w.heap.size w w') : CpAt W gC b1 bF bL bR r lo hi S sv sv' lr left cnt w' := by
  obtain ⟨i1, i2, i3, i4, i5, i6, i7, i8⟩ := h.ids
  refine ⟨h.rng.blocks (hb.block b1 (by omega)) (hb.block r (by omega)), h.raw.below hb, h.bel.trans (hb.mono (by omega)), ⟨i1, i2, i3, i4, i5, i6, i7, Nat.le_trans i8 hb.size⟩, fun nm F h1 h2 => ?_, h.alone⟩
  obtain ⟨r1, r2⟩ := h.rows nm F h1 h2
  exact ⟨own_block r1 (fun i hi => hb.block i (by have := r2 i hi; omega)), r2⟩
theorem CpAt.next {lr' : Nm → Bool} {cnt' : Nat} (h : CpAt W gC b1 bF bL bR r lo hi S sv sv' lr left cnt w) (hr : RngF Try.prog 9 nmOk nmL w' b1 r (ffS S sv) lr' cnt') (hg : w.grownBy w' (some r)) : CpAt W gC b1 bF bL bR r lo hi S sv sv' lr' left cnt' w' := by
  obtain ⟨i1, i2, i3, i4, i5, i6, i7, i8⟩ := h.ids
  have hkeep : ∀ i, i < w.heap.size → i ≠ r → w'.heap[i]? = w.heap[i]? := fun i hi hn => hg.block i hi (fun e => hn (by injection e))
  refine ⟨hr, h.raw.keep (fun i hi => hkeep i (by rcases hi with e | e | e | e <;> omega) (by rcases hi with e | e | e | e <;> omega)), h.bel.grown hg (by omega) (fun j hj => by cases hj; omega), ⟨i1, i2, i3, i4, i5, i6, i7, Nat.le_trans i8 hg.size⟩, fun nm F h1 h2 => ?_, h.alone⟩
  obtain ⟨r1, r2⟩ := h.rows nm F h1 h2
  exact ⟨own_block r1 (fun i hi => hkeep i (by have := r2 i hi; omega) (by have := r2 i hi; omega)), r2⟩
theorem CpAt.put {x : Nm} {F : Fil} {v : Value} (h : CpAt W gC b1 bF bL bR r lo hi S sv sv' (fun z => left z && !decide (z = x)) left cnt w) (hO : Ok S) (hF : fnd S.fs x = some F) (hv : w.ownsRow hi 3 1 v F.wr.length (I64 F.wr)) :
    ∃ w', (Instr.mapUpdate 71 (.map (some bF)) (nmV x) (flV F.l.length v)).run Try.prog w = .ok () w' ∧
      CpAt W gC b1 bF bL bR r lo w'.heap.size S sv (svAt sv' x v) (fun z => left z && !decide (z = x)) (fun z => left z && !decide (z = x)) cnt w' ∧ ∀ i, i < w.heap.size → i ≠ bF → w'.heap[i]? = w.heap[i]? := by
  obtain ⟨i1, i2, i3, i4, i5, i6, i7, i8⟩ := h.ids
  have hx : nmOk x := by have := (hO.names x F hF).2; unfold nmOk maxLen; omega
  have hfew := hO.few
  obtain ⟨w', r1, r2, r3⟩ := h.raw.put_fl hx (flV F.l.length v) (S.fs.map (·.1)) (fun y hy => by
    unfold ffC at hy
    split at hy
    · simp at hy
    · exact names_all (sv := sv') y hy) (by simp; unfold maxLen; omega)
  have hkeep : ∀ i, i < w.heap.size → i ≠ bF → w'.heap[i]? = w.heap[i]? := fun i hi hn => turned_block r3 hn hi
  have hsz : w.heap.size ≤ w'.heap.size := r3.grown.size
  refine ⟨w', r1, ⟨h.rng.blocks (hkeep b1 (by omega) (by have := h.raw.own.2.1.1; omega)) (hkeep r (by omega) (by omega)), r2.sameF ?_, h.bel.grown r3.grown (by omega) (fun j hj => by cases hj; exact h.raw.own.2.1.1), ⟨i1, i2, i3, i4, i5, i6, by omega, Nat.le_refl _⟩, ?_, ?_⟩, hkeep⟩
  · funext nm
    unfold ffC upd
    by_cases e : nm = x
    · subst e
      simp [hF, svAt_self]
    · rw [svAt_other _ _ _ _ e]
      simp [e]
  · intro nm F' h1 h2
    by_cases e : nm = x
    · subst e
      rw [hF] at h1
      obtain rfl := Option.some.inj h1
      rw [svAt_self]
      have hlt := fun i hi => hv.lt i hi
      refine ⟨own_low (own_block hv (fun i hi => hkeep i (hlt i hi).2 (by have := (hlt i hi).1; omega))) (Nat.zero_le _), fun i hi => ?_⟩
      have := hlt i hi
      omega
    · rw [svAt_other _ _ _ _ e]
      have h3 : left nm = false := by simpa [e] using h2
      obtain ⟨s1, s2⟩ := h.rows nm F' h1 h3
      refine ⟨own_block s1 (fun i hi => hkeep i (by have := s2 i hi; omega) (by have := s2 i hi; omega)), fun i hi => ?_⟩
      have := s2 i hi
      omega
  · intro nm nm' F1 F2 hne h1 h2 l1 l2 i hi
    by_cases e : nm = x
    · subst e
      rw [svAt_self] at hi
      rw [svAt_other _ _ _ _ (Ne.symm hne)]
      intro hi2
      have l3 : left nm' = false := by simpa [Ne.symm hne] using l2
      have := (h.rows nm' F2 h2 l3).2 i hi2
      have := (hv.lt i hi).1
      omega
    · rw [svAt_other _ _ _ _ e] at hi
      have l3 : left nm = false := by simpa [e] using l1
      by_cases e2 : nm' = x
      · subst e2
        rw [svAt_self]
        intro hi2
        have := (h.rows nm F1 h1 l3).2 i hi
        have := (hv.lt i hi2).1
        omega
      · rw [svAt_other _ _ _ _ e2]
        exact h.alone nm nm' F1 F2 hne h1 h2 l3 (by simpa [e2] using l2) i hi
theorem CpAt.done (h : CpAt W gC b1 bF bL bR r lo hi S sv sv' lr left cnt w) (hO : Ok S) (hgC : gC = W.heap.size) (hl : ∀ x, nmOk x → left x = false) : At W.heap.size (fun _ => False) W gC S w := by
  obtain ⟨i1, i2, i3, i4, i5, i6, i7, i8⟩ := h.ids
  have hok : ∀ nm F, fnd S.fs nm = some F → left nm = false := fun nm F hF => hl nm (by have := (hO.names nm F hF).2; unfold nmOk maxLen; omega)
  subst hgC
  refine ⟨⟨hO, bF, bL, bR, sv', h.raw.dev S sv' rfl rfl rfl ?_ (fun _ => rfl) (fun _ => rfl) (fun nm F hF => ?_) (fun nm nm' F F' hne h1 h2 => h.alone nm nm' F F' hne h1 h2 (hok _ _ h1) (hok _ _ h2))⟩, h.bel, by omega, fun i hi => hi.elim⟩
  · intro nm
    unfold ffC
    cases hF : fnd S.fs nm with
    | none => simp
    | some F => simp [hok nm F hF]
  · obtain ⟨r1, r2⟩ := h.rows nm F hF (hok nm F hF)
    exact ⟨r1, fun i hi => ⟨by have := r2 i hi; omega, fun e => e⟩⟩
end
section
variable {K : Nat → Prop} {W : World} {g : Nat} {S : Dv} {b1 b2 b3 : Nat} {sv : Nm → Value}
set_option maxRecDepth 100000
set_option maxHeartbeats 4000000 in
theorem copy_any (h : DevAt K W g S b1 b2 b3 sv) (hO : Ok S) :
    Calls Try.prog 15 #[ptr g] W fun e w' => ∃ g2, e = .returned (ptr g2) ∧ At W.heap.size (fun _ => False) W g2 S w' := by
  have R := h.raw
  have hcl := R.cell
  obtain ⟨c0, c1, c2, c3, c4, c5⟩ := hcl
  have RR := Lib.hid R
  have H := Lib.hid h
  have HO := Lib.hid hO
  clear R h hO
  go_enter Try.func15, Try.ntmps15
  go_upto_region 2 with fail
  obtain ⟨gC, hgC⟩ : ∃ gC, gC = W.heap.size := ⟨_, rfl⟩
  rw [← hgC]
  refine wp_ren (fun W' => Below gC W W' ∧ Whole W' gC 75 #[.int .i64 (S.most : Int), .int .i64 (S.used : Int), .map (some b1), .map (some b2), .map (some b3), .int .i64 S.left] ∧ W'.heap.size = gC + 1) ⟨?_, ?_, ?_⟩ ?_
  · rw [hgC]; exact (Below.refl _ _).alloc (Nat.le_refl _) _
  · rw [hgC]; exact Whole.new _ _ _
  · rw [hgC]; simp
  rintro W1 ⟨hb1, hz1, hs1⟩
  have HGC := Lib.hid hgC
  have R1 := Lib.hid ((RR.out.below (by rw [← hgC]; exact hb1)).drew)
  have Z1 := Lib.hid (show Whole W1.drew gC 75 _ from hz1)
  have B1 := Lib.hid hb1.drew
  have S1 := Lib.hid (show W1.drew.heap.size = gC + 1 from hs1)
  have hgne : g ≠ gC := by have := RR.out.glt; omega
  have hgne2 : gC ≠ g := Ne.symm hgne
  clear c0 c1 c2 c3 c4 c5 hgC hb1 hz1 hs1
  obtain ⟨c0, c1, c2, c3, c4, c5⟩ := R1.out.cell
  go_region_held3 (fun w' => w'.cell? ⟨g, 3, none⟩ = some (.map (some b2)) ∧ w'.cell? ⟨g, 4, none⟩ = some (.map (some b3))) (first | exact ⟨c3, c4⟩ | go_keep) (first
    | (go_at_call 38; go_must (refine (clone_la R1.out.lasts).mono ?_); rintro e w2 ⟨rfl, hm2, hb2, hs2⟩; have M2 := Lib.hid hm2; have S2 := Lib.hid (hs2.trans (by rw [S1.out])); rw [S1.out] at hm2 ⊢; have M2 := Lib.hid hm2; have R2 := Lib.hid (R1.out.below hb2); have Z2 := Lib.hid (show Whole w2 gC _ _ from (hb2.block gC (Whole.lt Z1.out)).trans Z1.out); have B2 := Lib.hid (B1.out.trans (hb2.mono (by rw [S1.out]; omega))); obtain ⟨c0, c1, c2, c3, c4, c5⟩ := R2.out.cell; clear hm2 hb2 hs2)
    | (go_at_call 39; go_must (refine (clone_fr R2.out.fresh).mono ?_); rintro e w3 ⟨rfl, hm3, hb3, hs3⟩; have S3 := Lib.hid (hs3.trans (by rw [S2.out])); rw [S2.out] at hm3 ⊢; have M3 := Lib.hid hm3; have L3 := Lib.hid (M2.out.block (hb3.block _ (M2.out.lt))); have R3 := Lib.hid (R2.out.below hb3); have Z3 := Lib.hid (show Whole w3 gC _ _ from (hb3.block gC (Whole.lt Z2.out)).trans Z2.out); have B3 := Lib.hid (B2.out.trans (hb3.mono (by rw [S2.out]; omega))); obtain ⟨c0, c1, c2, c3, c4, c5⟩ := R3.out.cell; have k3 : w3.cell? ⟨gC, 3, none⟩ = some (.map (some b2)) := (Whole.cell Z3.out 3).trans rfl; have k4 : w3.cell? ⟨gC, 4, none⟩ = some (.map (some b3)) := (Whole.cell Z3.out 4).trans rfl; have f3 := Whole.frozen Z3.out 3; have f4 := Whole.frozen Z3.out 4; clear hm3 hb3 hs3))
  go_upto_region 3 with fail
  have ko : ∀ (u v : Value) i, i ≠ gC → ((w3.setCell ⟨gC, 3, none⟩ u).setCell ⟨gC, 4, none⟩ v).heap[i]? = w3.heap[i]? := fun u v i hi => (Below.heap_setCell _ ⟨gC, 4, none⟩ _ i hi).trans (Below.heap_setCell _ ⟨gC, 3, none⟩ _ i hi)
  have hm1 := RR.out.files.lt
  have hm2 := RR.out.lasts.lt
  have hm3 := RR.out.fresh.lt
  have hg0 := HGC.out
  refine wp_ren (fun W' => Raw K W' g S.most S.used S.left b1 b2 b3 (ffS S sv) (fun x => (S.la x).map laV) (fun x => (S.fr x).map frV) ∧ Below gC W W' ∧ MapF Try.prog 86 plOk plL W' (gC + 1) (fun x => (S.la x).map laV) ∧ MapF Try.prog 86 plOk plL W' (gC + 1 + 1) (fun x => (S.fr x).map frV) ∧
    Whole W' gC 75 #[.int .i64 (S.most : Int), .int .i64 (S.used : Int), .map (some b1), .map (some (gC + 1)), .map (some (gC + 1 + 1)), .int .i64 S.left] ∧ W'.heap.size = gC + 1 + 1 + 1) ⟨?_, ?_, ?_, ?_, ?_, ?_⟩ ?_
  · exact R3.out.keep (fun i hi => ko _ _ i (by rcases hi with e | e | e | e <;> omega))
  · exact (B3.out.setCell (p := ⟨gC, 3, none⟩) (Nat.le_refl _) _).setCell (p := ⟨gC, 4, none⟩) (Nat.le_refl _) _
  · exact L3.out.block (ko _ _ _ (by omega))
  · exact M3.out.block (ko _ _ _ (by omega))
  · exact Whole.put (Whole.put Z3.out 3 (.map (some (gC + 1)))) 4 (.map (some (gC + 1 + 1)))
  · have := S3.out
    simpa using this
  rintro W4 ⟨hr4, hb4, hl4, hf4, hz4, hs4⟩
  have R4 := Lib.hid hr4
  have B4 := Lib.hid hb4
  have L4 := Lib.hid hl4
  have F4 := Lib.hid hf4
  have Z4 := Lib.hid hz4
  have S4 := Lib.hid hs4
  clear hr4 hb4 hl4 hf4 hz4 hs4 ko k3 k4 f3 f4 c0 c1 c2 c3 c4 c5
  clear R1 Z1 B1 S1 R2 Z2 B2 S2 M2 R3 Z3 B3 S3 M3 L3
  obtain ⟨c0, c1, c2, c3, c4, c5⟩ := R4.out.cell
  obtain ⟨nl, hln⟩ : ∃ nl : Int, ∀ ty, (Builtin.len_ #[71] ty #[.map (some b1)]).run Try.prog W4 = .ok (.int .i64 nl) W4 := by
    obtain ⟨D, h1, _⟩ := R4.out.files
    exact ⟨_, fun ty => h1.len Try.underlying71 ty⟩
  have hmm := fun (z : Int) (w : World) => run_makeMap_hint (P := Try.prog) 71 _ _ z w Try.underlying71
  have k2 : W4.cell? ⟨gC, 2, none⟩ = some (.map (some b1)) := (Whole.cell Z4.out 2).trans rfl
  have f2 := Whole.frozen Z4.out 2
  have s4 := S4.out
  have hgl : gC < W4.heap.size := by omega
  have HM1 := Lib.hid (show b1 < gC by omega)
  have HM4 := Lib.hid (show b2 < gC ∧ b3 < gC ∧ g < gC by have := RR.out.glt; omega)
  clear hg0 hm1 hm2 hm3
  go_upto_region 4 with fail
  refine wp_ren (fun W' => MapF Try.prog 9 nmOk nmL W' b1 (ffS S sv) ∧ W'.cell? ⟨g, 2, none⟩ = some (.map (some b1)) ∧ Raw (fun i => gC ≤ i ∧ ¬ False) W' gC S.most S.used S.left (gC + 1 + 1 + 1) (gC + 1) (gC + 1 + 1) (fun _ => none) (fun x => (S.la x).map laV) (fun x => (S.fr x).map frV) ∧ Below gC W W' ∧ W'.heap.size = gC + 1 + 1 + 1 + 1) ⟨?_, ?_, ?_, ?_, ?_⟩ ?_
  all_goals try (have ka : ∀ (u : Value) i, i < W4.heap.size → i ≠ gC → ((W4.setCell ⟨gC, 2, none⟩ u).alloc (.map #[] 0)).heap[i]? = W4.heap[i]? := fun u i hi hn => (Below.heap_alloc _ _ _ (by simpa using hi)).trans (Below.heap_setCell _ ⟨gC, 2, none⟩ _ i hn))
  all_goals try (have hq1 := HM1.out)
  all_goals try (have hq4 := HM4.out)
  · exact R4.out.files.block (ka _ _ (by omega) (by omega))
  · exact (R4.out.keep (fun i hi => ka _ i (by rcases hi with e | e | e | e <;> omega) (by rcases hi with e | e | e | e <;> omega))).cell.2.2.1
  · have hmd := MapF.made (P := Try.prog) (kt := 9) (ok := nmOk) (kl := nmL) (W4.setCell ⟨gC, 2, none⟩ (.map (some (gC + 1 + 1 + 1))))
    have e5 : (W4.setCell ⟨gC, 2, none⟩ (.map (some (gC + 1 + 1 + 1)))).heap.size = gC + 1 + 1 + 1 := by simp [s4]
    rw [e5] at hmd
    refine ⟨?_, hmd, L4.out.block (ka _ _ (by omega) (by omega)), F4.out.block (ka _ _ (by omega) (by omega)), ⟨⟨Nat.le_refl _, id⟩, ⟨by omega, id⟩, ⟨by omega, id⟩, ⟨by omega, id⟩⟩, ⟨by omega, by omega, by omega⟩⟩
    exact (Below.heap_alloc _ _ _ (by simpa using hgl)).trans (Whole.put Z4.out 2 (.map (some (gC + 1 + 1 + 1))))
  · exact (B4.out.setCell (p := ⟨gC, 2, none⟩) (Nat.le_refl _) _).alloc (by simp [s4]; omega) _
  · simp [s4]
  rintro W5 ⟨hm5, d2, hr5, hb5, hs5⟩
  have M5 := Lib.hid hm5
  have R5 := Lib.hid hr5
  have B5 := Lib.hid hb5
  clear hm5 hr5 hb5 hln hmm k2 f2 s4 hgl c0 c1 c2 c3 c4 c5
  obtain ⟨r, hr⟩ : ∃ r, r = gC + 1 + 1 + 1 + 1 := ⟨_, rfl⟩
  rw [← hr] at hs5
  have HR := Lib.hid hr
  clear hr
  go_wp2_with (first
    | (at_range; refine wpList_range_f rfl _ rfl nm_kind Try.underlying71 rfl M5.out ?_; intro w6 cnt6 hrg6 hg6 hs6)
    | go_in)
  go_frame
  rw [hs5] at hrg6 hs6 ⊢
  have hcp0 : CpAt W gC b1 (gC + 1 + 1 + 1) (gC + 1) (gC + 1 + 1) r (r + 1) (r + 1) S sv sv (fun x => (ffS S sv x).isSome) (fun x => (ffS S sv x).isSome) cnt6 w6 := by
    have hr := HR.out
    have hq1 := HM1.out
    refine ⟨hrg6, (R5.out.sameF (ffC_start S sv sv)).keep (fun i hi => hg6.block i (by rcases hi with e | e | e | e <;> omega) (by simp)), B5.out.grown hg6 (by omega) (fun j hj => by cases hj), ⟨by omega, by omega, by omega, by omega, by omega, by omega, Nat.le_refl _, by omega⟩, fun nm F h1 h2 => ?_, fun nm nm' F F' _ h1 _ h2 => ?_⟩
    · simp [ffS, h1] at h2
    · simp [ffS, h1] at h2
  have CP0 := Lib.hid hcp0
  clear hcp0 hrg6 hg6 hs6 M5 R5 B5 hs5 d2
  go_loopw [4] (fun _ wr => ∃ (left : Nm → Bool) (cnt hi : Nat) (sv' : Nm → Value), CpAt W gC b1 (gC + 1 + 1 + 1) (gC + 1) (gC + 1 + 1) r (r + 1) hi S sv sv' left left cnt wr) (fun _ wr => wr.rangeLeft b1 r)
  case atStart => exact ⟨_, _, _, _, CP0.out⟩
  case round =>
    obtain ⟨left, cnt, hi, sv', hcp⟩ := hrel
    have CP := Lib.hid hcp
    clear hcp
    go_wp2_with (first
      | (at_next; refine wpList_next_f rfl _ rfl nm_kind rfl CP.out.rng ?_ ?_)
      | go_in)
    · intro hl
      go_wp2_with fail
      go_ret
      exact ⟨gC, rfl, CP.out.done HO.out HGC.out hl⟩
    · intro x v w1 cnt1 hx hlx hfx hrg1 hlt hg1 hs1 hen
      obtain ⟨F, hF, rfl⟩ : ∃ F, fnd S.fs x = some F ∧ v = flV F.l.length (sv x) := by
        unfold ffS at hfx
        cases hf : fnd S.fs x with
        | none => rw [hf] at hfx; cases hfx
        | some F => rw [hf] at hfx; exact ⟨F, rfl, (Option.some.inj hfx).symm⟩
      have hC1 := CP.out.next hrg1 hg1
      have hrow := (H.out.rows x F hF).1
      obtain ⟨Av, cv, hsv, hcv1, hcv2⟩ := own_form hrow
      rw [hsv] at hrow
      obtain ⟨sl, hsl⟩ : ∃ sl, sl = F.wr.length := ⟨_, rfl⟩
      have hen2 : (Instr.entry (.pointer (some ⟨r, 0, none⟩))).run Try.prog w1 = .ok (.tuple #[nmV x, .agg #[.int .i64 (F.l.length : Int), .slice Av sl cv]]) w1 := by
        rw [hsl, ← hsv]
        exact hen
      have hcl : ∀ w, Below gC W w → Calls Try.prog 40 #[.slice Av sl cv] w fun e w' => ∃ v, e = .returned v ∧ w'.ownsRow w.heap.size 3 1 v F.wr.length (I64 F.wr) ∧ Below w.heap.size w w' := by
        intro w hb
        have hl0 : Lies W W.heap.size Av (I64 F.wr) := (LiesP.own (P := fun _ => True) hrow (fun _ _ => trivial)).lies
        have hz : I64 F.wr = cellsZ (F.wr.map fun k : Nat => (k : Int)) := by simp [I64, cellsZ]
        rw [hz] at hl0
        have hbw : Below W.heap.size W w := by rw [← HGC.out]; exact hb
        have := clonez_any (F.wr.map fun k : Nat => (k : Int)) Av cv W.heap.size w (hl0.below hbw) hbw.size (by rw [List.length_map]; exact wr_few HO.out hF)
        rw [List.length_map, ← hz, ← hsl] at this
        rw [← hsl]
        exact this
      have HCL := Lib.hid hcl
      have C1 := Lib.hid hC1
      have HFF := Lib.hid hF
      have HLT := Lib.hid hlt
      obtain ⟨fl, hfl⟩ : ∃ fl : Int, fl = (F.l.length : Int) := ⟨_, rfl⟩
      rw [← hfl] at hen2
      have HFL := Lib.hid hfl
      obtain ⟨xv, hxv⟩ : ∃ xv, xv = nmV x := ⟨_, rfl⟩
      rw [← hxv] at hen2 ⊢
      have HXV := Lib.hid hxv
      clear hcl hC1 hF hlt hfl hen hfx hrg1 hg1 hs1 hrow hsv hcv1 hcv2 hsl hxv hx hlx
      go_upto_region 7 with fail
      obtain ⟨hB, hhB⟩ : ∃ hB, hB = w1.heap.size := ⟨_, rfl⟩
      rw [← hhB]
      refine wp_ren (fun W' => CpAt W gC b1 (gC + 1 + 1 + 1) (gC + 1) (gC + 1 + 1) r (r + 1) hi S sv sv' (fun z => left z && !decide (z = x)) left cnt1 W' ∧ Whole W' hB 91 #[.int .i64 fl, .slice Av sl cv]) ⟨?_, ?_⟩ ?_
      · exact C1.out.below ((Below.refl _ _).alloc (Nat.le_refl _) _)
      · rw [hhB]; exact Whole.new _ _ _
      rintro W7 ⟨hc7, hz7⟩
      have C7 := Lib.hid (hc7.below (Below.refl _ W7).drew)
      have Z7 := Lib.hid (show Whole W7.drew hB _ _ from hz7)
      have HBN := Lib.hid (show hB ≠ gC + 1 + 1 + 1 by have h1 := C1.out.ids; omega)
      clear hhB hc7 hz7
      obtain ⟨e0, e1, e2, e3, e4, e5⟩ := C7.out.raw.cell
      have z0 : W7.drew.cell? ⟨hB, 0, none⟩ = some (.int .i64 fl) := (Whole.cell Z7.out 0).trans rfl
      have z1 : W7.drew.cell? ⟨hB, 1, none⟩ = some (.slice Av sl cv) := (Whole.cell Z7.out 1).trans rfl
      go_region_held3 (fun w' => w'.cell? ⟨gC, 2, none⟩ = some (.map (some (gC + 1 + 1 + 1))) ∧ w'.cell? ⟨hB, 0, none⟩ = some (.int .i64 fl) ∧ w'.cell? ⟨hB, 1, none⟩ = some (.slice Av sl cv)) (first | exact ⟨e2, z0, z1⟩ | exact ⟨y2, y0, y1⟩ | go_keep) (first
        | (go_at_call 40; go_must (refine (HCL.out _ C7.out.bel).mono ?_); rintro e w8 ⟨v8, rfl, ho8, hb8⟩; obtain ⟨A8, q8, rfl, _, _⟩ := own_form ho8; have hbd := fun w => file_build fl A8 F.wr.length q8 w; obtain ⟨w9, hput, hcp9, hkp9⟩ := (C7.out.below hb8).put HO.out HFF.out (own_low ho8 C7.out.ids.2.2.2.2.2.2.2); have hput2 : (Instr.mapUpdate 71 (.map (some (gC + 1 + 1 + 1))) xv (.agg #[.int .i64 fl, .slice A8 F.wr.length q8])).run Try.prog w8 = .ok () w9 := put_named HXV.out HFL.out hput; have C9 := Lib.hid hcp9; obtain ⟨e0, e1, e2, e3, e4, e5⟩ := (C7.out.below hb8).raw.cell; have Z8 := Lib.hid (show Whole w8 hB _ _ from (hb8.block hB (Whole.lt Z7.out)).trans Z7.out); have z0 : w8.cell? ⟨hB, 0, none⟩ = some (.int .i64 fl) := (Whole.cell Z8.out 0).trans rfl; have z1 : w8.cell? ⟨hB, 1, none⟩ = some (.slice Av sl cv) := (Whole.cell Z8.out 1).trans rfl; have y2 := C9.out.raw.cell.2.2.1; have Z9 := Lib.hid (show Whole w9 hB _ _ from (hkp9 hB (Whole.lt Z8.out) HBN.out).trans Z8.out); have y0 : w9.cell? ⟨hB, 0, none⟩ = some (.int .i64 fl) := (Whole.cell Z9.out 0).trans rfl; have y1 : w9.cell? ⟨hB, 1, none⟩ = some (.slice Av sl cv) := (Whole.cell Z9.out 1).trans rfl; clear ho8 hb8 hput hcp9 hkp9))
      go_wp2_with fail
      go_roundw
      case rel => exact ⟨_, _, _, _, C9.out⟩
      case measure => rw [C9.out.rng.left_eq, CP.out.rng.left_eq]; exact HLT.out
end
end Go.Proofs.Ytcmffifehpbjnaa
