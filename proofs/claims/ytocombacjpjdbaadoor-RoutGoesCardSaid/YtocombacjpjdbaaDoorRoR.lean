/- Layer 16: rows of texts sorted and compacted; Route. -/
import Derived.Test.YtocombacjpjdbaaDoorRoA
import Derived.Test.YtocombacjpjdbaaDoorRoLay
import Derived.Test.YtocombacjpjdbaaDoorRngF
import Derived.Sort.OwnSorted
import Derived.Lib.RowBridge
import Derived.Test.YtocombacjpjdbaaDoorWords2
import Derived.Deep.DeepMust
namespace Go.Proofs.YtocombacjpjdbaaDoor
open Go.RowKit Go.Maps Go.Sort Go.Shelf
set_option maxRecDepth 100000
set_option linter.unusedSimpArgs false
set_option linter.unusedVariables false

theorem str_infoR : (Tryd.prog.info? 9).map (fun i => (i.zero, i.size, i.bytes)) = some (some (.string ⟨#[]⟩), 1, 16) := by kernel_rfl
def rsC (l : List (List UInt8)) : List Value := l.map rsV
theorem rsC_str (l : List (List UInt8)) : rsC l = l.map encStr := rfl
theorem rsC_length (l : List (List UInt8)) : (rsC l).length = l.length := by simp [rsC]
def srt (l : List (List UInt8)) : List (List UInt8) := l.mergeSort fun x y => decide (x ≤ y)
theorem srt_length (l : List (List UInt8)) : (srt l).length = l.length := (List.mergeSort_perm _ _).length_eq
theorem own_low16 {w : World} {b base : Nat} {e : TypeId} {size n : Nat} {v : Value} {xs : List Value} (h : w.ownsRow base e size v n xs) (hb : b ≤ base) : w.ownsRow b e size v n xs := by
  obtain ⟨h1, h2⟩ := h
  refine ⟨h1, ?_⟩
  rcases h2 with h | ⟨g, cap, cur, k1, k2, k3⟩
  · exact .inl h
  · exact .inr ⟨g, cap, cur, k1, Nat.le_trans hb k2, k3⟩
theorem own_block16 {w w' : World} {base n size : Nat} {e : TypeId} {v : Value} {xs : List Value} (h : w.ownsRow base e size v n xs) (hb : ∀ i, v.ownBlock = some i → w'.heap[i]? = w.heap[i]?) : w'.ownsRow base e size v n xs := by
  obtain ⟨h1, h2⟩ := h
  refine ⟨h1, h2.imp id ?_⟩
  rintro ⟨g, cap, cur, rfl, h3, h4, h5⟩
  exact ⟨g, cap, cur, rfl, h3, (hb g rfl).trans h4, h5⟩
theorem own_lit (w : World) (t : TypeId) (cs : List Value) (base : Nat) (hb : base ≤ w.heap.size) (hl : cs.length ≤ 1000000 := by simp) : (w.alloc (.cells cs.toArray t)).ownsRow base t 1 (.slice (some ⟨w.heap.size, 0, none⟩) cs.length cs.length) cs.length cs :=
  ⟨by simp, .inr ⟨w.heap.size, cs.length, cs.toArray, rfl, hb, heap_alloc_new _ _, Nat.le_refl _, by unfold maxLen; omega, by simp, by simp⟩⟩
/-- a row cut to its first k -/
theorem own_cut {w : World} {base : Nat} {e : TypeId} {n c k : Nat} {A : Option Addr} {xs : List Value} (h : w.ownsRow base e 1 (.slice A n c) n xs) (hA : A ≠ none) (hk : k ≤ n) : w.ownsRow base e 1 (.slice A k c) k (xs.take k) := by
  obtain ⟨h1, h2⟩ := h
  refine ⟨by simp [h1]; omega, ?_⟩
  rcases h2 with ⟨e1, _⟩ | ⟨g, cap, cur, e1, k2, k3, k4, k5, k6, k7⟩
  · cases e1; exact absurd rfl hA
  · cases e1
    refine .inr ⟨g, c, cur, rfl, k2, k3, by omega, k5, k6, ?_⟩
    rw [← k7, List.take_take]
    congr 1
    omega
theorem sortS_any (v : Value) (l : List (List UInt8)) (base : Nat) (w : World) (h : w.ownsRow base 9 1 v l.length (rsC l)) (hl : l.length ≤ 1000000) :
    Calls Tryd.prog 20 #[v] w fun e w' => e = .returned (.tuple #[]) ∧ w'.ownsRow base 9 1 v l.length (rsC (srt l)) ∧ w.grownBy w' v.ownBlock := by
  obtain ⟨h1, h2⟩ := h
  rcases h2 with ⟨rfl, h0⟩ | ⟨gb, cap, cur, rfl, hb, hg, hn, hc, hs, ht⟩
  · have hk : l = [] := List.eq_nil_of_length_eq_zero h0
    subst hk
    refine (AnyM.slices_Sort_string_none ro_sortS none 0 w).mono ?_
    rintro e w' ⟨rfl, rfl⟩
    have e : srt [] = [] := List.eq_nil_of_length_eq_zero (srt_length [])
    rw [e]
    exact ⟨rfl, World.ownsRow_nil _ _ _ _, only_refl _ _⟩
  · have hH : Holds encStr w gb 0 l.toArray := holds_of_block hg (by rw [← rsC_str]; simpa using ht)
    have hc2 := AnyM.slices_Sort_string ro_sortS gb 0 cap l w hH ((Array.getElem?_eq_some_iff.1 hg).1) (by omega)
    refine hc2.mono ?_
    rintro e w' ⟨rfl, n, os, rfl⟩
    exact ⟨rfl, ownsRow_sorted (srt_length l) hb hg hn hc hs, grownBy_sorted _⟩
theorem compS_any (v : Value) (l : List (List UInt8)) (base : Nat) (w : World) (h : w.ownsRow base 9 1 v l.length (rsC l)) (hl : l.length ≤ 1000000) :
    Calls Tryd.prog 21 #[v] w fun e w' => ∃ v', e = .returned v' ∧ w'.ownsRow base 9 1 v' (Lib.compact l).length (rsC (Lib.compact l)) ∧ w.grownBy w' v.ownBlock ∧ v'.ownBlock = v.ownBlock := by
  obtain ⟨h1, h2⟩ := h
  rcases h2 with ⟨rfl, h0⟩ | ⟨gb, cap, cur, rfl, hb, hg, hn, hc, hs, ht⟩
  · have hk : l = [] := List.eq_nil_of_length_eq_zero h0
    subst hk
    refine (AnyG.slices_Compact_string_empty ro_compactL none 0 w).mono ?_
    rintro e w' ⟨rfl, rfl⟩
    have e : Lib.compact ([] : List (List UInt8)) = [] := by simp [Lib.compact, Lib.compactUpTo]
    rw [e]
    exact ⟨_, rfl, World.ownsRow_nil _ _ _ _, only_refl _ _, rfl⟩
  · have hH : Holds encStr w gb 0 l.toArray := holds_of_block hg (by rw [← rsC_str]; simpa using ht)
    have hc2 := AnyG.slices_Compact_string ro_compactL gb 0 cap l w hH (by omega) hn
    refine hc2.mono ?_
    rintro e w' ⟨rfl, q, rfl⟩
    have hle : (Lib.compact l).length ≤ l.length := Lib.compact_length_le l
    obtain ⟨ts, hts⟩ : ∃ ts, ts = Lib.compact l ++ List.replicate (l.length - (Lib.compact l).length) [] := ⟨_, rfl⟩
    have htl : ts.length = l.length := by rw [hts]; simp; omega
    rw [← hts]
    have hr := ownsRow_sorted (os := #[]) (n := q) htl hb hg hn hc hs
    have hgr := grownBy_sorted (w := w) (g := gb) (n := q) (os := #[]) ts.toArray
    rw [grow_empty] at hr hgr
    have hcut := own_cut hr (by simp) hle
    have ht2 : (ts.map encStr).take (Lib.compact l).length = rsC (Lib.compact l) := by
      rw [hts, ← List.map_take, rsC_str]
      simp
    rw [ht2] at hcut
    exact ⟨_, rfl, hcut, hgr, rfl⟩
/-- a range over the bindings, and a row of texts that grows beside it -/
structure RtB (W : World) (g bx bb r xb : Nat) (S : Rt) (x : Xc) (left : Bnd → Bool) (cnt : Nat) (v : Value) (L : List (List UInt8)) (w : World) : Prop where
  ro : RoAt w g bx bb S
  rng : RngF Tryd.prog 33 bdOk bdL w bb r (fB S.B) left cnt
  row : w.ownsRow (r + 1) 9 1 v L.length (rsC L)
  xc : Whole w xb 26 #[.string ⟨x.name.toArray⟩, .int .i64 x.kind, .bool x.lasts]
  bel : Below W.heap.size W w
  ids : W.heap.size ≤ xb ∧ xb < r ∧ bb < W.heap.size ∧ r < w.heap.size
/-- those that have been looked at and lead on -/
structure RtM (S : Rt) (p : Bnd → Bool) (left : Bnd → Bool) (Q : List Bnd) : Prop where
  nd : Q.Nodup
  mem : ∀ b, b ∈ Q ↔ b ∈ S.B ∧ left b = false ∧ p b = true
section
variable {S : Rt} {p left : Bnd → Bool} {Q : List Bnd}
theorem RtM.few (h : RtM S p left Q) (hf : S.B.length ≤ 1000) : Q.length ≤ 1000 := by
  have h1 := nodup_le Q S.B h.nd (fun b hb => ((h.mem b).1 hb).1)
  omega
theorem RtM.skip (h : RtM S p left Q) {y : Bnd} (hy : p y = false) : RtM S p (fun z => left z && !decide (z = y)) Q := by
  refine ⟨h.nd, fun b => ?_⟩
  rw [h.mem b]
  constructor
  · rintro ⟨a1, a2, a3⟩
    exact ⟨a1, by simp [a2], a3⟩
  · rintro ⟨a1, a2, a3⟩
    refine ⟨a1, ?_, a3⟩
    by_cases e : b = y
    · subst e; rw [hy] at a3; cases a3
    · simpa [e] using a2
theorem RtM.take (h : RtM S p left Q) {y : Bnd} (hl : left y = true) (hyB : y ∈ S.B) (hy : p y = true) : RtM S p (fun z => left z && !decide (z = y)) (Q ++ [y]) := by
  refine ⟨?_, fun b => ?_⟩
  · refine List.nodup_append.2 ⟨h.nd, by simp, fun a ha b hb => ?_⟩
    rw [List.mem_singleton] at hb
    subst hb
    rintro rfl
    have := ((h.mem a).1 ha).2.1
    rw [hl] at this
    cases this
  · rw [List.mem_append, h.mem b, List.mem_singleton]
    constructor
    · rintro (⟨a1, a2, a3⟩ | rfl)
      · exact ⟨a1, by simp [a2], a3⟩
      · exact ⟨hyB, by simp, hy⟩
    · rintro ⟨a1, a2, a3⟩
      by_cases e : b = y
      · exact .inr e
      · exact .inl ⟨a1, by simpa [e] using a2, a3⟩
theorem RtM.start : RtM S p (fun z => (fB S.B z).isSome) [] := by
  refine ⟨List.nodup_nil, fun b => Iff.intro (fun h => by cases h) ?_⟩
  rintro ⟨a1, a2, _⟩
  simp [fB, a1] at a2
/-- all have been looked at -/
theorem RtM.done {x : Xc} {key : List UInt8} (h : RtM S (S.sel x key) left Q) (hO : S.Ok) (hl : ∀ b, bdOk b → left b = false) (hx : fndX S.X x.name = some x) (hn : x.name ≠ []) : Lib.compact (srt (Q.map (·.q))) = S.route x.name key := by
  unfold srt
  rw [compact_sort]
  refine Ris.ext linS (ris_srtR linS _) (S.route_ris _ _) fun q => ?_
  rw [mem_srtR linS, S.mem_route hx hn]
  constructor
  · intro hq
    obtain ⟨b, hb, rfl⟩ := List.mem_map.1 hq
    obtain ⟨a1, a2, a3⟩ := (h.mem b).1 hb
    simp only [Rt.sel, Bool.and_eq_true, decide_eq_true_eq] at a3
    exact ⟨b, a1, a3.1, a3.2, rfl⟩
  · rintro ⟨b, a1, a2, a3, rfl⟩
    refine List.mem_map.2 ⟨b, (h.mem b).2 ⟨a1, hl b (hO.sb b a1), ?_⟩, rfl⟩
    simp [Rt.sel, a2, a3]
end
section
variable {w w' W : World} {g bx bb r xb cnt : Nat} {S : Rt} {x : Xc} {key : List UInt8} {left : Bnd → Bool} {v : Value} {L : List (List UInt8)}
theorem RtB.below (h : RtB W g bx bb r xb S x left cnt v L w) (hb : Below w.heap.size w w') : RtB W g bx bb r xb S x left cnt v L w' := by
  obtain ⟨i1, i2, i3, i4⟩ := h.ids
  have l := h.ro.lts
  exact ⟨h.ro.below hb, h.rng.blocks (hb.block bb l.2.2) (hb.block r i4), own_block16 h.row (fun i hi => hb.block i (h.row.lt i hi).2), h.xc.below hb h.xc.lt, h.bel.trans (hb.mono h.bel.size), ⟨i1, i2, i3, Nat.lt_of_lt_of_le i4 hb.size⟩⟩
theorem rng_ne_box {t : TypeId} {cs : Array Value} {f : Bnd → Option Value} (h : RngF Tryd.prog 33 bdOk bdL w bb r f left cnt) (hb : Whole w g t cs) : r ≠ g := by
  rintro rfl
  obtain ⟨D, lf, n, ⟨es, clock, since, seen, c0, k1, k2, k3, k4, k5, k6⟩, h2⟩ := h
  have := hb.symm.trans k5
  cases this
theorem rng_ne_map {P : Program} {kt : TypeId} {κ : Type} {ok : κ → Prop} {kl : κ → Lit} {f : Bnd → Option Value} {f' : κ → Option Value} (h : RngF Tryd.prog 33 bdOk bdL w bb r f left cnt) (hb : MapF P kt ok kl w g f') : r ≠ g := by
  rintro rfl
  obtain ⟨D, lf, n, ⟨es, clock, since, seen, c0, k1, k2, k3, k4, k5, k6⟩, h2⟩ := h
  obtain ⟨D', ⟨es', clock', j1, _⟩, _⟩ := hb
  have := j1.symm.trans k5
  cases this
/-- the next binding -/
theorem RtB.next {y : Bnd} {cnt' : Nat} (h : RtB W g bx bb r xb S x left cnt v L w) (hr : RngF Tryd.prog 33 bdOk bdL w' bb r (fB S.B) (fun z => left z && !decide (z = y)) cnt') (hg : w.grownBy w' (some r)) :
    RtB W g bx bb r xb S x (fun z => left z && !decide (z = y)) cnt' v L w' := by
  obtain ⟨i1, i2, i3, i4⟩ := h.ids
  have hsz := h.bel.size
  refine ⟨h.ro.grown hg ⟨fun e => rng_ne_box h.rng h.ro.box (Option.some.inj e), fun e => rng_ne_map h.rng h.ro.ex (Option.some.inj e), fun e => h.rng.ne (Option.some.inj e)⟩, hr, own_block16 h.row (fun i hi => hg.block i (h.row.lt i hi).2 (fun e => ?_)), h.xc.grown hg (fun e => ?_), h.bel.grown hg (by omega) (fun j hj => by cases hj; omega), ⟨i1, i2, i3, Nat.lt_of_lt_of_le i4 hg.size⟩⟩
  · have := (h.row.lt i hi).1; cases e; omega
  · cases e; omega
/-- a text is added -/
theorem RtB.push {v' : Value} {q : List UInt8} (h : RtB W g bx bb r xb S x left cnt v L w) (hg : w.grownBy w' v.ownBlock) (hrow : w'.ownsRow (r + 1) 9 1 v' (L.length + 1) (rsC L ++ [.string ⟨q.toArray⟩])) : RtB W g bx bb r xb S x left cnt v' (L ++ [q]) w' := by
  obtain ⟨i1, i2, i3, i4⟩ := h.ids
  have l := h.ro.lts
  have hsz := h.bel.size
  have hne : ∀ i, i ≤ r → some i ≠ v.ownBlock := fun i hi e => by
    have := (h.row.lt i e.symm).1
    omega
  obtain ⟨_, l2, l3⟩ := l
  have hg0 := h.ro.box.lt
  have hgn : some g ≠ v.ownBlock := fun e => by
    rcases h.row.2 with ⟨e1, _⟩ | ⟨gb, cap, cur, e1, k2, k3, _⟩
    · rw [e1] at e; cases e
    · rw [e1] at e
      cases e
      have := h.ro.box.symm.trans k3
      cases this
  have hxn : some bx ≠ v.ownBlock := fun e => by
    rcases h.row.2 with ⟨e1, _⟩ | ⟨gb, cap, cur, e1, k2, k3, _⟩
    · rw [e1] at e; cases e
    · rw [e1] at e
      cases e
      obtain ⟨D', ⟨es', clock', j1, _⟩, _⟩ := h.ro.ex
      have := j1.symm.trans k3
      cases this
  refine ⟨h.ro.grown hg ⟨fun e => hgn e.symm, fun e => hxn e.symm, fun e => hne bb (by omega) e.symm⟩, h.rng.kept hg (hne bb (by omega)) (hne r (Nat.le_refl _)), ?_, h.xc.grown hg (hne xb (by omega)), h.bel.grown hg hsz (fun k hk => by have := (h.row.lt k hk).1; omega), ⟨i1, i2, i3, Nat.lt_of_lt_of_le i4 hg.size⟩⟩
  have e : rsC (L ++ [q]) = rsC L ++ [.string ⟨q.toArray⟩] := by simp [rsC, rsV]
  rw [e, List.length_append]
  exact hrow
theorem RtB.start (hR : RoAt w g bx bb S) (hr : RngF Tryd.prog 33 bdOk bdL w bb r (fB S.B) left cnt) (hxc : Whole w xb 26 #[.string ⟨x.name.toArray⟩, .int .i64 x.kind, .bool x.lasts]) (hb : Below W.heap.size W w) (hi : W.heap.size ≤ xb ∧ xb < r ∧ bb < W.heap.size ∧ r < w.heap.size) :
    RtB W g bx bb r xb S x left cnt (.slice none 0 0) [] w :=
  ⟨hR, hr, World.ownsRow_nil _ _ _ _, hxc, hb, hi⟩
set_option maxHeartbeats 8000000 in
theorem r_route (h : RoAt W g bx bb S) {n : List UInt8} (hn : n.length ≤ 1000000) (hk : key.length ≤ 1000000) :
    Calls Tryd.prog 9 #[ptrR g, .string ⟨n.toArray⟩, .string ⟨key.toArray⟩] W fun e w' => ∃ v, e = .returned v ∧ w'.ownsRow W.heap.size 9 1 v (S.route n key).length (rsC (S.route n key)) ∧ Below W.heap.size W w' := by
  obtain ⟨c0, c1⟩ := h.cell
  obtain ⟨l1, l2, l3⟩ := h.lts
  have H := Lib.hid h
  cases hf : fndX S.X n with
  | none =>
    have hl := h.look hn
    rw [hf] at hl
    simp only [Option.map_none, Option.getD_none, Option.isSome_none, zxV] at hl
    have HE : Hid (S.route n key = []) := Lib.hid (by unfold Rt.route; rw [hf])
    clear h hf
    go_enter Tryd.func9, Tryd.ntmps9
    go_wp2_with fail
    go_ret
    rw [HE.out]
    exact ⟨_, rfl, World.ownsRow_nil _ _ _ _, (Below.refl _ _).alloc (Nat.le_refl _) _⟩
  | some x =>
    have hl := h.look hn
    obtain ⟨hxn, hxm⟩ := fndX_name hf
    rw [hf] at hl
    simp only [Option.map_some, Option.getD_some, Option.isSome_some, xcV] at hl
    by_cases he : n = []
    · have HE : Hid (S.route n key = [key]) := Lib.hid (by unfold Rt.route; rw [hf]; simp only [if_pos he])
      have e0 : n.isEmpty = true := by simp [he]
      clear h hf
      subst he
      go_enter Tryd.func9, Tryd.ntmps9
      go_wp2_with fail
      go_ret
      rw [HE.out]
      refine ⟨_, rfl, ?_, ((Below.refl _ _).alloc (Nat.le_refl _) _).alloc (by simp) _⟩
      have ho := own_lit (W.alloc (.cells #[.string ⟨#[]⟩, .int .i64 x.kind, .bool x.lasts] 26)) 9 [.string ⟨key.toArray⟩] W.heap.size (by simp)
      simpa [rsC, rsV] using ho
    · have hx := hf
      rw [← hxn] at hx
      have e0 : n.isEmpty = false := by simpa using he
      have e1 : (⟨n.toArray⟩ : ByteArray).toList.isEmpty = false := by simpa using he
      have HX := Lib.hid hx
      have HXN := Lib.hid hxn
      have HNE := Lib.hid he
      have HK := Lib.hid hk
      have HN := Lib.hid hn
      clear h hf hx hxm hxn he hn hk
      go_enter Tryd.func9, Tryd.ntmps9
      go_upto_region 7 with fail
      obtain ⟨xb, hxb⟩ : ∃ xb, xb = W.heap.size := ⟨_, rfl⟩
      rw [← hxb]
      refine wp_renR (fun W' => RoAt W' g bx bb S ∧ Whole W' xb 26 #[.string ⟨x.name.toArray⟩, .int .i64 x.kind, .bool x.lasts] ∧ Below xb W W' ∧ W'.heap.size = xb + 1) ⟨?_, ?_, ?_, ?_⟩ ?_
      · exact H.out.below ((Below.refl _ _).alloc (Nat.le_refl _) _)
      · rw [hxb]; exact Whole.new _ _ _
      · rw [hxb]; exact (Below.refl _ _).alloc (Nat.le_refl _) _
      · rw [hxb]; simp
      rintro W1 ⟨hr1, hz1, hb1, hs1⟩
      have R1 := Lib.hid hr1
      have Z1 := Lib.hid hz1
      have B1 := Lib.hid hb1
      have S1 := Lib.hid hs1
      have HXB := Lib.hid hxb
      have L3 := Lib.hid l3
      clear c0 c1 l1 l2 l3 hl hxb hb1 hz1 hr1 hs1
      obtain ⟨c0, c1⟩ := R1.out.cell
      go_wp2_with (first
        | (at_range; refine wpList_range_f rfl _ rfl bd_kind Tryd.underlying44 rfl R1.out.bd ?_; intro w6 cnt6 hrg6 hg6 hs6)
        | go_in)
      go_frame
      rw [S1.out] at hrg6 hs6 ⊢
      obtain ⟨r, hr⟩ : ∃ r, r = xb + 1 := ⟨_, rfl⟩
      rw [← hr] at hrg6 hs6 ⊢
      have I0 : RtB W g bx bb r xb S x (fun z => (fB S.B z).isSome) cnt6 (.slice none 0 0) [] w6 := by
        refine RtB.start (R1.out.grown hg6 (by simp)) hrg6 (Z1.out.grown hg6 (by simp)) ?_ ?_
        · have hb := B1.out
          have hxb := HXB.out
          exact (hb.mono (by omega)).grown hg6 (by have := hb.size; omega) (fun j hj => by cases hj)
        · have hxb := HXB.out
          have := L3.out
          exact ⟨by omega, by omega, by omega, by omega⟩
      have I1 := Lib.hid I0
      have HR := Lib.hid hr
      clear hrg6 hg6 hs6 R1 Z1 B1 S1 c0 c1 hr I0
      go_loopw [9] (fun s9 wr => ∃ (left : Bnd → Bool) (cnt : Nat) (Q : List Bnd), RtB W g bx bb r xb S x left cnt s9 (Q.map (·.q)) wr ∧ RtM S (S.sel x key) left Q) (fun _ wr => wr.rangeLeft bb r)
      case atStart => exact ⟨_, _, [], I1.out, RtM.start⟩
      case round =>
        obtain ⟨left, cnt, Q, hrb, hrm⟩ := hrel
        have RB := Lib.hid hrb
        have RM := Lib.hid hrm
        have HF := Lib.hid (hrm.few hrb.ro.ok.fb)
        obtain ⟨v9, hv9⟩ : ∃ v9, v9 = u9 := ⟨_, rfl⟩
        clear hrb hrm
        go_wp2_with (first
          | (at_next; refine wpList_next_f rfl _ rfl bd_kind rfl RB.out.rng ?_ ?_)
          | go_in)
        · intro hl
          have HD := Lib.hid (RM.out.done RB.out.ro.ok hl HX.out (by rw [HXN.out]; exact HNE.out))
          have hlen : (Q.map (·.q)).length ≤ 1000000 := by rw [List.length_map]; have := HF.out; omega
          have HS := Lib.hid (sortS_any u9 (Q.map (·.q)) (r + 1) wr RB.out.row hlen)
          have HC := Lib.hid (fun w2 (h2 : w2.ownsRow (r + 1) 9 1 u9 (Q.map (·.q)).length (rsC (srt (Q.map (·.q))))) => compS_any u9 (srt (Q.map (·.q))) (r + 1) w2 (by rw [srt_length]; exact h2) (by rw [srt_length]; exact hlen))
          clear hl hlen
          go_wp2_with (first
            | (go_at_call 20; go_must (refine HS.out.mono ?_); rintro e w2 ⟨rfl, ho2, hg2⟩; have O2 := Lib.hid ho2; have G2 := Lib.hid hg2; clear ho2 hg2)
            | (go_at_call 21; go_must (refine (HC.out _ O2.out).mono ?_); rintro e w3 ⟨v3, rfl, ho3, hg3, _⟩; have O3 := Lib.hid ho3; have G3 := Lib.hid hg3; clear ho3 hg3))
          go_ret
          refine ⟨v3, rfl, ?_, ?_⟩
          · have h3 := O3.out
            rw [HD.out, HXN.out] at h3
            exact own_low16 h3 (by have := RB.out.ids; omega)
          · have hb := RB.out.bel
            have hi := RB.out.ids
            have hrow := RB.out.row
            have h2 := hb.grown G2.out hb.size (fun k hk => by have := (hrow.lt k hk).1; omega)
            exact h2.grown G3.out h2.size (fun k hk => by have := (hrow.lt k hk).1; omega)
        · intro y vy w1 cnt1 hy hly hfy hrg1 hlt hg1 hs1 hen
          obtain ⟨hyB, rfl⟩ : y ∈ S.B ∧ vy = .agg #[] := by
            unfold fB at hfy
            split at hfy
            · exact ⟨by assumption, (Option.some.inj hfy).symm⟩
            · cases hfy
          have RB1 := Lib.hid (RB.out.next hrg1 hg1)
          have HY := Lib.hid hy
          have HYB := Lib.hid hyB
          have HLY := Lib.hid hly
          have HLT := Lib.hid hlt
          obtain ⟨ye, hye⟩ : ∃ ye, ye = y.e := ⟨_, rfl⟩
          obtain ⟨yq, hyq⟩ : ∃ yq, yq = y.q := ⟨_, rfl⟩
          obtain ⟨yk, hyk⟩ : ∃ yk, yk = y.k := ⟨_, rfl⟩
          have hbd : bdV y = .agg #[.string ⟨ye.toArray⟩, .string ⟨yq.toArray⟩, .string ⟨yk.toArray⟩] := by rw [hye, hyq, hyk]; rfl
          rw [hbd] at hen ⊢
          have HYE := Lib.hid (And.intro hye (And.intro hyq hyk))
          clear hy hyB hly hlt hfy hrg1 hg1 hs1 hbd hye hyq hyk
          go_upto_region 10 with fail
          obtain ⟨hB, hhB⟩ : ∃ hB, hB = w1.heap.size := ⟨_, rfl⟩
          rw [← hhB]
          refine wp_renR (fun W' => RtB W g bx bb r xb S x (fun z => left z && !decide (z = y)) cnt1 u9 (Q.map (·.q)) W' ∧ Whole W' hB 33 #[.string ⟨ye.toArray⟩, .string ⟨yq.toArray⟩, .string ⟨yk.toArray⟩]) ⟨?_, ?_⟩ ?_
          · exact RB1.out.below ((Below.refl _ _).alloc (Nat.le_refl _) _)
          · rw [hhB]; exact Whole.new _ _ _
          rintro W2 ⟨hr2, hz2⟩
          have R2 := Lib.hid hr2
          have Z2 := Lib.hid hz2
          have x1 : W2.cell? ⟨xb, 1, none⟩ = some (.int .i64 x.kind) := (Whole.cell hr2.xc 1).trans rfl
          have z0 : W2.cell? ⟨hB, 0, none⟩ = some (.string ⟨ye.toArray⟩) := (Whole.cell hz2 0).trans rfl
          have z2 : W2.cell? ⟨hB, 2, none⟩ = some (.string ⟨yk.toArray⟩) := (Whole.cell hz2 2).trans rfl
          have hlt2 := Whole.lt hz2
          have hxb2 := Whole.lt hr2.xc
          clear hr2 hz2 hhB
          by_cases hE : y.e = n
          · have e3 : (ye == n) = true := by rw [HYE.out.1, hE]; simp
            have HLe := Lib.hid (fun w' => leads_any x.kind yk key w' (by rw [HYE.out.2.2]; exact HY.out.2.2) HK.out)
            have HSE : Hid (S.sel x key y = leadP x.kind yk key) := Lib.hid (by simp [Rt.sel, HXN.out, hE, HYE.out.2.2])
            clear hE
            cases hP : leadP x.kind yk key
            · have HM := Lib.hid (RM.out.skip (y := y) (by rw [HSE.out]; exact hP))
              rw [hP] at HLe
              clear hP
              go_wp2_with (go_at_call 19; go_must (refine (HLe.out _).mono ?_); rintro e w3 ⟨rfl, hb3⟩; have R3 := Lib.hid (R2.out.below hb3); clear hb3)
              go_roundw
              case rel => exact ⟨_, _, _, R3.out, HM.out⟩
              case measure => rw [R3.out.rng.left_eq, RB.out.rng.left_eq]; exact HLT.out
            · have HM := Lib.hid (RM.out.take HLY.out HYB.out (by rw [HSE.out]; exact hP))
              rw [hP] at HLe
              clear hP
              go_upto_region 11 with (go_at_call 19; go_must (refine (HLe.out _).mono ?_); rintro e w3 ⟨rfl, hb3⟩; have R3 := Lib.hid (R2.out.below hb3); have Z3 := Lib.hid (show Whole w3 hB _ _ from (hb3.block hB hlt2).trans Z2.out); clear hb3)
              have z1 : w3.cell? ⟨hB, 1, none⟩ = some (.string ⟨yq.toArray⟩) := (Whole.cell Z3.out 1).trans rfl
              have hlt3 := Whole.lt Z3.out
              clear x1 z0 z2 hlt2 hxb2
              have R4 := Lib.hid (R3.out.below ((Below.refl _ w3).alloc (Nat.le_refl _) (.cells #[.string ⟨yq.toArray⟩] 9)))
              have OW := Lib.hid R4.out.row
              have LT := Lib.hid (Lies.lit w3 9 [.string ⟨yq.toArray⟩])
              obtain ⟨i0, hi, hz0, hz1, hz2⟩ := info_parts str_infoR
              have HI := Lib.hid hi
              have H0 := Lib.hid hz0
              have H1 := Lib.hid hz1
              have H2 := Lib.hid hz2
              have HR01 : Hid ((Q.map (·.q)).length + 1 ≤ maxLen) := Lib.hid (by have := HF.out; rw [List.length_map]; unfold maxLen; omega)
              have HR02 : Hid (((Q.map (·.q)).length + 1) * 16 ≤ 140737488355328) := Lib.hid (by have := HF.out; rw [List.length_map]; omega)
              have HS0 : Hid (r + 1 ≤ (w3.alloc (.cells #[.string ⟨yq.toArray⟩] 9)).heap.size) := Lib.hid (by have := R3.out.ids; simp; omega)
              clear hi hz0 hz1 hz2
              go_wp2_with (at_builtin; go_must (refine wpList_append_apart rfl _ _ 29 rfl (r + 1) 9 i0 _ 1 16 Tryd.underlying29 HI.out H0.out H1.out H2.out rfl (by omega) u9 _ _ rfl OW.out _ _ 1 1 _ rfl LT.out rfl (by simp [Value.oneCell']) HR01.out HR02.out HS0.out ?_); intro v6 w6 o6 g6; have R6 := Lib.hid (R4.out.push g6 o6); clear o6 g6)
              refine ⟨⟨_, cnt1, Q ++ [y], ?_, HM.out⟩, ?_⟩
              · have h6 := R6.out
                rw [HYE.out.2.1] at h6
                rw [List.map_append]
                exact h6
              · rw [R6.out.rng.left_eq, RB.out.rng.left_eq]; exact HLT.out
          · have e3 : (ye == n) = false := by rw [HYE.out.1]; simpa using hE
            have HM := Lib.hid (RM.out.skip (y := y) (by simp [Rt.sel, HXN.out, hE]))
            clear hE
            go_wp2_with fail
            go_roundw
            case rel => exact ⟨_, _, _, R2.out, HM.out⟩
            case measure => rw [R2.out.rng.left_eq, RB.out.rng.left_eq]; exact HLT.out
end
end Go.Proofs.YtocombacjpjdbaaDoor
