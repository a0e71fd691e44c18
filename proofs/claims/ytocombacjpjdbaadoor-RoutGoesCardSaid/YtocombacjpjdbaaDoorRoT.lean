/- Layer 16: rows of bindings sorted; take, Drop, Free. -/
import Derived.Test.YtocombacjpjdbaaDoorRoP
import Derived.Test.YtocombacjpjdbaaDoorRoK
import Derived.Deep.CutBlock
namespace Go.Proofs.YtocombacjpjdbaaDoor
open Go.RowKit Go.Maps Go.Sort Go.Shelf
set_option maxRecDepth 100000
set_option linter.unusedSimpArgs false
set_option linter.unusedVariables false
instance : Inhabited Bnd := ⟨⟨[], [], []⟩⟩
theorem flat_bd (l : List Bnd) : flatK bdC 3 l.toArray = (bdCs l).toArray := by
  refine ext_get! (by simp [bdCs_length]; omega) fun t ht => ?_
  have ht' : t < l.length * 3 := by simpa using ht
  have hd : t / 3 < l.length := by omega
  rw [get_flatK _ _ _ t (by simpa using ht')]
  have h := bdCs_get l (t / 3) hd (t % 3) (by omega)
  rw [show 3 * (t / 3) + t % 3 = t by omega] at h
  have hlt : t < (bdCs l).length := by rw [bdCs_length]; omega
  have h3 : t % 3 < (bdC l[t / 3]).length := by show t % 3 < 3; omega
  rw [List.getElem?_eq_getElem hlt, List.getElem?_eq_getElem h3] at h
  have h4 := Option.some.inj h
  simp [getElem!_pos, hd, hlt, h3, h4]
/-- a row that a slice owns, as the sort holds it -/
theorem holds_id {w : World} {g : Nat} {cur : Array Value} {e : TypeId} {xs : List Value} (hb : w.heap[g]? = some (.cells cur e (0, 0))) (ht : cur.toList.take xs.length = xs) : Holds id w g 0 xs.toArray := by
  intro j hj
  have hj' : j < xs.length := by simpa using hj
  refine ⟨?_, by simp [World.frozen?, hb]⟩
  have h1 : (cur.toList.take xs.length)[j]? = xs[j]? := by rw [ht]
  rw [List.getElem?_take_of_lt hj', List.getElem?_eq_getElem hj'] at h1
  have h2 : cur[j]? = some xs[j] := by rw [← Array.getElem?_toList]; exact h1
  simp [World.cell?, hb, h2, hj']
theorem row_put_id {w : World} {g n : Nat} {os : Array Obj} {cur : Array Value} {e : TypeId} (xs : List Value) (hb : w.heap[g]? = some (.cells cur e (0, 0))) (hl : xs.length ≤ cur.size) :
    ∃ cur', (grow (putRow id (Sort.ahead w n) g 0 xs.toArray) os).heap[g]? = some (.cells cur' e (0, 0)) ∧ cur'.size = cur.size ∧ cur'.toList.take xs.length = xs := by
  have hg : g < w.heap.size := (Array.getElem?_eq_some_iff.1 hb).1
  refine ⟨putCells id 0 xs.toArray cur, ?_, by simp [putCells], ?_⟩
  · rw [heap_grow_old _ _ (by simpa using hg)]
    simp [putRow, mapBlock, Sort.ahead, Array.getElem?_modify, hb, onCells]
  · apply List.ext_getElem?
    intro j
    by_cases hj : j < xs.length
    · rw [List.getElem?_take_of_lt hj, Array.getElem?_toList]
      simp [putCells, hj, show j < cur.size by omega]
    · rw [List.getElem?_take_eq_none (by omega), List.getElem?_eq_none (by omega)]
theorem grown_put_id {w : World} {g n : Nat} {os : Array Obj} (F : Array Value) : w.grownBy (grow (putRow id (Sort.ahead w n) g 0 F) os) (some g) := by
  refine ⟨rfl, rfl, rfl, by simp, fun k hk hne => ?_⟩
  rw [heap_grow_old _ _ (by simpa using hk)]
  have : g ≠ k := fun e => hne (by rw [e])
  simp [putRow, mapBlock, Sort.ahead, Array.getElem?_modify, this]
def srtB (l : List Bnd) : List Bnd := l.mergeSort fun x y => !ltOf cmpB y x
theorem srtB_perm (l : List Bnd) : (srtB l).Perm l := List.mergeSort_perm _ _
theorem srtB_length (l : List Bnd) : (srtB l).length = l.length := (srtB_perm l).length_eq
/-- a row in which none comes twice, sorted -/
theorem srtB_ris {l : List Bnd} (hn : l.Nodup) : Ris ltB (srtB l) := by
  have h1 := List.pairwise_mergeSort (le := fun x y : Bnd => !ltOf cmpB y x) (fun a b c h1 h2 => by
    simp only [cmpB_lt, Bool.not_eq_true'] at *
    cases e : ltB c a
    · rfl
    · cases e2 : ltB b a
      · cases e3 : ltB a b
        · have := linB.tot e2 e3
          subst this
          rw [e] at h2; cases h2
        · have := linB.tr e e3
          rw [this] at h2; cases h2
      · rw [e2] at h1; cases h1) (fun a b => by
    simp only [cmpB_lt, Bool.or_eq_true, Bool.not_eq_true']
    cases e : ltB b a
    · exact .inl rfl
    · exact .inr (linB.asym e)) l
  have h2 : (srtB l).Nodup := (srtB_perm l).nodup_iff.2 hn
  rw [List.nodup_iff_pairwise_ne] at h2
  refine (h1.and h2).imp fun {a b} h => ?_
  simp only [cmpB_lt, Bool.not_eq_true'] at h
  exact linB.gt h.1 (Ne.symm h.2)
theorem srtB_eq {l m : List Bnd} (hn : l.Nodup) (hm : Ris ltB m) (h : ∀ b, b ∈ l ↔ b ∈ m) : srtB l = m :=
  Ris.ext linB (srtB_ris hn) hm fun b => by rw [(srtB_perm l).mem_iff]; exact h b
theorem sortB_any (v : Value) (l : List Bnd) (base : Nat) (w : World) (h : w.ownsRow base 33 3 v l.length (bdCs l)) (hl : l.length ≤ 1000000) :
    Calls Tryd.prog 39 #[v, .func (.func 27) #[] #[]] w fun e w' => e = .returned (.tuple #[]) ∧ w'.ownsRow base 33 3 v l.length (bdCs (srtB l)) ∧ w.grownBy w' v.ownBlock := by
  obtain ⟨h1, h2⟩ := h
  rcases h2 with ⟨rfl, h0⟩ | ⟨gb, cap, cur, rfl, hb, hg, hn, hc, hs, ht⟩
  · have hk : l = [] := List.eq_nil_of_length_eq_zero h0
    subst hk
    refine (AnyF.slices_SortFunc_none ro_sortB none 0 _ w).mono ?_
    rintro e w' ⟨rfl, rfl⟩
    have e : srtB [] = [] := List.eq_nil_of_length_eq_zero (srtB_length [])
    rw [e]
    exact ⟨rfl, World.ownsRow_nil _ _ _ _, only_refl _ _⟩
  · have hx : (bdCs l).length = l.length * 3 := by rw [bdCs_length]; omega
    have hH : HoldsK bdC 3 w gb 0 l.toArray := by
      unfold HoldsK
      rw [flat_bd]
      exact holds_id hg (by rw [hx]; exact ht)
    have hc2 := AnyQ.slices_SortFunc_total ro_sortB 3 Tryd.isAgg33 Tryd.sizeOf33 bdC (fun _ => rfl) (fun x v hv => by simp [bdC] at hv; rcases hv with rfl | rfl | rfl <;> rfl) cmpB swoB 27 #[] gb 0 cap l.toArray w
      (enters_of Tryd.func27 (by kernel_rfl) rfl) (fun m os dk hdk x y => compare_any x y _) hH ((Array.getElem?_eq_some_iff.1 hg).1) (by simp; omega) totB
    simp only [List.size_toArray] at hc2
    refine hc2.mono ?_
    rintro e w' ⟨rfl, n, os, rfl⟩
    have e2 : (l.mergeSort fun x y => !ltOf cmpB y x) = srtB l := rfl
    rw [e2]
    unfold sortWorldK putRowK
    rw [flat_bd]
    have hx2 : (bdCs (srtB l)).length = l.length * 3 := by rw [bdCs_length, srtB_length]; omega
    obtain ⟨cur', k1, k2, k3⟩ := row_put_id (w := w) (n := n) (os := os) (bdCs (srtB l)) hg (by rw [hx2, hs]; omega)
    rw [hx2] at k3
    exact ⟨rfl, ⟨hx2, .inr ⟨gb, cap, cur', rfl, hb, k1, hn, hc, by rw [k2, hs], k3⟩⟩, grown_put_id _⟩
theorem grown_over {a b c : World} {row row2 : Option Nat} (h : a.grownBy b row) (k : b.grownBy c row2) (hr : ∀ j, row2 = some j → a.heap.size ≤ j) : a.grownBy c row :=
  ⟨k.os.trans h.os, k.tape.trans h.tape, k.output.trans h.output, Nat.le_trans h.size k.size, fun i hi hn => (k.block i (Nat.lt_of_lt_of_le hi h.size) (fun e => by have := hr i e.symm; omega)).trans (h.block i hi hn)⟩
theorem bind_info : (Tryd.prog.info? 33).map (fun i => (i.zero, i.size, i.bytes)) = some (some (.agg #[.string ⟨#[]⟩, .string ⟨#[]⟩, .string ⟨#[]⟩]), 3, 48) := by kernel_rfl
theorem LiesP3 {w : World} {base n c : Nat} {A : Option Addr} {l : List Bnd} (h : w.ownsRow base 33 3 (.slice A n c) n (bdCs l)) : Lies w w.heap.size A (bdCs l) := by
  rcases h.2 with ⟨e, h0⟩ | ⟨g, cap, cur, e, k2, k3, k4, k5, k6, k7⟩
  · cases e
    left
    apply List.eq_nil_of_length_eq_zero
    rw [h.1, h0]
  · cases e
    refine .inr ⟨g, 0, rfl, (Array.getElem?_eq_some_iff.1 k3).1, fun j u hu => ?_⟩
    have hj := (List.getElem?_eq_some_iff.1 hu).1
    have h1 := h.1
    rw [← k7, List.getElem?_take_of_lt (by rw [h1] at hj; omega), Array.getElem?_toList] at hu
    simp [World.cell?, k3, hu]
theorem bdCs_one (l : List Bnd) : ∀ u ∈ bdCs l, u.oneCell' = true := by
  intro u hu
  obtain ⟨b, _, hb⟩ := List.mem_flatMap.1 hu
  simp [bdC] at hb
  rcases hb with rfl | rfl | rfl <;> rfl
/-- a range over the bindings, and a row of bindings that grows beside it -/
structure TkB (W : World) (g bx bb r : Nat) (S : Rt) (left : Bnd → Bool) (cnt : Nat) (v : Value) (Q : List Bnd) (w : World) : Prop where
  ro : RoAt w g bx bb S
  rng : RngF Tryd.prog 33 bdOk bdL w bb r (fB S.B) left cnt
  row : w.ownsRow (r + 1) 33 3 v Q.length (bdCs Q)
  bel : Below W.heap.size W w
  ids : W.heap.size ≤ r ∧ g < W.heap.size ∧ bx < W.heap.size ∧ bb < W.heap.size ∧ r < w.heap.size
section
variable {w w' W : World} {g bx bb r cnt : Nat} {S : Rt} {left : Bnd → Bool} {v : Value} {Q : List Bnd}
theorem TkB.below (h : TkB W g bx bb r S left cnt v Q w) (hb : Below w.heap.size w w') : TkB W g bx bb r S left cnt v Q w' := by
  obtain ⟨i1, i2, i3, i4, i5⟩ := h.ids
  have l := h.ro.lts
  exact ⟨h.ro.below hb, h.rng.blocks (hb.block bb l.2.2) (hb.block r i5), own_block16 h.row (fun i hi => hb.block i (h.row.lt i hi).2), h.bel.trans (hb.mono h.bel.size), ⟨i1, i2, i3, i4, Nat.lt_of_lt_of_le i5 hb.size⟩⟩
theorem TkB.next {y : Bnd} {cnt' : Nat} (h : TkB W g bx bb r S left cnt v Q w) (hr : RngF Tryd.prog 33 bdOk bdL w' bb r (fB S.B) (fun z => left z && !decide (z = y)) cnt') (hg : w.grownBy w' (some r)) :
    TkB W g bx bb r S (fun z => left z && !decide (z = y)) cnt' v Q w' := by
  obtain ⟨i1, i2, i3, i4, i5⟩ := h.ids
  have hsz := h.bel.size
  refine ⟨h.ro.grown hg ⟨fun e => ?_, fun e => ?_, fun e => ?_⟩, hr, own_block16 h.row (fun i hi => hg.block i (h.row.lt i hi).2 (fun e => ?_)), h.bel.grown hg (by omega) (fun j hj => by cases hj; omega), ⟨i1, i2, i3, i4, Nat.lt_of_lt_of_le i5 hg.size⟩⟩
  · cases e; omega
  · cases e; omega
  · cases e; omega
  · have := (h.row.lt i hi).1; cases e; omega
theorem TkB.push {v' : Value} {q : Bnd} (h : TkB W g bx bb r S left cnt v Q w) (hg : w.grownBy w' v.ownBlock) (hrow : w'.ownsRow (r + 1) 33 3 v' (Q.length + 1) (bdCs Q ++ bdC q)) : TkB W g bx bb r S left cnt v' (Q ++ [q]) w' := by
  obtain ⟨i1, i2, i3, i4, i5⟩ := h.ids
  have hsz := h.bel.size
  have hne : ∀ i, i ≤ r → some i ≠ v.ownBlock := fun i hi e => by
    have := (h.row.lt i e.symm).1
    omega
  refine ⟨h.ro.grown hg ⟨fun e => hne g (by omega) e.symm, fun e => hne bx (by omega) e.symm, fun e => hne bb (by omega) e.symm⟩, h.rng.kept hg (hne bb (by omega)) (hne r (Nat.le_refl _)), ?_, h.bel.grown hg hsz (fun k hk => by have := (h.row.lt k hk).1; omega), ⟨i1, i2, i3, i4, Nat.lt_of_lt_of_le i5 hg.size⟩⟩
  have e : bdCs (Q ++ [q]) = bdCs Q ++ bdC q := by rw [bdCs_append]; simp [bdCs]
  rw [e, List.length_append]
  exact hrow
/-- what is left when the first i of the row are gone -/
def Rt.less (S : Rt) (Q : List Bnd) (i : Nat) : Rt := ⟨S.X, S.B.filter fun b => !decide (b ∈ Q.take i)⟩
theorem Rt.less_zero (S : Rt) (Q : List Bnd) : S.less Q 0 = S := by
  have : (S.B.filter fun b => !decide (b ∈ Q.take 0)) = S.B := List.filter_eq_self.2 (fun b _ => by simp)
  unfold Rt.less
  rw [this]
theorem Rt.less_next (S : Rt) (Q : List Bnd) (i : Nat) (h : i < Q.length) : (S.less Q i).unbind Q[i] = S.less Q (i + 1) := by
  unfold Rt.less Rt.unbind
  simp only [List.filter_filter]
  congr 1
  apply List.filter_congr
  intro b _
  have e1 : (b ∈ Q.take (i + 1)) = (b ∈ Q.take i ∨ b = Q[i]) := by
    rw [List.take_succ_eq_append_getElem h]
    exact propext (by rw [List.mem_append, List.mem_singleton])
  simp only [e1]
  by_cases e : b = Q[i]
  · simp [e]
  · simp [e]
theorem RtM.rest {p : Bnd → Bool} (h : RtM S p left Q) (hO : S.Ok) (hl : ∀ b, bdOk b → left b = false) : S.less Q Q.length = S.take p ∧ srtB Q = S.B.filter p := by
  have hm : ∀ b, b ∈ Q ↔ b ∈ S.B ∧ p b = true := fun b => by
    rw [h.mem b]
    constructor
    · rintro ⟨a1, _, a3⟩; exact ⟨a1, a3⟩
    · rintro ⟨a1, a3⟩; exact ⟨a1, hl b (hO.sb b a1), a3⟩
  constructor
  · unfold Rt.less Rt.take
    congr 1
    apply List.filter_congr
    intro b hb
    rw [List.take_length]
    by_cases e : b ∈ Q
    · simp [e, ((hm b).1 e).2]
    · have : p b = false := by
        cases hp : p b
        · rfl
        · exact absurd ((hm b).2 ⟨hb, hp⟩) e
      simp [e, this]
  · refine srtB_eq h.nd (hO.rb.filter p) fun b => ?_
    rw [hm b, List.mem_filter]
set_option maxHeartbeats 8000000 in
theorem r_take_d (h : RoAt W g bx bb S) (p : Bnd → Bool) (cb : Value) (hW : ∀ (b : Bnd) w', bdOk b → Below W.heap.size W w' → Calls Tryd.prog 31 #[.agg #[.string ⟨b.e.toArray⟩, .string ⟨b.q.toArray⟩, .string ⟨b.k.toArray⟩], cb] w' fun e w'' => e = .returned (.bool (p b)) ∧ Below w'.heap.size w' w'') :
    Calls Tryd.prog 30 #[ptrR g, .func (.func 31) #[] #[cb]] W fun e w' => ∃ v, e = .returned v ∧ w'.ownsRow W.heap.size 33 3 v (S.B.filter p).length (bdCs (S.B.filter p)) ∧ RoAt w' g bx bb (S.take p) ∧ W.grownBy w' (some bb) := by
  obtain ⟨c0, c1⟩ := h.cell
  obtain ⟨l1, l2, l3⟩ := h.lts
  have H := Lib.hid h
  have HW := Lib.hid hW
  clear h hW
  go_enter Tryd.func30, Tryd.ntmps30
  go_wp2_with (first
    | (at_range; refine wpList_range_f rfl _ rfl bd_kind Tryd.underlying44 rfl H.out.bd ?_; intro w6 cnt6 hrg6 hg6 hs6)
    | go_in)
  go_frame
  obtain ⟨r, hr⟩ : ∃ r, r = W.heap.size := ⟨_, rfl⟩
  rw [← hr] at hrg6 ⊢
  have I0 : TkB W g bx bb r S (fun z => (fB S.B z).isSome) cnt6 (.slice none 0 0) [] w6 :=
    ⟨H.out.grown hg6 (by simp), hrg6, World.ownsRow_nil _ _ _ _, (Below.refl _ _).grown hg6 (Nat.le_refl _) (fun j hj => by cases hj), ⟨by omega, l1, l2, l3, by omega⟩⟩
  have I1 := Lib.hid I0
  have HR := Lib.hid hr
  clear hrg6 hg6 hs6 hr I0 c0 c1 l1 l2 l3
  go_loopw [5] (fun s5 wr => ∃ (left : Bnd → Bool) (cnt : Nat) (Q : List Bnd), TkB W g bx bb r S left cnt s5 Q wr ∧ RtM S p left Q) (fun _ wr => wr.rangeLeft bb r)
  case atStart => exact ⟨_, _, [], I1.out, RtM.start⟩
  case round =>
    obtain ⟨left, cnt, Q, hrb, hrm⟩ := hrel
    have RB := Lib.hid hrb
    have RM := Lib.hid hrm
    have HF := Lib.hid (hrm.few hrb.ro.ok.fb)
    clear hrb hrm
    go_wp2_with (first
      | (at_next; refine wpList_next_f rfl _ rfl bd_kind rfl RB.out.rng ?_ ?_)
      | go_in)
    · intro hl
      obtain ⟨hrest, hsrt⟩ := RM.out.rest RB.out.ro.ok hl
      have HRE := Lib.hid hrest
      have HSR := Lib.hid hsrt
      obtain ⟨n, hn⟩ : ∃ n, n = Q.length := ⟨_, rfl⟩
      have hrow := RB.out.row
      rw [← hn] at hrow
      obtain ⟨A5, c5, rfl, hc1, hc2⟩ := own_form hrow
      have HN := Lib.hid hn
      have HNF : n ≤ 1000 := by rw [hn]; exact HF.out
      have OW := Lib.hid hrow
      clear hl hrest hsrt hrow hc1 hc2 hn
      go_wp2_with fail
      go_loopw [27] (fun s27 w' => ∃ i : Nat, s27 = .int .i64 i ∧ i ≤ n ∧ RoAt w' g bx bb (S.less Q i) ∧ wr.grownBy w' (some bb)) (fun s27 _ => n - (intOf s27).toNat)
      case atStart => exact ⟨0, rfl, Nat.zero_le _, by rw [Rt.less_zero]; exact RB.out.ro, only_refl _ _⟩
      case round =>
        obtain ⟨i, rfl, hin, hro, hgr⟩ := hrel
        rename World => wq
        have RO := Lib.hid hro
        have GR := Lib.hid hgr
        have hrow2 := own_block16 OW.out (fun j hj => hgr.block j (OW.out.lt j hj).2 (fun e => by have h1 := (OW.out.lt j hj).1; have h2 := RB.out.ids; have h3 := Option.some.inj e; omega))
        have OW2 := Lib.hid hrow2
        clear hro hgr hrow2
        by_cases hi : i < n
        · have hiQ : i < Q.length := by rw [← HN.out]; exact hi
          have p1 : (i : Int) < (n : Int) := by omega
          have p0 : (0 : Int) ≤ (i : Int) := by omega
          have hl := LiesP3 OW2.out
          obtain ⟨b5, o5, rfl, hlb⟩ := hl.bind_some (by omega)
          obtain ⟨c0, c1, c2⟩ := hl.bind_at hiQ
          obtain ⟨ye, hye⟩ : ∃ ye, ye = Q[i].e := ⟨_, rfl⟩
          obtain ⟨yq, hyq⟩ : ∃ yq, yq = Q[i].q := ⟨_, rfl⟩
          obtain ⟨yk, hyk⟩ : ∃ yk, yk = Q[i].k := ⟨_, rfl⟩
          rw [← hye] at c0
          rw [← hyq] at c1
          rw [← hyk] at c2
          have HBD : Hid (∀ h : i < Q.length, bdV Q[i] = .agg #[.string ⟨ye.toArray⟩, .string ⟨yq.toArray⟩, .string ⟨yk.toArray⟩]) := Lib.hid (fun _ => by rw [hye, hyq, hyk]; rfl)
          have HIQ := Lib.hid hiQ
          have HBO : Hid (∀ h : i < Q.length, bdOk Q[i]) := Lib.hid (fun h => RB.out.ro.ok.sb _ ((RM.out.mem _).1 (List.getElem_mem h)).1)
          clear hl hye hyq hyk hiQ
          go_upto_region 10 with fail
          obtain ⟨hB, hhB⟩ : ∃ hB, hB = wq.heap.size := ⟨_, rfl⟩
          rw [← hhB]
          refine wp_renR (fun W' => RoAt W' g bx bb (S.less Q i) ∧ wr.grownBy W' (some bb) ∧ Whole W' hB 33 #[.string ⟨ye.toArray⟩, .string ⟨yq.toArray⟩, .string ⟨yk.toArray⟩]) ⟨?_, ?_, ?_⟩ ?_
          · exact RO.out.below ((Below.refl _ _).alloc (Nat.le_refl _) _)
          · exact only_trans GR.out (only_below ((Below.refl _ _).alloc (Nat.le_refl _) _) _)
          · rw [hhB]; exact Whole.new _ _ _
          rintro W9 ⟨hr9, hg9, hz9⟩
          have hR9 := hr9.below (w' := W9.drew) (Below.refl _ W9).drew
          obtain ⟨W10, hdel, hR10, ht10⟩ := hR9.delB (b := Q[i]'HIQ.out) (HBO.out HIQ.out) 0
          rw [HBD.out HIQ.out] at hdel
          rw [Rt.less_next S Q i HIQ.out] at hR10
          obtain ⟨d0, d1⟩ := hr9.cell
          have d1' : W9.drew.cell? ⟨g, 1, none⟩ = some (.map (some bb)) := d1
          have z0 : W9.cell? ⟨hB, 0, none⟩ = some (.string ⟨ye.toArray⟩) := (Whole.cell hz9 0).trans rfl
          have z1 : W9.cell? ⟨hB, 1, none⟩ = some (.string ⟨yq.toArray⟩) := (Whole.cell hz9 1).trans rfl
          have z2 : W9.cell? ⟨hB, 2, none⟩ = some (.string ⟨yk.toArray⟩) := (Whole.cell hz9 2).trans rfl
          have hlt := Whole.lt hz9
          have R10 := Lib.hid hR10
          have G10 := Lib.hid (show wr.grownBy W10 (some bb) from only_trans (only_trans hg9 (only_below (Below.refl _ W9).drew _)) ht10.grown)
          clear hr9 hg9 hz9 hR9 hR10 ht10 hhB d0 c0 c1 c2
          go_region
          go_wp2_with fail
          go_roundw
          case rel => exact ⟨i + 1, by go_num, by omega, R10.out, G10.out⟩
          case measure => simp [intOf]; omega
        · have hie : i = n := by omega
          subst hie
          have p1 : ¬ (i : Int) < (i : Int) := by omega
          have HSO := Lib.hid (sortB_any (.slice A5 i c5) Q (r + 1) wq (by rw [← HN.out]; exact OW2.out) (by have := HF.out; omega))
          go_wp2_with fail
          refine HSO.out.mono ?_
          rintro e w9 ⟨rfl, ho9, hg9⟩
          have O9 := Lib.hid ho9
          have G9 := Lib.hid hg9
          clear ho9 hg9 HSO
          go_wp2_with fail
          go_ret
          have hids := RB.out.ids
          have hrw := OW2.out
          have hblk : ∀ j, (Value.slice A5 i c5).ownBlock = some j → r + 1 ≤ j := fun j hj => (hrw.lt j hj).1
          have hg1 : W.grownBy wq (some bb) := only_trans (only_below RB.out.bel _) GR.out
          refine ⟨_, rfl, ?_, ?_, grown_over hg1 G9.out (fun j hj => by have := hblk j hj; omega)⟩
          · have ho := O9.out
            rw [HSR.out] at ho
            have hle : (S.B.filter p).length = Q.length := by rw [← HSR.out, srtB_length]
            rw [hle]
            exact own_low16 ho (by omega)
          · have hro := RO.out
            rw [HN.out, HRE.out] at hro
            exact hro.grown G9.out ⟨fun e => by have := hblk g e; omega, fun e => by have := hblk bx e; omega, fun e => by have := hblk bb e; omega⟩
    · intro y vy w1 cnt1 hy hly hfy hrg1 hlt hg1 hs1 hen
      obtain ⟨hyB, rfl⟩ : y ∈ S.B ∧ vy = .agg #[] := by
        unfold fB at hfy
        split at hfy
        · exact ⟨by assumption, (Option.some.inj hfy).symm⟩
        · cases hfy
      have RB1 := Lib.hid (RB.out.next hrg1 hg1)
      have HLT := Lib.hid hlt
      have HC := Lib.hid (fun w' hb => HW.out y w' hy hb)
      obtain ⟨ye, hye⟩ : ∃ ye, ye = y.e := ⟨_, rfl⟩
      obtain ⟨yq, hyq⟩ : ∃ yq, yq = y.q := ⟨_, rfl⟩
      obtain ⟨yk, hyk⟩ : ∃ yk, yk = y.k := ⟨_, rfl⟩
      have hbd : bdV y = .agg #[.string ⟨ye.toArray⟩, .string ⟨yq.toArray⟩, .string ⟨yk.toArray⟩] := by rw [hye, hyq, hyk]; rfl
      have hbc : Hid (bdC y = [.string ⟨ye.toArray⟩, .string ⟨yq.toArray⟩, .string ⟨yk.toArray⟩]) := Lib.hid (by rw [hye, hyq, hyk]; rfl)
      rw [← hye, ← hyq, ← hyk] at HC
      rw [hbd] at hen ⊢
      have HYB := Lib.hid (And.intro hly hyB)
      clear hy hyB hly hlt hfy hrg1 hg1 hs1 hbd hye hyq hyk
      go_upto_region 5 with fail
      obtain ⟨hB, hhB⟩ : ∃ hB, hB = w1.heap.size := ⟨_, rfl⟩
      rw [← hhB]
      refine wp_renR (fun W' => TkB W g bx bb r S (fun z => left z && !decide (z = y)) cnt1 u5 Q W' ∧ Whole W' hB 33 #[.string ⟨ye.toArray⟩, .string ⟨yq.toArray⟩, .string ⟨yk.toArray⟩]) ⟨?_, ?_⟩ ?_
      · exact RB1.out.below ((Below.refl _ _).alloc (Nat.le_refl _) _)
      · rw [hhB]; exact Whole.new _ _ _
      rintro W2 ⟨hr2, hz2⟩
      have R2 := Lib.hid hr2
      have Z2 := Lib.hid hz2
      have z0 : W2.cell? ⟨hB, 0, none⟩ = some (.string ⟨ye.toArray⟩) := (Whole.cell hz2 0).trans rfl
      have z1 : W2.cell? ⟨hB, 1, none⟩ = some (.string ⟨yq.toArray⟩) := (Whole.cell hz2 1).trans rfl
      have z2 : W2.cell? ⟨hB, 2, none⟩ = some (.string ⟨yk.toArray⟩) := (Whole.cell hz2 2).trans rfl
      have hlt2 := Whole.lt hz2
      have HC2 := Lib.hid (HC.out W2 hr2.bel)
      clear hr2 hz2 hhB HC
      go_wp2_with fail
      refine HC2.out.mono ?_
      rintro e w3 ⟨rfl, hb3⟩
      have R3 := Lib.hid (R2.out.below hb3)
      have Z3 := Lib.hid (show Whole w3 hB _ _ from (hb3.block hB hlt2).trans Z2.out)
      have y0 : w3.cell? ⟨hB, 0, none⟩ = some (.string ⟨ye.toArray⟩) := (Whole.cell Z3.out 0).trans rfl
      have y1 : w3.cell? ⟨hB, 1, none⟩ = some (.string ⟨yq.toArray⟩) := (Whole.cell Z3.out 1).trans rfl
      have y2 : w3.cell? ⟨hB, 2, none⟩ = some (.string ⟨yk.toArray⟩) := (Whole.cell Z3.out 2).trans rfl
      have hlt3 := Whole.lt Z3.out
      clear hb3 HC2 z0 z1 z2 hlt2
      cases hP : p y
      · have HM := Lib.hid (RM.out.skip (y := y) hP)
        go_wp2_with fail
        go_roundw
        case rel => exact ⟨_, _, _, R3.out, HM.out⟩
        case measure => rw [R3.out.rng.left_eq, RB.out.rng.left_eq]; exact HLT.out
      · have HM := Lib.hid (RM.out.take HYB.out.1 HYB.out.2 hP)
        have R4 := Lib.hid (R3.out.below ((Below.refl _ w3).alloc (Nat.le_refl _) (.cells #[.string ⟨ye.toArray⟩, .string ⟨yq.toArray⟩, .string ⟨yk.toArray⟩] 33)))
        have OW := Lib.hid R4.out.row
        have LT := Lib.hid (Lies.lit w3 33 [.string ⟨ye.toArray⟩, .string ⟨yq.toArray⟩, .string ⟨yk.toArray⟩])
        obtain ⟨i0, hi, hz0, hz1, hz2⟩ := info_parts bind_info
        have HI := Lib.hid hi
        have H0 := Lib.hid hz0
        have H1 := Lib.hid hz1
        have H2 := Lib.hid hz2
        have HR01 : Hid (Q.length + 1 ≤ maxLen) := Lib.hid (by have := HF.out; unfold maxLen; omega)
        have HR02 : Hid ((Q.length + 1) * 48 ≤ 140737488355328) := Lib.hid (by have := HF.out; omega)
        have HS0 : Hid (r + 1 ≤ (w3.alloc (.cells #[.string ⟨ye.toArray⟩, .string ⟨yq.toArray⟩, .string ⟨yk.toArray⟩] 33)).heap.size) := Lib.hid (by have := R3.out.ids; simp; omega)
        clear hi hz0 hz1 hz2
        go_wp2_with (at_builtin; go_must (refine wpList_append_apart rfl _ _ 36 rfl (r + 1) 33 i0 _ 3 48 Tryd.underlying36 HI.out H0.out H1.out H2.out rfl (by omega) u5 _ _ rfl OW.out _ _ 1 1 _ rfl LT.out rfl (by simp [Value.oneCell']) HR01.out HR02.out HS0.out ?_); intro v6 w6 o6 g6; have R6 := Lib.hid (R4.out.push (q := y) g6 (by rw [hbc.out]; exact o6)); clear o6 g6)
        refine ⟨⟨_, cnt1, Q ++ [y], R6.out, HM.out⟩, ?_⟩
        rw [R6.out.rng.left_eq, RB.out.rng.left_eq]; exact HLT.out
end
end Go.Proofs.YtocombacjpjdbaaDoor
