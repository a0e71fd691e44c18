/- Contracts of package unit: the closures that each tells its ops to. -/
import Derived.Test.YtflbjmpbkcjdhaaUnD
import Derived.Test.YtflbjmpbkcjdhaaOctsLf
namespace Go.Proofs.Ytflbjmpbkcjdhaa
open Go.RowKit
set_option maxRecDepth 100000
set_option linter.unusedSimpArgs false
set_option linter.unusedVariables false

theorem tk_rst_sum (n : Nat) (l : List UInt8) : (tk n l).length + (rst n l).length ≤ l.length := by
  rcases Nat.lt_or_ge l.length n with h | h
  · rw [tk_no h, rst_no h]; simp
  · rw [tk_yes h, rst_yes h, List.length_take, List.length_drop]; omega
theorem txt_sum (n : Nat) (l : List UInt8) : (txt n l).length + (txtRest n l).length ≤ l.length := Nat.le_trans (tk_rst_sum _ _) (rst_sub _ _)
/-- where the value of an op lies, in numbers -/
theorem nextP_pos {L : Nat} {b r : List UInt8} {t : Tl} (h : nextP L b = some (t, r)) (hb : b.length ≤ L) :
    r.length ≤ b.length ∧ (t.o.del = true → t.pos = 0 ∧ t.o.val = []) ∧ (t.o.del = false → t.pos + t.o.val.length + r.length = L) := by
  have h1 := rst_sub 1 b
  unfold nextP at h
  split at h
  · unfold putP at h
    simp only at h
    split at h
    · injection h with h; injection h with h2 h; subst h h2
      have a1 := txtRest_sub 1 (rst 1 b)
      have a2 := txt_sum 4 (txtRest 1 (rst 1 b))
      refine ⟨by omega, fun e => (by cases e), fun _ => ?_⟩
      simp only
      omega
    · cases h
  · split at h
    · unfold delP at h
      simp only at h
      split at h
      · injection h with h; injection h with h2 h; subst h h2
        have a1 := txtRest_sub 1 (rst 1 b)
        exact ⟨by omega, fun _ => ⟨rfl, rfl⟩, fun e => (by cases e)⟩
      · cases h
    · cases h
/-- but block lb, all up to g is as it was -/
structure Bx (g lb : Nat) (w w' : World) : Prop where
  os : w'.os = w.os
  tape : w'.tape = w.tape
  output : w'.output = w.output
  size : w.heap.size ≤ w'.heap.size
  block : ∀ k, k ≤ g → k ≠ lb → w'.heap[k]? = w.heap[k]?
theorem Bx.below {g lb : Nat} {w w' : World} (h : Bx g lb w w') (hg : lb ≤ g) : Below lb w w' := ⟨h.os, h.tape, h.output, h.size, fun k hk => h.block k (by omega) (by omega)⟩
theorem Bx.of {g lb : Nat} {w w' : World} (h : Below (g + 1) w w') (hg : lb ≤ g) (i : Nat) (u : Value) : Bx g lb w (w'.setCell ⟨lb, i, none⟩ u) := by
  have h2 := only_set (only_refl w' (some lb)) i u
  refine ⟨h2.os.trans h.os, h2.tape.trans h.tape, h2.output.trans h.output, Nat.le_trans h.size h2.size, fun k hk hne => ?_⟩
  have e1 := h.block k (by omega)
  by_cases hs : k < w'.heap.size
  · exact (h2.block k hs (fun e => by injection e; omega)).trans e1
  · have a := Array.getElem?_eq_none (xs := w'.heap) (i := k) (by omega)
    have b : (w'.setCell ⟨lb, i, none⟩ u).heap.size = w'.heap.size := by simp
    rw [Array.getElem?_eq_none (by omega), ← e1, a]
theorem InAt.bx {w w' : World} {g lb : Nat} {l : List UInt8} {bad : Bool} {T : TypeId} {A' : Option Addr} {n' c' : Nat} (h : InAt w g l bad) (hl : Whole w lb T #[.slice A' n' c']) (hb : Bx g lb w w') (hne : lb ≠ g) : InAt w' g l bad := by
  obtain ⟨A, c, h1, h2, h3, h4⟩ := h
  refine ⟨A, c, (hb.block g (Nat.le_refl _) (by omega)).trans h1, h2, h3, ?_⟩
  rcases h4 with h4 | ⟨b, o, rfl, hbg, hc⟩
  · exact .inl h4
  · by_cases hnil : l = []
    · subst hnil; exact .inl rfl
    · have hb0 : b ≠ lb := by
        intro e
        subst e
        have hpos : 0 < l.length := List.length_pos_iff.2 hnil
        have h5 := hc 0 _ (B8_get l 0 hpos)
        rw [hl.cell] at h5
        rcases o with _ | o
        · simp at h5
        · simp at h5
      refine .inr ⟨b, o, rfl, hbg, fun j u hu => ?_⟩
      have := World.cell?_of_block (a := ⟨b, o + j, none⟩) (hb.block b (by omega) hb0)
      rw [this]
      exact hc j u hu

/-- the ops so far, in memory: a row of Parse's own, values of their own -/
structure JP (lb g : Nat) (ts : List Tl) (w : World) : Prop where
  ex : ∃ (acc : List Om) (A : Option Addr) (c : Nat), acc.map (·.o) = ts.map (·.o) ∧ Whole w lb 25 #[.slice A acc.length c] ∧ w.ownsRow (g + 1) 24 3 (.slice A acc.length c) acc.length (cellsOms acc) ∧ ∀ m ∈ acc, w.ownsRow (g + 1) 5 1 (.slice m.A m.o.val.length m.c) m.o.val.length (B8 m.o.val)
  lbg : lb < g
/-- rows of different types stand apart -/
theorem own_apart_types {w : World} {b1 b2 : Nat} {e1 e2 : TypeId} {s1 s2 n1 n2 : Nat} {v1 v2 : Value} {xs1 xs2 : List Value} (h1 : w.ownsRow b1 e1 s1 v1 n1 xs1) (h2 : w.ownsRow b2 e2 s2 v2 n2 xs2) (hne : e1 ≠ e2) : v1.ownBlock = none ∨ v1.ownBlock ≠ v2.ownBlock := by
  rcases h1.2 with ⟨hv, _⟩ | ⟨g1, cap1, cur1, hv1, _, hg1, _⟩
  · left; rw [hv]; rfl
  · rcases h2.2 with ⟨hv, _⟩ | ⟨g2, cap2, cur2, hv2, _, hg2, _⟩
    · right; rw [hv1, hv]; simp [Value.ownBlock]
    · right
      rw [hv1, hv2]
      intro e
      have e' : g1 = g2 := by simpa [Value.ownBlock] using e
      subst e'
      rw [hg1] at hg2
      injection hg2 with hg2
      injection hg2 with _ ht _
      exact hne ht
theorem JP.grown {lb g : Nat} {ts : List Tl} {w w' : World} (h : JP lb g ts w) (hg : w.grownBy w' (some g)) : JP lb g ts w' := by
  obtain ⟨acc, A, c, e, h1, h2, h3⟩ := h.ex
  have hl := h.lbg
  have k : ∀ {e : TypeId} {s n : Nat} {v : Value} {xs : List Value}, w.ownsRow (g + 1) e s v n xs → w'.ownsRow (g + 1) e s v n xs := fun ho => ho.kept hg (by
    rename_i v _
    rcases hv : v.ownBlock with _ | k
    · exact .inl rfl
    · have := ho.lt k hv
      exact .inr (by intro e; injection e; omega))
  exact ⟨⟨acc, A, c, e, h1.grown hg (by intro e; injection e; omega), k h2, fun m hm => k (h3 m hm)⟩, hl⟩
theorem JP.start {lb g : Nat} {w : World} (h : Whole w lb 25 #[.slice none 0 0]) (hl : lb < g) : JP lb g [] w := ⟨⟨[], none, 0, rfl, h, World.ownsRow_nil _ _ _ _, fun m hm => by cases hm⟩, hl⟩
/-- what a closure tells: the op is taken in -/
def TakesIn (J : List Tl → World → Prop) (lb g : Nat) (ts : List Tl) (t : Tl) (w : World) (e : Ending) (w' : World) : Prop :=
  e = .returned (.tuple #[]) ∧ J (ts ++ [t]) w' ∧ Bx g lb w w'
theorem below_grown {w w' : World} {base n : Nat} {e : TypeId} {size : Nat} {v : Value} {xs : List Value} (ho : w.ownsRow base e size v n xs) (hg : w.grownBy w' v.ownBlock) (hb : base ≤ w.heap.size) : Below base w w' :=
  ⟨hg.os, hg.tape, hg.output, hg.size, fun k hk => hg.block k (by omega) (fun e => by have := (ho.lt k e.symm).1; omega)⟩
theorem Bx.trans {g lb : Nat} {a b c : World} (h : Bx g lb a b) (k : Bx g lb b c) : Bx g lb a c := ⟨k.os.trans h.os, k.tape.trans h.tape, k.output.trans h.output, Nat.le_trans h.size k.size, fun i hi hne => (k.block i hi hne).trans (h.block i hi hne)⟩
theorem Bx.low {g lb : Nat} {w w' : World} (h : Below (g + 1) w w') : Bx g lb w w' := ⟨h.os, h.tape, h.output, h.size, fun k hk _ => h.block k (by omega)⟩
/-- an op more -/
theorem JP.more {lb g : Nat} {ts : List Tl} {t : Tl} {acc : List Om} {A0 A A7 : Option Addr} {c0 c c7 : Nat} {m : Om} {WA w7 : World} {o : Obj} (hx : Whole WA lb 25 #[.slice A0 acc.length c0]) (hO : WA.ownsRow (g + 1) 24 3 (.slice A0 acc.length c0) acc.length (cellsOms acc))
    (hV : ∀ m ∈ acc, WA.ownsRow (g + 1) 5 1 (.slice m.A m.o.val.length m.c) m.o.val.length (B8 m.o.val)) (hT : WA.ownsRow (g + 1) 5 1 (.slice A t.o.val.length c) t.o.val.length (B8 t.o.val)) (hm : m = ⟨t.o, A, c⟩) (he : acc.map (·.o) = ts.map (·.o)) (hl : lb < g) (hz : g + 1 ≤ WA.heap.size)
    (hg : (WA.alloc o).grownBy w7 (Value.slice A0 acc.length c0).ownBlock) (ho : w7.ownsRow (g + 1) 24 3 (.slice A7 (acc.length + 1) c7) (acc.length + 1) (cellsOms acc ++ cellsOm m)) :
    Whole w7 lb 25 #[.slice A0 acc.length c0] ∧ JP lb g (ts ++ [t]) (w7.setCell ⟨lb, 0, none⟩ (.slice A7 (acc.length + 1) c7)) ∧ Bx g lb WA (w7.setCell ⟨lb, 0, none⟩ (.slice A7 (acc.length + 1) c7)) := by
  have b1 : Below WA.heap.size WA (WA.alloc o) := (Below.refl _ _).alloc (Nat.le_refl _) _
  have hO1 := hO.kept (only_below b1 none) (Classical.em _)
  have b2 : Below (g + 1) (WA.alloc o) w7 := below_grown hO1 hg (by simp; omega)
  have b3 : Below (g + 1) WA w7 := (b1.mono hz).trans b2
  have hx7 := hx.below b3 (by omega)
  refine ⟨hx7, ⟨⟨acc ++ [m], A7, c7, ?_, ?_, ?_, ?_⟩, hl⟩, Bx.of b3 (by omega) 0 _⟩
  · rw [List.map_append, List.map_append, he, hm]; rfl
  · rw [List.length_append]
    exact hx7.put 0 _
  · rw [List.length_append, cellsOms_append]
    refine own_set ?_ (by omega)
    simpa [cellsOms] using ho
  · intro x hx
    have key : ∀ {v : Value} {n : Nat} {xs : List Value}, WA.ownsRow (g + 1) 5 1 v n xs → (w7.setCell ⟨lb, 0, none⟩ (.slice A7 (acc.length + 1) c7)).ownsRow (g + 1) 5 1 v n xs := by
      intro v n xs h
      have h1 := h.kept (only_below b1 none) (Classical.em _)
      exact own_set (h1.kept hg (own_apart_types h1 hO1 (by decide))) (by omega)
    rcases List.mem_append.1 hx with hx | hx
    · exact key (hV x hx)
    · rw [List.mem_singleton] at hx
      rw [hx, hm]
      exact key hT
theorem parse1_any (lb g : Nat) (ts : List Tl) (t : Tl) (A : Option Addr) (c : Nat) (E : Int) (w : World) (hJ : JP lb g ts w) (hts : ts.length ≤ 1000000) (hgw : g < w.heap.size) (hv : w.ownsRow (g + 1) 5 1 (.slice A t.o.val.length c) t.o.val.length (B8 t.o.val)) :
    Calls Try.prog 24 #[.agg #[.string ⟨t.o.key.toArray⟩, .bool t.o.del, .slice A t.o.val.length c], .int .i64 E, .pointer (some ⟨lb, 0, none⟩)] w (TakesIn (JP lb g) lb g ts t w) := by
  obtain ⟨i0, hi, hz0, hz1, hz2⟩ := info_parts2 om_info
  obtain ⟨acc, A0, c0, e, h1, h2, h3⟩ := hJ.ex
  have hl := hJ.lbg
  have HI := Lib.hid hi
  have H0 := Lib.hid hz0
  have H1 := Lib.hid hz1
  have H2 := Lib.hid hz2
  have hal : acc.length ≤ 1000000 := by
    have := congrArg List.length e
    simp only [List.length_map] at this
    omega
  obtain ⟨m, hm⟩ : ∃ m : Om, m = ⟨t.o, A, c⟩ := ⟨_, rfl⟩
  have hcm : cellsOm m = [.string ⟨t.o.key.toArray⟩, .bool t.o.del, .slice A t.o.val.length c] := by rw [hm]; rfl
  have c1 : w.cell? ⟨lb, 0, none⟩ = some (.slice A0 acc.length c0) := h1.cell 0
  have f1 := h1.frozen 0
  have hlw := h1.lt
  obtain ⟨WA, hWA⟩ : ∃ W, W = w.alloc (.cells #[.string ⟨t.o.key.toArray⟩, .bool t.o.del, .slice A t.o.val.length c] 24) := ⟨_, rfl⟩
  have b1 : Below w.heap.size w WA := by rw [hWA]; exact (Below.refl _ _).alloc (Nat.le_refl _) _
  have x1 : Whole WA w.heap.size 24 #[.string ⟨t.o.key.toArray⟩, .bool t.o.del, .slice A t.o.val.length c] := by rw [hWA]; exact Whole.new _ _ _
  have X1 := h1.below b1 hlw
  have g1 : WA.cell? ⟨lb, 0, none⟩ = some (.slice A0 acc.length c0) := X1.cell 0
  have g2 := X1.frozen 0
  have y0 : WA.cell? ⟨w.heap.size, 0, none⟩ = some (.string ⟨t.o.key.toArray⟩) := x1.cell 0
  have y1 : WA.cell? ⟨w.heap.size, 1, none⟩ = some (.bool t.o.del) := x1.cell 1
  have y2 : WA.cell? ⟨w.heap.size, 2, none⟩ = some (.slice A t.o.val.length c) := x1.cell 2
  have O1 := Lib.hid (h2.kept (only_below b1 none) (Classical.em _))
  have V1 := Lib.hid (fun m hm => (h3 m hm).kept (only_below b1 none) (Classical.em _))
  have T1 := Lib.hid (hv.kept (only_below b1 none) (Classical.em _))
  have HR1 : Hid (acc.length + 1 ≤ maxLen) := Lib.hid (room63 (by omega))
  have HR2 : Hid ((acc.length + 1) * 48 ≤ 140737488355328) := Lib.hid (by omega)
  have z1 : g + 1 ≤ WA.heap.size := by have := b1.size; omega
  have HE := Lib.hid e
  have HX1 := Lib.hid X1
  have B1 := Lib.hid b1
  have HCM := Lib.hid hcm
  have HM := Lib.hid hm
  have AL : ∀ cs, Below WA.heap.size WA (WA.alloc (.cells cs 24)) := fun cs => (Below.refl _ _).alloc (Nat.le_refl _) _
  have HAL := Lib.hid AL
  clear hi hz0 hz1 hz2 h1 h2 h3 e c1 f1 b1 x1 X1 hcm hm hv hJ AL
  go_enter Try.func24, Try.ntmps24
  go_upto_region 1 with fail
  rw [← hWA]
  clear hWA
  go_wp2_with (at_builtin; go_must (refine wpList_append_apart rfl _ _ 25 rfl (g + 1) 24 i0 _ 3 48 Try.underlying25 HI.out H0.out H1.out H2.out rfl (by omega) (.slice A0 acc.length c0) acc.length _ rfl (O1.out.alloc _) _ _ 1 1 (cellsOm m) rfl (by rw [HCM.out]; exact Lies.lit WA 24 [.string ⟨t.o.key.toArray⟩, .bool t.o.del, .slice A t.o.val.length c]) (by rw [HCM.out]; rfl) (cellsOm_one _) HR1.out HR2.out (by simp; omega) ?_); intro v7 w7 o7 g7; obtain ⟨A7, c7, rfl, hc7, hm7⟩ := own_form o7; have F7 := JP.more HX1.out O1.out V1.out T1.out HM.out HE.out hl z1 g7 o7; have X7 := F7.1; have k0 : w7.cell? ⟨lb, 0, none⟩ = some (.slice A0 acc.length c0) := X7.cell 0; have k1 := X7.frozen 0; have F8 := Lib.hid F7.2; clear F7 X7 g7 o7)
  go_end0
  exact ⟨rfl, F8.out.1, (Bx.low (B1.out.mono (by omega))).trans F8.out.2⟩

/-! ### Places -/
def cellsPl (t : Tl) : List Value := [.string ⟨t.o.key.toArray⟩, .bool t.o.del, .int .i64 t.pos, .int .i64 t.o.val.length]
def cellsPls (l : List Tl) : List Value := l.flatMap cellsPl
theorem cellsPls_append (l m : List Tl) : cellsPls (l ++ m) = cellsPls l ++ cellsPls m := by simp [cellsPls]
theorem cellsPl_one (r : Tl) : ∀ u ∈ cellsPl r, u.oneCell' = true := by
  intro u hu
  simp only [cellsPl, List.mem_cons, List.not_mem_nil, or_false] at hu
  rcases hu with rfl | rfl | rfl | rfl <;> rfl
theorem pl_info : (Try.prog.info? 39).map (fun i => (i.zero, i.size, i.bytes)) = some (some (.agg #[.string ⟨#[]⟩, .bool false, .int .i64 0, .int .i64 0]), 4, 40) := by kernel_rfl
structure JQ (lb g : Nat) (ts : List Tl) (w : World) : Prop where
  ex : ∃ (A : Option Addr) (c : Nat), Whole w lb 34 #[.slice A ts.length c] ∧ w.ownsRow (g + 1) 39 4 (.slice A ts.length c) ts.length (cellsPls ts)
  lbg : lb < g
theorem JQ.grown {lb g : Nat} {ts : List Tl} {w w' : World} (h : JQ lb g ts w) (hg : w.grownBy w' (some g)) : JQ lb g ts w' := by
  obtain ⟨A, c, h1, h2⟩ := h.ex
  have hl := h.lbg
  refine ⟨⟨A, c, h1.grown hg (by intro e; injection e; omega), h2.kept hg ?_⟩, hl⟩
  rcases hv : (Value.slice A ts.length c).ownBlock with _ | k
  · exact .inl rfl
  · have := h2.lt k hv
    exact .inr (by intro e; injection e; omega)
theorem JQ.start {lb g : Nat} {w : World} (h : Whole w lb 34 #[.slice none 0 0]) (hl : lb < g) : JQ lb g [] w := ⟨⟨none, 0, h, World.ownsRow_nil _ _ _ _⟩, hl⟩
/-- a place more -/
theorem JQ.more {lb g : Nat} {ts : List Tl} {t : Tl} {A0 A7 : Option Addr} {c0 c7 : Nat} {WA w7 : World} {o : Obj} (hx : Whole WA lb 34 #[.slice A0 ts.length c0]) (hO : WA.ownsRow (g + 1) 39 4 (.slice A0 ts.length c0) ts.length (cellsPls ts))
    (hl : lb < g) (hz : g + 1 ≤ WA.heap.size)
    (hg : (WA.alloc o).grownBy w7 (Value.slice A0 ts.length c0).ownBlock) (ho : w7.ownsRow (g + 1) 39 4 (.slice A7 (ts.length + 1) c7) (ts.length + 1) (cellsPls ts ++ cellsPl t)) :
    Whole w7 lb 34 #[.slice A0 ts.length c0] ∧ JQ lb g (ts ++ [t]) (w7.setCell ⟨lb, 0, none⟩ (.slice A7 (ts.length + 1) c7)) ∧ Bx g lb WA (w7.setCell ⟨lb, 0, none⟩ (.slice A7 (ts.length + 1) c7)) := by
  have b1 : Below WA.heap.size WA (WA.alloc o) := (Below.refl _ _).alloc (Nat.le_refl _) _
  have hO1 := hO.kept (only_below b1 none) (Classical.em _)
  have b2 : Below (g + 1) (WA.alloc o) w7 := below_grown hO1 hg (by simp; omega)
  have b3 : Below (g + 1) WA w7 := (b1.mono hz).trans b2
  have hx7 := hx.below b3 (by omega)
  refine ⟨hx7, ⟨⟨A7, c7, ?_, ?_⟩, hl⟩, Bx.of b3 (by omega) 0 _⟩
  · rw [List.length_append]
    exact hx7.put 0 _
  · rw [List.length_append, cellsPls_append]
    refine own_set ?_ (by omega)
    simpa [cellsPls] using ho
end Go.Proofs.Ytflbjmpbkcjdhaa
