/- Contracts of package node: Parse. -/
import Derived.Test.YtdjkkppefgppmaaNodeF
import Derived.Test.YtdjkkppefgppmaaStep
import Derived.Deep.DeepCutAuto
import Derived.Deep.DeepMust
namespace Go.Proofs.Ytdjkkppefgppmaa
open Go.RowKit
set_option maxRecDepth 100000
set_option linter.unusedSimpArgs false
set_option linter.unusedVariables false

theorem rw_info : (Try.prog.info? 23).map (fun i => (i.zero, i.size, i.bytes)) = some (some (.agg #[.string ⟨#[]⟩, .string ⟨#[]⟩, .int .i64 0]), 3, 40) := by kernel_rfl

/-- what is answered: a node and its rows, or none -/
def NodeIs (r : Option (Bool × List Rw)) (w : World) (e : Ending) (w' : World) : Prop :=
  Below w.heap.size w w' ∧ match r with
  | none => e = .returned (.tuple #[.agg #[.bool false, .slice none 0 0], .bool false])
  | some (leaf, l) => ∃ A c, e = .returned (.tuple #[.agg #[.bool leaf, .slice A l.length c], .bool true]) ∧ w'.ownsRow w.heap.size 23 3 (.slice A l.length c) l.length (cellsRws l)
theorem NodeIs.no {r : Option (Bool × List Rw)} {w w' : World} (h : r = none) (hb : Below w.heap.size w w') : NodeIs r w (.returned (.tuple #[.agg #[.bool false, .slice none 0 0], .bool false])) w' := by
  subst h
  exact ⟨hb, rfl⟩
theorem NodeIs.yes {r : Option (Bool × List Rw)} {leaf : Bool} {l : List Rw} {A : Option Addr} {c : Nat} {w w' : World} (h : r = some (leaf, l)) (hb : Below w.heap.size w w') (ho : w'.ownsRow w.heap.size 23 3 (.slice A l.length c) l.length (cellsRws l)) :
    NodeIs r w (.returned (.tuple #[.agg #[.bool leaf, .slice A l.length c], .bool true])) w' := by
  subst h
  exact ⟨hb, A, c, rfl, ho⟩

/-- where the walk of Parse stands: the rows so far, what is left -/
structure PAt (w wr : World) (g m : Nat) (leaf : Bool) (tot : List Rw × List UInt8 × Bool) (cnt : Nat) (rows : List Rw) (v : Value) (l : List UInt8) (bad : Bool) : Prop where
  inn : InAt wr g l bad
  box : Whole wr m 26 #[.bool leaf, v]
  own : wr.ownsRow (m + 1) 23 3 v rows.length (cellsRws rows)
  bel : Below w.heap.size w wr
  res : Whole wr w.heap.size 26 #[.bool false, .slice none 0 0]
  left : tot = (rows ++ (rowsP leaf cnt l bad).1, (rowsP leaf cnt l bad).2)
  g0 : w.heap.size < g
  gm : g < m
  few : rows.length + cnt ≤ 65535
  len : l.length ≤ 140737488355328
  small : ∀ r ∈ rows, r.key.length ≤ 255 ∧ r.val.length ≤ 255

theorem PAt.drew {w wr : World} {g m : Nat} {leaf : Bool} {tot : List Rw × List UInt8 × Bool} {cnt : Nat} {rows : List Rw} {v : Value} {l : List UInt8} {bad : Bool} (h : PAt w wr g m leaf tot cnt rows v l bad) : PAt w wr.drew g m leaf tot cnt rows v l bad where
  inn := h.inn
  box := h.box
  own := h.own
  bel := h.bel.drew
  res := h.res
  left := h.left
  g0 := h.g0
  gm := h.gm
  few := h.few
  len := h.len
  small := h.small
theorem PAt.fewR {w wr : World} {g m : Nat} {leaf : Bool} {tot : List Rw × List UInt8 × Bool} {cnt : Nat} {rows : List Rw} {v : Value} {l : List UInt8} {bad : Bool} (h : PAt w wr g m leaf tot cnt rows v l bad) : Few rows :=
  ⟨by have := h.few; omega, fun r hr => by have := h.small r hr; omega⟩
theorem own_set {w : World} {base n i : Nat} {e : TypeId} {size k : Nat} {v u : Value} {xs : List Value} (h : w.ownsRow base e size v k xs) (hn : n < base) : (w.setCell ⟨n, i, none⟩ u).ownsRow base e size v k xs := by
  refine h.kept (only_set (only_refl w (some n)) i u) ?_
  rcases hv : v.ownBlock with _ | q
  · exact .inl rfl
  · have := h.lt q hv
    exact .inr (by intro e; injection e; omega)
theorem own_set2 {w : World} {base n i j : Nat} {e : TypeId} {size k : Nat} {v u u' : Value} {xs : List Value} (h : w.ownsRow base e size v k xs) (hn : n < base) : ((w.setCell ⟨n, i, none⟩ u).setCell ⟨n, j, none⟩ u').ownsRow base e size v k xs := own_set (own_set h hn) hn
/-- the rest was read -/
structure PRest (w w5 : World) (m : Nat) (leaf : Bool) (rows : List Rw) (v : Value) : Prop where
  box : Whole w5 m 26 #[.bool leaf, v]
  own : w5.ownsRow (m + 1) 23 3 v rows.length (cellsRws rows)
  bel : Below w.heap.size w w5
  res : Whole w5 w.heap.size 26 #[.bool false, .slice none 0 0]
theorem PAt.rest {w wr w5 : World} {g m : Nat} {leaf : Bool} {tot : List Rw × List UInt8 × Bool} {cnt : Nat} {rows : List Rw} {v : Value} {l : List UInt8} {bad : Bool} (h : PAt w wr g m leaf tot cnt rows v l bad)
    (hg : wr.grownBy w5 (some g)) : PRest w w5 m leaf rows v where
  box := h.box.grown hg (by intro e; injection e; have := h.gm; omega)
  own := h.own.kept hg (by
    rcases hv : v.ownBlock with _ | k
    · exact .inl rfl
    · have := h.own.lt k hv
      have := h.gm
      exact .inr (by intro e; injection e; omega))
  bel := h.bel.trans (below_only hg (by have := h.g0; omega) h.bel.size)
  res := h.res.grown hg (by intro e; injection e; have := h.g0; omega)
/-- a row was read -/
structure PRow (w wr w5 : World) (g m : Nat) (leaf : Bool) (rows : List Rw) (v : Value) (l : List UInt8) : Prop where
  inn : InAt w5 g (rowRest leaf l) (rowShort leaf l)
  box : Whole w5 m 26 #[.bool leaf, v]
  own : w5.ownsRow (m + 1) 23 3 v rows.length (cellsRws rows)
  bel : Below w.heap.size w w5
  res : Whole w5 w.heap.size 26 #[.bool false, .slice none 0 0]
theorem PAt.read {w wr w5 : World} {g m : Nat} {leaf : Bool} {tot : List Rw × List UInt8 × Bool} {cnt : Nat} {rows : List Rw} {v : Value} {l : List UInt8} (h : PAt w wr g m leaf tot cnt rows v l false)
    (hi : InAt w5 g (rowRest leaf l) (false || rowShort leaf l)) (hg : wr.grownBy w5 (some g)) : PRow w wr w5 g m leaf rows v l where
  inn := by rwa [Bool.false_or] at hi
  box := h.box.grown hg (by intro e; injection e; have := h.gm; omega)
  own := h.own.kept hg (by
    rcases hv : v.ownBlock with _ | k
    · exact .inl rfl
    · have := h.own.lt k hv
      have := h.gm
      exact .inr (by intro e; injection e; omega))
  bel := h.bel.trans (below_only hg (by have := h.g0; omega) h.bel.size)
  res := h.res.grown hg (by intro e; injection e; have := h.g0; omega)
theorem cellsRw_one (r : Rw) : ∀ u ∈ cellsRw r, u.oneCell' = true := by
  intro u hu
  simp only [cellsRw, List.mem_cons, List.not_mem_nil, or_false] at hu
  rcases hu with rfl | rfl | rfl <;> rfl
theorem PRow.room {w wr w5 : World} {g m : Nat} {leaf : Bool} {rows : List Rw} {v : Value} {l : List UInt8} {o : Obj} (h : PRow w wr w5 g m leaf rows v l) : m + 1 ≤ (w5.alloc o).heap.size := by
  have := h.box.lt
  simp
  omega
/-- the row was appended -/
structure PNew (w w7 : World) (g m : Nat) (leaf : Bool) (rows : List Rw) (v v7 : Value) (l : List UInt8) : Prop where
  inn : InAt w7 g (rowRest leaf l) (rowShort leaf l)
  box : Whole w7 m 26 #[.bool leaf, v]
  own : w7.ownsRow (m + 1) 23 3 v7 (rows ++ [rowP leaf l]).length (cellsRws (rows ++ [rowP leaf l]))
  bel : Below w.heap.size w w7
  res : Whole w7 w.heap.size 26 #[.bool false, .slice none 0 0]
theorem PRow.appended {w wr w5 w7 : World} {g m : Nat} {leaf : Bool} {rows : List Rw} {v v7 : Value} {l : List UInt8} {o : Obj} (h : PRow w wr w5 g m leaf rows v l) (hg : g < m) (hgw : w.heap.size < g)
    (ho : w7.ownsRow (m + 1) 23 3 v7 (rows.length + 1) (cellsRws rows ++ cellsRw (rowP leaf l))) (hb : Below (m + 1) (w5.alloc o) w7) : PNew w w7 g m leaf rows v v7 l := by
  have hm := h.box.lt
  have b1 : Below (m + 1) w5 w7 := (((Below.refl (m + 1) w5).alloc (by omega) o).trans hb)
  refine ⟨h.inn.below b1 (by omega), h.box.below b1 (by omega), ?_, h.bel.trans (b1.mono (by omega)), h.res.below b1 (by omega)⟩
  rw [List.length_append, cellsRws_append]
  simpa [cellsRws] using ho
theorem PNew.cells {w w5 : World} {g m : Nat} {leaf : Bool} {rows : List Rw} {v v7 : Value} {l : List UInt8} (h : PNew w w5 g m leaf rows v v7 l) : w5.cell? ⟨m, 0, none⟩ = some (.bool leaf) ∧ w5.cell? ⟨m, 1, none⟩ = some v ∧ w5.frozen? ⟨m, 1, none⟩ = false := ⟨h.box.cell 0, h.box.cell 1, h.box.frozen 1⟩
theorem PRow.cells {w wr w5 : World} {g m : Nat} {leaf : Bool} {rows : List Rw} {v : Value} {l : List UInt8} (h : PRow w wr w5 g m leaf rows v l) : w5.cell? ⟨m, 0, none⟩ = some (.bool leaf) ∧ w5.cell? ⟨m, 1, none⟩ = some v := ⟨h.box.cell 0, h.box.cell 1⟩

theorem PAt.next {w wr w7 : World} {g m : Nat} {leaf : Bool} {tot : List Rw × List UInt8 × Bool} {cnt : Nat} {rows : List Rw} {v v7 : Value} {l : List UInt8} (h : PAt w wr g m leaf tot (cnt + 1) rows v l false)
    (q : PNew w w7 g m leaf rows v v7 l) : PAt w (w7.setCell ⟨m, 1, none⟩ v7) g m leaf tot cnt (rows ++ [rowP leaf l]) v7 (rowRest leaf l) (rowShort leaf l) where
  inn := q.inn.grown_new h.gm
  box := q.box.put 1 v7
  own := own_set q.own (by omega)
  bel := q.bel.setCell (by have := h.g0; have := h.gm; simp; omega) _
  res := q.res.other (by have := h.g0; have := h.gm; omega)
  left := by rw [h.left, rowsP]; simp
  g0 := h.g0
  gm := h.gm
  few := by rw [List.length_append]; have := h.few; simp; omega
  len := Nat.le_trans (by
    cases leaf
    · exact Nat.le_trans (rst_sub _ _) (txtRest_sub _ _)
    · exact Nat.le_trans (txtRest_sub _ _) (txtRest_sub _ _)) h.len
  small := by
    intro r hr
    rcases List.mem_append.1 hr with hr | hr
    · exact h.small r hr
    · simp only [List.mem_cons, List.not_mem_nil, or_false] at hr
      subst hr
      exact rowP_le leaf l

set_option maxHeartbeats 1000000 in
theorem nparse_any (b : List UInt8) (A : Option Addr) (c B : Nat) (w : World) (hl : Lies w B A (B8 b)) (hB : B ≤ w.heap.size) (hs : b.length ≤ 140737488355328) :
    Calls Try.prog 15 #[.slice A b.length c] w (NodeIs (nodeP b) w) := by
  obtain ⟨i0, hi, hz0, hz1, hz2⟩ := info_parts rw_info
  have HI := Lib.hid hi
  have H0 := Lib.hid hz0
  have H1 := Lib.hid hz1
  have H2 := Lib.hid hz2
  have hb0 := (Below.refl w.heap.size w).alloc (Nat.le_refl _) (.cells #[.bool false, .slice none 0 0] 26)
  have BX := Lib.hid hb0
  have WX := Lib.hid (Whole.new w 26 #[.bool false, .slice none 0 0])
  have HL := Lib.hid hl
  have hk0 : nat (tk 1 b) < 256 := by have h1 := nat_lt (tk 1 b); have h2 := tk_le 1 b; exact Nat.lt_of_lt_of_le h1 (Nat.pow_le_pow_right (by omega) h2)
  obtain ⟨k, hk⟩ : ∃ k, k = nat (tk 1 b) := ⟨_, rfl⟩
  obtain ⟨b1, hb1⟩ : ∃ b1, b1 = rst 1 b := ⟨_, rfl⟩
  obtain ⟨d1, hd1⟩ : ∃ d1, d1 = short 1 b := ⟨_, rfl⟩
  have HK := Lib.hid hk
  have HB1 := Lib.hid hb1
  have HD1 := Lib.hid hd1
  rw [← hk] at hk0
  clear hb0 hl hi hz0 hz1 hz2 hk hb1 hd1
  go_enter Try.func15, Try.ntmps15
  go_wp2_with fail
  refine (from_any A c b B _ (HL.out.below (BX.out.mono hB)) (by simp; omega) hs).mono ?_
  rintro e w1 ⟨g, hg, rfl, i1, bl1⟩
  have hg0 : w.heap.size < g := by simp at hg; omega
  have B1 := Lib.hid (BX.out.trans (bl1.mono (by simp)))
  have X1 := Lib.hid (WX.out.below bl1 (by simp))
  have I1 := Lib.hid i1
  clear i1 bl1 hg
  go_wp2_with fail
  refine (in_int g 1 b false _ I1.out).mono ?_
  rw [show wid 1 = 1 from rfl]
  rintro e w2 ⟨rfl, i2, g2⟩
  rw [← HK.out]
  rw [← HB1.out, Bool.false_or, ← HD1.out] at i2
  have B2 := Lib.hid (B1.out.trans (below_only g2 (show w.heap.size ≤ g by omega) B1.out.size))
  have X2 := X1.out.grown g2 (by intro e; injection e; omega)
  have z2 : g < w2.heap.size := i2.lt
  have x0 : w2.cell? ⟨w.heap.size, 0, none⟩ = some (.bool false) := X2.cell 0
  have x1 : w2.cell? ⟨w.heap.size, 1, none⟩ = some (.slice none 0 0) := X2.cell 1
  have e0 := X2.frozen 0
  have e1 := X2.frozen 1
  have XX2 := Lib.hid X2
  have I2 := Lib.hid i2
  clear i2 g2 X2
  by_cases hk12 : k ≠ 1 ∧ k ≠ 2
  · have hP : nodeP b = none := by unfold nodeP; rw [if_pos (by rw [← HK.out]; exact hk12)]
    have HP := Lib.hid hP
    have q1 : ((k : Int) != 1) = true := bne_iff_ne.2 (by omega)
    have q2 : ((k : Int) != 2) = true := bne_iff_ne.2 (by omega)
    clear hP
    go_wp2_with fail
    have p1 := (XX2.out.put 0 (.bool false)).put 1 (.slice none 0 0)
    have y0 := p1.cell 0
    have y1 := p1.cell 1
    exact bodyPost_ret (v := .tuple #[.agg #[.bool false, .slice none 0 0], .bool false]) (by simp [results, Try.results15, go_sem, y0, y1]) rfl (NodeIs.no HP.out ((B2.out.setCell (Nat.le_refl _) _).setCell (Nat.le_refl _) _))
  · obtain rfl | rfl : k = 1 ∨ k = 2 := by omega
    · have hP : nodeP b = (let x := rowsP true (nat (tk 2 b1)) (rst 2 b1) (d1 || short 2 b1); if (x.2.2 || !blankB x.2.1) || !okN true x.1 then none else some (true, x.1)) := by
        unfold nodeP
        rw [← HK.out, ← HB1.out, ← HD1.out]
        rfl
      have HP := Lib.hid hP
      have Y2 := Whole.new w2 26 #[.bool true, .slice none 0 0]
      have I2' := Lib.hid (I2.out.below ((Below.refl _ w2).alloc (Nat.le_refl _) (.cells #[.bool true, .slice none 0 0] 26)) z2)
      have X2' := Lib.hid (XX2.out.alloc (.cells #[.bool true, .slice none 0 0] 26))
      have B2' := Lib.hid (B2.out.alloc B2.out.size (.cells #[.bool true, .slice none 0 0] 26))
      have YY2 := Lib.hid Y2
      clear hP Y2 x0 x1
      go_wp2_with fail
      refine (in_int g 2 b1 d1 _ I2'.out).mono ?_
      rw [show wid 2 = 2 from rfl]
      rintro e w3 ⟨rfl, i3, g3⟩
      have hm3 : w2.heap.size < w3.heap.size := by have := g3.size; simp at this; omega
      have hc0 : nat (tk 2 b1) < 65536 := by have h1 := nat_lt (tk 2 b1); have h2 := tk_le 2 b1; exact Nat.lt_of_lt_of_le h1 (Nat.pow_le_pow_right (by omega) h2)
      have B3 := B2'.out.trans (below_only g3 (show w.heap.size ≤ g by omega) B2'.out.size)
      obtain ⟨tot, htot⟩ : ∃ tot, tot = rowsP true (nat (tk 2 b1)) (rst 2 b1) (d1 || short 2 b1) := ⟨_, rfl⟩
      have P3 : PAt w w3 g w2.heap.size true tot (nat (tk 2 b1)) [] (.slice none 0 0) (rst 2 b1) (d1 || short 2 b1) :=
        ⟨i3, YY2.out.grown g3 (by intro e; injection e; omega), World.ownsRow_nil _ _ _ _, B3, X2'.out.grown g3 (by intro e; injection e; omega), by rw [htot]; rfl, hg0, z2, by simp; omega, Nat.le_trans (rst_sub _ _) (by rw [HB1.out]; exact Nat.le_trans (rst_sub _ _) hs), fun r hr => by cases hr⟩
      have PX := Lib.hid P3
      have hP2 : nodeP b = if (tot.2.2 || !blankB tot.2.1) || !okN true tot.1 then none else some (true, tot.1) := by rw [HP.out, ← htot]
      have HP2 := Lib.hid hP2
      generalize nat (tk 2 b1) = cn at *
      generalize (d1 || short 2 b1) = d3 at *
      generalize rst 2 b1 = b3 at *
      obtain ⟨m, hm⟩ : ∃ m, m = w2.heap.size := ⟨_, rfl⟩
      rw [← hm] at PX hm3 z2
      rw [← hm]
      have HM := Lib.hid hm
      clear i3 g3 B3 htot P3 hP2 hm
      go_wp2_with fail
      go_loopw [7] (fun cv wr => ∃ (cnt : Nat) (rows : List Rw) (v : Value) (l : List UInt8) (bad : Bool), cv = .int .u64 cnt ∧ PAt w wr g m true tot cnt rows v l bad) (fun cv _ => (intOf cv).toNat)
      case atStart => exact ⟨cn, [], _, b3, d3, rfl, PX.out⟩
      case round =>
        obtain ⟨cnt, rows, v, l, bad, rfl, hp⟩ := hrel
        have HPA := Lib.hid hp
        have hcl : cnt ≤ 65535 := by have := hp.few; omega
        have HIN := Lib.hid hp.inn
        clear hp
        rcases Nat.eq_zero_or_pos cnt with rfl | hpos
        · have htt := HPA.out.left
          rw [rowsP, List.append_nil] at htt
          cases bad with
          | true =>
            have hbad : nodeP b = none := by rw [HP2.out, htt]; simp
            have HBD := Lib.hid hbad
            have r0 : wr.cell? ⟨w.heap.size, 0, none⟩ = some (.bool false) := HPA.out.res.cell 0
            have r1 : wr.cell? ⟨w.heap.size, 1, none⟩ = some (.slice none 0 0) := HPA.out.res.cell 1
            have t0 := HPA.out.res.frozen 0
            have t1 := HPA.out.res.frozen 1
            clear hbad htt
            go_wp2_with (first | (go_at_call 28; refine (in_ok g l _ _ HIN.out).mono ?_; rintro e w' ⟨rfl, rfl⟩))
            have p1 := (HPA.out.res.put 0 (.bool false)).put 1 (.slice none 0 0)
            have y0 := p1.cell 0
            have y1 := p1.cell 1
            exact bodyPost_ret (v := .tuple #[.agg #[.bool false, .slice none 0 0], .bool false]) (by simp [results, Try.results15, go_sem, y0, y1]) rfl (NodeIs.no HBD.out ((HPA.out.bel.setCell (Nat.le_refl _) _).setCell (Nat.le_refl _) _))
          | false =>
            obtain ⟨A5, c5, rfl, hc5, hm5⟩ := own_form HPA.out.own
            have hyes : nodeP b = if (!blankB l) || !okN true rows then none else some (true, rows) := by rw [HP2.out, htt]; simp only [Bool.false_or]
            have HY := Lib.hid hyes
            clear hyes htt
            go_wp2_with fail
            refine (in_ok g l false _ HIN.out).mono ?_
            rintro e w' ⟨rfl, rfl⟩
            go_wp2_with fail
            refine (in_rest g l false _ HIN.out (by have := HPA.out.len; omega)).mono ?_
            rintro e w5 ⟨V5, rfl, o5, i5, g5⟩
            obtain ⟨A6, c6, rfl, hc6, hm6⟩ := own_form o5
            have Q5 := HPA.out.rest g5
            have QX := Lib.hid Q5
            have L6 := Lib.hid (Lies.own o5 (Nat.le_refl _))
            have r0 : w5.cell? ⟨w.heap.size, 0, none⟩ = some (.bool false) := Q5.res.cell 0
            have r1 : w5.cell? ⟨w.heap.size, 1, none⟩ = some (.slice none 0 0) := Q5.res.cell 1
            have t0 := Q5.res.frozen 0
            have t1 := Q5.res.frozen 1
            have m0 : w5.cell? ⟨m, 0, none⟩ = some (.bool true) := Q5.box.cell 0
            have m1 : w5.cell? ⟨m, 1, none⟩ = some (.slice A5 rows.length c5) := Q5.box.cell 1
            clear o5 i5 g5 Q5
            go_wp2_with fail
            refine (blank_any A6 c6 _ l _ L6.out (by have := HPA.out.len; omega)).mono ?_
            rintro e w6 ⟨rfl, rfl⟩
            cases hbl : blankB l with
            | false =>
              have HN := Lib.hid (show nodeP b = none by rw [HY.out, hbl]; rfl)
              go_wp2_with fail
              have p1 := (QX.out.res.put 0 (.bool false)).put 1 (.slice none 0 0)
              have y0 := p1.cell 0
              have y1 := p1.cell 1
              exact bodyPost_ret (v := .tuple #[.agg #[.bool false, .slice none 0 0], .bool false]) (by simp [results, Try.results15, go_sem, y0, y1]) rfl (NodeIs.no HN.out ((QX.out.bel.setCell (Nat.le_refl _) _).setCell (Nat.le_refl _) _))
            | true =>
              have HY2 := Lib.hid (show nodeP b = if !okN true rows then none else some (true, rows) by rw [HY.out, hbl]; rfl)
              go_wp2_with fail
              refine (ok_any true rows A5 c5 _ _ (own_rows QX.out.own) (Nat.le_refl _) HPA.out.fewR).mono ?_
              rintro e w7 ⟨rfl, hb7⟩
              have R7 := QX.out.res.below hb7 QX.out.res.lt
              have M7 := QX.out.box.below hb7 QX.out.box.lt
              have B7 := Lib.hid (QX.out.bel.trans (hb7.mono QX.out.bel.size))
              have O7 := Lib.hid (QX.out.own.kept (only_below hb7 none) (Classical.em _))
              have r0 : w7.cell? ⟨w.heap.size, 0, none⟩ = some (.bool false) := R7.cell 0
              have r1 : w7.cell? ⟨w.heap.size, 1, none⟩ = some (.slice none 0 0) := R7.cell 1
              have t0 := R7.frozen 0
              have t1 := R7.frozen 1
              have m0 : w7.cell? ⟨m, 0, none⟩ = some (.bool true) := M7.cell 0
              have m1 : w7.cell? ⟨m, 1, none⟩ = some (.slice A5 rows.length c5) := M7.cell 1
              have RX7 := Lib.hid R7
              clear hb7 R7 M7
              cases hok : okN true rows with
              | false =>
                have HN := Lib.hid (show nodeP b = none by rw [HY2.out, hok]; rfl)
                go_wp2_with fail
                have p1 := (RX7.out.put 0 (.bool false)).put 1 (.slice none 0 0)
                have y0 := p1.cell 0
                have y1 := p1.cell 1
                exact bodyPost_ret (v := .tuple #[.agg #[.bool false, .slice none 0 0], .bool false]) (by simp [results, Try.results15, go_sem, y0, y1]) rfl (NodeIs.no HN.out ((B7.out.setCell (Nat.le_refl _) _).setCell (Nat.le_refl _) _))
              | true =>
                have HN := Lib.hid (show nodeP b = some (true, rows) by rw [HY2.out, hok]; rfl)
                have hgm := HPA.out.gm
                have hg0' := HPA.out.g0
                go_wp2_with fail
                have p1 := (RX7.out.put 0 (.bool true)).put 1 (.slice A5 rows.length c5)
                have y0 := p1.cell 0
                have y1 := p1.cell 1
                refine bodyPost_ret (v := .tuple #[.agg #[.bool true, .slice A5 rows.length c5], .bool true]) (by simp [results, Try.results15, go_sem, y0, y1]) rfl (NodeIs.yes HN.out ((B7.out.setCell (Nat.le_refl _) _).setCell (Nat.le_refl _) _) ?_)
                exact own_less (own_set2 O7.out (by omega)) (by omega)
        · cases bad with
          | true =>
            obtain ⟨cn', rfl⟩ : ∃ n, cnt = n + 1 := ⟨cnt - 1, by omega⟩
            have htt := HPA.out.left
            rw [rowsP, List.append_nil] at htt
            have hbad : nodeP b = none := by rw [HP2.out, htt]; simp
            have HBD := Lib.hid hbad
            have r0 : wr.cell? ⟨w.heap.size, 0, none⟩ = some (.bool false) := HPA.out.res.cell 0
            have r1 : wr.cell? ⟨w.heap.size, 1, none⟩ = some (.slice none 0 0) := HPA.out.res.cell 1
            have t0 := HPA.out.res.frozen 0
            have t1 := HPA.out.res.frozen 1
            clear hbad htt
            go_wp2_with (first | (go_at_call 28; refine (in_ok g l _ _ HIN.out).mono ?_; rintro e w' ⟨rfl, rfl⟩))
            have p1 := (HPA.out.res.put 0 (.bool false)).put 1 (.slice none 0 0)
            have y0 := p1.cell 0
            have y1 := p1.cell 1
            exact bodyPost_ret (v := .tuple #[.agg #[.bool false, .slice none 0 0], .bool false]) (by simp [results, Try.results15, go_sem, y0, y1]) rfl (NodeIs.no HBD.out ((HPA.out.bel.setCell (Nat.le_refl _) _).setCell (Nat.le_refl _) _))
          | false =>
            obtain ⟨cn', rfl⟩ : ∃ n, cnt = n + 1 := ⟨cnt - 1, by omega⟩
            obtain ⟨A5, c5, rfl, hc5, hm5⟩ := own_form HPA.out.own
            go_wp2_with fail
            refine (in_ok g l false _ HIN.out).mono ?_
            rintro e w' ⟨rfl, rfl⟩
            have m0 : wr.cell? ⟨m, 0, none⟩ = some (.bool true) := HPA.out.box.cell 0
            have m1 : wr.cell? ⟨m, 1, none⟩ = some (.slice A5 rows.length c5) := HPA.out.box.cell 1
            have HPD := Lib.hid HPA.out.drew
            have hfw := HPA.out.few
            have hr1 : rows.length + 1 ≤ maxLen := by unfold maxLen; omega
            have hr2 : (rows.length + 1) * 40 ≤ 140737488355328 := by omega
            have HR1 := Lib.hid hr1
            have HR2 := Lib.hid hr2
            have gm1 := HPA.out.gm
            have ff := HPA.out.box.frozen
            clear hr1 hr2
            have HID := Lib.hid HPD.out.inn
            go_upto_region 9 with fail
            refine wp_region_held_drew (S := (fun w' => w'.cell? ⟨m, 0, none⟩ = some (.bool true))) (by kernel_rfl) (HPD.out.box.cell 0) (fun hS0 => ?_)
            refine wpAnyH_take (i := 0) (oi := ⟨some 32, _, _, _, _, _⟩) (v := ?_) rfl (by kernel_rfl) (by kernel_rfl) (by kernel_rfl) (fun _ _ _ h => h) (Or.inl ⟨by rfl, ?_⟩) hS0 ?_
            rotate_left
            · (intro wS hSw; (try dsimp only at hSw); go_simp); all_goals (with_reducible rfl)
            try simp only [Act.put, List.setIfInBounds_toArray, List.set_cons_zero, List.set_cons_succ]
            refine wpAnyH_take (i := 2) (oi := ⟨some 34, _, _, _, _, _⟩) (v := ?_) rfl (by kernel_rfl) (by kernel_rfl) (by kernel_rfl) (fun _ _ _ h => h) (Or.inl ⟨by rfl, ?_⟩) hS0 ?_
            rotate_left
            · (intro wS hSw; (try dsimp only at hSw); go_simp); all_goals (with_reducible rfl)
            try simp only [Act.put, List.setIfInBounds_toArray, List.set_cons_zero, List.set_cons_succ]
            refine wpAnyH_take (i := 3) (oi := ⟨some 35, _, _, _, _, _⟩) (v := ?_) rfl (by kernel_rfl) (by kernel_rfl) (by kernel_rfl) (fun _ _ _ h => h) (Or.inl ⟨by rfl, ?_⟩) hS0 ?_
            rotate_left
            · (intro wS hSw; (try dsimp only at hSw); go_simp); all_goals (with_reducible rfl)
            try simp only [Act.put, List.setIfInBounds_toArray, List.set_cons_zero, List.set_cons_succ]
            refine wpAnyH_take (i := 4) (oi := ⟨some 36, _, _, _, _, _⟩) (v := ?_) rfl (by kernel_rfl) (by kernel_rfl) (by kernel_rfl) (fun _ _ _ h => h) (Or.inl ⟨by rfl, ?_⟩) hS0 ?_
            rotate_left
            · (intro wS hSw; (try dsimp only at hSw); go_simp); all_goals (with_reducible rfl)
            try simp only [Act.put, List.setIfInBounds_toArray, List.set_cons_zero, List.set_cons_succ]
            refine wpAnyH_ready (rs := [1, 5]) (by kernel_rfl) (by simp) ?_
            refine (AllReadyH.cons (o := ⟨some 33, _, _, _, _, _⟩) rfl (fun K hK => ?_) (AllReadyH.cons (o := ⟨some 37, _, _, _, _, _⟩) rfl (fun K hK => ?_) AllReadyH.nil))
            · have m1 := HPD.out.box.cell 1
              go_simp
              go_wp2_with fail
              refine hK.out _ _ (HPD.out.box.cell 0) (fun hS1 => ?_)
              clear hK K
              try simp only [Act.put, List.setIfInBounds_toArray, List.set_cons_zero, List.set_cons_succ]
              refine wpAnyH_ready (rs := [5]) (by kernel_rfl) (by simp) ?_
              refine (AllReadyH.cons (o := ⟨some 37, _, _, _, _, _⟩) rfl (fun K hK => ?_) AllReadyH.nil)
              go_simp
              refine (parseRow_any g true l false _ HID.out).mono ?_
              rintro e w5 ⟨rfl, i5, g5⟩
              have Q5 := HPD.out.read i5 g5
              have QX := Lib.hid Q5
              have m0 := Q5.cells.1
              clear i5 g5 Q5
              go_wp2_with fail
              refine hK.out _ _ (QX.out.cells.1) (fun hS2 => ?_)
              clear hK K
              try simp only [Act.put, List.setIfInBounds_toArray, List.set_cons_zero, List.set_cons_succ]
              refine wpAnyH_ready (rs := [6]) (by kernel_rfl) (by simp) ?_
              refine (AllReadyH.cons (o := ⟨some 38, _, _, _, _, _⟩) rfl (fun K hK => ?_) AllReadyH.nil)
              go_simp
              go_wp2_with fail
              refine hK.out _ _ ((QX.out.box.alloc _).cell 0) (fun hS3 => ?_)
              clear hK K
              try simp only [Act.put, List.setIfInBounds_toArray, List.set_cons_zero, List.set_cons_succ]
              refine wpAnyH_ready (rs := [7]) (by kernel_rfl) (by simp) ?_
              refine (AllReadyH.cons (o := ⟨some 39, _, _, _, _, _⟩) rfl (fun K hK => ?_) AllReadyH.nil)
              refine step_append_cells (by rfl) _ _ 24 (by rfl) (m + 1) 23 i0 _ 3 40 Try.underlying24 HI.out H0.out H1.out H2.out rfl (by omega) _ rows.length _ (by rfl) (QX.out.own.alloc _) _ _ 1 1 (cellsRw (rowP true l)) (by rfl) (Lies.lit w5 23 (cellsRw (rowP true l))) rfl (cellsRw_one _) HR1.out HR2.out (PRow.room QX.out) ?_
              intro v7 w7 o7 b7
              obtain ⟨A7, c7, rfl, hc7, hm7⟩ := own_form o7
              have P7 := QX.out.appended gm1 hg0 o7 b7
              have PX7 := Lib.hid P7
              clear o7 b7 P7
              refine hK.out _ _ (PX7.out.cells.1) (fun hS4 => ?_)
              clear hK K
              try simp only [Act.put, List.setIfInBounds_toArray, List.set_cons_zero, List.set_cons_succ]
              refine wpAnyH_take (i := 8) (oi := ⟨some 40, _, _, _, _, _⟩) (v := ?_) rfl (by kernel_rfl) (by kernel_rfl) (by kernel_rfl) (fun _ _ _ h => h) (Or.inl ⟨by rfl, ?_⟩) hS4 ?_
              rotate_left
              · (intro wS hSw; (try dsimp only at hSw); go_simp); all_goals (with_reducible rfl)
              try simp only [Act.put, List.setIfInBounds_toArray, List.set_cons_zero, List.set_cons_succ]
              refine wpAnyH_ready (rs := [9]) (by kernel_rfl) (by simp) ?_
              refine (AllReadyH.cons (o := ⟨none, _, _, _, _, _⟩) rfl (fun K hK => ?_) AllReadyH.nil)
              obtain ⟨m0, m1, tf⟩ := PX7.out.cells
              go_simp
              go_wp2_with fail
              refine hK.out _ _ ((Whole.put PX7.out.box 1 _).cell 0) (fun hS5 => ?_)
              clear hK K
              try simp only [Act.put, List.setIfInBounds_toArray, List.set_cons_zero, List.set_cons_succ]
              refine wpAnyH_done (by kernel_rfl) ?_ _
              have HX := Lib.hid (HPA.out.next PX7.out)
              clear PX7
              go_wp2_with fail
              go_roundw
              case rel => exact ⟨cn', _, _, _, _, by go_num, HX.out⟩
              case measure => simp [intOf]
            · go_simp
              refine (parseRow_any g true l false _ HID.out).mono ?_
              rintro e w5 ⟨rfl, i5, g5⟩
              have Q5 := HPD.out.read i5 g5
              have QX := Lib.hid Q5
              have m0 := Q5.cells.1
              clear i5 g5 Q5
              go_wp2_with fail
              refine hK.out _ _ (QX.out.cells.1) (fun hS6 => ?_)
              clear hK K
              try simp only [Act.put, List.setIfInBounds_toArray, List.set_cons_zero, List.set_cons_succ]
              refine wpAnyH_ready (rs := [1, 6]) (by kernel_rfl) (by simp) ?_
              refine (AllReadyH.cons (o := ⟨some 33, _, _, _, _, _⟩) rfl (fun K hK => ?_) (AllReadyH.cons (o := ⟨some 38, _, _, _, _, _⟩) rfl (fun K hK => ?_) AllReadyH.nil))
              · have m1 := QX.out.cells.2
                go_simp
                go_wp2_with fail
                refine hK.out _ _ (QX.out.cells.1) (fun hS7 => ?_)
                clear hK K
                try simp only [Act.put, List.setIfInBounds_toArray, List.set_cons_zero, List.set_cons_succ]
                refine wpAnyH_ready (rs := [6]) (by kernel_rfl) (by simp) ?_
                refine (AllReadyH.cons (o := ⟨some 38, _, _, _, _, _⟩) rfl (fun K hK => ?_) AllReadyH.nil)
                go_simp
                go_wp2_with fail
                refine hK.out _ _ ((QX.out.box.alloc _).cell 0) (fun hS8 => ?_)
                clear hK K
                try simp only [Act.put, List.setIfInBounds_toArray, List.set_cons_zero, List.set_cons_succ]
                refine wpAnyH_ready (rs := [7]) (by kernel_rfl) (by simp) ?_
                refine (AllReadyH.cons (o := ⟨some 39, _, _, _, _, _⟩) rfl (fun K hK => ?_) AllReadyH.nil)
                refine step_append_cells (by rfl) _ _ 24 (by rfl) (m + 1) 23 i0 _ 3 40 Try.underlying24 HI.out H0.out H1.out H2.out rfl (by omega) _ rows.length _ (by rfl) (QX.out.own.alloc _) _ _ 1 1 (cellsRw (rowP true l)) (by rfl) (Lies.lit w5 23 (cellsRw (rowP true l))) rfl (cellsRw_one _) HR1.out HR2.out (PRow.room QX.out) ?_
                intro v7 w7 o7 b7
                obtain ⟨A7, c7, rfl, hc7, hm7⟩ := own_form o7
                have P7 := QX.out.appended gm1 hg0 o7 b7
                have PX7 := Lib.hid P7
                clear o7 b7 P7
                refine hK.out _ _ (PX7.out.cells.1) (fun hS9 => ?_)
                clear hK K
                try simp only [Act.put, List.setIfInBounds_toArray, List.set_cons_zero, List.set_cons_succ]
                refine wpAnyH_take (i := 8) (oi := ⟨some 40, _, _, _, _, _⟩) (v := ?_) rfl (by kernel_rfl) (by kernel_rfl) (by kernel_rfl) (fun _ _ _ h => h) (Or.inl ⟨by rfl, ?_⟩) hS9 ?_
                rotate_left
                · (intro wS hSw; (try dsimp only at hSw); go_simp); all_goals (with_reducible rfl)
                try simp only [Act.put, List.setIfInBounds_toArray, List.set_cons_zero, List.set_cons_succ]
                refine wpAnyH_ready (rs := [9]) (by kernel_rfl) (by simp) ?_
                refine (AllReadyH.cons (o := ⟨none, _, _, _, _, _⟩) rfl (fun K hK => ?_) AllReadyH.nil)
                obtain ⟨m0, m1, tf⟩ := PX7.out.cells
                go_simp
                go_wp2_with fail
                refine hK.out _ _ ((Whole.put PX7.out.box 1 _).cell 0) (fun hS10 => ?_)
                clear hK K
                try simp only [Act.put, List.setIfInBounds_toArray, List.set_cons_zero, List.set_cons_succ]
                refine wpAnyH_done (by kernel_rfl) ?_ _
                have HX := Lib.hid (HPA.out.next PX7.out)
                clear PX7
                go_wp2_with fail
                go_roundw
                case rel => exact ⟨cn', _, _, _, _, by go_num, HX.out⟩
                case measure => simp [intOf]
              · go_simp
                go_wp2_with fail
                refine hK.out _ _ ((QX.out.box.alloc _).cell 0) (fun hS11 => ?_)
                clear hK K
                try simp only [Act.put, List.setIfInBounds_toArray, List.set_cons_zero, List.set_cons_succ]
                refine wpAnyH_ready (rs := [1]) (by kernel_rfl) (by simp) ?_
                refine (AllReadyH.cons (o := ⟨some 33, _, _, _, _, _⟩) rfl (fun K hK => ?_) AllReadyH.nil)
                have m1 := QX.out.cells.2; have ml5 := QX.out.box.lt
                go_simp
                go_wp2_with fail
                refine hK.out _ _ ((QX.out.box.alloc _).cell 0) (fun hS12 => ?_)
                clear hK K
                try simp only [Act.put, List.setIfInBounds_toArray, List.set_cons_zero, List.set_cons_succ]
                refine wpAnyH_ready (rs := [7]) (by kernel_rfl) (by simp) ?_
                refine (AllReadyH.cons (o := ⟨some 39, _, _, _, _, _⟩) rfl (fun K hK => ?_) AllReadyH.nil)
                refine step_append_cells (by rfl) _ _ 24 (by rfl) (m + 1) 23 i0 _ 3 40 Try.underlying24 HI.out H0.out H1.out H2.out rfl (by omega) _ rows.length _ (by rfl) (QX.out.own.alloc _) _ _ 1 1 (cellsRw (rowP true l)) (by rfl) (Lies.lit w5 23 (cellsRw (rowP true l))) rfl (cellsRw_one _) HR1.out HR2.out (PRow.room QX.out) ?_
                intro v7 w7 o7 b7
                obtain ⟨A7, c7, rfl, hc7, hm7⟩ := own_form o7
                have P7 := QX.out.appended gm1 hg0 o7 b7
                have PX7 := Lib.hid P7
                clear o7 b7 P7
                refine hK.out _ _ (PX7.out.cells.1) (fun hS13 => ?_)
                clear hK K
                try simp only [Act.put, List.setIfInBounds_toArray, List.set_cons_zero, List.set_cons_succ]
                refine wpAnyH_take (i := 8) (oi := ⟨some 40, _, _, _, _, _⟩) (v := ?_) rfl (by kernel_rfl) (by kernel_rfl) (by kernel_rfl) (fun _ _ _ h => h) (Or.inl ⟨by rfl, ?_⟩) hS13 ?_
                rotate_left
                · (intro wS hSw; (try dsimp only at hSw); go_simp); all_goals (with_reducible rfl)
                try simp only [Act.put, List.setIfInBounds_toArray, List.set_cons_zero, List.set_cons_succ]
                refine wpAnyH_ready (rs := [9]) (by kernel_rfl) (by simp) ?_
                refine (AllReadyH.cons (o := ⟨none, _, _, _, _, _⟩) rfl (fun K hK => ?_) AllReadyH.nil)
                obtain ⟨m0, m1, tf⟩ := PX7.out.cells
                go_simp
                go_wp2_with fail
                refine hK.out _ _ ((Whole.put PX7.out.box 1 _).cell 0) (fun hS14 => ?_)
                clear hK K
                try simp only [Act.put, List.setIfInBounds_toArray, List.set_cons_zero, List.set_cons_succ]
                refine wpAnyH_done (by kernel_rfl) ?_ _
                have HX := Lib.hid (HPA.out.next PX7.out)
                clear PX7
                go_wp2_with fail
                go_roundw
                case rel => exact ⟨cn', _, _, _, _, by go_num, HX.out⟩
                case measure => simp [intOf]
    · have hP : nodeP b = (let x := rowsP false (nat (tk 2 b1)) (rst 2 b1) (d1 || short 2 b1); if (x.2.2 || !blankB x.2.1) || !okN false x.1 then none else some (false, x.1)) := by
        unfold nodeP
        rw [← HK.out, ← HB1.out, ← HD1.out]
        rfl
      have HP := Lib.hid hP
      have Y2 := Whole.new w2 26 #[.bool false, .slice none 0 0]
      have I2' := Lib.hid (I2.out.below ((Below.refl _ w2).alloc (Nat.le_refl _) (.cells #[.bool false, .slice none 0 0] 26)) z2)
      have X2' := Lib.hid (XX2.out.alloc (.cells #[.bool false, .slice none 0 0] 26))
      have B2' := Lib.hid (B2.out.alloc B2.out.size (.cells #[.bool false, .slice none 0 0] 26))
      have YY2 := Lib.hid Y2
      clear hP Y2 x0 x1
      go_wp2_with fail
      refine (in_int g 2 b1 d1 _ I2'.out).mono ?_
      rw [show wid 2 = 2 from rfl]
      rintro e w3 ⟨rfl, i3, g3⟩
      have hm3 : w2.heap.size < w3.heap.size := by have := g3.size; simp at this; omega
      have hc0 : nat (tk 2 b1) < 65536 := by have h1 := nat_lt (tk 2 b1); have h2 := tk_le 2 b1; exact Nat.lt_of_lt_of_le h1 (Nat.pow_le_pow_right (by omega) h2)
      have B3 := B2'.out.trans (below_only g3 (show w.heap.size ≤ g by omega) B2'.out.size)
      obtain ⟨tot, htot⟩ : ∃ tot, tot = rowsP false (nat (tk 2 b1)) (rst 2 b1) (d1 || short 2 b1) := ⟨_, rfl⟩
      have P3 : PAt w w3 g w2.heap.size false tot (nat (tk 2 b1)) [] (.slice none 0 0) (rst 2 b1) (d1 || short 2 b1) :=
        ⟨i3, YY2.out.grown g3 (by intro e; injection e; omega), World.ownsRow_nil _ _ _ _, B3, X2'.out.grown g3 (by intro e; injection e; omega), by rw [htot]; rfl, hg0, z2, by simp; omega, Nat.le_trans (rst_sub _ _) (by rw [HB1.out]; exact Nat.le_trans (rst_sub _ _) hs), fun r hr => by cases hr⟩
      have PX := Lib.hid P3
      have hP2 : nodeP b = if (tot.2.2 || !blankB tot.2.1) || !okN false tot.1 then none else some (false, tot.1) := by rw [HP.out, ← htot]
      have HP2 := Lib.hid hP2
      generalize nat (tk 2 b1) = cn at *
      generalize (d1 || short 2 b1) = d3 at *
      generalize rst 2 b1 = b3 at *
      obtain ⟨m, hm⟩ : ∃ m, m = w2.heap.size := ⟨_, rfl⟩
      rw [← hm] at PX hm3 z2
      rw [← hm]
      have HM := Lib.hid hm
      clear i3 g3 B3 htot P3 hP2 hm
      go_wp2_with fail
      go_loopw [7] (fun cv wr => ∃ (cnt : Nat) (rows : List Rw) (v : Value) (l : List UInt8) (bad : Bool), cv = .int .u64 cnt ∧ PAt w wr g m false tot cnt rows v l bad) (fun cv _ => (intOf cv).toNat)
      case atStart => exact ⟨cn, [], _, b3, d3, rfl, PX.out⟩
      case round =>
        obtain ⟨cnt, rows, v, l, bad, rfl, hp⟩ := hrel
        have HPA := Lib.hid hp
        have hcl : cnt ≤ 65535 := by have := hp.few; omega
        have HIN := Lib.hid hp.inn
        clear hp
        rcases Nat.eq_zero_or_pos cnt with rfl | hpos
        · have htt := HPA.out.left
          rw [rowsP, List.append_nil] at htt
          cases bad with
          | true =>
            have hbad : nodeP b = none := by rw [HP2.out, htt]; simp
            have HBD := Lib.hid hbad
            have r0 : wr.cell? ⟨w.heap.size, 0, none⟩ = some (.bool false) := HPA.out.res.cell 0
            have r1 : wr.cell? ⟨w.heap.size, 1, none⟩ = some (.slice none 0 0) := HPA.out.res.cell 1
            have t0 := HPA.out.res.frozen 0
            have t1 := HPA.out.res.frozen 1
            clear hbad htt
            go_wp2_with (first | (go_at_call 28; refine (in_ok g l _ _ HIN.out).mono ?_; rintro e w' ⟨rfl, rfl⟩))
            have p1 := (HPA.out.res.put 0 (.bool false)).put 1 (.slice none 0 0)
            have y0 := p1.cell 0
            have y1 := p1.cell 1
            exact bodyPost_ret (v := .tuple #[.agg #[.bool false, .slice none 0 0], .bool false]) (by simp [results, Try.results15, go_sem, y0, y1]) rfl (NodeIs.no HBD.out ((HPA.out.bel.setCell (Nat.le_refl _) _).setCell (Nat.le_refl _) _))
          | false =>
            obtain ⟨A5, c5, rfl, hc5, hm5⟩ := own_form HPA.out.own
            have hyes : nodeP b = if (!blankB l) || !okN false rows then none else some (false, rows) := by rw [HP2.out, htt]; simp only [Bool.false_or]
            have HY := Lib.hid hyes
            clear hyes htt
            go_wp2_with fail
            refine (in_ok g l false _ HIN.out).mono ?_
            rintro e w' ⟨rfl, rfl⟩
            go_wp2_with fail
            refine (in_rest g l false _ HIN.out (by have := HPA.out.len; omega)).mono ?_
            rintro e w5 ⟨V5, rfl, o5, i5, g5⟩
            obtain ⟨A6, c6, rfl, hc6, hm6⟩ := own_form o5
            have Q5 := HPA.out.rest g5
            have QX := Lib.hid Q5
            have L6 := Lib.hid (Lies.own o5 (Nat.le_refl _))
            have r0 : w5.cell? ⟨w.heap.size, 0, none⟩ = some (.bool false) := Q5.res.cell 0
            have r1 : w5.cell? ⟨w.heap.size, 1, none⟩ = some (.slice none 0 0) := Q5.res.cell 1
            have t0 := Q5.res.frozen 0
            have t1 := Q5.res.frozen 1
            have m0 : w5.cell? ⟨m, 0, none⟩ = some (.bool false) := Q5.box.cell 0
            have m1 : w5.cell? ⟨m, 1, none⟩ = some (.slice A5 rows.length c5) := Q5.box.cell 1
            clear o5 i5 g5 Q5
            go_wp2_with fail
            refine (blank_any A6 c6 _ l _ L6.out (by have := HPA.out.len; omega)).mono ?_
            rintro e w6 ⟨rfl, rfl⟩
            cases hbl : blankB l with
            | false =>
              have HN := Lib.hid (show nodeP b = none by rw [HY.out, hbl]; rfl)
              go_wp2_with fail
              have p1 := (QX.out.res.put 0 (.bool false)).put 1 (.slice none 0 0)
              have y0 := p1.cell 0
              have y1 := p1.cell 1
              exact bodyPost_ret (v := .tuple #[.agg #[.bool false, .slice none 0 0], .bool false]) (by simp [results, Try.results15, go_sem, y0, y1]) rfl (NodeIs.no HN.out ((QX.out.bel.setCell (Nat.le_refl _) _).setCell (Nat.le_refl _) _))
            | true =>
              have HY2 := Lib.hid (show nodeP b = if !okN false rows then none else some (false, rows) by rw [HY.out, hbl]; rfl)
              go_wp2_with fail
              refine (ok_any false rows A5 c5 _ _ (own_rows QX.out.own) (Nat.le_refl _) HPA.out.fewR).mono ?_
              rintro e w7 ⟨rfl, hb7⟩
              have R7 := QX.out.res.below hb7 QX.out.res.lt
              have M7 := QX.out.box.below hb7 QX.out.box.lt
              have B7 := Lib.hid (QX.out.bel.trans (hb7.mono QX.out.bel.size))
              have O7 := Lib.hid (QX.out.own.kept (only_below hb7 none) (Classical.em _))
              have r0 : w7.cell? ⟨w.heap.size, 0, none⟩ = some (.bool false) := R7.cell 0
              have r1 : w7.cell? ⟨w.heap.size, 1, none⟩ = some (.slice none 0 0) := R7.cell 1
              have t0 := R7.frozen 0
              have t1 := R7.frozen 1
              have m0 : w7.cell? ⟨m, 0, none⟩ = some (.bool false) := M7.cell 0
              have m1 : w7.cell? ⟨m, 1, none⟩ = some (.slice A5 rows.length c5) := M7.cell 1
              have RX7 := Lib.hid R7
              clear hb7 R7 M7
              cases hok : okN false rows with
              | false =>
                have HN := Lib.hid (show nodeP b = none by rw [HY2.out, hok]; rfl)
                go_wp2_with fail
                have p1 := (RX7.out.put 0 (.bool false)).put 1 (.slice none 0 0)
                have y0 := p1.cell 0
                have y1 := p1.cell 1
                exact bodyPost_ret (v := .tuple #[.agg #[.bool false, .slice none 0 0], .bool false]) (by simp [results, Try.results15, go_sem, y0, y1]) rfl (NodeIs.no HN.out ((B7.out.setCell (Nat.le_refl _) _).setCell (Nat.le_refl _) _))
              | true =>
                have HN := Lib.hid (show nodeP b = some (false, rows) by rw [HY2.out, hok]; rfl)
                have hgm := HPA.out.gm
                have hg0' := HPA.out.g0
                go_wp2_with fail
                have p1 := (RX7.out.put 0 (.bool false)).put 1 (.slice A5 rows.length c5)
                have y0 := p1.cell 0
                have y1 := p1.cell 1
                refine bodyPost_ret (v := .tuple #[.agg #[.bool false, .slice A5 rows.length c5], .bool true]) (by simp [results, Try.results15, go_sem, y0, y1]) rfl (NodeIs.yes HN.out ((B7.out.setCell (Nat.le_refl _) _).setCell (Nat.le_refl _) _) ?_)
                exact own_less (own_set2 O7.out (by omega)) (by omega)
        · cases bad with
          | true =>
            obtain ⟨cn', rfl⟩ : ∃ n, cnt = n + 1 := ⟨cnt - 1, by omega⟩
            have htt := HPA.out.left
            rw [rowsP, List.append_nil] at htt
            have hbad : nodeP b = none := by rw [HP2.out, htt]; simp
            have HBD := Lib.hid hbad
            have r0 : wr.cell? ⟨w.heap.size, 0, none⟩ = some (.bool false) := HPA.out.res.cell 0
            have r1 : wr.cell? ⟨w.heap.size, 1, none⟩ = some (.slice none 0 0) := HPA.out.res.cell 1
            have t0 := HPA.out.res.frozen 0
            have t1 := HPA.out.res.frozen 1
            clear hbad htt
            go_wp2_with (first | (go_at_call 28; refine (in_ok g l _ _ HIN.out).mono ?_; rintro e w' ⟨rfl, rfl⟩))
            have p1 := (HPA.out.res.put 0 (.bool false)).put 1 (.slice none 0 0)
            have y0 := p1.cell 0
            have y1 := p1.cell 1
            exact bodyPost_ret (v := .tuple #[.agg #[.bool false, .slice none 0 0], .bool false]) (by simp [results, Try.results15, go_sem, y0, y1]) rfl (NodeIs.no HBD.out ((HPA.out.bel.setCell (Nat.le_refl _) _).setCell (Nat.le_refl _) _))
          | false =>
            obtain ⟨cn', rfl⟩ : ∃ n, cnt = n + 1 := ⟨cnt - 1, by omega⟩
            obtain ⟨A5, c5, rfl, hc5, hm5⟩ := own_form HPA.out.own
            go_wp2_with fail
            refine (in_ok g l false _ HIN.out).mono ?_
            rintro e w' ⟨rfl, rfl⟩
            have m0 : wr.cell? ⟨m, 0, none⟩ = some (.bool false) := HPA.out.box.cell 0
            have m1 : wr.cell? ⟨m, 1, none⟩ = some (.slice A5 rows.length c5) := HPA.out.box.cell 1
            have HPD := Lib.hid HPA.out.drew
            have hfw := HPA.out.few
            have hr1 : rows.length + 1 ≤ maxLen := by unfold maxLen; omega
            have hr2 : (rows.length + 1) * 40 ≤ 140737488355328 := by omega
            have HR1 := Lib.hid hr1
            have HR2 := Lib.hid hr2
            have gm1 := HPA.out.gm
            have ff := HPA.out.box.frozen
            clear hr1 hr2
            have HID := Lib.hid HPD.out.inn
            go_upto_region 9 with fail
            refine wp_region_held_drew (S := (fun w' => w'.cell? ⟨m, 0, none⟩ = some (.bool false))) (by kernel_rfl) (HPD.out.box.cell 0) (fun hS0 => ?_)
            refine wpAnyH_take (i := 0) (oi := ⟨some 32, _, _, _, _, _⟩) (v := ?_) rfl (by kernel_rfl) (by kernel_rfl) (by kernel_rfl) (fun _ _ _ h => h) (Or.inl ⟨by rfl, ?_⟩) hS0 ?_
            rotate_left
            · (intro wS hSw; (try dsimp only at hSw); go_simp); all_goals (with_reducible rfl)
            try simp only [Act.put, List.setIfInBounds_toArray, List.set_cons_zero, List.set_cons_succ]
            refine wpAnyH_take (i := 2) (oi := ⟨some 34, _, _, _, _, _⟩) (v := ?_) rfl (by kernel_rfl) (by kernel_rfl) (by kernel_rfl) (fun _ _ _ h => h) (Or.inl ⟨by rfl, ?_⟩) hS0 ?_
            rotate_left
            · (intro wS hSw; (try dsimp only at hSw); go_simp); all_goals (with_reducible rfl)
            try simp only [Act.put, List.setIfInBounds_toArray, List.set_cons_zero, List.set_cons_succ]
            refine wpAnyH_take (i := 3) (oi := ⟨some 35, _, _, _, _, _⟩) (v := ?_) rfl (by kernel_rfl) (by kernel_rfl) (by kernel_rfl) (fun _ _ _ h => h) (Or.inl ⟨by rfl, ?_⟩) hS0 ?_
            rotate_left
            · (intro wS hSw; (try dsimp only at hSw); go_simp); all_goals (with_reducible rfl)
            try simp only [Act.put, List.setIfInBounds_toArray, List.set_cons_zero, List.set_cons_succ]
            refine wpAnyH_take (i := 4) (oi := ⟨some 36, _, _, _, _, _⟩) (v := ?_) rfl (by kernel_rfl) (by kernel_rfl) (by kernel_rfl) (fun _ _ _ h => h) (Or.inl ⟨by rfl, ?_⟩) hS0 ?_
            rotate_left
            · (intro wS hSw; (try dsimp only at hSw); go_simp); all_goals (with_reducible rfl)
            try simp only [Act.put, List.setIfInBounds_toArray, List.set_cons_zero, List.set_cons_succ]
            refine wpAnyH_ready (rs := [1, 5]) (by kernel_rfl) (by simp) ?_
            refine (AllReadyH.cons (o := ⟨some 33, _, _, _, _, _⟩) rfl (fun K hK => ?_) (AllReadyH.cons (o := ⟨some 37, _, _, _, _, _⟩) rfl (fun K hK => ?_) AllReadyH.nil))
            · have m1 := HPD.out.box.cell 1
              go_simp
              go_wp2_with fail
              refine hK.out _ _ (HPD.out.box.cell 0) (fun hS1 => ?_)
              clear hK K
              try simp only [Act.put, List.setIfInBounds_toArray, List.set_cons_zero, List.set_cons_succ]
              refine wpAnyH_ready (rs := [5]) (by kernel_rfl) (by simp) ?_
              refine (AllReadyH.cons (o := ⟨some 37, _, _, _, _, _⟩) rfl (fun K hK => ?_) AllReadyH.nil)
              go_simp
              refine (parseRow_any g false l false _ HID.out).mono ?_
              rintro e w5 ⟨rfl, i5, g5⟩
              have Q5 := HPD.out.read i5 g5
              have QX := Lib.hid Q5
              have m0 := Q5.cells.1
              clear i5 g5 Q5
              go_wp2_with fail
              refine hK.out _ _ (QX.out.cells.1) (fun hS2 => ?_)
              clear hK K
              try simp only [Act.put, List.setIfInBounds_toArray, List.set_cons_zero, List.set_cons_succ]
              refine wpAnyH_ready (rs := [6]) (by kernel_rfl) (by simp) ?_
              refine (AllReadyH.cons (o := ⟨some 38, _, _, _, _, _⟩) rfl (fun K hK => ?_) AllReadyH.nil)
              go_simp
              go_wp2_with fail
              refine hK.out _ _ ((QX.out.box.alloc _).cell 0) (fun hS3 => ?_)
              clear hK K
              try simp only [Act.put, List.setIfInBounds_toArray, List.set_cons_zero, List.set_cons_succ]
              refine wpAnyH_ready (rs := [7]) (by kernel_rfl) (by simp) ?_
              refine (AllReadyH.cons (o := ⟨some 39, _, _, _, _, _⟩) rfl (fun K hK => ?_) AllReadyH.nil)
              refine step_append_cells (by rfl) _ _ 24 (by rfl) (m + 1) 23 i0 _ 3 40 Try.underlying24 HI.out H0.out H1.out H2.out rfl (by omega) _ rows.length _ (by rfl) (QX.out.own.alloc _) _ _ 1 1 (cellsRw (rowP false l)) (by rfl) (Lies.lit w5 23 (cellsRw (rowP false l))) rfl (cellsRw_one _) HR1.out HR2.out (PRow.room QX.out) ?_
              intro v7 w7 o7 b7
              obtain ⟨A7, c7, rfl, hc7, hm7⟩ := own_form o7
              have P7 := QX.out.appended gm1 hg0 o7 b7
              have PX7 := Lib.hid P7
              clear o7 b7 P7
              refine hK.out _ _ (PX7.out.cells.1) (fun hS4 => ?_)
              clear hK K
              try simp only [Act.put, List.setIfInBounds_toArray, List.set_cons_zero, List.set_cons_succ]
              refine wpAnyH_take (i := 8) (oi := ⟨some 40, _, _, _, _, _⟩) (v := ?_) rfl (by kernel_rfl) (by kernel_rfl) (by kernel_rfl) (fun _ _ _ h => h) (Or.inl ⟨by rfl, ?_⟩) hS4 ?_
              rotate_left
              · (intro wS hSw; (try dsimp only at hSw); go_simp); all_goals (with_reducible rfl)
              try simp only [Act.put, List.setIfInBounds_toArray, List.set_cons_zero, List.set_cons_succ]
              refine wpAnyH_ready (rs := [9]) (by kernel_rfl) (by simp) ?_
              refine (AllReadyH.cons (o := ⟨none, _, _, _, _, _⟩) rfl (fun K hK => ?_) AllReadyH.nil)
              obtain ⟨m0, m1, tf⟩ := PX7.out.cells
              go_simp
              go_wp2_with fail
              refine hK.out _ _ ((Whole.put PX7.out.box 1 _).cell 0) (fun hS5 => ?_)
              clear hK K
              try simp only [Act.put, List.setIfInBounds_toArray, List.set_cons_zero, List.set_cons_succ]
              refine wpAnyH_done (by kernel_rfl) ?_ _
              have HX := Lib.hid (HPA.out.next PX7.out)
              clear PX7
              go_wp2_with fail
              go_roundw
              case rel => exact ⟨cn', _, _, _, _, by go_num, HX.out⟩
              case measure => simp [intOf]
            · go_simp
              refine (parseRow_any g false l false _ HID.out).mono ?_
              rintro e w5 ⟨rfl, i5, g5⟩
              have Q5 := HPD.out.read i5 g5
              have QX := Lib.hid Q5
              have m0 := Q5.cells.1
              clear i5 g5 Q5
              go_wp2_with fail
              refine hK.out _ _ (QX.out.cells.1) (fun hS6 => ?_)
              clear hK K
              try simp only [Act.put, List.setIfInBounds_toArray, List.set_cons_zero, List.set_cons_succ]
              refine wpAnyH_ready (rs := [1, 6]) (by kernel_rfl) (by simp) ?_
              refine (AllReadyH.cons (o := ⟨some 33, _, _, _, _, _⟩) rfl (fun K hK => ?_) (AllReadyH.cons (o := ⟨some 38, _, _, _, _, _⟩) rfl (fun K hK => ?_) AllReadyH.nil))
              · have m1 := QX.out.cells.2
                go_simp
                go_wp2_with fail
                refine hK.out _ _ (QX.out.cells.1) (fun hS7 => ?_)
                clear hK K
                try simp only [Act.put, List.setIfInBounds_toArray, List.set_cons_zero, List.set_cons_succ]
                refine wpAnyH_ready (rs := [6]) (by kernel_rfl) (by simp) ?_
                refine (AllReadyH.cons (o := ⟨some 38, _, _, _, _, _⟩) rfl (fun K hK => ?_) AllReadyH.nil)
                go_simp
                go_wp2_with fail
                refine hK.out _ _ ((QX.out.box.alloc _).cell 0) (fun hS8 => ?_)
                clear hK K
                try simp only [Act.put, List.setIfInBounds_toArray, List.set_cons_zero, List.set_cons_succ]
                refine wpAnyH_ready (rs := [7]) (by kernel_rfl) (by simp) ?_
                refine (AllReadyH.cons (o := ⟨some 39, _, _, _, _, _⟩) rfl (fun K hK => ?_) AllReadyH.nil)
                refine step_append_cells (by rfl) _ _ 24 (by rfl) (m + 1) 23 i0 _ 3 40 Try.underlying24 HI.out H0.out H1.out H2.out rfl (by omega) _ rows.length _ (by rfl) (QX.out.own.alloc _) _ _ 1 1 (cellsRw (rowP false l)) (by rfl) (Lies.lit w5 23 (cellsRw (rowP false l))) rfl (cellsRw_one _) HR1.out HR2.out (PRow.room QX.out) ?_
                intro v7 w7 o7 b7
                obtain ⟨A7, c7, rfl, hc7, hm7⟩ := own_form o7
                have P7 := QX.out.appended gm1 hg0 o7 b7
                have PX7 := Lib.hid P7
                clear o7 b7 P7
                refine hK.out _ _ (PX7.out.cells.1) (fun hS9 => ?_)
                clear hK K
                try simp only [Act.put, List.setIfInBounds_toArray, List.set_cons_zero, List.set_cons_succ]
                refine wpAnyH_take (i := 8) (oi := ⟨some 40, _, _, _, _, _⟩) (v := ?_) rfl (by kernel_rfl) (by kernel_rfl) (by kernel_rfl) (fun _ _ _ h => h) (Or.inl ⟨by rfl, ?_⟩) hS9 ?_
                rotate_left
                · (intro wS hSw; (try dsimp only at hSw); go_simp); all_goals (with_reducible rfl)
                try simp only [Act.put, List.setIfInBounds_toArray, List.set_cons_zero, List.set_cons_succ]
                refine wpAnyH_ready (rs := [9]) (by kernel_rfl) (by simp) ?_
                refine (AllReadyH.cons (o := ⟨none, _, _, _, _, _⟩) rfl (fun K hK => ?_) AllReadyH.nil)
                obtain ⟨m0, m1, tf⟩ := PX7.out.cells
                go_simp
                go_wp2_with fail
                refine hK.out _ _ ((Whole.put PX7.out.box 1 _).cell 0) (fun hS10 => ?_)
                clear hK K
                try simp only [Act.put, List.setIfInBounds_toArray, List.set_cons_zero, List.set_cons_succ]
                refine wpAnyH_done (by kernel_rfl) ?_ _
                have HX := Lib.hid (HPA.out.next PX7.out)
                clear PX7
                go_wp2_with fail
                go_roundw
                case rel => exact ⟨cn', _, _, _, _, by go_num, HX.out⟩
                case measure => simp [intOf]
              · go_simp
                go_wp2_with fail
                refine hK.out _ _ ((QX.out.box.alloc _).cell 0) (fun hS11 => ?_)
                clear hK K
                try simp only [Act.put, List.setIfInBounds_toArray, List.set_cons_zero, List.set_cons_succ]
                refine wpAnyH_ready (rs := [1]) (by kernel_rfl) (by simp) ?_
                refine (AllReadyH.cons (o := ⟨some 33, _, _, _, _, _⟩) rfl (fun K hK => ?_) AllReadyH.nil)
                have m1 := QX.out.cells.2; have ml5 := QX.out.box.lt
                go_simp
                go_wp2_with fail
                refine hK.out _ _ ((QX.out.box.alloc _).cell 0) (fun hS12 => ?_)
                clear hK K
                try simp only [Act.put, List.setIfInBounds_toArray, List.set_cons_zero, List.set_cons_succ]
                refine wpAnyH_ready (rs := [7]) (by kernel_rfl) (by simp) ?_
                refine (AllReadyH.cons (o := ⟨some 39, _, _, _, _, _⟩) rfl (fun K hK => ?_) AllReadyH.nil)
                refine step_append_cells (by rfl) _ _ 24 (by rfl) (m + 1) 23 i0 _ 3 40 Try.underlying24 HI.out H0.out H1.out H2.out rfl (by omega) _ rows.length _ (by rfl) (QX.out.own.alloc _) _ _ 1 1 (cellsRw (rowP false l)) (by rfl) (Lies.lit w5 23 (cellsRw (rowP false l))) rfl (cellsRw_one _) HR1.out HR2.out (PRow.room QX.out) ?_
                intro v7 w7 o7 b7
                obtain ⟨A7, c7, rfl, hc7, hm7⟩ := own_form o7
                have P7 := QX.out.appended gm1 hg0 o7 b7
                have PX7 := Lib.hid P7
                clear o7 b7 P7
                refine hK.out _ _ (PX7.out.cells.1) (fun hS13 => ?_)
                clear hK K
                try simp only [Act.put, List.setIfInBounds_toArray, List.set_cons_zero, List.set_cons_succ]
                refine wpAnyH_take (i := 8) (oi := ⟨some 40, _, _, _, _, _⟩) (v := ?_) rfl (by kernel_rfl) (by kernel_rfl) (by kernel_rfl) (fun _ _ _ h => h) (Or.inl ⟨by rfl, ?_⟩) hS13 ?_
                rotate_left
                · (intro wS hSw; (try dsimp only at hSw); go_simp); all_goals (with_reducible rfl)
                try simp only [Act.put, List.setIfInBounds_toArray, List.set_cons_zero, List.set_cons_succ]
                refine wpAnyH_ready (rs := [9]) (by kernel_rfl) (by simp) ?_
                refine (AllReadyH.cons (o := ⟨none, _, _, _, _, _⟩) rfl (fun K hK => ?_) AllReadyH.nil)
                obtain ⟨m0, m1, tf⟩ := PX7.out.cells
                go_simp
                go_wp2_with fail
                refine hK.out _ _ ((Whole.put PX7.out.box 1 _).cell 0) (fun hS14 => ?_)
                clear hK K
                try simp only [Act.put, List.setIfInBounds_toArray, List.set_cons_zero, List.set_cons_succ]
                refine wpAnyH_done (by kernel_rfl) ?_ _
                have HX := Lib.hid (HPA.out.next PX7.out)
                clear PX7
                go_wp2_with fail
                go_roundw
                case rel => exact ⟨cn', _, _, _, _, by go_num, HX.out⟩
                case measure => simp [intOf]
end Go.Proofs.Ytdjkkppefgppmaa
