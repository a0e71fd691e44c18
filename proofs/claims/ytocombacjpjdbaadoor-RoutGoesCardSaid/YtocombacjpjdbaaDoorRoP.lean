/- Layer 16: two bindings held against each other: cmp.Compare, cmp.Or, compare. -/
import Derived.Test.YtocombacjpjdbaaDoorRoC
import Derived.Laws.Cover1
import Derived.Sort.Walk0
namespace Go.Proofs.YtocombacjpjdbaaDoor
open Go.RowKit Go.Maps Go.Sort Go.Shelf
set_option maxRecDepth 100000
set_option linter.unusedSimpArgs false
set_option linter.unusedVariables false
theorem lessS_is (a b : List UInt8) : Op.bytesLess a b = ltS a b := bytesLess_eq a b
def cmpS (a b : List UInt8) : Int := if ltS a b = true then -1 else if ltS b a = true then 1 else 0
def or3 (x y z : Int) : Int := if x ≠ 0 then x else if y ≠ 0 then y else z
def cmpB (a b : Bnd) : Int := or3 (cmpS a.e b.e) (cmpS a.q b.q) (cmpS a.k b.k)
theorem isNaN_any (a : List UInt8) (w : World) : Calls Tryd.prog 60 #[.string ⟨a.toArray⟩] w fun e w' => e = .returned (.bool false) ∧ w' = w := by
  go_enter Tryd.func60, Tryd.ntmps60
  go_wp2_with fail
  go_ret
  refine ⟨?_, rfl⟩
  simp
theorem cmpS_any (a b : List UInt8) (w : World) : Calls Tryd.prog 42 #[.string ⟨a.toArray⟩, .string ⟨b.toArray⟩] w fun e w' => e = .returned (.int .i64 (cmpS a b)) ∧ w' = w := by
  have g1 := lessS_is a b
  have g2 := lessS_is b a
  unfold cmpS
  cases e1 : ltS a b
  · cases e2 : ltS b a
    · rw [e1] at g1
      rw [e2] at g2
      have q : (a == b) = true := by simpa using linS.tot e1 e2
      go_enter Tryd.func42, Tryd.ntmps42
      go_wp2_with (go_at_call 60; go_must (refine (isNaN_any _ _).mono ?_); rintro e w' ⟨rfl, rfl⟩)
      go_ret
      exact ⟨rfl, rfl⟩
    · rw [e1] at g1
      rw [e2] at g2
      have q : (a == b) = false := by
        have := linS.ne e2
        simpa using fun h => this h.symm
      go_enter Tryd.func42, Tryd.ntmps42
      go_wp2_with (go_at_call 60; go_must (refine (isNaN_any _ _).mono ?_); rintro e w' ⟨rfl, rfl⟩)
      go_ret
      exact ⟨rfl, rfl⟩
  · rw [e1] at g1
    go_enter Tryd.func42, Tryd.ntmps42
    go_wp2_with (go_at_call 60; go_must (refine (isNaN_any _ _).mono ?_); rintro e w' ⟨rfl, rfl⟩)
    go_ret
    exact ⟨rfl, rfl⟩
theorem or3_any (x y z : Int) (g : Nat) (w : World) (h0 : w.cell? ⟨g, 0, none⟩ = some (.int .i64 x)) (h1 : w.cell? ⟨g, 1, none⟩ = some (.int .i64 y)) (h2 : w.cell? ⟨g, 2, none⟩ = some (.int .i64 z)) :
    Calls Tryd.prog 41 #[.slice (some ⟨g, 0, none⟩) 3 3] w fun e w' => e = .returned (.int .i64 (or3 x y z)) ∧ w' = w := by
  unfold or3
  by_cases ex : x = 0
  · have bx : (x == 0) = true := by simp [ex]
    rw [if_neg (by simpa using ex)]
    by_cases ey : y = 0
    · rw [if_neg (by simpa using ey)]
      subst ex ey
      by_cases ez : z = 0
      · subst ez
        go_enter Tryd.func41, Tryd.ntmps41
        go_wp2_with fail
        refine wp_loop_rounds 4 ?_
        rw [rounds_succ]
        go_wp2_with fail
        rw [rounds_succ]
        go_wp2_with fail
        rw [rounds_succ]
        go_wp2_with fail
        rw [rounds_succ]
        go_wp2_with fail
        go_ret
        exact ⟨rfl, rfl⟩
      · have bz : (z == 0) = false := beq_false_of_ne ez
        go_enter Tryd.func41, Tryd.ntmps41
        go_wp2_with fail
        refine wp_loop_rounds 3 ?_
        rw [rounds_succ]
        go_wp2_with fail
        rw [rounds_succ]
        go_wp2_with fail
        rw [rounds_succ]
        go_wp2_with fail
        go_ret
        exact ⟨rfl, rfl⟩
    · rw [if_pos ey]
      subst ex
      have bz : (y == 0) = false := beq_false_of_ne ey
      go_enter Tryd.func41, Tryd.ntmps41
      go_wp2_with fail
      refine wp_loop_rounds 2 ?_
      rw [rounds_succ]
      go_wp2_with fail
      rw [rounds_succ]
      go_wp2_with fail
      go_ret
      exact ⟨rfl, rfl⟩
  · rw [if_pos ex]
    have bz : (x == 0) = false := beq_false_of_ne ex
    go_enter Tryd.func41, Tryd.ntmps41
    go_wp2_with fail
    refine wp_loop_rounds 1 ?_
    rw [rounds_succ]
    go_wp2_with fail
    go_ret
    exact ⟨rfl, rfl⟩
theorem cmpS_neg (a b : List UInt8) : (cmpS a b < 0) = (ltS a b = true) := by
  unfold cmpS
  by_cases h : ltS a b = true
  · simp [h]
  · by_cases h2 : ltS b a = true <;> simp [h, h2]
theorem cmpS_zero (a b : List UInt8) : (cmpS a b = 0) = (a = b) := by
  unfold cmpS
  by_cases h : ltS a b = true
  · simp [h, linS.ne h]
  · by_cases h2 : ltS b a = true
    · have := linS.ne h2
      simp [h, h2]
      exact fun e => this e.symm
    · have : a = b := linS.tot (by simpa using h) (by simpa using h2)
      subst this
      simp [linS.irr]
theorem cmpB_lt (a b : Bnd) : ltOf cmpB a b = ltB a b := by
  have e0 := cmpS_zero a.e b.e
  have e1 := cmpS_zero a.q b.q
  have n0 := cmpS_neg a.e b.e
  have n1 := cmpS_neg a.q b.q
  have n2 := cmpS_neg a.k b.k
  rw [Bool.eq_iff_iff, ltB_iff]
  have hd : (ltOf cmpB a b = true) = (cmpB a b < 0) := by simp [ltOf]
  rw [hd]
  unfold cmpB or3
  by_cases h0 : a.e = b.e
  · have z0 : cmpS a.e b.e = 0 := by rw [e0]; exact h0
    have l0 : ¬ ltS a.e b.e = true := by rw [h0, linS.irr]; simp
    rw [if_neg (by simpa using z0)]
    by_cases h1 : a.q = b.q
    · have z1 : cmpS a.q b.q = 0 := by rw [e1]; exact h1
      have l1 : ¬ ltS a.q b.q = true := by rw [h1, linS.irr]; simp
      rw [if_neg (by simpa using z1), n2]
      simp [h0, h1, linS.irr]
    · have z1 : cmpS a.q b.q ≠ 0 := fun h => h1 (by rw [← e1]; exact h)
      rw [if_pos z1, n1]
      simp [h0, h1, linS.irr]
  · have z0 : cmpS a.e b.e ≠ 0 := fun h => h0 (by rw [← e0]; exact h)
    rw [if_pos z0, n0]
    simp [h0]
theorem swoB : SWO (ltOf cmpB) where
  irrefl x := by rw [cmpB_lt]; exact linB.irr x
  trans x y z h1 h2 := by rw [cmpB_lt] at *; exact linB.tr h1 h2
  ntrans x y z h1 h2 := by
    rw [cmpB_lt] at *
    cases e : ltB x z
    · rfl
    · cases e2 : ltB z y
      · have := linB.tot h2 e2
        subst this
        rw [h1] at e
        cases e
      · have := linB.tr e e2
        rw [h1] at this
        cases this
theorem totB (x y : Bnd) (h1 : ltOf cmpB x y = false) (h2 : ltOf cmpB y x = false) : x = y := by
  rw [cmpB_lt] at *
  exact linB.tot h1 h2
set_option maxHeartbeats 4000000 in
theorem compare_any (a b : Bnd) (W : World) : Calls Tryd.prog 27 #[.agg #[.string ⟨a.e.toArray⟩, .string ⟨a.q.toArray⟩, .string ⟨a.k.toArray⟩], .agg #[.string ⟨b.e.toArray⟩, .string ⟨b.q.toArray⟩, .string ⟨b.k.toArray⟩]] W fun e w' => e = .returned (.int .i64 (cmpB a b)) ∧ ∃ q os', w' = grow (W.drewN q) os' := by
  obtain ⟨x, hx⟩ : ∃ x, x = cmpS a.e b.e := ⟨_, rfl⟩
  obtain ⟨y, hy⟩ : ∃ y, y = cmpS a.q b.q := ⟨_, rfl⟩
  obtain ⟨z, hz⟩ : ∃ z, z = cmpS a.k b.k := ⟨_, rfl⟩
  have c0 := fun w => cmpS_any a.e b.e w
  have c1 := fun w => cmpS_any a.q b.q w
  have c2 := fun w => cmpS_any a.k b.k w
  rw [← hx] at c0
  rw [← hy] at c1
  rw [← hz] at c2
  have C0 := Lib.hid c0
  have C1 := Lib.hid c1
  have C2 := Lib.hid c2
  have HR : Hid (cmpB a b = or3 x y z) := Lib.hid (by rw [hx, hy, hz]; rfl)
  rw [HR.out]
  obtain ⟨ae, aq, ak⟩ := a
  obtain ⟨be, bq, bk⟩ := b
  clear c0 c1 c2 hx hy hz HR
  dsimp only at C0 C1 C2 ⊢
  go_enter Tryd.func27, Tryd.ntmps27
  go_upto_region 1 with fail
  refine wp_renR (fun W' => (∃ os', W' = grow W os') ∧ Whole W' W.heap.size 33 #[.string ⟨ae.toArray⟩, .string ⟨aq.toArray⟩, .string ⟨ak.toArray⟩] ∧ Whole W' (W.heap.size + 1) 33 #[.string ⟨be.toArray⟩, .string ⟨bq.toArray⟩, .string ⟨bk.toArray⟩]) ⟨?_, ?_, ?_⟩ ?_
  · exact ⟨_, by rw [alloc_eq_grow, alloc_eq_grow, grow_grow]⟩
  · exact Whole.alloc (Whole.new W _ _) _
  · have := Whole.new (W.alloc (.cells #[.string ⟨ae.toArray⟩, .string ⟨aq.toArray⟩, .string ⟨ak.toArray⟩] 33)) 33 #[.string ⟨be.toArray⟩, .string ⟨bq.toArray⟩, .string ⟨bk.toArray⟩]
    simpa using this
  rintro W2 ⟨hgr, hz1, hz2⟩
  have HG := Lib.hid hgr
  have hl1 := Whole.lt hz1
  have hl2 := Whole.lt hz2
  obtain ⟨a1, ha1⟩ : ∃ a1, a1 = W.heap.size := ⟨_, rfl⟩
  obtain ⟨b1, hb1⟩ : ∃ b1, b1 = W.heap.size + 1 := ⟨_, rfl⟩
  rw [← hb1] at hl2 hz2 ⊢
  rw [← ha1] at hl1 hz1 ⊢
  clear ha1 hb1 hgr
  have x0 : W2.drew.cell? ⟨a1, 0, none⟩ = some (.string ⟨ae.toArray⟩) := (Whole.cell hz1 0).trans rfl
  have x1 : W2.drew.cell? ⟨a1, 1, none⟩ = some (.string ⟨aq.toArray⟩) := (Whole.cell hz1 1).trans rfl
  have x2 : W2.drew.cell? ⟨a1, 2, none⟩ = some (.string ⟨ak.toArray⟩) := (Whole.cell hz1 2).trans rfl
  have y0 : W2.drew.cell? ⟨b1, 0, none⟩ = some (.string ⟨be.toArray⟩) := (Whole.cell hz2 0).trans rfl
  have y1 : W2.drew.cell? ⟨b1, 1, none⟩ = some (.string ⟨bq.toArray⟩) := (Whole.cell hz2 1).trans rfl
  have y2 : W2.drew.cell? ⟨b1, 2, none⟩ = some (.string ⟨bk.toArray⟩) := (Whole.cell hz2 2).trans rfl
  clear hz1 hz2
  have x0' : W2.cell? ⟨a1, 0, none⟩ = some (.string ⟨ae.toArray⟩) := x0
  have x1' : W2.cell? ⟨a1, 1, none⟩ = some (.string ⟨aq.toArray⟩) := x1
  have x2' : W2.cell? ⟨a1, 2, none⟩ = some (.string ⟨ak.toArray⟩) := x2
  have y0' : W2.cell? ⟨b1, 0, none⟩ = some (.string ⟨be.toArray⟩) := y0
  have y1' : W2.cell? ⟨b1, 1, none⟩ = some (.string ⟨bq.toArray⟩) := y1
  have y2' : W2.cell? ⟨b1, 2, none⟩ = some (.string ⟨bk.toArray⟩) := y2
  have hz3 := Whole.new W2 3 #[.int .i64 x, .int .i64 y, .int .i64 z]
  have HO := Lib.hid (or3_any x y z W2.heap.size (W2.alloc (.cells #[.int .i64 x, .int .i64 y, .int .i64 z] 3)).drew ((Whole.cell hz3 0).trans rfl) ((Whole.cell hz3 1).trans rfl) ((Whole.cell hz3 2).trans rfl))
  clear hz3
  go_region_held3 (fun w' => w'.cell? ⟨a1, 0, none⟩ = some (.string ⟨ae.toArray⟩) ∧ w'.cell? ⟨a1, 1, none⟩ = some (.string ⟨aq.toArray⟩) ∧ w'.cell? ⟨a1, 2, none⟩ = some (.string ⟨ak.toArray⟩) ∧ w'.cell? ⟨b1, 0, none⟩ = some (.string ⟨be.toArray⟩) ∧ w'.cell? ⟨b1, 1, none⟩ = some (.string ⟨bq.toArray⟩) ∧ w'.cell? ⟨b1, 2, none⟩ = some (.string ⟨bk.toArray⟩)) (first | exact ⟨x0, x1, x2, y0, y1, y2⟩ | go_keep) (first
    | (go_at_call 42; with_reducible refine (C0.out _).mono ?_; rintro e w' ⟨rfl, rfl⟩)
    | (go_at_call 42; with_reducible refine (C1.out _).mono ?_; rintro e w' ⟨rfl, rfl⟩)
    | (go_at_call 42; with_reducible refine (C2.out _).mono ?_; rintro e w' ⟨rfl, rfl⟩)
    | (go_at_call 41; go_must (refine HO.out.mono ?_); rintro e w' ⟨rfl, rfl⟩))
  go_wp2_with fail
  go_ret
  obtain ⟨os', hos⟩ := HG.out
  refine ⟨rfl, 1, os' ++ #[.cells #[.int .i64 x, .int .i64 y, .int .i64 z] 3], ?_⟩
  rw [hos, alloc_eq_grow, grow_grow]
  rfl
end Go.Proofs.YtocombacjpjdbaaDoor
