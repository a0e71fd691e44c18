/- Contracts of package node: a row that is read. -/
import Derived.Test.YtdjkkppefgppmaaNodeE
namespace Go.Proofs.Ytdjkkppefgppmaa
open Go.RowKit
set_option maxRecDepth 100000
set_option linter.unusedSimpArgs false
set_option linter.unusedVariables false

def ReadRow (g : Nat) (leaf : Bool) (l : List UInt8) (bad : Bool) (w : World) (e : Ending) (w' : World) : Prop :=
  e = .returned (.agg #[.string ⟨(rowP leaf l).key.toArray⟩, .string ⟨(rowP leaf l).val.toArray⟩, .int .i64 (rowP leaf l).page]) ∧ InAt w' g (rowRest leaf l) (bad || rowShort leaf l) ∧ w.grownBy w' (some g)
theorem grown_new {w W : World} {g n i : Nat} {u : Value} (h : w.grownBy W (some g)) (hn : w.heap.size ≤ n) : w.grownBy (W.setCell ⟨n, i, none⟩ u) (some g) := by
  have h2 := only_set (only_refl W (some n)) i u
  exact ⟨h2.os.trans h.os, h2.tape.trans h.tape, h2.output.trans h.output, Nat.le_trans h.size h2.size, fun k hk hne => (h2.block k (Nat.lt_of_lt_of_le hk h.size) (fun e => by injection e; omega)).trans (h.block k hk hne)⟩
theorem InAt.grown_new {w : World} {g n i : Nat} {l : List UInt8} {bad : Bool} {u : Value} (h : InAt w g l bad) (hn : g < n) : InAt (w.setCell ⟨n, i, none⟩ u) g l bad := by
  have hb : Below (g + 1) w (w.setCell ⟨n, i, none⟩ u) := below_only (only_set (only_refl w (some n)) i u) (by omega) (by have := h.lt; omega)
  exact h.below hb (by omega)
theorem Whole.other {w : World} {n m i : Nat} {t : TypeId} {cs : Array Value} {u : Value} (h : Whole w n t cs) (hne : n ≠ m) : Whole (w.setCell ⟨m, i, none⟩ u) n t cs :=
  h.grown (only_set (only_refl w (some m)) i u) (fun e => hne (by injection e))
/-- three cells stored into a block that is new -/
theorem put3 {w W : World} {g n : Nat} {t : TypeId} {l : List UInt8} {bad : Bool} {a b c : Value} (x y z : Value) (hw : Whole W n t #[a, b, c]) (hi : InAt W g l bad) (hgn : g < n) (hg : w.grownBy W (some g)) (hn : w.heap.size ≤ n) :
    Whole (((W.setCell ⟨n, 0, none⟩ x).setCell ⟨n, 1, none⟩ y).setCell ⟨n, 2, none⟩ z) n t #[x, y, z] ∧ InAt (((W.setCell ⟨n, 0, none⟩ x).setCell ⟨n, 1, none⟩ y).setCell ⟨n, 2, none⟩ z) g l bad ∧ w.grownBy (((W.setCell ⟨n, 0, none⟩ x).setCell ⟨n, 1, none⟩ y).setCell ⟨n, 2, none⟩ z) (some g) := by
  refine ⟨((hw.put 0 x).put 1 y).put 2 z, ((hi.grown_new hgn).grown_new hgn).grown_new hgn, grown_new (grown_new (grown_new hg hn) hn) hn⟩
theorem i64_u32 (n : Nat) (h : n < 4294967296) : IntKind.i64.wrap (n : Int) = (n : Int) := IntWalk.i64_in _ ⟨by omega, by omega⟩

theorem parseRow_any (g : Nat) (leaf : Bool) (l : List UInt8) (bad : Bool) (w : World) (h : InAt w g l bad) :
    Calls Try.prog 29 #[.pointer (some ⟨g, 0, none⟩), .bool leaf] w (ReadRow g leaf l bad w) := by
  have hg := h.lt
  have H0 := Lib.hid (h.below ((Below.refl _ w).alloc (Nat.le_refl _) (.cells #[.string ⟨#[]⟩, .string ⟨#[]⟩, .int .i64 0] 23)) hg)
  have G0 := Lib.hid ((World.grownBy_alloc w (.cells #[.string ⟨#[]⟩, .string ⟨#[]⟩, .int .i64 0] 23) (some g)))
  have X0 := Lib.hid (Whole.new w 23 #[.string ⟨#[]⟩, .string ⟨#[]⟩, .int .i64 0])
  clear h
  obtain ⟨k, hk⟩ : ∃ k, k = txt 1 l := ⟨_, rfl⟩
  obtain ⟨l1, hl1⟩ : ∃ l1, l1 = txtRest 1 l := ⟨_, rfl⟩
  obtain ⟨d1, hd1⟩ : ∃ d1, d1 = (bad || txtShort 1 l) := ⟨_, rfl⟩
  have HK := Lib.hid hk
  have HL1 := Lib.hid hl1
  have HD1 := Lib.hid hd1
  clear hk hl1 hd1
  cases leaf with
  | true =>
    have D : ∀ W, InAt W g (txtRest 1 l1) (d1 || txtShort 1 l1) → w.grownBy W (some g) → ReadRow g true l bad w (.returned (.agg #[.string ⟨k.toArray⟩, .string ⟨(txt 1 l1).toArray⟩, .int .i64 0])) W := by
      intro W a b
      refine ⟨?_, ?_, b⟩
      · simp only [rowP, if_true]
        rw [HK.out, HL1.out]
      · simp only [rowRest, rowShort, if_true]
        rw [HL1.out, HD1.out, Bool.or_assoc] at a
        exact a
    have DX := Lib.hid D
    clear D
    go_enter Try.func29, Try.ntmps29
    go_wp2_with fail
    refine (in_short g l bad _ H0.out).mono ?_
    rintro e w1 ⟨rfl, i1, g1⟩
    rw [← HK.out]
    rw [← HL1.out, ← HD1.out] at i1
    have z1 := g1.size
    have G1 := Lib.hid (only_trans G0.out g1)
    have X1 := X0.out.grown g1 (by intro e; injection e; omega)
    have I1 := Lib.hid (i1.below ((Below.refl _ w1).alloc (Nat.le_refl _) (.cells #[.string ⟨k.toArray⟩, .string ⟨#[]⟩, .int .i64 0] 23)) i1.lt)
    have X1' := Lib.hid (X1.alloc (.cells #[.string ⟨k.toArray⟩, .string ⟨#[]⟩, .int .i64 0] 23))
    have Y1 := Lib.hid (Whole.new w1 23 #[.string ⟨k.toArray⟩, .string ⟨#[]⟩, .int .i64 0])
    have G1' := Lib.hid (only_trans G1.out (World.grownBy_alloc w1 (.cells #[.string ⟨k.toArray⟩, .string ⟨#[]⟩, .int .i64 0] 23) (some g)))
    have zz : w.heap.size + 1 ≤ w1.heap.size := by simpa using z1
    clear i1 g1 X1 z1
    go_wp2_with fail
    refine (in_short g l1 d1 _ I1.out).mono ?_
    rintro e w2 ⟨rfl, i2, g2⟩
    have X2 := X1'.out.grown g2 (by intro e; injection e; omega)
    have Y2 := Y1.out.grown g2 (by intro e; injection e; omega)
    have z2 := g2.size
    have zz2 : w1.heap.size + 1 ≤ w2.heap.size := by simpa using z2
    have I2 := Lib.hid i2
    have G2 := Lib.hid (only_trans G1'.out g2)
    have y0 : w2.cell? ⟨w1.heap.size, 0, none⟩ = some (.string ⟨k.toArray⟩) := Y2.cell 0
    have y1 : w2.cell? ⟨w1.heap.size, 1, none⟩ = some (.string ⟨#[]⟩) := Y2.cell 1
    have y2 : w2.cell? ⟨w1.heap.size, 2, none⟩ = some (.int .i64 0) := Y2.cell 2
    have f1 := Y2.frozen 1
    have x0 : w2.cell? ⟨w.heap.size, 0, none⟩ = some (.string ⟨#[]⟩) := X2.cell 0
    have x1 : w2.cell? ⟨w.heap.size, 1, none⟩ = some (.string ⟨#[]⟩) := X2.cell 1
    have x2 : w2.cell? ⟨w.heap.size, 2, none⟩ = some (.int .i64 0) := X2.cell 2
    have e0 := X2.frozen 0
    have e1 := X2.frozen 1
    have e2 := X2.frozen 2
    have hne : w.heap.size ≠ w1.heap.size := by omega
    have HX2 := Lib.hid X2
    clear i2 g2 X2 Y2 z2
    go_wp2_with fail
    obtain ⟨p1, p2, p3⟩ := put3 (.string ⟨k.toArray⟩) (.string ⟨(txt 1 l1).toArray⟩) (.int .i64 0) (Whole.other (i := 1) (u := .string ⟨(txt 1 l1).toArray⟩) HX2.out hne) (I2.out.grown_new (n := w1.heap.size) (i := 1) (u := .string ⟨(txt 1 l1).toArray⟩) (by omega)) hg (grown_new (n := w1.heap.size) (i := 1) (u := .string ⟨(txt 1 l1).toArray⟩) G2.out (by omega)) (Nat.le_refl _)
    have q0 := p1.cell 0
    have q1 := p1.cell 1
    have q2 := p1.cell 2
    exact bodyPost_ret (v := .agg #[.string ⟨k.toArray⟩, .string ⟨(txt 1 l1).toArray⟩, .int .i64 0]) (by simp [results, Try.results29, go_sem, q0, q1, q2]) rfl (DX.out _ p2 p3)
  | false =>
    have D : ∀ W (q : Nat), q = nat (tk 4 l1) → InAt W g (rst 4 l1) (d1 || short 4 l1) → w.grownBy W (some g) → ReadRow g false l bad w (.returned (.agg #[.string ⟨k.toArray⟩, .string ⟨#[]⟩, .int .i64 q])) W := by
      intro W q hq a b
      subst hq
      refine ⟨?_, ?_, b⟩
      · simp only [rowP, Bool.false_eq_true, if_false]
        rw [HK.out, HL1.out]
      · simp only [rowRest, rowShort, Bool.false_eq_true, if_false]
        rw [HL1.out, HD1.out, Bool.or_assoc] at a
        exact a
    have DX := Lib.hid D
    clear D
    go_enter Try.func29, Try.ntmps29
    go_wp2_with fail
    refine (in_short g l bad _ H0.out).mono ?_
    rintro e w1 ⟨rfl, i1, g1⟩
    rw [← HK.out]
    rw [← HL1.out, ← HD1.out] at i1
    have z1 := g1.size
    have G1 := Lib.hid (only_trans G0.out g1)
    have X1 := X0.out.grown g1 (by intro e; injection e; omega)
    have I1 := Lib.hid (i1.below ((Below.refl _ w1).alloc (Nat.le_refl _) (.cells #[.string ⟨k.toArray⟩, .string ⟨#[]⟩, .int .i64 0] 23)) i1.lt)
    have X1' := Lib.hid (X1.alloc (.cells #[.string ⟨k.toArray⟩, .string ⟨#[]⟩, .int .i64 0] 23))
    have Y1 := Lib.hid (Whole.new w1 23 #[.string ⟨k.toArray⟩, .string ⟨#[]⟩, .int .i64 0])
    have G1' := Lib.hid (only_trans G1.out (World.grownBy_alloc w1 (.cells #[.string ⟨k.toArray⟩, .string ⟨#[]⟩, .int .i64 0] 23) (some g)))
    have zz : w.heap.size + 1 ≤ w1.heap.size := by simpa using z1
    clear i1 g1 X1 z1
    go_wp2_with fail
    refine (in_int g 4 l1 d1 _ I1.out).mono ?_
    rw [show wid 4 = 4 from rfl]
    rintro e w2 ⟨rfl, i2, g2⟩
    have hq : nat (tk 4 l1) < 4294967296 := by have h1 := nat_lt (tk 4 l1); have h2 := tk_le 4 l1; exact Nat.lt_of_lt_of_le h1 (Nat.pow_le_pow_right (by omega) h2)
    obtain ⟨q, hq'⟩ : ∃ q, q = nat (tk 4 l1) := ⟨_, rfl⟩
    rw [← hq'] at hq ⊢
    have HQ := Lib.hid hq'
    have hcv := i64_u32 q hq
    clear hq'
    have X2 := X1'.out.grown g2 (by intro e; injection e; omega)
    have Y2 := Y1.out.grown g2 (by intro e; injection e; omega)
    have z2 := g2.size
    have zz2 : w1.heap.size + 1 ≤ w2.heap.size := by simpa using z2
    have I2 := Lib.hid i2
    have G2 := Lib.hid (only_trans G1'.out g2)
    have y0 : w2.cell? ⟨w1.heap.size, 0, none⟩ = some (.string ⟨k.toArray⟩) := Y2.cell 0
    have y1 : w2.cell? ⟨w1.heap.size, 1, none⟩ = some (.string ⟨#[]⟩) := Y2.cell 1
    have y2 : w2.cell? ⟨w1.heap.size, 2, none⟩ = some (.int .i64 0) := Y2.cell 2
    have f1 := Y2.frozen 2
    have x0 : w2.cell? ⟨w.heap.size, 0, none⟩ = some (.string ⟨#[]⟩) := X2.cell 0
    have x1 : w2.cell? ⟨w.heap.size, 1, none⟩ = some (.string ⟨#[]⟩) := X2.cell 1
    have x2 : w2.cell? ⟨w.heap.size, 2, none⟩ = some (.int .i64 0) := X2.cell 2
    have e0 := X2.frozen 0
    have e1 := X2.frozen 1
    have e2 := X2.frozen 2
    have hne : w.heap.size ≠ w1.heap.size := by omega
    have HX2 := Lib.hid X2
    clear i2 g2 X2 Y2 z2
    go_wp2_with fail
    obtain ⟨p1, p2, p3⟩ := put3 (.string ⟨k.toArray⟩) (.string ⟨#[]⟩) (.int .i64 q) (Whole.other (i := 2) (u := .int .i64 q) HX2.out hne) (I2.out.grown_new (n := w1.heap.size) (i := 2) (u := .int .i64 q) (by omega)) hg (grown_new (n := w1.heap.size) (i := 2) (u := .int .i64 q) G2.out (by omega)) (Nat.le_refl _)
    have q0 := p1.cell 0
    have q1 := p1.cell 1
    have q2 := p1.cell 2
    exact bodyPost_ret (v := .agg #[.string ⟨k.toArray⟩, .string ⟨#[]⟩, .int .i64 q]) (by simp [results, Try.results29, go_sem, q0, q1, q2]) rfl (DX.out _ q HQ.out p2 p3)
end Go.Proofs.Ytdjkkppefgppmaa
