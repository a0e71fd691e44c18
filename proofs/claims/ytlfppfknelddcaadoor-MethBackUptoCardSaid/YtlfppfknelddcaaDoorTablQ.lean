/- Contracts of package tabl: a row that is read. -/
import Derived.Test.YtlfppfknelddcaaDoorTablR
import Derived.Deep.RegionWith
import Derived.Deep.RegionHeld3
namespace Go.Proofs.YtlfppfknelddcaaDoor
open Go.RowKit
set_option maxRecDepth 100000

/-- what reading a table tells -/
def ParseIs (p : Option (List Fld)) (k : Nat) (w : World) (e : Ending) (w' : World) : Prop :=
  (p = none ∧ e = .returned (.tuple #[.slice none 0 0, .bool false]) ∧ Below w.heap.size w w') ∨
  ∃ l A c, p = some l ∧ e = .returned (.tuple #[.slice A l.length c, .bool true]) ∧ TabNew k w' w.heap.size l A c ∧ Below w.heap.size w w'
/-- what reading a row tells -/
def RowIs (p : Option (Fld × List UInt8)) (k g : Nat) (w : World) (e : Ending) (w' : World) : Prop :=
  (p = none ∧ (∃ s0 a n s1 A m c, e = .returned (.tuple #[.agg #[.string s0, .int .u8 a, .int .i64 n, .string s1, .slice A m c], .bool false])) ∧ w.grownBy w' (some g)) ∨
  ∃ f r A c, p = some (f, r) ∧ e = .returned (.tuple #[aggF (.slice A f.t.length c) f, .bool true]) ∧ Held f ∧ TabNew k w' w.heap.size f.t A c ∧ InAt w' g r false ∧ w.grownBy w' (some g)
def ParsesOf (N k : Nat) : Prop := ∀ (A : Option Addr) (c : Nat) (b : List UInt8) (B : Nat) (deep : Int) (w : World), 1 ≤ deep → deep + k = 9 → Lies w B A (B8 b) → B ≤ w.heap.size → b.length ≤ 1048576 →
    Calls Tryd.prog N #[.slice A b.length c, .int .i64 deep] w (ParseIs (codeP k b) k w)

theorem tk_nil (n : Nat) : tk n [] = [] := by unfold tk; split <;> simp
theorem rst_nil (n : Nat) : rst n [] = [] := by unfold rst; split <;> simp
theorem txt_short_rest {n : Nat} {l : List UInt8} (h : txtShort n l = true) : txtRest n l = [] := by
  unfold txtShort at h
  unfold txtRest
  by_cases h1 : n ≤ l.length
  · rw [short_no h1, Bool.false_or] at h
    apply rst_no
    simpa [short] using h
  · rw [rst_no (n := n) (l := l) (by omega), rst_nil]

theorem grown_below {a b c : World} {row : Option Nat} (h : a.grownBy b row) (k : Below a.heap.size b c) : a.grownBy c row :=
  ⟨k.os.trans h.os, k.tape.trans h.tape, k.output.trans h.output, Nat.le_trans h.size k.size, fun i hi hn => (k.block i hi).trans (h.block i hi hn)⟩

theorem Whole.set {w : World} {g : Nat} {t : TypeId} {cs : Array Value} (h : Whole w g t cs) {b : Nat} (hb : g ≠ b) {i : Nat} (u : Value) : Whole (w.setCell ⟨b, i, none⟩ u) g t cs :=
  (Below.heap_setCell w ⟨b, i, none⟩ u g hb).trans h
theorem below5 {B g : Nat} {a w : World} (h : Below B a w) (hg : B ≤ g) (v0 v1 v2 v3 v4 : Value) : Below B a ((((((w.setCell ⟨g, 0, none⟩ v0).setCell ⟨g, 1, none⟩ v1).setCell ⟨g, 2, none⟩ v2).setCell ⟨g, 3, none⟩ v3).setCell ⟨g, 4, none⟩ v4).drew) :=
  (((((h.setCell (p := ⟨g, 0, none⟩) hg v0).setCell (p := ⟨g, 1, none⟩) hg v1).setCell (p := ⟨g, 2, none⟩) hg v2).setCell (p := ⟨g, 3, none⟩) hg v3).setCell (p := ⟨g, 4, none⟩) hg v4).drew
theorem Whole.drew {w : World} {g : Nat} {t : TypeId} {cs : Array Value} (h : Whole w g t cs) : Whole w.drew g t cs := h
theorem Whole.put5 {w : World} {g : Nat} {t : TypeId} {a0 a1 a2 a3 a4 : Value} (h : Whole w g t #[a0, a1, a2, a3, a4]) (v0 v1 v2 v3 v4 : Value) :
    Whole ((((((w.setCell ⟨g, 0, none⟩ v0).setCell ⟨g, 1, none⟩ v1).setCell ⟨g, 2, none⟩ v2).setCell ⟨g, 3, none⟩ v3).setCell ⟨g, 4, none⟩ v4).drew) g t #[v0, v1, v2, v3, v4] := by
  have h5 := ((((h.put 0 v0).put 1 v1).put 2 v2).put 3 v3).put 4 v4
  have e : ((((#[a0, a1, a2, a3, a4].setIfInBounds 0 v0).setIfInBounds 1 v1).setIfInBounds 2 v2).setIfInBounds 3 v3).setIfInBounds 4 v4 = #[v0, v1, v2, v3, v4] := by simp
  rw [e] at h5
  exact h5.drew

set_option maxHeartbeats 1000000 in
set_option maxRecDepth 100000 in
/-- no kind is there -/
theorem parse_short (g k : Nat) (l : List UInt8) (deep : Int) (w : World) (h : InAt w g l false) (hr : txtRest 1 l = []) (_hs : l.length ≤ 70368744177664) :
    Calls Tryd.prog 92 #[.pointer (some ⟨g, 0, none⟩), .int .i64 deep] w (RowIs (rowP false (codeP k) l) k g w) := by
  have hno : rowP false (codeP k) l = none := by
    unfold rowP
    split
    · rfl
    · rw [hr]
  rw [hno]
  have hg := h.lt
  have h0 := h.below (Below.alloc (Below.refl w.heap.size w) (Nat.le_refl _) (.cells #[.string ⟨#[]⟩, .int .u8 0, .int .i64 0, .string ⟨#[]⟩, .slice none 0 0] 50)) hg
  have H := Lib.hid h0
  clear h h0
  go_enter Tryd.func92, Tryd.ntmps92
  go_wp2_with fail
  refine (in_short g l false _ H.out).mono ?_
  rintro e w1 ⟨rfl, hi, hb⟩
  rw [hr] at hi
  obtain ⟨nm, hnm⟩ : ∃ nm, nm = txt 1 l := ⟨_, rfl⟩
  rw [← hnm]
  obtain ⟨bad, hbad⟩ : ∃ bad, bad = (false || txtShort 1 l) := ⟨_, rfl⟩
  rw [← hbad] at hi
  have hsz := hb.size
  rw [show (w.alloc (.cells #[.string ⟨#[]⟩, .int .u8 0, .int .i64 0, .string ⟨#[]⟩, .slice none 0 0] 50)).heap.size = w.heap.size + 1 from by simp] at hsz
  have hg1 : w.grownBy w1 (some g) := only_trans (only_below ((Below.refl w.heap.size w).alloc (Nat.le_refl _) _) _) hb
  have hw0 : Whole w1 w.heap.size 50 #[.string ⟨#[]⟩, .int .u8 0, .int .i64 0, .string ⟨#[]⟩, .slice none 0 0] := (Whole.new w 50 _).grown hb (by simp; omega)
  have hi1 := hi.below (Below.alloc (Below.refl w1.heap.size w1) (Nat.le_refl _) (.cells #[.string ⟨nm.toArray⟩, .int .u8 0, .int .i64 0, .string ⟨#[]⟩, .slice none 0 0] 50)) hi.lt
  have H1 := Lib.hid hi1
  have G1 := Lib.hid hg1
  have W0 := Lib.hid hw0
  clear hi hi1 hg1 hw0 hb hnm hbad hr
  go_wp2_with fail
  refine (in_int g 1 [] bad _ H1.out).mono ?_
  rintro e w2 ⟨rfl, hi, hb⟩
  rw [show wid 1 = 1 from rfl, rst_nil, show (bad || short 1 []) = true from by cases bad <;> rfl] at hi
  rw [show wid 1 = 1 from rfl, tk_nil, nat_nil]
  have hsz2 := hb.size
  rw [show (w1.alloc (.cells #[.string ⟨nm.toArray⟩, .int .u8 0, .int .i64 0, .string ⟨#[]⟩, .slice none 0 0] 50)).heap.size = w1.heap.size + 1 from by simp] at hsz2
  have hg2 : w.grownBy w2 (some g) := only_trans G1.out (only_trans (only_below ((Below.refl w1.heap.size w1).alloc (Nat.le_refl _) _) _) hb)
  have hw1 : Whole w2 w1.heap.size 50 #[.string ⟨nm.toArray⟩, .int .u8 0, .int .i64 0, .string ⟨#[]⟩, .slice none 0 0] := (Whole.new w1 50 _).grown hb (by simp; omega)
  have hw0 : Whole w2 w.heap.size 50 #[.string ⟨#[]⟩, .int .u8 0, .int .i64 0, .string ⟨#[]⟩, .slice none 0 0] := (W0.out.alloc _).grown hb (by simp; omega)
  have H2 := Lib.hid hi
  have G2 := Lib.hid hg2
  have W00 := Lib.hid hw0
  have z0 : w2.cell? ⟨w.heap.size, 0, none⟩ = some (.string ⟨#[]⟩) := hw0.cell 0
  have z1 : w2.cell? ⟨w.heap.size, 1, none⟩ = some (.int .u8 0) := hw0.cell 1
  have z2 : w2.cell? ⟨w.heap.size, 2, none⟩ = some (.int .i64 0) := hw0.cell 2
  have z3 : w2.cell? ⟨w.heap.size, 3, none⟩ = some (.string ⟨#[]⟩) := hw0.cell 3
  have z4 : w2.cell? ⟨w.heap.size, 4, none⟩ = some (.slice none 0 0) := hw0.cell 4
  have y0 : w2.cell? ⟨w1.heap.size, 0, none⟩ = some (.string ⟨nm.toArray⟩) := hw1.cell 0
  have y1 : w2.cell? ⟨w1.heap.size, 1, none⟩ = some (.int .u8 0) := hw1.cell 1
  have y2 : w2.cell? ⟨w1.heap.size, 2, none⟩ = some (.int .i64 0) := hw1.cell 2
  have y3 : w2.cell? ⟨w1.heap.size, 3, none⟩ = some (.string ⟨#[]⟩) := hw1.cell 3
  have y4 : w2.cell? ⟨w1.heap.size, 4, none⟩ = some (.slice none 0 0) := hw1.cell 4
  have x0 := hw0.frozen
  have x1 := hw1.frozen
  have ne1 : w.heap.size < w1.heap.size := by omega
  clear hi hb hg2 hw0 hw1
  have bs : Below w1.heap.size w2 (w2.setCell ⟨w1.heap.size, 1, none⟩ (.int .u8 0)).drew := (Below.setCell (Below.refl w1.heap.size w2) (p := ⟨w1.heap.size, 1, none⟩) (Nat.le_refl _) (.int .u8 0)).drew
  have H3 := Lib.hid (H2.out.below bs (by omega))
  clear bs
  go_wp2_with fail
  go_region_with ((go_at_call 23; refine (in_ok g [] true _ H3.out).mono ?_; rintro e w' ⟨rfl, rfl⟩))
  all_goals
    go_wp2_with fail
    obtain ⟨W, hW⟩ : ∃ W, W = ((((((w2.setCell ⟨w1.heap.size, 1, none⟩ (.int .u8 0)).setCell ⟨w.heap.size, 0, none⟩ (.string ⟨nm.toArray⟩)).setCell ⟨w.heap.size, 1, none⟩ (.int .u8 0)).setCell ⟨w.heap.size, 2, none⟩ (.int .i64 0)).setCell ⟨w.heap.size, 3, none⟩ (.string ⟨#[]⟩)).setCell ⟨w.heap.size, 4, none⟩ (.slice none 0 0)).drew := ⟨_, rfl⟩
    rw [← hW]
    have hE : Whole W w.heap.size 50 #[.string ⟨nm.toArray⟩, .int .u8 0, .int .i64 0, .string ⟨#[]⟩, .slice none 0 0] := by
      rw [hW]
      exact Whole.put5 (W00.out.set (by omega) _) _ _ _ _ _
    have hG : w.grownBy W (some g) := by
      rw [hW]
      exact grown_below G2.out (below5 ((Below.refl w.heap.size w2).setCell (p := ⟨w1.heap.size, 1, none⟩) (by show w.heap.size ≤ w1.heap.size; omega) _) (Nat.le_refl _) _ _ _ _ _)
    have e0 : W.cell? ⟨w.heap.size, 0, none⟩ = some (.string ⟨nm.toArray⟩) := hE.cell 0
    have e1 : W.cell? ⟨w.heap.size, 1, none⟩ = some (.int .u8 0) := hE.cell 1
    have e2 : W.cell? ⟨w.heap.size, 2, none⟩ = some (.int .i64 0) := hE.cell 2
    have e3 : W.cell? ⟨w.heap.size, 3, none⟩ = some (.string ⟨#[]⟩) := hE.cell 3
    have e4 : W.cell? ⟨w.heap.size, 4, none⟩ = some (.slice none 0 0) := hE.cell 4
    clear hW hE
    refine bodyPost_ret (v := .tuple #[.agg #[.string ⟨nm.toArray⟩, .int .u8 0, .int .i64 0, .string ⟨#[]⟩, .slice none 0 0], .bool false]) (by simp [results, Tryd.results92, go_sem, e0, e1, e2, e3, e4]) rfl ?_
    exact .inl ⟨rfl, ⟨_, _, _, _, _, _, _, rfl⟩, hG⟩
end Go.Proofs.YtlfppfknelddcaaDoor
