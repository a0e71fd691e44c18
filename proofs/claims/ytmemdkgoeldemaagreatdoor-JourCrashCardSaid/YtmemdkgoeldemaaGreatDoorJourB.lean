/- Layer 8: batches in memory. -/
import Derived.Test.YtmemdkgoeldemaaGreatDoorJourD
import Derived.Test.YtmemdkgoeldemaaGreatDoorJourA
import Derived.Test.YtmemdkgoeldemaaGreatDoorSectL
namespace Go.Proofs.YtmemdkgoeldemaaGreatDoor
open Go.RowKit Go.Maps
set_option maxRecDepth 100000
set_option linter.unusedSimpArgs false
set_option linter.unusedVariables false
/-- a batch as it lies -/
structure Bm where
  x : Bt
  A : Option Addr
  c : Nat
def Bm.sl (m : Bm) : Value := .slice m.A m.x.b.length m.c
def btV (m : Bm) : Value := .agg #[.int .u64 (m.x.seq : Int), .int .i64 (m.x.kind : Int), .slice m.A m.x.b.length m.c, .int .i64 m.x.file, .int .i64 m.x.pos]
def cellsBm (m : Bm) : List Value := [.int .u64 (m.x.seq : Int), .int .i64 (m.x.kind : Int), .slice m.A m.x.b.length m.c, .int .i64 m.x.file, .int .i64 m.x.pos]
def cellsBs (l : List Bm) : List Value := l.flatMap cellsBm
def BmAt (w : World) (P : Nat → Prop) (m : Bm) : Prop := w.ownsRow 0 5 1 m.sl m.x.b.length (B8 m.x.b) ∧ ∀ i, m.sl.ownBlock = some i → P i
/-- a row of batches as it lies -/
def BmsAt (w : World) (P : Nat → Prop) (l : List Bm) (A : Option Addr) (c : Nat) : Prop := l.length ≤ c ∧ c ≤ maxLen ∧ LiesP w P A (cellsBs l) ∧ ∀ m ∈ l, BmAt w P m
def bm0 : Bm := ⟨bt0, none, 0⟩
theorem bm0_at (w : World) (P : Nat → Prop) : BmAt w P bm0 := ⟨World.ownsRow_nil _ _ _ _, fun i hi => by cases hi⟩
section
variable {w w' : World} {P Q : Nat → Prop} {A : Option Addr} {m : Bm} {l : List Bm} {c : Nat}
theorem BmAt.lt (h : BmAt w P m) {i : Nat} (hi : m.sl.ownBlock = some i) : i < w.heap.size := (h.1.lt i hi).2
theorem BmAt.cap (h : BmAt w P m) : m.x.b.length ≤ m.c ∧ m.c ≤ maxLen := by
  obtain ⟨A, c, e, h1, h2⟩ := own_form h.1
  injection e with _ _ e
  subst e
  exact ⟨h1, h2⟩
theorem BmAt.liesP (h : BmAt w P m) : LiesP w P m.A (B8 m.x.b) := LiesP.own h.1 h.2
theorem BmAt.lies (h : BmAt w P m) : Lies w w.heap.size m.A (B8 m.x.b) := h.liesP.lies
theorem BmAt.kept (h : BmAt w P m) (hk : ∀ i, i < w.heap.size → P i → w'.heap[i]? = w.heap[i]?) : BmAt w' P m := ⟨own_block h.1 fun i hi => hk i (h.lt hi) (h.2 i hi), h.2⟩
theorem BmAt.mono (h : BmAt w P m) (hk : ∀ i, i < w.heap.size → P i → Q i) : BmAt w Q m := ⟨h.1, fun i hi => hk i (h.lt hi) (h.2 i hi)⟩
theorem BmAt.below (h : BmAt w P m) (hb : Below w.heap.size w w') : BmAt w' P m := h.kept fun i hi _ => hb.block i hi
/-- a row of batches beside it has grown -/
theorem BmAt.beside (h : BmAt w P m) {base n : Nat} {v : Value} {xs : List Value} (hr : w.ownsRow base 32 5 v n xs) (hg : w.grownBy w' v.ownBlock) : BmAt w' P m :=
  ⟨h.1.kept hg (own_apart_types h.1 hr (by decide)), h.2⟩
theorem BmAt.own {base : Nat} (h : w.ownsRow base 5 1 m.sl m.x.b.length (B8 m.x.b)) : BmAt w (fun i => base ≤ i) m := ⟨⟨h.1, h.2.imp id (fun ⟨g, cap, cur, e, _, r⟩ => ⟨g, cap, cur, e, Nat.zero_le _, r⟩)⟩, fun i hi => (h.lt i hi).1⟩
theorem BmsAt.kept (h : BmsAt w P l A c) (hk : ∀ i, i < w.heap.size → P i → w'.heap[i]? = w.heap[i]?) (hs : w.heap.size ≤ w'.heap.size) : BmsAt w' P l A c := ⟨h.1, h.2.1, h.2.2.1.kept hk hs, fun m hm => (h.2.2.2 m hm).kept hk⟩
theorem BmsAt.mono (h : BmsAt w P l A c) (hk : ∀ i, i < w.heap.size → P i → Q i) : BmsAt w Q l A c := ⟨h.1, h.2.1, h.2.2.1.mono hk, fun m hm => (h.2.2.2 m hm).mono hk⟩
theorem BmsAt.below (h : BmsAt w P l A c) (hb : Below w.heap.size w w') : BmsAt w' P l A c := h.kept (fun i hi _ => hb.block i hi) hb.size
theorem BmsAt.nil (w : World) (P : Nat → Prop) : BmsAt w P [] none 0 := ⟨Nat.le_refl _, Nat.zero_le _, LiesP.nil _ _ _, fun m hm => by cases hm⟩
end
theorem cellsBs_length (l : List Bm) : (cellsBs l).length = l.length * 5 := by
  induction l with
  | nil => rfl
  | cons f l ih =>
    have e : cellsBs (f :: l) = cellsBm f ++ cellsBs l := rfl
    rw [e, List.length_append, ih, List.length_cons, show (cellsBm f).length = 5 from rfl]
    omega
theorem cellsBs_append (l m : List Bm) : cellsBs (l ++ m) = cellsBs l ++ cellsBs m := by simp [cellsBs]
theorem cellsBs_one (l : List Bm) : ∀ u ∈ cellsBs l, u.oneCell' = true := by
  intro u hu
  simp only [cellsBs, List.mem_flatMap] at hu
  obtain ⟨f, _, hf⟩ := hu
  simp only [cellsBm, List.mem_cons, List.not_mem_nil, or_false] at hf
  rcases hf with rfl | rfl | rfl | rfl | rfl <;> rfl
theorem cellsBs_at : ∀ (l : List Bm) (i : Nat) (hi : i < l.length) (j : Nat) (u : Value), (cellsBm l[i])[j]? = some u → (cellsBs l)[i * 5 + j]? = some u := by
  intro l
  induction l with
  | nil => intro i hi; simp at hi
  | cons f l ih =>
    intro i hi j u hu
    have e : cellsBs (f :: l) = cellsBm f ++ cellsBs l := rfl
    rw [e]
    cases i with
    | zero =>
      have hu' : (cellsBm f)[j]? = some u := hu
      rw [Nat.zero_mul, Nat.zero_add, List.getElem?_append_left (List.getElem?_eq_some_iff.1 hu').1]
      exact hu'
    | succ i =>
      rw [List.getElem?_append_right (by rw [show (cellsBm f).length = 5 from rfl]; omega), show (cellsBm f).length = 5 from rfl, show (i + 1) * 5 + j - 5 = i * 5 + j by omega]
      exact ih i (by simpa using hi) j u hu
/-- the cells of one of them -/
theorem lies_bm {w : World} {B : Nat} {A : Option Addr} {l : List Bm} (h : Lies w B A (cellsBs l)) (i : Nat) (hi : i < l.length) :
    ∃ b o, A = some ⟨b, o, none⟩ ∧ b < B ∧ w.cell? ⟨b, o + i * 5, none⟩ = some (.int .u64 (l[i].x.seq : Int)) ∧ w.cell? ⟨b, o + i * 5 + 1, none⟩ = some (.int .i64 (l[i].x.kind : Int)) ∧ w.cell? ⟨b, o + i * 5 + 2, none⟩ = some (.slice l[i].A l[i].x.b.length l[i].c) ∧
      w.cell? ⟨b, o + i * 5 + 3, none⟩ = some (.int .i64 l[i].x.file) ∧ w.cell? ⟨b, o + i * 5 + 4, none⟩ = some (.int .i64 l[i].x.pos) := by
  rcases h with h | ⟨b, o, e, hb, hc⟩
  · have hl := cellsBs_length l
    rw [h] at hl
    simp at hl
    omega
  · exact ⟨b, o, e, hb, hc _ _ (cellsBs_at l i hi 0 _ rfl), by rw [Nat.add_assoc]; exact hc _ _ (cellsBs_at l i hi 1 _ rfl), by rw [Nat.add_assoc]; exact hc _ _ (cellsBs_at l i hi 2 _ rfl), by rw [Nat.add_assoc]; exact hc _ _ (cellsBs_at l i hi 3 _ rfl), by rw [Nat.add_assoc]; exact hc _ _ (cellsBs_at l i hi 4 _ rfl)⟩
theorem batch_info : (Tryz.prog.info? 32).map (fun i => (i.zero, i.size, i.bytes)) = some (some (.agg #[.int .u64 0, .int .i64 0, .slice none 0 0, .int .i64 0, .int .i64 0]), 5, 56) := by kernel_rfl
theorem batch_zero : (Value.agg #[.int .u64 0, .int .i64 0, .slice none 0 0, .int .i64 0, .int .i64 0]).cells.size = 5 := rfl
end Go.Proofs.YtmemdkgoeldemaaGreatDoor
