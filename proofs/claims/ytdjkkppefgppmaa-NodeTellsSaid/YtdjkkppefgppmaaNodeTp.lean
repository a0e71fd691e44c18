/- The law on what a node may be and on its octets: words for the walk. -/
import Derived.Test.YtdjkkppefgppmaaNodeRc
import Derived.Test.YtdjkkppefgppmaaConv2
namespace Go.Proofs.Ytdjkkppefgppmaa
open Go.RowKit
set_option maxRecDepth 100000
set_option linter.unusedSimpArgs false
set_option linter.unusedVariables false

theorem rsize_eq (leaf : Bool) (l : List Rw) (k : Nat) (A : Option Addr) (n c B : Nat) (w : World) (hn : n = l.length) (hk : sizeN leaf l = k) (ht : RowsAt w B l A c) (hB : B ≤ w.heap.size) (hf : Few l) :
    Calls Try.prog 13 #[.agg #[.bool leaf, .slice A n c]] w fun e w' => e = .returned (.int .i64 k) ∧ Below w.heap.size w w' := by
  subst hk
  exact rsize_is leaf l A n c B w hn ht hB hf
theorem rok_is (leaf : Bool) (l : List Rw) (k : Bool) (A : Option Addr) (n c B : Nat) (w : World) (hn : n = l.length) (hk : okN leaf l = k) (ht : RowsAt w B l A c) (hB : B ≤ w.heap.size) (hf : Few l) :
    Calls Try.prog 11 #[.agg #[.bool leaf, .slice A n c]] w fun e w' => e = .returned (.bool k) ∧ Below w.heap.size w w' := by
  subst hn
  subst hk
  exact rok_any leaf l A c B w ht hB hf
/-- the node that is asked, in its box -/
structure TlAt (w wr : World) (leaf : Bool) (l : List Rw) (A : Option Addr) (c : Nat) : Prop where
  box : Whole wr w.heap.size 26 #[.bool leaf, .slice A l.length c]
  rows : RowsAt wr wr.heap.size l A c
  bel : Below w.heap.size w wr
  few : Few l
theorem TlAt.below {w wr w' : World} {leaf : Bool} {l : List Rw} {A : Option Addr} {c : Nat} (h : TlAt w wr leaf l A c) (hb : Below wr.heap.size wr w') : TlAt w w' leaf l A c :=
  ⟨h.box.below hb h.box.lt, (h.rows.below hb).more hb.size, h.bel.trans (hb.mono h.bel.size), h.few⟩
theorem TlAt.cells {w wr : World} {leaf : Bool} {l : List Rw} {A : Option Addr} {c : Nat} (h : TlAt w wr leaf l A c) : wr.cell? ⟨w.heap.size, 0, none⟩ = some (.bool leaf) ∧ wr.cell? ⟨w.heap.size, 1, none⟩ = some (.slice A l.length c) := ⟨h.box.cell 0, h.box.cell 1⟩
/-- octets in memory -/
def GS (w : World) (v : Value) : Prop := ∃ (A : Option Addr) (Y : List UInt8) (c : Nat), v = .slice A Y.length c ∧ Y.length ≤ c ∧ c ≤ maxLen ∧ Y.length ≤ 2000 ∧ Lies w w.heap.size A (B8 Y)
theorem GS.below {w w' : World} {v : Value} (h : GS w v) (hb : Below w.heap.size w w') : GS w' v := by
  obtain ⟨A, Y, c, e, h1, h2, h3, h4⟩ := h
  exact ⟨A, Y, c, e, h1, h2, h3, (h4.below hb).more hb.size⟩
theorem gs_own {w : World} {base c : Nat} {A : Option Addr} {O : List UInt8} {y : UInt8} (h : w.ownsRow base 5 1 (.slice A (O.length + 3) c) (O.length + 3) (B8 (O ++ [0, 0, y]))) (hO : O.length ≤ 600) : GS w (.slice A (O.length + 3) c) := by
  obtain ⟨A', c', hv, h1, h2⟩ := own_form h
  injection hv with e1 e2 e3
  subst e1 e3
  exact ⟨A, O ++ [0, 0, y], c, by rw [List.length_append]; rfl, by rw [List.length_append]; exact h1, h2, by rw [List.length_append]; simp; omega, Lies.own h (Nat.le_refl _)⟩
/-- which of the four is asked -/
theorem gs_sel {wo : World} (W : World) {v0 v1 v2 v3 : Value} {k : Nat} (h0 : GS wo v0) (h1 : GS wo v1) (h2 : GS wo v2) (hb : Below wo.heap.size wo W) (h3 : GS W v3) (hk : k < 4) :
    ∃ YV, (W.alloc (.cells #[v0, v1, v2, v3] 27)).cell? ⟨W.heap.size, k, none⟩ = some YV ∧ GS (W.alloc (.cells #[v0, v1, v2, v3] 27)) YV := by
  have hW := (Below.refl W.heap.size W).alloc (Nat.le_refl _) (.cells #[v0, v1, v2, v3] 27)
  have hw := Whole.new W 27 #[v0, v1, v2, v3]
  rcases (show k = 0 ∨ k = 1 ∨ k = 2 ∨ k = 3 by omega) with rfl | rfl | rfl | rfl
  · exact ⟨v0, hw.cell 0, (h0.below hb).below hW⟩
  · exact ⟨v1, hw.cell 1, (h1.below hb).below hW⟩
  · exact ⟨v2, hw.cell 2, (h2.below hb).below hW⟩
  · exact ⟨v3, hw.cell 3, h3.below hW⟩
def TlY (W : World) (v : Value) (wx : World) : Prop := GS wx v ∧ Below W.heap.size W wx
theorem GS.fin {W wx : World} {v : Value} (h : GS wx v) (hb : Below W.heap.size W wx) : TlY W v wx := ⟨h, hb⟩
/-- what is told of octets: a node, or none -/
def ndOf (r : Option (Bool × List Rw)) (A : Option Addr) (c : Nat) : Value := match r with
  | none => .agg #[.bool false, .slice none 0 0]
  | some (leaf, l) => .agg #[.bool leaf, .slice A l.length c]
structure IsOf (r : Option (Bool × List Rw)) (leaf : Bool) (l : List Rw) (ok : Bool) (A : Option Addr) (c : Nat) (W w' : World) : Prop where
  rows : RowsAt w' w'.heap.size l A c
  bel : Below W.heap.size W w'
  few : Few l
theorem nodeP_few {b : List UInt8} {leaf : Bool} {l : List Rw} (h : nodeP b = some (leaf, l)) : Few l := by
  unfold nodeP at h
  split at h
  · cases h
  · simp only at h
    split at h
    · cases h
    · rename_i h1
      injection h with h
      injection h with h2 h3
      simp only [Bool.or_eq_true, not_or, Bool.not_eq_true, Bool.not_eq_false'] at h1
      have hok := h1.2
      rw [h3, h2] at hok
      have hs : sizeN leaf l ≤ 512 ∧ okR leaf [] l = true := by
        rw [okN, Bool.and_eq_true, Bool.not_eq_true', Bool.or_eq_false_iff] at hok
        exact ⟨by simpa using hok.1.2, hok.2⟩
      refine ⟨by have := sizeN_count leaf l; omega, fun r hr => ?_⟩
      have := fitR_len (okR_fit hs.2 r hr)
      omega
/-- the two answers in one form -/
def asNode (b : List UInt8) : Bool × List Rw × Bool := match nodeP b with
  | none => (false, [], false)
  | some (leaf, l) => (leaf, l, true)
def Told (b : List UInt8) (W : World) (e : Ending) (w' : World) : Prop :=
  ∃ A c, e = .returned (.tuple #[.agg #[.bool (asNode b).1, .slice A (asNode b).2.1.length c], .bool (asNode b).2.2]) ∧ RowsAt w' w'.heap.size (asNode b).2.1 A c ∧ Below W.heap.size W w'
theorem told_of {b : List UInt8} {W w' : World} {e : Ending} (h : NodeIs (nodeP b) W e w') : Told b W e w' := by
  obtain ⟨hb, hm⟩ := h
  unfold Told asNode
  cases hp : nodeP b with
  | none =>
    rw [hp] at hm
    exact ⟨none, 0, hm, rowsAt_nil _ _, hb⟩
  | some x =>
    obtain ⟨leaf, l⟩ := x
    rw [hp] at hm
    obtain ⟨A, c, he, ho⟩ := hm
    exact ⟨A, c, he, own_rows ho, hb⟩
theorem asNode_few (b : List UInt8) : Few (asNode b).2.1 := by
  unfold asNode
  cases hp : nodeP b with
  | none => exact few_nil
  | some x =>
    obtain ⟨leaf, l⟩ := x
    exact nodeP_few hp
theorem parse_told (b : List UInt8) (A : Option Addr) (c B : Nat) (w : World) (hl : Lies w B A (B8 b)) (hB : B ≤ w.heap.size) (hs : b.length ≤ 2000) :
    Calls Try.prog 15 #[.slice A b.length c] w (Told b w) := (nparse_any b A c B w hl hB (by omega)).mono fun _ _ h => told_of h
theorem of_told (b : List UInt8) (A : Option Addr) (c B : Nat) (w : World) (hl : Lies w B A (B8 b)) (hB : B ≤ w.heap.size) (hs : b.length ≤ 2000) (hc : b.length ≤ c) (hcm : c ≤ maxLen) :
    Calls Try.prog 16 #[.slice A b.length c] w (Told b w) := (rnodeOf_any b A c B w hl hB (by omega) hc hcm).mono fun _ _ h => told_of h
end Go.Proofs.Ytdjkkppefgppmaa
