/- Layer 9: the law on crashes: its walk. -/
import Derived.Test.YtcmffifehpbjnaaPageCr
import Derived.Test.YtcmffifehpbjnaaPageZ
import Derived.Test.YtcmffifehpbjnaaTill
import Derived.BigQuiet
import Derived.Deep.CutBlock
namespace Go.Proofs.Ytcmffifehpbjnaa
open Go.RowKit Go.Maps
set_option maxRecDepth 100000
set_option linter.unusedSimpArgs false
set_option linter.unusedVariables false
theorem zs_cell9 {B : Nat} {W : World} {l : List Int} {A : Option Addr} (h : Lies W B A (cellsZ l)) (i : Nat) (hi : i < l.length) :
    ∃ b o, A = some ⟨b, o, none⟩ ∧ ∀ w, Below B W w → w.cell? ⟨b, o + i, none⟩ = some (.int .i64 (l.getD i 0)) := by
  rcases h with h | ⟨b, o, rfl, h1, h2⟩
  · have : l.length = 0 := by have := congrArg List.length h; rw [cellsZ, List.length_map] at this; exact this
    omega
  · refine ⟨b, o, rfl, fun w hb => ?_⟩
    rw [World.cell?_of_block (w := W) (hb.block b h1)]
    exact h2 i _ (by simp [cellsZ, List.getD, hi])
section
variable {B g fb : Nat} {Y : Nat → Prop} {w0 w : World}
def rec1 : Obj := .cells #[.int .u64 1, .int .i64 0, .int .i64 0, .int .u64 0, .slice none 0 0, .slice none 0 0] 58
/-- the two records at the beginning -/
theorem ck_start (h : CrA B g fb 3000 Y w0 ⟨1, 0, 0, 0⟩ [] [] 0 [] w) : ∃ Y', CrA B g fb 3000 Y' w0 ⟨1, 0, 0, 0⟩ (cmOf [] []) [] 0 [] ((w.alloc rec1).alloc rec1) ∧ RecAt Y' ((w.alloc rec1).alloc rec1) w.heap.size ⟨1, 0, 0, 0⟩ [] [] ∧ RecAt Y' ((w.alloc rec1).alloc rec1) (w.heap.size + 1) ⟨1, 0, 0, 0⟩ [] [] := by
  have hb : Below w.heap.size w ((w.alloc rec1).alloc rec1) := ((Below.refl _ w).alloc (Nat.le_refl _) _).alloc (by simp) _
  have e1 : (w.alloc rec1).heap.size = w.heap.size + 1 := by simp
  have e2 : ((w.alloc rec1).alloc rec1).heap.size = w.heap.size + 2 := by simp
  have r1 : Whole ((w.alloc rec1).alloc rec1) w.heap.size 58 (recB ⟨1, 0, 0, 0⟩ (.slice none 0 0) (.slice none 0 0)) := (Whole.new w 58 _).alloc _
  have r2 : Whole ((w.alloc rec1).alloc rec1) (w.heap.size + 1) 58 (recB ⟨1, 0, 0, 0⟩ (.slice none 0 0) (.slice none 0 0)) := by
    have := Whole.new (w.alloc rec1) 58 #[.int .u64 1, .int .i64 0, .int .i64 0, .int .u64 0, .slice none 0 0, .slice none 0 0]
    rw [e1] at this
    exact this
  refine ⟨_, h.fence hb, ⟨none, 0, none, 0, ?_⟩, ⟨none, 0, none, 0, ?_⟩⟩
  · exact ⟨r1, World.ownsRow_nil _ _ _ _, World.ownsRow_nil _ _ _ _, fun i hi => (by cases hi), fun i hi => (by cases hi), .inr ⟨Nat.le_refl _, by omega⟩, rfl, fun b hb => (by cases hb), fun x hx => (by cases hx)⟩
  · exact ⟨r2, World.ownsRow_nil _ _ _ _, World.ownsRow_nil _ _ _ _, fun i hi => (by cases hi), fun i hi => (by cases hi), .inr ⟨by omega, by omega⟩, rfl, fun b hb => (by cases hb), fun x hx => (by cases hx)⟩
def rec0 : Obj := .cells #[.int .u64 0, .int .i64 0, .int .i64 0, .int .u64 0, .slice none 0 0, .slice none 0 0] 58
/-- the next record's box is made -/
theorem ck_next {bw bn : Nat} {m : Mt} {ids L : List Int} {bs : List (List UInt8)} (h : CrA B g fb 3000 Y w0 m (cmOf ids bs) L 0 [] w) (h1 : RecAt Y w bw m ids bs) (h2 : RecAt Y w bn m ids bs) :
    ∃ Y', CwA B g fb w0 w.heap.size w.heap.size bw bn Y m ids bs L 0 [] mt0 (.slice none 0 0) (.slice none 0 0) (.slice none 0 0) 0 (L.take 0) (.slice none 0 0) 0 [] Y' (w.alloc rec0) := by
  have hb : Below w.heap.size w (w.alloc rec0) := (Below.refl _ w).alloc (Nat.le_refl _) _
  have e1 : (w.alloc rec0).heap.size = w.heap.size + 1 := by simp
  exact ⟨_, h.fence hb, fun i hi => .inl hi, .inr ⟨Nat.le_refl _, by omega⟩, fun i hi => (by cases hi), fun i hi => (by cases hi), h1.kept (fun i hi => hb.block i (h.xs i hi).2) hb.size, h2.kept (fun i hi => hb.block i (h.xs i hi).2) hb.size, fun i hi => (h.xs i hi).2, Whole.new w _ _, Nat.le_refl _, World.ownsRow_nil _ _ _ _, World.ownsRow_nil _ _ _ _, hb.size⟩
end
theorem cellsZ_snoc (l : List Int) (x : Int) : cellsZ (l ++ [x]) = cellsZ l ++ [.int .i64 x] := by simp [cellsZ]
theorem cellsX_snoc (l : List (List UInt8)) (x : List UInt8) : cellsX (l ++ [x]) = cellsX l ++ [.string ⟨(pad x).toArray⟩] := by simp [cellsX]
section
variable {B g fb base bx bw bn k nI nT : Nat} {w0 w : World} {YR Y : Nat → Prop} {m mx : Mt} {idsR idsN L : List Int} {bsR bs tsN : List (List UInt8)} {u4 u5 vI vT : Value}
theorem CwA.cells45 (h : CwA B g fb w0 base bx bw bn YR m idsR bsR L k bs mx u4 u5 vI nI idsN vT nT tsN Y w) : w.cell? ⟨bx, 4, none⟩ = some u4 ∧ w.cell? ⟨bx, 5, none⟩ = some u5 := ⟨h.box.six.2.2.2.2.1, h.box.six.2.2.2.2.2⟩
end
theorem CrA.fit {B g fb mo put : Nat} {Y : Nat → Prop} {w0 w : World} {m : Mt} {cm : List (Nat × List UInt8)} {L : List Int} {bs : List (List UInt8)} (h : CrA B g fb mo Y w0 m cm L put bs w) : ∀ b ∈ bs, b.length ≤ 512 := by
  obtain ⟨S, _, le, F, rfl, h2⟩ := h.ex
  intro b hb
  obtain ⟨i, hi, e⟩ := List.getElem_of_mem hb
  exact (h2.tx i b (by rw [List.getElem?_eq_getElem hi, e])).1
section
variable {B g fb base bx bw bn k nI nT bI oI cI : Nat} {w0 w w' : World} {YR Y : Nat → Prop} {m mx : Mt} {idsR idsN L : List Int} {bsR bs tsN : List (List UInt8)} {u4 u5 vI vT : Value} {r : Int}
theorem ck_cells (h : CwA B g fb w0 base bx bw bn YR m idsR bsR L k bs mx (.slice (some ⟨bI, oI, none⟩) nI cI) u5 (.slice (some ⟨bI, oI, none⟩) nI cI) nI idsN vT nT tsN Y w) (hn : 0 < idsN.length) (hr : idsN.getD 0 0 = r) :
    w.cell? ⟨bw, 0, none⟩ = some (.int .u64 (m.gen : Int)) ∧ w.cell? ⟨bx, 4, none⟩ = some (.slice (some ⟨bI, oI, none⟩) nI cI) ∧ w.cell? ⟨bI, oI, none⟩ = some (.int .i64 r) := by
  obtain ⟨_, _, _, _, h1⟩ := h.rw
  obtain ⟨b, o, e, h2⟩ := lies_z (LiesP.own (P := fun _ => True) h.ids (fun _ _ => trivial)).lies 0 hn
  injection e with e
  injection e with e1 e2
  subst e1 e2
  have := h2 0 hn
  rw [hr, Nat.add_zero] at this
  exact ⟨h1.box.six.1, h.box.six.2.2.2.2.1, this⟩
theorem CwA.meta4 (h : CwA B g fb w0 base bx bw bn YR m idsR bsR L k bs mx u4 u5 vI nI idsN vT nT tsN Y w) (my : Mt) (gi ri : Int) (hg : (my.gen : Int) = gi) (hr : (my.root : Int) = ri) :
    CwA B g fb w0 base bx bw bn YR m idsR bsR L k bs my u4 u5 vI nI idsN vT nT tsN Y ((((w.setCell ⟨bx, 0, none⟩ (.int .u64 gi)).setCell ⟨bx, 1, none⟩ (.int .i64 ri)).setCell ⟨bx, 2, none⟩ (.int .i64 (my.count : Int))).setCell ⟨bx, 3, none⟩ (.int .u64 (my.mark : Int))) := by
  subst hg hr
  exact h.store (grown_four _ _ _ _) (by simp) (Whole.put (Whole.put (Whole.put (Whole.put h.box 0 _) 1 _) 2 _) 3 _)
theorem CwB.below (h : CwB B g w0 bx bw bn YR m idsR bsR mx u4 u5 Y w) (hb : Below w.heap.size w w') : CwB B g w0 bx bw bn YR m idsR bsR mx u4 u5 Y w' := by
  obtain ⟨S, h1, h2⟩ := h.a
  have hk : ∀ i, YR i → w'.heap[i]? = w.heap[i]? := fun i hi => hb.block i (h1.xs i (h.sub i hi)).2
  exact ⟨⟨S, (h1.below hb).1, h2⟩, h.sub, h.rw.kept hk hb.size, h.rn.kept hk hb.size, (hb.block bx h.box.lt).trans h.box, h.yx⟩
end
section
variable {B g fb base bx bw bn k i mark : Nat} {w0 w : World} {YR Y : Nat → Prop} {m mx : Mt} {idsR idsN L : List Int} {bsR bs tsN : List (List UInt8)} {u4 u5 vT : Value} {AI AT : Option Addr} {cI cT nT bI oI : Nat} {r : Int}
theorem cw_sorted (h : CwA B g fb w0 base bx bw bn YR m idsR bsR L k bs mx u4 u5 (.slice AI k cI) k idsN vT nT tsN Y w) (hlen : idsN.length = k) (hup : ∀ j, j + 1 < idsN.length → idsN.getD j 0 < idsN.getD (j + 1) 0) (hk : k ≤ 1000) :
    Calls Try.prog 13 #[.slice AI k cI] w fun e w' => ∃ (A : Option Addr) (c : Nat) (Y' : Nat → Prop), e = .returned (.slice A k c) ∧ k ≤ c ∧ c ≤ maxLen ∧ CwA B g fb w0 base bx bw bn YR m idsR bsR L k bs mx u4 u5 (.slice AI k cI) k idsN vT nT tsN Y' w' ∧ LiesP w' Y' A (cellsZ idsN) := by
  have hs := sorted_up9 idsN AI cI w.heap.size w (LiesP.own (P := fun _ => True) h.ids (fun _ _ => trivial)).lies (Nat.le_refl _) (by omega) hup
  rw [hlen] at hs
  refine hs.mono ?_
  rintro e w' ⟨v, rfl, ho, hb⟩
  obtain ⟨A, c, rfl, h1, h2⟩ := own_form ho
  exact ⟨A, c, _, rfl, h1, h2, h.fence hb, LiesP.own ho (fun i hi => .inr (ho.lt i hi))⟩
theorem ck_commit (h : CwA B g fb w0 base bx bw bn YR m idsR bsR L k bs (nxM m L i mark) (.slice AI k cI) (.slice AT k cT) (.slice AI k cI) k (L.take k) (.slice AT k cT) k bs Y w) (hput : 1 ≤ k) (hgn : m.gen < 1000000) (hi : i < 1000000) (hmk : mark < 18446744073709551616) (hfit : ∀ b ∈ bs, b.length ≤ 512) (A : Option Addr) (c : Nat) (hl : LiesP w Y A (cellsZ (L.take k))) (hc1 : k ≤ c) (hc2 : c ≤ maxLen) (r : Int) (hr : r = L.getD 0 0) :
    Calls Try.prog 14 #[ptr fb, .int .i64 r, .int .i64 (i : Int), .int .u64 (mark : Int), .slice A k c] w fun e w' => ∃ x : Int, e = .returned (.int .i64 x) ∧ Below B w0 w' ∧ RecAt YR w' bw m idsR bsR ∧ RecAt YR w' bn m idsR bsR ∧ RecE Y w' bx (nxM m L i mark) (L.take k) bs AI cI AT cT ∧
      (((x != 0) = false ∧ ∃ L', CrA B g fb 3000 Y w0 (nxM m L i mark) (cmOf (L.take k) bs) L' 0 [] w') ∨ ((x != 0) = true ∧ ∃ S', At B Y w0 g S' w' ∧ ∀ ps, ∃ F, crash S' ps = one 3000 (-1) nmP F ∧ (QF 3000 m (cmOf idsR bsR) F ∨ QF 3000 (nxM m L i mark) (cmOf (L.take k) bs) F))) := by
  subst hr
  refine (cw_commit h hput hgn hi hmk hfit A c hl hc1 hc2).mono ?_
  rintro e w' ⟨x, rfl, h1, h2, ⟨A1, c1, A2, c2, e1, e2, h3⟩, h4⟩
  injection e1 with e1 _ e1'
  injection e2 with e2 _ e2'
  subst e1 e1' e2 e2'
  refine ⟨x, rfl, ?_, h1, h2, h3, h4⟩
  rcases h4 with ⟨_, _, h5⟩ | ⟨_, _, h5, _⟩
  · exact h5.bel.1
  · exact h5.bel
theorem ck_rec (h : RecE Y w bx mx idsN bs (some ⟨bI, oI, none⟩) cI AT cT) (hn : 0 < idsN.length) (hr : idsN.getD 0 0 = r) (hl : idsN.length = k) : w.cell? ⟨bx, 4, none⟩ = some (.slice (some ⟨bI, oI, none⟩) k cI) ∧ w.cell? ⟨bI, oI, none⟩ = some (.int .i64 r) := by
  obtain ⟨b, o, e, h2⟩ := lies_z (LiesP.own (P := fun _ => True) h.row (fun _ _ => trivial)).lies 0 hn
  injection e with e
  injection e with e1 e2
  subst e1 e2
  have := h2 0 hn
  rw [hr, Nat.add_zero] at this
  refine ⟨?_, this⟩
  rw [← hl]
  exact h.box.six.2.2.2.2.1
theorem At.less9 {X Y : Nat → Prop} {S : Dv} (h : At B X w0 g S w) (hy : ∀ i, Y i → X i) : At B Y w0 g S w := h.less hy
end
/-- a record in a row of records -/
structure RecF (w : World) (bl off : Nat) (m : Mt) (ids : List Int) (bs : List (List UInt8)) (A : Option Addr) (c : Nat) (A' : Option Addr) (c' : Nat) : Prop where
  cells : w.cell? ⟨bl, off, none⟩ = some (.int .u64 (m.gen : Int)) ∧ w.cell? ⟨bl, off + 1, none⟩ = some (.int .i64 (m.root : Int)) ∧ w.cell? ⟨bl, off + 2, none⟩ = some (.int .i64 (m.count : Int)) ∧ w.cell? ⟨bl, off + 3, none⟩ = some (.int .u64 (m.mark : Int)) ∧ w.cell? ⟨bl, off + 4, none⟩ = some (.slice A ids.length c) ∧ w.cell? ⟨bl, off + 5, none⟩ = some (.slice A' ids.length c')
  lt : bl < w.heap.size
  row : w.ownsRow 0 3 1 (.slice A ids.length c) ids.length (cellsZ ids)
  txt : w.ownsRow 0 9 1 (.slice A' ids.length c') ids.length (cellsX bs)
  len : bs.length = ids.length
  fit : ∀ b ∈ bs, b.length ≤ 512
  num : ∀ x ∈ ids, 2 ≤ x
theorem RecF.below {w w' : World} {bl off : Nat} {m : Mt} {ids : List Int} {bs : List (List UInt8)} {A A' : Option Addr} {c c' : Nat} (h : RecF w bl off m ids bs A c A' c') (hb : Below w.heap.size w w') : RecF w' bl off m ids bs A c A' c' := by
  have hc : ∀ k, w'.cell? ⟨bl, k, none⟩ = w.cell? ⟨bl, k, none⟩ := fun k => World.cell?_of_block (hb.block bl h.lt)
  refine ⟨?_, Nat.lt_of_lt_of_le h.lt hb.size, own_block h.row (fun i hi => hb.block i (h.row.lt i hi).2), own_block h.txt (fun i hi => hb.block i (h.txt.lt i hi).2), h.len, h.fit, h.num⟩
  simp only [hc]
  exact h.cells
theorem rec_f {Y : Nat → Prop} {W0 w : World} {B b1 b2 : Nat} {m1 m2 : Mt} {ids1 ids2 : List Int} {bs1 bs2 : List (List UInt8)} {A1 A2 A3 A4 : Option Addr} {c1 c2 c3 c4 : Nat} (h1 : RecE Y w b1 m1 ids1 bs1 A1 c1 A2 c2) (h2 : RecE Y w b2 m2 ids2 bs2 A3 c3 A4 c4) (_h : Below B W0 w) :
    RecF (w.alloc (.cells #[.int .u64 (m1.gen : Int), .int .i64 (m1.root : Int), .int .i64 (m1.count : Int), .int .u64 (m1.mark : Int), .slice A1 ids1.length c1, .slice A2 ids1.length c2, .int .u64 (m2.gen : Int), .int .i64 (m2.root : Int), .int .i64 (m2.count : Int), .int .u64 (m2.mark : Int), .slice A3 ids2.length c3, .slice A4 ids2.length c4] 58)) w.heap.size (0 * 6) m1 ids1 bs1 A1 c1 A2 c2 ∧
    RecF (w.alloc (.cells #[.int .u64 (m1.gen : Int), .int .i64 (m1.root : Int), .int .i64 (m1.count : Int), .int .u64 (m1.mark : Int), .slice A1 ids1.length c1, .slice A2 ids1.length c2, .int .u64 (m2.gen : Int), .int .i64 (m2.root : Int), .int .i64 (m2.count : Int), .int .u64 (m2.mark : Int), .slice A3 ids2.length c3, .slice A4 ids2.length c4] 58)) w.heap.size (1 * 6) m2 ids2 bs2 A3 c3 A4 c4 := by
  have hw := Whole.new w 58 #[.int .u64 (m1.gen : Int), .int .i64 (m1.root : Int), .int .i64 (m1.count : Int), .int .u64 (m1.mark : Int), .slice A1 ids1.length c1, .slice A2 ids1.length c2, .int .u64 (m2.gen : Int), .int .i64 (m2.root : Int), .int .i64 (m2.count : Int), .int .u64 (m2.mark : Int), .slice A3 ids2.length c3, .slice A4 ids2.length c4]
  exact ⟨⟨⟨(hw.cell 0).trans rfl, (hw.cell 1).trans rfl, (hw.cell 2).trans rfl, (hw.cell 3).trans rfl, (hw.cell 4).trans rfl, (hw.cell 5).trans rfl⟩, hw.lt, h1.row.alloc _, h1.txt.alloc _, h1.len, h1.fit, h1.num⟩,
    ⟨⟨(hw.cell 6).trans rfl, (hw.cell 7).trans rfl, (hw.cell 8).trans rfl, (hw.cell 9).trans rfl, (hw.cell 10).trans rfl, (hw.cell 11).trans rfl⟩, hw.lt, h2.row.alloc _, h2.txt.alloc _, h2.len, h2.fit, h2.num⟩⟩
theorem ck_ne {a b : Mt} (h : a ≠ b) : (a.gen : Int) = (b.gen : Int) → (a.root : Int) = (b.root : Int) → (a.count : Int) = (b.count : Int) → ¬ (a.mark : Int) = (b.mark : Int) := by
  intro h1 h2 h3 h4
  apply h
  obtain ⟨a0, a1, a2, a3⟩ := a
  obtain ⟨b0, b1, b2, b3⟩ := b
  simp only at h1 h2 h3 h4
  congr 1 <;> omega
theorem cm_mem {ids : List Int} {bs : List (List UInt8)} {k : Nat} (hk : k < ids.length) (hl : bs.length = ids.length) : ((ids.getD k 0).toNat, bs.getD k []) ∈ cmOf ids bs := by
  refine List.mem_of_getElem? (i := k) (List.getElem?_zip_eq_some.2 ⟨?_, ?_⟩)
  · simp [List.getD, hk]
  · simp [List.getD, show k < bs.length by omega]
theorem txt_cell {w : World} {A : Option Addr} {n c : Nat} {bs : List (List UInt8)} (h : w.ownsRow 0 9 1 (.slice A n c) n (cellsX bs)) (k : Nat) (hk : k < bs.length) : ∃ b o, A = some ⟨b, o, none⟩ ∧ w.cell? ⟨b, o + k, none⟩ = some (.string ⟨(pad (bs.getD k [])).toArray⟩) := by
  rcases LiesP.own (P := fun _ => True) h (fun _ _ => trivial) with h | ⟨b, o, rfl, _, _, h3⟩
  · have := congrArg List.length h
    rw [cellsX, List.length_map] at this
    simp only [List.length_nil] at this
    omega
  · exact ⟨b, o, rfl, h3 k _ (by simp [cellsX, hk, List.getD])⟩
theorem ck_pick {W wc : World} {Y : Nat → Prop} {A : Option Addr} {pk : List Int} (h : Lies W W.heap.size A (cellsZ pk)) (hb : Below W.heap.size W wc) : PickAt (fun i => W.heap.size ≤ i ∧ ¬ Y i) wc A pk := by
  rcases h with h | ⟨b, o, rfl, h1, h2⟩
  · left
    have := congrArg List.length h
    rw [cellsZ, List.length_map] at this
    exact List.eq_nil_of_length_eq_zero this
  · exact .inr ⟨b, o, rfl, Nat.lt_of_lt_of_le h1 hb.size, fun hh => by omega, fun i hi => by rw [World.cell?_of_block (w := W) (hb.block b h1)]; exact h2 i _ (by simp [cellsZ, hi])⟩
set_option maxHeartbeats 20000000 in
theorem crash9_law (l pk : List Int) (fu : Int) (A A2 : Option Addr) (cap cap2 : Nat) (W : World) (hc1 : l.length ≤ cap) (hc2 : cap ≤ maxLen) (hl : Lies W W.heap.size A (cellsZ l)) (h64 : In64 l) (hfu : -9223372036854775808 ≤ fu ∧ fu < 9223372036854775808)
    (hp1 : pk.length ≤ cap2) (hp2 : cap2 ≤ maxLen) (hpl : Lies W W.heap.size A2 (cellsZ pk)) (hp64 : In64 pk) :
    Calls Try.prog 6 #[.slice A l.length cap, .int .i64 fu, .slice A2 pk.length cap2] W fun e w' => e = .returned (.bool true) ∧ Below W.heap.size W w' := by
  have HL := Lib.hid hl
  have H64 := Lib.hid h64
  have HPL := Lib.hid hpl
  have HP64 := Lib.hid hp64
  have HP1 := Lib.hid hp1
  have HP2 := Lib.hid hp2
  obtain ⟨fn, hfn, _, hfe⟩ := mask_is fu 255 8 (by omega) (by decide)
  have hfn2 : fn < 256 := hfn
  unfold maxLen at hc2
  obtain ⟨i0, hI, hz0, hz1, hz2⟩ := info_parts int_info9
  obtain ⟨i1, hJ, hj0, hj1, hj2⟩ := info_parts str_info9
  have HI := Lib.hid hI
  have H0 := Lib.hid hz0
  have H1 := Lib.hid hz1
  have H2 := Lib.hid hz2
  have HJ := Lib.hid hJ
  have J0 := Lib.hid hj0
  have J1 := Lib.hid hj1
  have J2 := Lib.hid hj2
  clear hl h64 hpl hp64 hp1 hp2 hfn hfu hI hz0 hz1 hz2 hJ hj0 hj1 hj2
  go_enter Try.func6, Try.ntmps6
  have hdv : newDv 3000 = ⟨3000, -1, []⟩ := rfl
  have HDV := Lib.hid hdv
  clear hdv
  go_upto_region 4 with (go_at_call 9; go_must (refine (at_new 3000 _ (by omega)).mono ?_); rintro e w1 ⟨g, rfl, h1⟩; rw [HDV.out] at h1; have A1 := Lib.hid h1; clear h1)
  have hop := cr_start (mo := 3000) A1.out rfl (by omega) (by omega)
  have HOP := Lib.hid hop
  clear hop
  go_upto_region 7 with (go_at_call 10; go_must (refine HOP.out.mono ?_); rintro e w2 ⟨fb, rfl, hfb, hP, hk⟩; have P2 := Lib.hid hP; clear hP hk)
  have hme := fun (w : World) (hb : Below w2.heap.size w2 w) => cr_meta (P2.out.below hb)
  have HME := Lib.hid hme
  clear hme
  go_upto_region 8 with (first
    | (go_at_call 16; refine (HME.out _ B3.out).mono ?_; rintro e w4 ⟨rfl, hb4⟩; have B4 := Lib.hid (B3.out.trans (hb4.mono B3.out.size)); clear hb4)
    | (go_at_call 16; go_must (refine (HME.out _ (Below.refl _ _)).mono ?_); rintro e w3 ⟨rfl, hb3⟩; have B3 := Lib.hid hb3; clear hb3))
  obtain ⟨Y5, cA, cW, cN⟩ := ck_start (P2.out.below B4.out)
  obtain ⟨w5, hw5⟩ : ∃ w5, w5 = (w4.alloc rec1).alloc rec1 := ⟨_, rfl⟩
  obtain ⟨bn, hbn⟩ : ∃ bn, bn = w4.heap.size + 1 := ⟨_, rfl⟩
  obtain ⟨bw, hbw⟩ : ∃ bw, bw = w4.heap.size := ⟨_, rfl⟩
  have HNE : Hid (bw ≠ bn) := Lib.hid (by omega)
  rw [← hw5] at cA cW cN
  rw [← hbn] at cN ⊢
  rw [← hbw] at cW ⊢
  unfold rec1 at hw5
  rw [← hw5]
  have HFU := Lib.hid (cr_fuse cA (fn : Int) (by omega))
  have CW := Lib.hid cW
  have CN := Lib.hid cN
  clear cA cW cN hw5 hbn hbw HME HOP A1 P2 B3 B4
  go_upto_region 9 with (go_at_call 25; go_must (refine HFU.out.mono ?_); rintro e w6 ⟨rfl, hC6, hk6⟩; have C6 := Lib.hid hC6; have W6 := Lib.hid (CW.out.kept hk6.1 hk6.2); have N6 := Lib.hid (CN.out.kept hk6.1 hk6.2); clear hC6 hk6)
  clear HFU CW CN hfe
  go_upto_block 0 with fail
  go_cut [] (fun wx => CkX W g bw bn wx)
  case first =>
    go_wp2_with fail
    go_loopw [12] (fun v12 wr => CkO W g fb bw bn l.length v12 wr) (fun v12 _ => 8 - (intOf v12).toNat)
    case atStart => exact ⟨0, Y5, ⟨1, 0, 0, 0⟩, [], [], [], rfl, Nat.zero_le _, by omega, rfl, C6.out, W6.out, N6.out⟩
    case round =>
      clear C6 W6 N6
      obtain ⟨i, Y, m, ids, bs, L, rfl, hi1, hi2, hgen, hC, hRw, hRn⟩ := hrel
      obtain ⟨w7, hw7⟩ : ∃ w7 : World, w7 = wr := ⟨_, rfl⟩
      subst hw7
      have CC := Lib.hid hC
      have RW := Lib.hid hRw
      have RN := Lib.hid hRn
      have HG := Lib.hid hgen
      clear hC hRw hRn hgen
      by_cases hlt : i < l.length ∧ i < 8
      · obtain ⟨hi3, hi4⟩ := hlt
        have hg1 : (i : Int) < (l.length : Int) := by omega
        have hg2 : (i : Int) < 8 := by omega
        obtain ⟨A3, c3, A4, c4, hre⟩ := RN.out
        obtain ⟨nn, hnn⟩ : ∃ nn, nn = ids.length := ⟨_, rfl⟩
        have hsx := hre.box.six
        obtain ⟨_, _, _, _, hbo⟩ := RW.out
        have hbw0 := hbo.box.lt
        have hfz := hbo.box.frozen
        obtain ⟨y0, y1, y2, y3, y4, y5⟩ := hbo.box.six
        have HOV := Lib.hid (hre.over hbo.box rfl hbo.y)
        have HSD := Lib.hid (hre.aside (grown_six (w := w7) (g := bw) (.int .u64 (m.gen : Int)) (.int .i64 (m.root : Int)) (.int .i64 (m.count : Int)) (.int .u64 (m.mark : Int)) (.slice A3 ids.length c3) (.slice A4 ids.length c4)) hbo.box (Ne.symm HNE.out))
        obtain ⟨n0, n1, n2, n3, n4, n5⟩ := hsx
        go_upto_region 13 with fail
        obtain ⟨wa, hwa⟩ : ∃ wa, wa = (((((w7.setCell ⟨bw, 0, none⟩ (.int .u64 (m.gen : Int))).setCell ⟨bw, 1, none⟩ (.int .i64 (m.root : Int))).setCell ⟨bw, 2, none⟩ (.int .i64 (m.count : Int))).setCell ⟨bw, 3, none⟩ (.int .u64 (m.mark : Int))).setCell ⟨bw, 4, none⟩ (.slice A3 ids.length c3)).setCell ⟨bw, 5, none⟩ (.slice A4 ids.length c4) := ⟨_, rfl⟩
        have CA := Lib.hid ((CC.out.grown (grown_six (w := w7) (g := bw) (.int .u64 (m.gen : Int)) (.int .i64 (m.root : Int)) (.int .i64 (m.count : Int)) (.int .u64 (m.mark : Int)) (.slice A3 ids.length c3) (.slice A4 ids.length c4)) (fun k hk => by cases hk; exact hbo.y)).less (Y' := Y) (fun i hi => .inl hi))
        rw [← hwa] at HOV HSD CA ⊢
        clear hwa n0 n1 n2 n3 n4 n5 y0 y1 y2 y3 y4 y5 hfz hbw0 hbo hre CC RW RN hnn
        obtain ⟨b, o, rfl, e0⟩ := zs_cell9 HL.out i hi3
        have HLI := Lib.hid e0
        have hx64 := H64.out (l.getD i 0) (by simp only [List.getD, List.getElem?_eq_getElem hi3, Option.getD_some]; exact List.getElem_mem hi3)
        obtain ⟨x, hx⟩ : ∃ x, x = l.getD i 0 := ⟨_, rfl⟩
        rw [← hx] at HLI hx64
        obtain ⟨c, hcl, _, hce⟩ := mask_is x 3 2 (by omega) (by decide)
        obtain ⟨mk, hml, _, hme⟩ := mask_is x 255 8 (by omega) (by decide)
        have hc4 : c < 4 := hcl
        have hmk : mk < 256 := hml
        have HCE := Lib.hid hce
        have HME := Lib.hid hme
        obtain ⟨q, hq⟩ : ∃ q, q = c + 1 := ⟨_, rfl⟩
        have HQ := Lib.hid hq
        clear e0 hx hcl hml hce hme
        obtain ⟨Y0, cN⟩ := ck_next CA.out ⟨_, _, _, _, HOV.out⟩ ⟨_, _, _, _, HSD.out⟩
        have CN := Lib.hid cN
        clear cN HOV HSD CA hq
        go_upto_block 2 with fail
        obtain ⟨wb, hwb⟩ : ∃ wb, wb = wa.alloc rec0 := ⟨_, rfl⟩
        obtain ⟨bx, hbx⟩ : ∃ bx, bx = wa.heap.size := ⟨_, rfl⟩
        rw [← hwb, ← hbx] at CN
        unfold rec0 at hwb
        rw [← hwb, ← hbx]
        clear hwb hbx
        go_cut [] (fun wx => CkQ W g fb bx bx bw bn Y m ids bs q wx)
        case first =>
          go_wp2_with fail
          go_loopw [14] (fun v14 wy => CkP W g fb bx bx bw bn Y m ids bs c v14 wy) (fun v14 _ => c + 1 - (intOf v14).toNat)
          case atStart => exact ⟨0, Y0, L, [], .slice none 0 0, .slice none 0 0, rfl, Nat.zero_le _, CN.out⟩
          case round =>
            obtain ⟨k, Yk, Lk, bk, vI, vT, rfl, hk, hA⟩ := hrel
            obtain ⟨wk, hwk⟩ : ∃ wk : World, wk = wr := ⟨_, rfl⟩
            subst hwk
            obtain ⟨AI, cI, rfl, hcI1, hcI2⟩ := own_form hA.ids
            obtain ⟨AT, cT, rfl, hcT1, hcT2⟩ := own_form hA.txt
            have AK := Lib.hid hA
            have hli := HLI.out wk hA.a.bel.1
            clear hA
            have hce := HCE.out
            by_cases hkc : k ≤ c
            · have hkc2 : (k : Int) ≤ (c : Int) := by omega
              obtain ⟨z, hz⟩ : ∃ z, z = IntKind.i64.wrap (x + (k : Int)) := ⟨_, rfl⟩
              have hzr : -9223372036854775808 ≤ z ∧ z < 9223372036854775808 := by rw [hz, IntKind.wrap_i64]; omega
              obtain ⟨fl, hfl⟩ : ∃ fl, fl = fillB z := ⟨_, rfl⟩
              have hfl5 : fl.length ≤ 512 := by rw [hfl, fillB_length]; exact (fillN_le _).2
              have HFI := Lib.hid (fun (w : World) Lq kq bq u4 u5 v1 n1 i1 v2 n2 t2 Yq (h : CwA W.heap.size g fb W bx bx bw bn Y m ids bs Lq kq bq mt0 u4 u5 v1 n1 i1 v2 n2 t2 Yq w) => cw_fill h z hzr)
              rw [← hfl] at HFI
              have HZ := Lib.hid hz.symm
              have hz2 := hz.symm
              clear hz hfl
              go_upto_region 18 with (first
                | (go_at_call 12; go_must (refine (HFI.out _ _ _ _ _ _ _ _ _ _ _ _ _ AK.out).mono ?_); rintro e w8 ⟨A8, c8, Y8, rfl, hc8, hm8, hA8, hl8⟩; have A8' := Lib.hid hA8; have L8 := Lib.hid hl8; have C8 := Lib.hid hc8; have M8 := Lib.hid hm8; clear hA8 hl8 hc8 hm8)
                | (go_at_call 11; go_must (refine (cw_put A8'.out fl A8 c8 L8.out C8.out M8.out hfl5).mono ?_); rintro e w9 ⟨id, xe, rfl, hr9⟩; have R9 := Lib.hid hr9; clear hr9))
              rcases R9.out with ⟨rfl, hid1, hid2, L', hL', hA9⟩ | ⟨hxe, hB9⟩
              · have A9 := Lib.hid hA9
                have HL' := Lib.hid hL'
                have hon : ∀ u ∈ [Value.int .i64 id], u.oneCell' = true := fun u hu => by simp [List.mem_singleton.1 hu, Value.oneCell']
                have hons : ∀ u ∈ [Value.string ⟨(pad fl).toArray⟩], u.oneCell' = true := fun u hu => by simp [List.mem_singleton.1 hu, Value.oneCell']
                have hr1 : k + 1 ≤ maxLen := by unfold maxLen; omega
                have hr2 : (k + 1) * 8 ≤ 140737488355328 := by omega
                have hr3 : (k + 1) * 16 ≤ 140737488355328 := by omega
                have HON := Lib.hid hon
                have HONs := Lib.hid hons
                have HR1 := Lib.hid hr1
                have HR2 := Lib.hid hr2
                have HR3 := Lib.hid hr3
                clear hA9 hL' hon hons hr1 hr2 hr3 R9 AK A8' L8 hli
                go_upto_region 19 with fail
                have D9 := Lib.hid (A9.out.below ((Below.refl _ _).drew))
                refine Till.begin (k := 18) (S0 := fun w' => w'.cell? ⟨b, o + i, none⟩ = some (.int .i64 x)) (S1 := fun w' => w'.cell? ⟨bx, 4, none⟩ = some (.slice AI k cI) ∧ w'.cell? ⟨bx, 5, none⟩ = some (.slice AT k cT)) (by kernel_rfl) ⟨HLI.out _ D9.out.a.bel.1, D9.out.cells45⟩ (fun hS0 => ?_)
                obtain ⟨wd, hwd⟩ : ∃ wd, wd = w9.drew := ⟨_, rfl⟩
                rw [← hwd] at D9 hS0 ⊢
                clear hwd
                refine Till.take0 (i := 0) (oi := ⟨some 85, _, _, _, _, _⟩) (v := ?_) rfl (by kernel_rfl) (by kernel_rfl) (by kernel_rfl) (fun _ _ _ h => h) rfl (Or.inl ⟨by rfl, ?_⟩) (till_at hS0) ?_
                rotate_left
                · (intro wS hSw; (try dsimp only at hSw); go_simp); all_goals (with_reducible rfl)
                try simp only [Act.put, List.setIfInBounds_toArray, List.set_cons_zero, List.set_cons_succ]
                refine Till.take1 (i := 1) (oi := ⟨some 86, _, _, _, _, _⟩) (v := ?_) rfl (by kernel_rfl) (by kernel_rfl) (by kernel_rfl) (fun _ _ _ h => h) rfl (by kernel_rfl) (by rfl) (Or.inl ⟨by rfl, ?_⟩) (till_at hS0) ?_
                rotate_left
                · (intro wS hSw; (try dsimp only at hSw); go_simp); all_goals (with_reducible rfl)
                try simp only [Act.put, List.setIfInBounds_toArray, List.set_cons_zero, List.set_cons_succ]
                refine Till.take0 (i := 2) (oi := ⟨some 87, _, _, _, _, _⟩) (v := ?_) rfl (by kernel_rfl) (by kernel_rfl) (by kernel_rfl) (fun _ _ _ h => h) rfl (Or.inl ⟨by rfl, ?_⟩) (till_at hS0) ?_
                rotate_left
                · (intro wS hSw; (try dsimp only at hSw); go_simp); all_goals (with_reducible rfl)
                try simp only [Act.put, List.setIfInBounds_toArray, List.set_cons_zero, List.set_cons_succ]
                refine Till.take0 (i := 5) (oi := ⟨some 90, _, _, _, _, _⟩) (v := ?_) rfl (by kernel_rfl) (by kernel_rfl) (by kernel_rfl) (fun _ _ _ h => h) rfl (Or.inl ⟨by rfl, ?_⟩) (till_at hS0) ?_
                rotate_left
                · (intro wS hSw; (try dsimp only at hSw); go_simp); all_goals (with_reducible rfl)
                try simp only [Act.put, List.setIfInBounds_toArray, List.set_cons_zero, List.set_cons_succ]
                refine Till.take1 (i := 6) (oi := ⟨some 91, _, _, _, _, _⟩) (v := ?_) rfl (by kernel_rfl) (by kernel_rfl) (by kernel_rfl) (fun _ _ _ h => h) rfl (by kernel_rfl) (by rfl) (Or.inl ⟨by rfl, ?_⟩) (till_at hS0) ?_
                rotate_left
                · (intro wS hSw; (try dsimp only at hSw); go_simp); all_goals (with_reducible rfl)
                try simp only [Act.put, List.setIfInBounds_toArray, List.set_cons_zero, List.set_cons_succ]
                refine Till.take0 (i := 7) (oi := ⟨some 92, _, _, _, _, _⟩) (v := ?_) rfl (by kernel_rfl) (by kernel_rfl) (by kernel_rfl) (fun _ _ _ h => h) rfl (Or.inl ⟨by rfl, ?_⟩) (till_at hS0) ?_
                rotate_left
                · (intro wS hSw; (try dsimp only at hSw); go_simp); all_goals (with_reducible rfl)
                try simp only [Act.put, List.setIfInBounds_toArray, List.set_cons_zero, List.set_cons_succ]
                refine Till.take0 (i := 8) (oi := ⟨some 93, _, _, _, _, _⟩) (v := ?_) rfl (by kernel_rfl) (by kernel_rfl) (by kernel_rfl) (fun _ _ _ h => h) rfl (Or.inl ⟨by rfl, ?_⟩) (till_at hS0) ?_
                rotate_left
                · (intro wS hSw; (try dsimp only at hSw); go_simp); all_goals (with_reducible rfl)
                try simp only [Act.put, List.setIfInBounds_toArray, List.set_cons_zero, List.set_cons_succ]
                refine Till.take0 (i := 9) (oi := ⟨some 94, _, _, _, _, _⟩) (v := ?_) rfl (by kernel_rfl) (by kernel_rfl) (by kernel_rfl) (fun _ _ _ h => h) rfl (Or.inl ⟨by rfl, ?_⟩) (till_at hS0) ?_
                rotate_left
                · (intro wS hSw; (try dsimp only at hSw); go_simp); all_goals (with_reducible rfl)
                try simp only [Act.put, List.setIfInBounds_toArray, List.set_cons_zero, List.set_cons_succ]
                refine Till.take0 (i := 10) (oi := ⟨some 95, _, _, _, _, _⟩) (v := ?_) rfl (by kernel_rfl) (by kernel_rfl) (by kernel_rfl) (fun _ _ _ h => h) rfl (Or.inl ⟨by rfl, ?_⟩) (till_at hS0) ?_
                rotate_left
                · (intro wS hSw; (try dsimp only at hSw); go_simp); all_goals (with_reducible rfl)
                try simp only [Act.put, List.setIfInBounds_toArray, List.set_cons_zero, List.set_cons_succ]
                refine Till.take0 (i := 11) (oi := ⟨some 96, _, _, _, _, _⟩) (v := ?_) rfl (by kernel_rfl) (by kernel_rfl) (by kernel_rfl) (fun _ _ _ h => h) rfl (Or.inl ⟨by rfl, ?_⟩) (till_at hS0) ?_
                rotate_left
                · (intro wS hSw; (try dsimp only at hSw); go_simp); all_goals (with_reducible rfl)
                try simp only [Act.put, List.setIfInBounds_toArray, List.set_cons_zero, List.set_cons_succ]
                refine Till.take0 (i := 12) (oi := ⟨some 97, _, _, _, _, _⟩) (v := ?_) rfl (by kernel_rfl) (by kernel_rfl) (by kernel_rfl) (fun _ _ _ h => h) rfl (Or.inl ⟨by rfl, ?_⟩) (till_at hS0) ?_
                rotate_left
                · (intro wS hSw; (try dsimp only at hSw); go_simp); all_goals (with_reducible rfl)
                try simp only [Act.put, List.setIfInBounds_toArray, List.set_cons_zero, List.set_cons_succ]
                refine Till.ready (rs := [3]) (by kernel_rfl) (by simp) ?_
                refine TillReady.cons (o := ⟨some 88, _, _, _, _, _⟩) rfl (fun K hK => ?_) TillReady.nil
                have D3 := Lib.hid (D9.out.below ((Below.refl _ _).alloc (Nat.le_refl _) (.cells #[.int .i64 id] 3)))
                have L3 := Lib.hid (Lies.lit wd 3 [.int .i64 id])
                go_simp
                go_wp2_with fail
                have hS3 : _ ∧ _ := ⟨HLI.out _ D3.out.a.bel.1, D3.out.cells45⟩
                refine hK.out _ _ (till_at hS3) (fun _ => ?_)
                clear hK K
                try simp only [Act.put, List.setIfInBounds_toArray, List.set_cons_zero, List.set_cons_succ]
                obtain ⟨wn3, hwn3⟩ : ∃ wn, wn = wd.alloc (.cells #[.int .i64 id] 3) := ⟨_, rfl⟩
                obtain ⟨gn3, hgn3⟩ : ∃ g, g = wd.heap.size := ⟨_, rfl⟩
                rw [← hwn3] at D3 L3 hS3 ⊢
                rw [← hgn3] at L3 ⊢
                clear hwn3 hgn3
                refine Till.ready (rs := [4]) (by kernel_rfl) (by simp) ?_
                refine TillReady.cons (o := ⟨some 89, _, _, _, _, _⟩) rfl (fun K hK => ?_) TillReady.nil
                refine step_append_own2 (by rfl) _ _ 22 (by rfl) bx 3 i0 (.int .i64 0) 1 8 Try.underlying22 HI.out H0.out H1.out H2.out rfl (by omega) (.slice AI k cI) k (cellsZ (Lk.take k)) (by rfl) D3.out.ids _ _ 1 1 [.int .i64 id] (by rfl) L3.out rfl HON.out HR1.out HR2.out D3.out.le ?_
                intro v4 w4 o4 g4 q4
                have o4' : w4.ownsRow bx 3 1 v4 (k + 1) (cellsZ (L'.take (k + 1))) := by rw [HL'.out, cellsZ_snoc]; exact o4
                obtain ⟨AV4, cV4, rfl, _, _⟩ := own_form o4'
                have D4 := Lib.hid (D3.out.appI o4' g4 q4)
                clear o4 o4' g4 q4
                have hS4 : _ ∧ _ := ⟨HLI.out _ D4.out.a.bel.1, D4.out.cells45⟩
                refine hK.out _ _ (till_at hS4) (fun _ => ?_)
                clear hK K
                try simp only [Act.put, List.setIfInBounds_toArray, List.set_cons_zero, List.set_cons_succ]
                refine Till.take0 (i := 17) (oi := ⟨some 102, _, _, _, _, _⟩) (v := ?_) rfl (by kernel_rfl) (by kernel_rfl) (by kernel_rfl) (fun _ _ _ h => h) rfl (Or.inl ⟨by rfl, ?_⟩) (till_at hS4) ?_
                rotate_left
                · (intro wS hSw; (try dsimp only at hSw); go_simp); all_goals (with_reducible rfl)
                try simp only [Act.put, List.setIfInBounds_toArray, List.set_cons_zero, List.set_cons_succ]
                refine Till.ready (rs := [13]) (by kernel_rfl) (by simp) ?_
                refine TillReady.cons (o := ⟨some 98, _, _, _, _, _⟩) rfl (fun K hK => ?_) TillReady.nil
                go_simp
                refine (HFI.out _ _ _ _ _ _ _ _ _ _ _ _ _ D4.out).mono ?_
                rintro e w13 ⟨A13, c13, Y13, rfl, _, _, hA13, hl13⟩
                have D13 := Lib.hid hA13
                have L13 := Lib.hid hl13.lies
                clear hA13 hl13
                go_wp2_with fail
                have hS13 : _ ∧ _ := ⟨HLI.out _ D13.out.a.bel.1, D13.out.cells45⟩
                refine hK.out _ _ (till_at hS13) (fun _ => ?_)
                clear hK K
                try simp only [Act.put, List.setIfInBounds_toArray, List.set_cons_zero, List.set_cons_succ]
                refine Till.ready (rs := [14]) (by kernel_rfl) (by simp) ?_
                refine TillReady.cons (o := ⟨some 99, _, _, _, _, _⟩) rfl (fun K hK => ?_) TillReady.nil
                go_simp
                refine (whole_any fl A13 c13 w13 L13.out hfl5).mono ?_
                rintro e w14 ⟨rfl, hb14⟩
                have D14 := Lib.hid (D13.out.below hb14)
                clear hb14
                go_wp2_with fail
                have hS14 : _ ∧ _ := ⟨HLI.out _ D14.out.a.bel.1, D14.out.cells45⟩
                refine hK.out _ _ (till_at hS14) (fun _ => ?_)
                clear hK K
                try simp only [Act.put, List.setIfInBounds_toArray, List.set_cons_zero, List.set_cons_succ]
                refine Till.ready (rs := [15]) (by kernel_rfl) (by simp) ?_
                refine TillReady.cons (o := ⟨some 100, _, _, _, _, _⟩) rfl (fun K hK => ?_) TillReady.nil
                have D15 := Lib.hid (D14.out.below ((Below.refl _ _).alloc (Nat.le_refl _) (.cells #[.string ⟨(pad fl).toArray⟩] 9)))
                have L15 := Lib.hid (Lies.lit w14 9 [.string ⟨(pad fl).toArray⟩])
                go_simp
                go_wp2_with fail
                have hS15 : _ ∧ _ := ⟨HLI.out _ D15.out.a.bel.1, D15.out.cells45⟩
                refine hK.out _ _ (till_at hS15) (fun _ => ?_)
                clear hK K
                try simp only [Act.put, List.setIfInBounds_toArray, List.set_cons_zero, List.set_cons_succ]
                obtain ⟨wn15, hwn15⟩ : ∃ wn, wn = w14.alloc (.cells #[.string ⟨(pad fl).toArray⟩] 9) := ⟨_, rfl⟩
                obtain ⟨gn15, hgn15⟩ : ∃ g, g = w14.heap.size := ⟨_, rfl⟩
                rw [← hwn15] at D15 L15 hS15 ⊢
                rw [← hgn15] at L15 ⊢
                clear hwn15 hgn15
                refine Till.ready (rs := [16]) (by kernel_rfl) (by simp) ?_
                refine TillReady.cons (o := ⟨some 101, _, _, _, _, _⟩) rfl (fun K hK => ?_) TillReady.nil
                refine step_append_own2 (by rfl) _ _ 51 (by rfl) bx 9 i1 (.string ⟨#[]⟩) 1 16 Try.underlying51 HJ.out J0.out J1.out J2.out rfl (by omega) (.slice AT k cT) k (cellsX bk) (by rfl) D15.out.txt _ _ 1 1 [.string ⟨(pad fl).toArray⟩] (by rfl) L15.out rfl HONs.out HR1.out HR3.out D15.out.le ?_
                intro v16 w16 o16 g16 q16
                have o16' : w16.ownsRow bx 9 1 v16 (k + 1) (cellsX (bk ++ [fl])) := by rw [cellsX_snoc]; exact o16
                obtain ⟨AV16, cV16, rfl, _, _⟩ := own_form o16'
                have D16 := Lib.hid (D15.out.appT o16' g16 q16)
                clear o16 o16' g16 q16
                have hS16 : _ ∧ _ := ⟨HLI.out _ D16.out.a.bel.1, D16.out.cells45⟩
                refine hK.out _ _ (till_at hS16) (fun _ => ?_)
                clear hK K
                try simp only [Act.put, List.setIfInBounds_toArray, List.set_cons_zero, List.set_cons_succ]
                refine Till.ready (rs := [18]) (by kernel_rfl) (by simp) ?_
                refine TillReady.cons (o := ⟨none, _, _, _, _, _⟩) rfl (fun K hK => ?_) TillReady.nil
                have D18 := Lib.hid (D16.out.st4 (.slice AV4 (k + 1) cV4))
                obtain ⟨z0, z1, z2, z3, z4, z5⟩ := D16.out.box.six
                have zf := D16.out.box.frozen
                go_simp
                go_wp2_with fail
                have hS18 := HLI.out _ D18.out.a.bel.1
                refine hK.out _ _ (till_past hS18 (by rfl)) (fun _ => ?_)
                clear hK K
                try simp only [Act.put, List.setIfInBounds_toArray, List.set_cons_zero, List.set_cons_succ]
                clear z0 z1 z2 z3 z4 z5 zf
                obtain ⟨wn18, hwn18⟩ : ∃ wn, wn = w16.setCell ⟨bx, 4, none⟩ (.slice AV4 (k + 1) cV4) := ⟨_, rfl⟩
                rw [← hwn18] at D18 hS18 ⊢
                clear hwn18
                refine Till.take0 (i := 19) (oi := ⟨some 103, _, _, _, _, _⟩) (v := ?_) rfl (by kernel_rfl) (by kernel_rfl) (by kernel_rfl) (fun _ _ _ h => h) rfl (Or.inl ⟨by rfl, ?_⟩) (till_past hS18 (by rfl)) ?_
                rotate_left
                · (intro wS hSw; (try dsimp only at hSw); go_simp); all_goals (with_reducible rfl)
                try simp only [Act.put, List.setIfInBounds_toArray, List.set_cons_zero, List.set_cons_succ]
                refine Till.ready (rs := [20]) (by kernel_rfl) (by simp) ?_
                refine TillReady.cons (o := ⟨none, _, _, _, _, _⟩) rfl (fun K hK => ?_) TillReady.nil
                have D20 := Lib.hid (D18.out.st5 (.slice AV16 (k + 1) cV16))
                obtain ⟨z0, z1, z2, z3, z4, z5⟩ := D18.out.box.six
                have zf := D18.out.box.frozen
                go_simp
                go_wp2_with fail
                have hS20 := HLI.out _ D20.out.a.bel.1
                refine hK.out _ _ (till_past hS20 (by rfl)) (fun _ => ?_)
                clear hK K
                try simp only [Act.put, List.setIfInBounds_toArray, List.set_cons_zero, List.set_cons_succ]
                clear z0 z1 z2 z3 z4 z5 zf
                refine Till.done (by kernel_rfl) ?_ _
                go_wp2_with fail
                go_roundw
                case rel => exact ⟨k + 1, _, L', bk ++ [fl], _, _, by go_num, by omega, D20.out⟩
                case measure => simp [intOf]; omega
              · have B9 := Lib.hid hB9
                clear hB9 R9
                go_wp2_with fail
                go_meet
                exact .inr ⟨Y8, AI, cI, k, _, by have := HQ.out; omega, B9.out⟩
            · have hkc2 : ¬ (k : Int) ≤ (c : Int) := by omega
              have hkq : k = q := by have := HQ.out; omega
              go_wp2_with fail
              go_meet
              subst hkq
              exact .inl ⟨Yk, Lk, bk, _, _, AK.out⟩
        case rest =>
          have hce := HCE.out
          have hqw : IntKind.i64.wrap ((c : Int) + 1) = (q : Int) := by have := HQ.out; rw [IntWalk.i64_in _ ⟨by omega, by omega⟩]; omega
          rcases hcut with ⟨Y3, L3, b3, vI, vT, hQ⟩ | ⟨Y3, A5, c5, k5, u5, hk5, hB⟩
          · obtain ⟨AI, cI, rfl, hcI1, hcI2⟩ := own_form hQ.ids
            obtain ⟨AT, cT, rfl, hcT1, hcT2⟩ := own_form hQ.txt
            have hft := hQ.a.fit
            have HXW : Hid (bx ≠ bw) := Lib.hid (by obtain ⟨_, _, _, _, h⟩ := hQ.rw; have h1 := hQ.low _ h.y; have h2 := hQ.lb; omega)
            have HXN : Hid (bx ≠ bn) := Lib.hid (by obtain ⟨_, _, _, _, h⟩ := hQ.rn; have h1 := hQ.low _ h.y; have h2 := hQ.lb; omega)
            have HFT := Lib.hid hft
            obtain ⟨hpl, hbl, hnum, hup⟩ := hQ.a.num
            have hq1 : 1 ≤ q := by have := HQ.out; omega
            have hq4 : q ≤ 4 := by have := HQ.out; omega
            have hlen : (L3.take q).length = q := by rw [List.length_take]; omega
            obtain ⟨r, hr⟩ : ∃ r, r = L3.getD 0 0 := ⟨_, rfl⟩
            have hr0 : (L3.take q).getD 0 0 = r := by rw [hr]; simp [List.getD, show 0 < q by omega, List.getElem?_take]
            have hr2 := hnum r (by rw [hr]; simp only [List.getD, List.getElem?_eq_getElem (show 0 < L3.length by omega), Option.getD_some]; exact List.getElem_mem _)
            obtain ⟨bI, oI, rfl, _⟩ := lies_z (LiesP.own (P := fun _ => True) hQ.ids (fun _ _ => trivial)).lies 0 (by rw [hlen]; omega)
            have Q1 := Lib.hid hQ
            have HR := Lib.hid hr
            have HR0 := Lib.hid hr0
            have HLN := Lib.hid hlen
            have HUP := Lib.hid hup
            have hli := HLI.out wc hQ.a.bel.1
            obtain ⟨_, hz4, _⟩ := ck_cells hQ (by omega) hr0
            have hne : ((q : Int) != (q : Int)) = false := by simp
            clear hQ hr hr0 hlen hpl hbl hnum hup hft HCE
            go_upto_region 20 with fail
            go_quiet (fail)
            go_upto_region 21 with fail
            have hgw : IntKind.u64.wrap ((m.gen : Int) + 1) = (m.gen : Int) + 1 := by have := HG.out; exact IntWalk.u64_in _ ⟨by omega, by omega⟩
            have hmw : IntKind.u64.wrap (mk : Int) = (mk : Int) := IntWalk.u64_in _ ⟨by omega, by omega⟩
            have hme := HME.out
            have hrt : ((nxM m L3 i mk).root : Int) = r := by show (((L3.getD 0 0).toNat : Nat) : Int) = r; rw [← HR.out]; omega
            have HRT := Lib.hid hrt
            have hq0 : (0 : Int) < (q : Int) := by omega
            have hq00 : 0 < q := by omega
            clear hrt hli hz4 hne hqw hce
            have hso := fun (w : World) (Y' : Nat → Prop) (h : CwA W.heap.size g fb W bx bx bw bn Y m ids bs L3 q b3 (nxM m L3 i mk) (.slice (some ⟨bI, oI, none⟩) q cI) (.slice AT q cT) (.slice (some ⟨bI, oI, none⟩) q cI) q (L3.take q) (.slice AT q cT) q b3 Y' w) => cw_sorted h HLN.out HUP.out (by omega)
            have hcm := fun (w : World) (Y' : Nat → Prop) (h : CwA W.heap.size g fb W bx bx bw bn Y m ids bs L3 q b3 (nxM m L3 i mk) (.slice (some ⟨bI, oI, none⟩) q cI) (.slice AT q cT) (.slice (some ⟨bI, oI, none⟩) q cI) q (L3.take q) (.slice AT q cT) q b3 Y' w) (A : Option Addr) (c : Nat) (hl : LiesP w Y' A (cellsZ (L3.take q))) (h1 : q ≤ c) (h2 : c ≤ maxLen) => ck_commit h hq1 (by have := HG.out; omega) (by omega) (by omega) HFT.out A c hl h1 h2 r HR.out
            have HSO := Lib.hid hso
            have HCM := Lib.hid hcm
            clear hso hcm
            have D21 := Lib.hid (Q1.out.below (below_drewN9 (Below.refl _ _) (nq + 1)))
            refine wp_region_held_drew (S := (fun w' => w'.cell? ⟨bw, 0, none⟩ = some (.int .u64 (m.gen : Int)) ∧ w'.cell? ⟨bx, 4, none⟩ = some (.slice (some ⟨bI, oI, none⟩) q cI) ∧ w'.cell? ⟨bI, oI, none⟩ = some (.int .i64 r) ∧ w'.cell? ⟨b, o + i, none⟩ = some (.int .i64 x))) (by kernel_rfl) ⟨(ck_cells D21.out (by rw [HLN.out]; omega) HR0.out).1, (ck_cells D21.out (by rw [HLN.out]; omega) HR0.out).2.1, (ck_cells D21.out (by rw [HLN.out]; omega) HR0.out).2.2, HLI.out _ D21.out.a.bel.1⟩ (fun hS0 => ?_)
            refine wpAnyH_take (i := 0) (oi := ⟨some 114, _, _, _, _, _⟩) (v := ?_) rfl (by kernel_rfl) (by kernel_rfl) (by kernel_rfl) (fun _ _ _ h => h) (Or.inl ⟨by rfl, ?_⟩) hS0 ?_
            rotate_left
            · (intro wS hSw; (try dsimp only at hSw); go_simp); all_goals (with_reducible rfl)
            try simp only [Act.put, List.setIfInBounds_toArray, List.set_cons_zero, List.set_cons_succ]
            refine wpAnyH_take (i := 1) (oi := ⟨some 115, _, _, _, _, _⟩) (v := ?_) rfl (by kernel_rfl) (by kernel_rfl) (by kernel_rfl) (fun _ _ _ h => h) (Or.inl ⟨by rfl, ?_⟩) hS0 ?_
            rotate_left
            · (intro wS hSw; (try dsimp only at hSw); go_simp); all_goals (with_reducible rfl)
            try simp only [Act.put, List.setIfInBounds_toArray, List.set_cons_zero, List.set_cons_succ]
            refine wpAnyH_take (i := 2) (oi := ⟨some 116, _, _, _, _, _⟩) (v := ?_) rfl (by kernel_rfl) (by kernel_rfl) (by kernel_rfl) (fun _ _ _ h => h) (Or.inl ⟨by rfl, ?_⟩) hS0 ?_
            rotate_left
            · (intro wS hSw; (try dsimp only at hSw); go_simp); all_goals (with_reducible rfl)
            try simp only [Act.put, List.setIfInBounds_toArray, List.set_cons_zero, List.set_cons_succ]
            refine wpAnyH_take (i := 3) (oi := ⟨some 117, _, _, _, _, _⟩) (v := ?_) rfl (by kernel_rfl) (by kernel_rfl) (by kernel_rfl) (fun _ _ _ h => h) (Or.inl ⟨by rfl, ?_⟩) hS0 ?_
            rotate_left
            · (intro wS hSw; (try dsimp only at hSw); go_simp); all_goals (with_reducible rfl)
            try simp only [Act.put, List.setIfInBounds_toArray, List.set_cons_zero, List.set_cons_succ]
            refine wpAnyH_take (i := 4) (oi := ⟨some 118, _, _, _, _, _⟩) (v := ?_) rfl (by kernel_rfl) (by kernel_rfl) (by kernel_rfl) (fun _ _ _ h => h) (Or.inl ⟨by rfl, ?_⟩) hS0 ?_
            rotate_left
            · (intro wS hSw; (try dsimp only at hSw); go_simp); all_goals (with_reducible rfl)
            try simp only [Act.put, List.setIfInBounds_toArray, List.set_cons_zero, List.set_cons_succ]
            refine wpAnyH_take (i := 5) (oi := ⟨some 119, _, _, _, _, _⟩) (v := ?_) rfl (by kernel_rfl) (by kernel_rfl) (by kernel_rfl) (fun _ _ _ h => h) (Or.inl ⟨by rfl, ?_⟩) hS0 ?_
            rotate_left
            · (intro wS hSw; (try dsimp only at hSw); go_simp); all_goals (with_reducible rfl)
            try simp only [Act.put, List.setIfInBounds_toArray, List.set_cons_zero, List.set_cons_succ]
            refine wpAnyH_take (i := 6) (oi := ⟨some 120, _, _, _, _, _⟩) (v := ?_) rfl (by kernel_rfl) (by kernel_rfl) (by kernel_rfl) (fun _ _ _ h => h) (Or.inl ⟨by rfl, ?_⟩) hS0 ?_
            rotate_left
            · (intro wS hSw; (try dsimp only at hSw); go_simp); all_goals (with_reducible rfl)
            try simp only [Act.put, List.setIfInBounds_toArray, List.set_cons_zero, List.set_cons_succ]
            refine wpAnyH_take (i := 7) (oi := ⟨some 121, _, _, _, _, _⟩) (v := ?_) rfl (by kernel_rfl) (by kernel_rfl) (by kernel_rfl) (fun _ _ _ h => h) (Or.inl ⟨by rfl, ?_⟩) hS0 ?_
            rotate_left
            · (intro wS hSw; (try dsimp only at hSw); go_simp); all_goals (with_reducible rfl)
            try simp only [Act.put, List.setIfInBounds_toArray, List.set_cons_zero, List.set_cons_succ]
            refine wpAnyH_take (i := 8) (oi := ⟨some 122, _, _, _, _, _⟩) (v := ?_) rfl (by kernel_rfl) (by kernel_rfl) (by kernel_rfl) (fun _ _ _ h => h) (Or.inl ⟨by rfl, ?_⟩) hS0 ?_
            rotate_left
            · (intro wS hSw; (try dsimp only at hSw); go_simp); all_goals (with_reducible rfl)
            try simp only [Act.put, List.setIfInBounds_toArray, List.set_cons_zero, List.set_cons_succ]
            refine wpAnyH_take (i := 9) (oi := ⟨some 123, _, _, _, _, _⟩) (v := ?_) rfl (by kernel_rfl) (by kernel_rfl) (by kernel_rfl) (fun _ _ _ h => h) (Or.inl ⟨by rfl, ?_⟩) hS0 ?_
            rotate_left
            · (intro wS hSw; (try dsimp only at hSw); go_simp); all_goals (with_reducible rfl)
            try simp only [Act.put, List.setIfInBounds_toArray, List.set_cons_zero, List.set_cons_succ]
            refine wpAnyH_take (i := 10) (oi := ⟨some 124, _, _, _, _, _⟩) (v := ?_) rfl (by kernel_rfl) (by kernel_rfl) (by kernel_rfl) (fun _ _ _ h => h) (Or.inl ⟨by rfl, ?_⟩) hS0 ?_
            rotate_left
            · (intro wS hSw; (try dsimp only at hSw); go_simp); all_goals (with_reducible rfl)
            try simp only [Act.put, List.setIfInBounds_toArray, List.set_cons_zero, List.set_cons_succ]
            refine wpAnyH_take (i := 11) (oi := ⟨some 125, _, _, _, _, _⟩) (v := ?_) rfl (by kernel_rfl) (by kernel_rfl) (by kernel_rfl) (fun _ _ _ h => h) (Or.inl ⟨by rfl, ?_⟩) hS0 ?_
            rotate_left
            · (intro wS hSw; (try dsimp only at hSw); go_simp); all_goals (with_reducible rfl)
            try simp only [Act.put, List.setIfInBounds_toArray, List.set_cons_zero, List.set_cons_succ]
            refine wpAnyH_take (i := 12) (oi := ⟨some 126, _, _, _, _, _⟩) (v := ?_) rfl (by kernel_rfl) (by kernel_rfl) (by kernel_rfl) (fun _ _ _ h => h) (Or.inl ⟨by rfl, ?_⟩) hS0 ?_
            rotate_left
            · (intro wS hSw; (try dsimp only at hSw); go_simp); all_goals (with_reducible rfl)
            try simp only [Act.put, List.setIfInBounds_toArray, List.set_cons_zero, List.set_cons_succ]
            refine wpAnyH_take (i := 13) (oi := ⟨some 127, _, _, _, _, _⟩) (v := ?_) rfl (by kernel_rfl) (by kernel_rfl) (by kernel_rfl) (fun _ _ _ h => h) (Or.inl ⟨by rfl, ?_⟩) hS0 ?_
            rotate_left
            · (intro wS hSw; (try dsimp only at hSw); go_simp); all_goals (with_reducible rfl)
            try simp only [Act.put, List.setIfInBounds_toArray, List.set_cons_zero, List.set_cons_succ]
            refine wpAnyH_take (i := 14) (oi := ⟨some 128, _, _, _, _, _⟩) (v := ?_) rfl (by kernel_rfl) (by kernel_rfl) (by kernel_rfl) (fun _ _ _ h => h) (Or.inl ⟨by rfl, ?_⟩) hS0 ?_
            rotate_left
            · (intro wS hSw; (try dsimp only at hSw); go_simp); all_goals (with_reducible rfl)
            try simp only [Act.put, List.setIfInBounds_toArray, List.set_cons_zero, List.set_cons_succ]
            refine wpAnyH_take (i := 15) (oi := ⟨some 129, _, _, _, _, _⟩) (v := ?_) rfl (by kernel_rfl) (by kernel_rfl) (by kernel_rfl) (fun _ _ _ h => h) (Or.inl ⟨by rfl, ?_⟩) hS0 ?_
            rotate_left
            · (intro wS hSw; (try dsimp only at hSw); go_simp); all_goals (with_reducible rfl)
            try simp only [Act.put, List.setIfInBounds_toArray, List.set_cons_zero, List.set_cons_succ]
            refine wpAnyH_take (i := 16) (oi := ⟨some 130, _, _, _, _, _⟩) (v := ?_) rfl (by kernel_rfl) (by kernel_rfl) (by kernel_rfl) (fun _ _ _ h => h) (Or.inl ⟨by rfl, ?_⟩) hS0 ?_
            rotate_left
            · (intro wS hSw; (try dsimp only at hSw); go_simp); all_goals (with_reducible rfl)
            try simp only [Act.put, List.setIfInBounds_toArray, List.set_cons_zero, List.set_cons_succ]
            refine wpAnyH_ready (rs := [17]) (by kernel_rfl) (by simp) ?_
            refine AllReadyH.cons (o := ⟨none, _, _, _, _, _⟩) rfl (fun K hK => ?_) AllReadyH.nil
            obtain ⟨z0, z1, z2, z3, z4, z5⟩ := D21.out.box.six
            have zf := D21.out.box.frozen
            have D22 := Lib.hid (D21.out.meta4 (nxM m L3 i mk) ((m.gen : Int) + 1) r (by rfl) HRT.out)
            go_simp
            go_wp2_with fail
            refine hK.out _ _ ⟨(ck_cells D22.out (by rw [HLN.out]; omega) HR0.out).1, (ck_cells D22.out (by rw [HLN.out]; omega) HR0.out).2.1, (ck_cells D22.out (by rw [HLN.out]; omega) HR0.out).2.2, HLI.out _ D22.out.a.bel.1⟩ (fun hS17 => ?_)
            clear hK K
            try simp only [Act.put, List.setIfInBounds_toArray, List.set_cons_zero, List.set_cons_succ]
            refine wpAnyH_done (by kernel_rfl) ?_ _
            go_upto_region 22 with fail
            obtain ⟨we, hwe⟩ : ∃ we, we = ((((wc.drewN (nq + 1)).setCell ⟨bx, 0, none⟩ (.int .u64 ((m.gen : Int) + 1))).setCell ⟨bx, 1, none⟩ (.int .i64 r)).setCell ⟨bx, 2, none⟩ (.int .i64 (i : Int))).setCell ⟨bx, 3, none⟩ (.int .u64 (mk : Int)) := ⟨_, rfl⟩
            rw [← hwe]
            have D22 : Hid (CwA W.heap.size g fb W bx bx bw bn Y m ids bs L3 q b3 (nxM m L3 i mk) (.slice (some ⟨bI, oI, none⟩) q cI) (.slice AT q cT) (.slice (some ⟨bI, oI, none⟩) q cI) q (L3.take q) (.slice AT q cT) q b3 Y3 we) := Lib.hid (by rw [hwe]; exact (Q1.out.below (below_drewN9 (Below.refl _ _) (nq + 1))).meta4 (nxM m L3 i mk) ((m.gen : Int) + 1) r (by rfl) HRT.out)
            clear hwe hgw Q1
            have D23 := Lib.hid (D22.out.below ((Below.refl _ _).drew))
            refine wp_region_held_drew (S := (fun w' => w'.cell? ⟨bx, 4, none⟩ = some (.slice (some ⟨bI, oI, none⟩) q cI) ∧ w'.cell? ⟨bI, oI, none⟩ = some (.int .i64 r) ∧ w'.cell? ⟨b, o + i, none⟩ = some (.int .i64 x))) (by kernel_rfl) ⟨(ck_cells D23.out (by rw [HLN.out]; omega) HR0.out).2.1, (ck_cells D23.out (by rw [HLN.out]; omega) HR0.out).2.2, HLI.out _ D23.out.a.bel.1⟩ (fun hS0 => ?_)
            refine wpAnyH_take (i := 0) (oi := ⟨some 131, _, _, _, _, _⟩) (v := ?_) rfl (by kernel_rfl) (by kernel_rfl) (by kernel_rfl) (fun _ _ _ h => h) (Or.inl ⟨by rfl, ?_⟩) hS0 ?_
            rotate_left
            · (intro wS hSw; (try dsimp only at hSw); go_simp); all_goals (with_reducible rfl)
            try simp only [Act.put, List.setIfInBounds_toArray, List.set_cons_zero, List.set_cons_succ]
            refine wpAnyH_take (i := 1) (oi := ⟨some 132, _, _, _, _, _⟩) (v := ?_) rfl (by kernel_rfl) (by kernel_rfl) (by kernel_rfl) (fun _ _ _ h => h) (Or.inl ⟨by rfl, ?_⟩) hS0 ?_
            rotate_left
            · (intro wS hSw; (try dsimp only at hSw); go_simp); all_goals (with_reducible rfl)
            try simp only [Act.put, List.setIfInBounds_toArray, List.set_cons_zero, List.set_cons_succ]
            refine wpAnyH_take (i := 2) (oi := ⟨some 133, _, _, _, _, _⟩) (v := ?_) rfl (by kernel_rfl) (by kernel_rfl) (by kernel_rfl) (fun _ _ _ h => h) (Or.inl ⟨by rfl, ?_⟩) hS0 ?_
            rotate_left
            · (intro wS hSw; (try dsimp only at hSw); go_simp); all_goals (with_reducible rfl)
            try simp only [Act.put, List.setIfInBounds_toArray, List.set_cons_zero, List.set_cons_succ]
            refine wpAnyH_take (i := 3) (oi := ⟨some 134, _, _, _, _, _⟩) (v := ?_) rfl (by kernel_rfl) (by kernel_rfl) (by kernel_rfl) (fun _ _ _ h => h) (Or.inl ⟨by rfl, ?_⟩) hS0 ?_
            rotate_left
            · (intro wS hSw; (try dsimp only at hSw); go_simp); all_goals (with_reducible rfl)
            try simp only [Act.put, List.setIfInBounds_toArray, List.set_cons_zero, List.set_cons_succ]
            refine wpAnyH_take (i := 4) (oi := ⟨some 135, _, _, _, _, _⟩) (v := ?_) rfl (by kernel_rfl) (by kernel_rfl) (by kernel_rfl) (fun _ _ _ h => h) (Or.inl ⟨by rfl, ?_⟩) hS0 ?_
            rotate_left
            · (intro wS hSw; (try dsimp only at hSw); go_simp); all_goals (with_reducible rfl)
            try simp only [Act.put, List.setIfInBounds_toArray, List.set_cons_zero, List.set_cons_succ]
            refine wpAnyH_take (i := 5) (oi := ⟨some 136, _, _, _, _, _⟩) (v := ?_) rfl (by kernel_rfl) (by kernel_rfl) (by kernel_rfl) (fun _ _ _ h => h) (Or.inl ⟨by rfl, ?_⟩) hS0 ?_
            rotate_left
            · (intro wS hSw; (try dsimp only at hSw); go_simp); all_goals (with_reducible rfl)
            try simp only [Act.put, List.setIfInBounds_toArray, List.set_cons_zero, List.set_cons_succ]
            refine wpAnyH_take (i := 6) (oi := ⟨some 137, _, _, _, _, _⟩) (v := ?_) rfl (by kernel_rfl) (by kernel_rfl) (by kernel_rfl) (fun _ _ _ h => h) (Or.inl ⟨by rfl, ?_⟩) hS0 ?_
            rotate_left
            · (intro wS hSw; (try dsimp only at hSw); go_simp); all_goals (with_reducible rfl)
            try simp only [Act.put, List.setIfInBounds_toArray, List.set_cons_zero, List.set_cons_succ]
            refine wpAnyH_take (i := 7) (oi := ⟨some 138, _, _, _, _, _⟩) (v := ?_) rfl (by kernel_rfl) (by kernel_rfl) (by kernel_rfl) (fun _ _ _ h => h) (Or.inl ⟨by rfl, ?_⟩) hS0 ?_
            rotate_left
            · (intro wS hSw; (try dsimp only at hSw); go_simp); all_goals (with_reducible rfl)
            try simp only [Act.put, List.setIfInBounds_toArray, List.set_cons_zero, List.set_cons_succ]
            refine wpAnyH_take (i := 8) (oi := ⟨some 139, _, _, _, _, _⟩) (v := ?_) rfl (by kernel_rfl) (by kernel_rfl) (by kernel_rfl) (fun _ _ _ h => h) (Or.inl ⟨by rfl, ?_⟩) hS0 ?_
            rotate_left
            · (intro wS hSw; (try dsimp only at hSw); go_simp); all_goals (with_reducible rfl)
            try simp only [Act.put, List.setIfInBounds_toArray, List.set_cons_zero, List.set_cons_succ]
            refine wpAnyH_take (i := 9) (oi := ⟨some 140, _, _, _, _, _⟩) (v := ?_) rfl (by kernel_rfl) (by kernel_rfl) (by kernel_rfl) (fun _ _ _ h => h) (Or.inl ⟨by rfl, ?_⟩) hS0 ?_
            rotate_left
            · (intro wS hSw; (try dsimp only at hSw); go_simp); all_goals (with_reducible rfl)
            try simp only [Act.put, List.setIfInBounds_toArray, List.set_cons_zero, List.set_cons_succ]
            refine wpAnyH_take (i := 10) (oi := ⟨some 141, _, _, _, _, _⟩) (v := ?_) rfl (by kernel_rfl) (by kernel_rfl) (by kernel_rfl) (fun _ _ _ h => h) (Or.inl ⟨by rfl, ?_⟩) hS0 ?_
            rotate_left
            · (intro wS hSw; (try dsimp only at hSw); go_simp); all_goals (with_reducible rfl)
            try simp only [Act.put, List.setIfInBounds_toArray, List.set_cons_zero, List.set_cons_succ]
            refine wpAnyH_take (i := 11) (oi := ⟨some 142, _, _, _, _, _⟩) (v := ?_) rfl (by kernel_rfl) (by kernel_rfl) (by kernel_rfl) (fun _ _ _ h => h) (Or.inl ⟨by rfl, ?_⟩) hS0 ?_
            rotate_left
            · (intro wS hSw; (try dsimp only at hSw); go_simp); all_goals (with_reducible rfl)
            try simp only [Act.put, List.setIfInBounds_toArray, List.set_cons_zero, List.set_cons_succ]
            refine wpAnyH_take (i := 12) (oi := ⟨some 143, _, _, _, _, _⟩) (v := ?_) rfl (by kernel_rfl) (by kernel_rfl) (by kernel_rfl) (fun _ _ _ h => h) (Or.inl ⟨by rfl, ?_⟩) hS0 ?_
            rotate_left
            · (intro wS hSw; (try dsimp only at hSw); go_simp); all_goals (with_reducible rfl)
            try simp only [Act.put, List.setIfInBounds_toArray, List.set_cons_zero, List.set_cons_succ]
            refine wpAnyH_take (i := 13) (oi := ⟨some 144, _, _, _, _, _⟩) (v := ?_) rfl (by kernel_rfl) (by kernel_rfl) (by kernel_rfl) (fun _ _ _ h => h) (Or.inl ⟨by rfl, ?_⟩) hS0 ?_
            rotate_left
            · (intro wS hSw; (try dsimp only at hSw); go_simp); all_goals (with_reducible rfl)
            try simp only [Act.put, List.setIfInBounds_toArray, List.set_cons_zero, List.set_cons_succ]
            refine wpAnyH_ready (rs := [14]) (by kernel_rfl) (by simp) ?_
            refine AllReadyH.cons (o := ⟨some 145, _, _, _, _, _⟩) rfl (fun K hK => ?_) AllReadyH.nil
            go_simp
            refine (HSO.out _ _ D23.out).mono ?_
            rintro e w24 ⟨AS, cS, Y24, rfl, hcS, hmS, hA24, hl24⟩
            have D24 := Lib.hid hA24
            have SB := Lib.hid hA24.sub
            have L24 := Lib.hid hl24
            have CS := Lib.hid hcS
            have MS := Lib.hid hmS
            clear hA24 hl24 hcS hmS
            go_wp2_with fail
            refine hK.out _ _ ⟨(ck_cells D24.out (by rw [HLN.out]; omega) HR0.out).2.1, (ck_cells D24.out (by rw [HLN.out]; omega) HR0.out).2.2, HLI.out _ D24.out.a.bel.1⟩ (fun hS14 => ?_)
            clear hK K
            try simp only [Act.put, List.setIfInBounds_toArray, List.set_cons_zero, List.set_cons_succ]
            refine wpAnyH_ready (rs := [15]) (by kernel_rfl) (by simp) ?_
            refine AllReadyH.cons (o := ⟨some 146, _, _, _, _, _⟩) rfl (fun K hK => ?_) AllReadyH.nil
            go_simp
            refine (HCM.out _ _ D24.out AS cS L24.out CS.out MS.out).mono ?_
            rintro e w25 ⟨xe, rfl, hb25, hw25, hn25, he25, hr25⟩
            have W25 := Lib.hid hw25
            have N25 := Lib.hid hn25
            have E25 := Lib.hid he25
            have R25 := Lib.hid hr25
            have B25 := Lib.hid hb25
            clear hw25 hn25 he25 hr25 hb25
            go_wp2_with fail
            refine hK.out _ _ ⟨(ck_rec E25.out (by rw [HLN.out]; omega) HR0.out HLN.out).1, (ck_rec E25.out (by rw [HLN.out]; omega) HR0.out HLN.out).2, HLI.out _ B25.out⟩ (fun hS15 => ?_)
            clear hK K
            try simp only [Act.put, List.setIfInBounds_toArray, List.set_cons_zero, List.set_cons_succ]
            refine wpAnyH_take (i := 16) (oi := ⟨some 17, _, _, _, _, _⟩) (v := ?_) rfl (by kernel_rfl) (by kernel_rfl) (by kernel_rfl) (fun _ _ _ h => h) (Or.inl ⟨by rfl, ?_⟩) hS15 ?_
            rotate_left
            · (intro wS hSw; (try dsimp only at hSw); go_simp); all_goals (with_reducible rfl)
            try simp only [Act.put, List.setIfInBounds_toArray, List.set_cons_zero, List.set_cons_succ]
            refine wpAnyH_done (by kernel_rfl) ?_ _
            go_upto_region 23 with fail
            try clear hS15
            try clear hS14
            try clear hS0
            try clear hS17
            obtain ⟨nx, hnx⟩ : ∃ nx, nx = nxM m L3 i mk := ⟨_, rfl⟩
            obtain ⟨lN, hlN⟩ : ∃ lN, lN = L3.take q := ⟨_, rfl⟩
            have HNG : Hid (nx.gen = m.gen + 1) := Lib.hid (by rw [hnx]; rfl)
            rw [← hnx, ← hlN] at E25 R25
            clear hnx hlN
            rcases R25.out with ⟨hx, L', hC⟩ | ⟨hx, S', hAt, hcr⟩
            · have C25 := Lib.hid hC
              clear hC R25 D22
              go_upto_region 25 with fail
              obtain ⟨wd, hwd⟩ : ∃ wd, wd = w25.drew := ⟨_, rfl⟩
              have E26 : Hid (RecE Y24 wd bx nx lN b3 (some ⟨bI, oI, none⟩) cI AT cT) := Lib.hid (by rw [hwd]; exact E25.out.below ((Below.refl _ _).drew))
              have W26 : Hid (RecAt Y24 wd bw m ids bs) := Lib.hid (by rw [hwd]; exact (W25.out.more SB.out).kept (fun i hi => rfl) (Nat.le_refl _))
              have N26 : Hid (RecAt Y24 wd bn m ids bs) := Lib.hid (by rw [hwd]; exact (N25.out.more SB.out).kept (fun i hi => rfl) (Nat.le_refl _))
              have C26 : Hid (CrA W.heap.size g fb 3000 Y24 W nx (cmOf lN b3) L' 0 [] wd) := Lib.hid (by rw [hwd]; exact C25.out.below ((Below.refl _ _).drew))
              obtain ⟨A6, c6, A7, c7, hwE⟩ := W26.out
              obtain ⟨A8, c8, A9, c9, hnE⟩ := N26.out
              have E27 := Lib.hid (E26.out.aside (grown_six (w := wd) (g := bw) (.int .u64 (nx.gen : Int)) (.int .i64 (nx.root : Int)) (.int .i64 (nx.count : Int)) (.int .u64 (nx.mark : Int)) (.slice (some ⟨bI, oI, none⟩) lN.length cI) (.slice AT lN.length cT)) hwE.box HXW.out)
              have F27 := Lib.hid (E26.out.over hwE.box rfl hwE.y)
              have N27 := Lib.hid (hnE.aside (grown_six (w := wd) (g := bw) (.int .u64 (nx.gen : Int)) (.int .i64 (nx.root : Int)) (.int .i64 (nx.count : Int)) (.int .u64 (nx.mark : Int)) (.slice (some ⟨bI, oI, none⟩) lN.length cI) (.slice AT lN.length cT)) hwE.box (Ne.symm HNE.out))
              have C27 := Lib.hid ((C26.out.grown (grown_six (w := wd) (g := bw) (.int .u64 (nx.gen : Int)) (.int .i64 (nx.root : Int)) (.int .i64 (nx.count : Int)) (.int .u64 (nx.mark : Int)) (.slice (some ⟨bI, oI, none⟩) lN.length cI) (.slice AT lN.length cT)) (fun k hk => by cases hk; exact hwE.y)).less (Y' := Y24) (fun i hi => .inl hi))
              obtain ⟨ws, hws⟩ : ∃ ws, ws = ((((((wd.setCell ⟨bw, 0, none⟩ (.int .u64 (nx.gen : Int))).setCell ⟨bw, 1, none⟩ (.int .i64 (nx.root : Int))).setCell ⟨bw, 2, none⟩ (.int .i64 (nx.count : Int))).setCell ⟨bw, 3, none⟩ (.int .u64 (nx.mark : Int))).setCell ⟨bw, 4, none⟩ (.slice (some ⟨bI, oI, none⟩) lN.length cI)).setCell ⟨bw, 5, none⟩ (.slice AT lN.length cT)) := ⟨_, rfl⟩
              rw [← hws] at E27 F27 N27 C27
              have HWS := Lib.hid hws
              clear hws
              have E28 := Lib.hid (E27.out.aside (grown_six (w := ws) (g := bn) (.int .u64 (nx.gen : Int)) (.int .i64 (nx.root : Int)) (.int .i64 (nx.count : Int)) (.int .u64 (nx.mark : Int)) (.slice (some ⟨bI, oI, none⟩) lN.length cI) (.slice AT lN.length cT)) N27.out.box HXN.out)
              have F28 := Lib.hid (F27.out.aside (grown_six (w := ws) (g := bn) (.int .u64 (nx.gen : Int)) (.int .i64 (nx.root : Int)) (.int .i64 (nx.count : Int)) (.int .u64 (nx.mark : Int)) (.slice (some ⟨bI, oI, none⟩) lN.length cI) (.slice AT lN.length cT)) N27.out.box HNE.out)
              have G28 := Lib.hid (E27.out.over N27.out.box rfl N27.out.y)
              have C28 := Lib.hid ((C27.out.grown (grown_six (w := ws) (g := bn) (.int .u64 (nx.gen : Int)) (.int .i64 (nx.root : Int)) (.int .i64 (nx.count : Int)) (.int .u64 (nx.mark : Int)) (.slice (some ⟨bI, oI, none⟩) lN.length cI) (.slice AT lN.length cT)) (fun k hk => by cases hk; exact N27.out.y)).less (Y' := Y24) (fun i hi => .inl hi))
              obtain ⟨y0, y1, y2, y3, y4, y5⟩ := hwE.box.six
              have yf := hwE.box.frozen
              obtain ⟨x0, x1, x2, x3, x4, x5⟩ := N27.out.box.six
              have xf := N27.out.box.frozen
              clear hwE hnE
              refine wp_region_held_drew (S := (fun w' => w'.cell? ⟨bx, 0, none⟩ = some (.int .u64 (nx.gen : Int)) ∧ w'.cell? ⟨bx, 1, none⟩ = some (.int .i64 (nx.root : Int)) ∧ w'.cell? ⟨bx, 2, none⟩ = some (.int .i64 (nx.count : Int)) ∧ w'.cell? ⟨bx, 3, none⟩ = some (.int .u64 (nx.mark : Int)) ∧ w'.cell? ⟨bx, 4, none⟩ = some (.slice (some ⟨bI, oI, none⟩) lN.length cI) ∧ w'.cell? ⟨bx, 5, none⟩ = some (.slice AT lN.length cT))) (by kernel_rfl) (by rw [← hwd]; exact E26.out.box.six) (fun hS0 => ?_)
              rw [← hwd] at hS0 ⊢
              clear hwd
              refine wpAnyH_take (i := 0) (oi := ⟨some 150, _, _, _, _, _⟩) (v := ?_) rfl (by kernel_rfl) (by kernel_rfl) (by kernel_rfl) (fun _ _ _ h => h) (Or.inl ⟨by rfl, ?_⟩) hS0 ?_
              rotate_left
              · (intro wS hSw; (try dsimp only at hSw); go_simp); all_goals (with_reducible rfl)
              try simp only [Act.put, List.setIfInBounds_toArray, List.set_cons_zero, List.set_cons_succ]
              refine wpAnyH_take (i := 1) (oi := ⟨some 151, _, _, _, _, _⟩) (v := ?_) rfl (by kernel_rfl) (by kernel_rfl) (by kernel_rfl) (fun _ _ _ h => h) (Or.inl ⟨by rfl, ?_⟩) hS0 ?_
              rotate_left
              · (intro wS hSw; (try dsimp only at hSw); go_simp); all_goals (with_reducible rfl)
              try simp only [Act.put, List.setIfInBounds_toArray, List.set_cons_zero, List.set_cons_succ]
              refine wpAnyH_ready (rs := [2]) (by kernel_rfl) (by simp) ?_
              refine AllReadyH.cons (o := ⟨none, _, _, _, _, _⟩) rfl (fun K hK => ?_) AllReadyH.nil
              go_simp
              go_wp2_with fail
              rw [← HWS.out]
              refine hK.out _ _ E27.out.box.six (fun hS2 => ?_)
              clear hK K
              try simp only [Act.put, List.setIfInBounds_toArray, List.set_cons_zero, List.set_cons_succ]
              refine wpAnyH_ready (rs := [3]) (by kernel_rfl) (by simp) ?_
              refine AllReadyH.cons (o := ⟨none, _, _, _, _, _⟩) rfl (fun K hK => ?_) AllReadyH.nil
              go_simp
              go_wp2_with fail
              refine hK.out _ _ E28.out.box.six (fun hS3 => ?_)
              clear hK K
              try simp only [Act.put, List.setIfInBounds_toArray, List.set_cons_zero, List.set_cons_succ]
              refine wpAnyH_done (by kernel_rfl) ?_ _
              go_wp2_with fail
              go_roundw
              case rel => exact ⟨i + 1, Y24, nx, lN, b3, L', by go_num, by omega, by omega, by rw [HNG.out, HG.out], C28.out, ⟨_, _, _, _, F28.out⟩, ⟨_, _, _, _, G28.out⟩⟩
              case measure => simp [intOf]; omega
            · have AT25 := Lib.hid hAt
              have HCR := Lib.hid hcr
              clear hAt hcr R25 D22
              obtain ⟨z0, z1, z2, z3, z4, z5⟩ := E25.out.box.six
              obtain ⟨A8, c8, A9, c9, hnE⟩ := (N25.out.more SB.out)
              obtain ⟨A6, c6, A7, c7, hwE⟩ := (W25.out.more SB.out)
              obtain ⟨y0, y1, y2, y3, y4, y5⟩ := hnE.box.six
              have yf := hnE.box.frozen
              have F28 := Lib.hid (hwE.aside (grown_six (w := w25) (g := bn) (.int .u64 (nx.gen : Int)) (.int .i64 (nx.root : Int)) (.int .i64 (nx.count : Int)) (.int .u64 (nx.mark : Int)) (.slice (some ⟨bI, oI, none⟩) lN.length cI) (.slice AT lN.length cT)) hnE.box HNE.out)
              have G28 := Lib.hid (E25.out.over hnE.box rfl hnE.y)
              have C28 := Lib.hid ((AT25.out.grown (grown_six (w := w25) (g := bn) (.int .u64 (nx.gen : Int)) (.int .i64 (nx.root : Int)) (.int .i64 (nx.count : Int)) (.int .u64 (nx.mark : Int)) (.slice (some ⟨bI, oI, none⟩) lN.length cI) (.slice AT lN.length cT)) (fun k hk => by cases hk; exact hnE.y)).less (X' := Y24) (fun i hi => .inl hi))
              clear hnE hwE
              go_wp2_with fail
              go_meet
              exact ⟨Y24, S', m, ids, bs, nx, lN, b3, C28.out, ⟨_, _, _, _, F28.out⟩, ⟨_, _, _, _, G28.out⟩, fun e => by have := HNG.out; rw [← e] at this; omega, HCR.out⟩
          · have HB := Lib.hid hB
            have hz4 := hB.box.six.2.2.2.2.1
            obtain ⟨_, hAt, _⟩ := hB.a
            have hli := HLI.out wc hAt.bel
            have hne : ((k5 : Int) != (q : Int)) = true := bne_iff_ne.2 (by omega)
            clear hB hAt HCE
            go_upto_region 20 with fail
            go_quiet (fail)
            go_wp2_with fail
            go_meet
            exact (HB.out.below (below_drewN9 (Below.refl _ _) _)).fin
      · have hends : ¬ (i : Int) < (l.length : Int) ∨ ((i : Int) < (l.length : Int) ∧ ¬ (i : Int) < 8) := by omega
        rcases hends with hg1 | ⟨hg1, hg2⟩
        all_goals
          go_wp2_with fail
          go_meet
          exact CkO.fin CC.out RW.out RN.out
  case rest =>
    obtain ⟨Y, S, mW, idsW, bsW, mN, idsN, bsN, hA, hRw, hRn, hsame, hcr⟩ := hcut
    obtain ⟨F, hF, hq⟩ := hcr pk
    obtain ⟨AW, cW, AW', cW', hW⟩ := hRw
    obtain ⟨AN, cN, AN', cN', hN⟩ := hRn
    obtain ⟨J, mG, idsG, bsG, hQG, hJ⟩ : ∃ (J : Nat) (mG : Mt) (idsG : List Int) (bsG : List (List UInt8)), QF 3000 mG (cmOf idsG bsG) F ∧ ((J = 0 ∧ mG = mW ∧ idsG = idsW ∧ bsG = bsW) ∨ (J = 1 ∧ mG ≠ mW ∧ mG = mN ∧ idsG = idsN ∧ bsG = bsN)) := by
      rcases hq with hq | hq
      · exact ⟨0, _, _, _, hq, .inl ⟨rfl, rfl, rfl, rfl⟩⟩
      · by_cases e : mN = mW
        · obtain ⟨e1, e2⟩ := hsame e.symm
          rw [e, ← e1, ← e2] at hq
          exact ⟨0, _, _, _, hq, .inl ⟨rfl, rfl, rfl, rfl⟩⟩
        · exact ⟨1, _, _, _, hq, .inr ⟨rfl, e, rfl, rfl, rfl⟩⟩
    have HCR := Lib.hid (at_crashN hA A2 pk pk.length cap2 rfl HP1.out HP2.out (ck_pick HPL.out hA.bel) HP64.out hF)
    have EW := Lib.hid hW
    have EN := Lib.hid hN
    have HSEL := Lib.hid hJ
    have HQG := Lib.hid hQG
    clear hA hW hN hJ hQG hq hsame hcr hF C6 W6 N6 HNE
    go_upto_region 27 with (go_at_call 26; go_must (refine HCR.out.mono ?_); rintro e w7 ⟨rfl, hA7, hk7⟩; have A7 := Lib.hid hA7; have W7 := Lib.hid (EW.out.kept hk7.1); have N7 := Lib.hid (EN.out.kept hk7.1); clear hA7 hk7)
    have HOP2 := Lib.hid (cg_open A7.out HQG.out)
    clear HCR EW EN
    go_upto_region 28 with (go_at_call 10; go_must (refine HOP2.out.mono ?_); rintro e w8 ⟨f2, rfl, hG8, hk8⟩; have G8 := Lib.hid hG8; have W8 := Lib.hid (W7.out.kept hk8.1); have N8 := Lib.hid (N7.out.kept hk8.1); clear hG8 hk8)
    obtain ⟨z0, z1, z2, z3, z4, z5⟩ := W8.out.box.six
    obtain ⟨y0, y1, y2, y3, y4, y5⟩ := N8.out.box.six
    clear HOP2 A7 W7 N7
    go_upto_block 4 with fail
    have hft := rec_f W8.out N8.out G8.out.bel.1
    obtain ⟨w9, hw9⟩ : ∃ w9, w9 = w8.alloc (.cells #[.int .u64 (mW.gen : Int), .int .i64 (mW.root : Int), .int .i64 (mW.count : Int), .int .u64 (mW.mark : Int), .slice AW idsW.length cW, .slice AW' idsW.length cW', .int .u64 (mN.gen : Int), .int .i64 (mN.root : Int), .int .i64 (mN.count : Int), .int .u64 (mN.mark : Int), .slice AN idsN.length cN, .slice AN' idsN.length cN'] 58) := ⟨_, rfl⟩
    obtain ⟨bl, hbl⟩ : ∃ bl, bl = w8.heap.size := ⟨_, rfl⟩
    have G9 : Hid (CrG W.heap.size g f2 3000 Y W mG (cmOf idsG bsG) w9) := Lib.hid (by rw [hw9]; exact G8.out.below ((Below.refl _ _).alloc (Nat.le_refl _) _))
    rw [← hw9, ← hbl] at hft
    rw [← hw9, ← hbl]
    have hrec : ∀ j, j ≤ J → ∃ (mP : Mt) (lP : List Int) (bP : List (List UInt8)) (AP : Option Addr) (cP : Nat) (AP' : Option Addr) (cP' : Nat), RecF w9 bl (j * 6) mP lP bP AP cP AP' cP' ∧ ((j = J ∧ mG = mP ∧ idsG = lP ∧ bsG = bP) ∨ (j < J ∧ mG ≠ mP)) := by
      intro j hj
      rcases HSEL.out with ⟨rfl, e1, e2, e3⟩ | ⟨rfl, e0, e1, e2, e3⟩
      · have : j = 0 := by omega
        subst this
        exact ⟨_, _, _, _, _, _, _, hft.1, .inl ⟨rfl, e1, e2, e3⟩⟩
      · rcases Nat.lt_or_ge j 1 with h | h
        · have : j = 0 := by omega
          subst this
          exact ⟨_, _, _, _, _, _, _, hft.1, .inr ⟨by omega, e0⟩⟩
        · have : j = 1 := by omega
          subst this
          exact ⟨_, _, _, _, _, _, _, hft.2, .inl ⟨rfl, e1, e2, e3⟩⟩
    have hJ2 : J ≤ 1 := by rcases HSEL.out with ⟨rfl, _⟩ | ⟨rfl, _⟩ <;> omega
    have HREC := Lib.hid hrec
    clear hrec hft hw9 hbl z0 z1 z2 z3 z4 z5 y0 y1 y2 y3 y4 y5 W8 N8 G8 HQG HSEL
    go_wp2_with fail
    go_loopw [170] (fun v170 wr => ∃ j : Nat, v170 = .int .i64 (j : Int) ∧ j ≤ J ∧ Below w9.heap.size w9 wr) (fun v170 _ => 2 - (intOf v170).toNat)
    case atStart => exact ⟨0, rfl, Nat.zero_le _, Below.refl _ _⟩
    case round =>
      obtain ⟨j, rfl, hj, hbr⟩ := hrel
      obtain ⟨wq, hwq⟩ : ∃ wq : World, wq = wr := ⟨_, rfl⟩
      subst hwq
      obtain ⟨mP, lP, bP, AP, cP, AP', cP', hrf, hsel⟩ := HREC.out j hj
      have hj2 : (j : Int) < 2 := by omega
      have hj3 : j < 2 := by omega
      have hrq := hrf.below hbr
      obtain ⟨z0, z1, z2, z3, z4, z5⟩ := hrq.cells
      have HREC9 := Lib.hid hrf
      have GQ := Lib.hid (G9.out.below hbr)
      have HB := Lib.hid hbr
      clear hrf hrq hbr
      go_upto_region 33 with fail
      obtain ⟨wp, hwp⟩ : ∃ wp, wp = wq.alloc (.cells #[.int .u64 (mP.gen : Int), .int .i64 (mP.root : Int), .int .i64 (mP.count : Int), .int .u64 (mP.mark : Int), .slice AP lP.length cP, .slice AP' lP.length cP'] 58) := ⟨_, rfl⟩
      obtain ⟨bp, hbp⟩ : ∃ bp, bp = wq.heap.size := ⟨_, rfl⟩
      have hba : Below wq.heap.size wq wp := by rw [hwp]; exact (Below.refl _ _).alloc (Nat.le_refl _) _
      have P9 : Hid (Whole wp bp 58 (recB mP (.slice AP lP.length cP) (.slice AP' lP.length cP'))) := Lib.hid (by rw [hwp, hbp]; exact Whole.new _ _ _)
      have B9 := Lib.hid (HB.out.trans (hba.mono HB.out.size))
      have G9' := Lib.hid (GQ.out.below hba)
      rw [← hwp, ← hbp]
      clear hwp hbp hba z0 z1 z2 z3 z4 z5
      obtain ⟨wd, hwd⟩ : ∃ wd, wd = wp.drew := ⟨_, rfl⟩
      have P10 : Hid (Whole wd bp 58 (recB mP (.slice AP lP.length cP) (.slice AP' lP.length cP'))) := Lib.hid (by rw [hwd]; exact P9.out)
      have B10 : Hid (Below w9.heap.size w9 wd) := Lib.hid (by rw [hwd]; exact B9.out.drew)
      have G10 : Hid (CrG W.heap.size g f2 3000 Y W mG (cmOf idsG bsG) wd) := Lib.hid (by rw [hwd]; exact G9'.out.below ((Below.refl _ _).drew))
      rcases hsel with ⟨rfl, rfl, rfl, rfl⟩ | ⟨hjJ, hmm⟩
      · refine wp_region_held_drew (S := (fun w' => w'.cell? ⟨bp, 0, none⟩ = some (.int .u64 (mG.gen : Int)) ∧ w'.cell? ⟨bp, 1, none⟩ = some (.int .i64 (mG.root : Int)) ∧ w'.cell? ⟨bp, 2, none⟩ = some (.int .i64 (mG.count : Int)) ∧ w'.cell? ⟨bp, 3, none⟩ = some (.int .u64 (mG.mark : Int)))) (by kernel_rfl) (by rw [← hwd]; exact ⟨P10.out.six.1, P10.out.six.2.1, P10.out.six.2.2.1, P10.out.six.2.2.2.1⟩) (fun hS0 => ?_)
        rw [← hwd] at hS0 ⊢
        clear hwd
        refine wpAnyH_take (i := 0) (oi := ⟨some 174, _, _, _, _, _⟩) (v := ?_) rfl (by kernel_rfl) (by kernel_rfl) (by kernel_rfl) (fun _ _ _ h => h) (Or.inl ⟨by rfl, ?_⟩) hS0 ?_
        rotate_left
        · (intro wS hSw; (try dsimp only at hSw); go_simp); all_goals (with_reducible rfl)
        try simp only [Act.put, List.setIfInBounds_toArray, List.set_cons_zero, List.set_cons_succ]
        refine wpAnyH_take (i := 2) (oi := ⟨some 176, _, _, _, _, _⟩) (v := ?_) rfl (by kernel_rfl) (by kernel_rfl) (by kernel_rfl) (fun _ _ _ h => h) (Or.inl ⟨by rfl, ?_⟩) hS0 ?_
        rotate_left
        · (intro wS hSw; (try dsimp only at hSw); go_simp); all_goals (with_reducible rfl)
        try simp only [Act.put, List.setIfInBounds_toArray, List.set_cons_zero, List.set_cons_succ]
        refine wpAnyH_take (i := 3) (oi := ⟨some 177, _, _, _, _, _⟩) (v := ?_) rfl (by kernel_rfl) (by kernel_rfl) (by kernel_rfl) (fun _ _ _ h => h) (Or.inl ⟨by rfl, ?_⟩) hS0 ?_
        rotate_left
        · (intro wS hSw; (try dsimp only at hSw); go_simp); all_goals (with_reducible rfl)
        try simp only [Act.put, List.setIfInBounds_toArray, List.set_cons_zero, List.set_cons_succ]
        refine wpAnyH_ready (rs := [1]) (by kernel_rfl) (by simp) ?_
        refine AllReadyH.cons (o := ⟨some 175, _, _, _, _, _⟩) rfl (fun K hK => ?_) AllReadyH.nil
        go_simp
        refine (cg_meta G10.out).mono ?_
        rintro e w11 ⟨rfl, hb11⟩
        have G11 := Lib.hid (G10.out.below hb11)
        have P11 := Lib.hid (P10.out.below hb11 P10.out.lt)
        have B11 := Lib.hid (B10.out.trans (hb11.mono B10.out.size))
        clear hb11
        go_wp2_with fail
        refine hK.out _ _ ⟨P11.out.six.1, P11.out.six.2.1, P11.out.six.2.2.1, P11.out.six.2.2.2.1⟩ (fun hS1 => ?_)
        clear hK K
        try simp only [Act.put, List.setIfInBounds_toArray, List.set_cons_zero, List.set_cons_succ]
        refine wpAnyH_take (i := 4) (oi := ⟨some 178, _, _, _, _, _⟩) (v := ?_) rfl (by kernel_rfl) (by kernel_rfl) (by kernel_rfl) (fun _ _ _ h => h) (Or.inl ⟨by rfl, ?_⟩) hS1 ?_
        rotate_left
        · (intro wS hSw; (try dsimp only at hSw); go_simp); all_goals (with_reducible rfl)
        try simp only [Act.put, List.setIfInBounds_toArray, List.set_cons_zero, List.set_cons_succ]
        refine wpAnyH_take (i := 5) (oi := ⟨some 22, _, _, _, _, _⟩) (v := ?_) rfl (by kernel_rfl) (by kernel_rfl) (by kernel_rfl) (fun _ _ _ h => h) (Or.inl ⟨by rfl, ?_⟩) hS1 ?_
        rotate_left
        · (intro wS hSw; (try dsimp only at hSw); go_simp); all_goals (with_reducible rfl)
        try simp only [Act.put, List.setIfInBounds_toArray, List.set_cons_zero, List.set_cons_succ]
        refine wpAnyH_done (by kernel_rfl) ?_ _
        go_wp2_with fail
        go_loopw [22, 23] (fun v22 v23 wx => ∃ k : Nat, v22 = .bool true ∧ v23 = .int .i64 (k : Int) ∧ k ≤ idsG.length ∧ Below w11.heap.size w11 wx) (fun _ v23 _ => idsG.length - (intOf v23).toNat)
        case atStart => exact ⟨0, rfl, rfl, Nat.zero_le _, Below.refl _ _⟩
        case round =>
          obtain ⟨k, rfl, rfl, hk, hbx⟩ := hrel
          obtain ⟨wx, hwx⟩ : ∃ wx : World, wx = wr := ⟨_, rfl⟩
          subst hwx
          have P12 := Lib.hid (P11.out.below hbx P11.out.lt)
          have B12 := Lib.hid (B11.out.trans (hbx.mono B11.out.size))
          have G12 := Lib.hid (G11.out.below hbx)
          have R12 := Lib.hid ((HREC9.out).below B12.out)
          have HBX := Lib.hid hbx
          obtain ⟨z0, z1, z2, z3, z4, z5⟩ := P12.out.six
          clear hbx
          by_cases hkn : k < idsG.length
          · have hkn2 : (k : Int) < (idsG.length : Int) := by omega
            have hkm : k + 1 ≤ 9223372036854775807 := by
              obtain ⟨_, _, _, q1, q2⟩ := own_form R12.out.row
              unfold maxLen at q2
              omega
            obtain ⟨b1, o1, rfl, hc1'⟩ := lies_z (LiesP.own (P := fun _ => True) R12.out.row (fun _ _ => trivial)).lies k hkn
            have hcz := hc1' k hkn
            obtain ⟨y, hy⟩ : ∃ y, y = idsG.getD k 0 := ⟨_, rfl⟩
            have hy2 : 2 ≤ y := R12.out.num y (by rw [hy]; simp only [List.getD, List.getElem?_eq_getElem hkn, Option.getD_some]; exact List.getElem_mem hkn)
            obtain ⟨id, hid⟩ : ∃ id : Nat, y = (id : Int) := ⟨y.toNat, by omega⟩
            obtain ⟨bk, hbk⟩ : ∃ bk, bk = bsG.getD k [] := ⟨_, rfl⟩
            have hkb : k < bsG.length := by rw [R12.out.len]; exact hkn
            have hmem : (id, bk) ∈ cmOf idsG bsG := by
              have := cm_mem hkn R12.out.len
              rw [← hy, ← hbk, hid, Int.toNat_natCast] at this
              exact this
            have hb5 : bk.length ≤ 512 := R12.out.fit bk (by rw [hbk]; simp only [List.getD, List.getElem?_eq_getElem hkb, Option.getD_some]; exact List.getElem_mem hkb)
            rw [← hy, hid] at hcz
            have HRD := Lib.hid (cg_read G12.out hmem hb5)
            have HBK := Lib.hid hbk
            have HB5 := Lib.hid hb5
            clear hc1' hy hid hbk hmem hb5
            go_upto_region 38 with (go_at_call 21; go_must (refine HRD.out.mono ?_); rintro e w13 ⟨A13, c13, rfl, hl13, hb13⟩; have L13 := Lib.hid hl13; have B13 := Lib.hid hb13; clear hl13 hb13)
            clear z0 z1 z2 z3 z4 z5 hcz
            have P13 := P12.out.below B13.out P12.out.lt
            obtain ⟨_, _, _, _, _, y5⟩ := P13.six
            obtain ⟨b2, o2, rfl, hct⟩ := txt_cell (R12.out.below B13.out).txt k hkb
            rw [← HBK.out] at hct
            have hcv : ∀ nq, (convert 31 9 (.slice A13 512 c13)).run Try.prog (w13.drewN nq) = .ok (.string ⟨(pad bk).toArray⟩) (w13.drewN nq) := fun nq => conv_of9 (L13.out.below (below_drewN9 (Below.refl _ _) nq)) (pad_length HB5.out) c13
            go_quiet (fail)
            go_wp2_with fail
            go_roundw
            case rel => exact ⟨k + 1, rfl, by go_num, by omega, below_drewN9 (HBX.out.trans (B13.out.mono HBX.out.size)) _⟩
            case measure => simp [intOf]; omega
          · have hkn2 : ¬ (k : Int) < (idsG.length : Int) := by omega
            have WB := Lib.hid G12.out.bel.1
            have WL := Lib.hid G12.out.bel.2
            go_wp2_with (go_at_call 22; go_must (refine (awake9 _).mono ?_); rintro e w6 ⟨rfl, hb6⟩; have B6 := Lib.hid (WB.out.trans (hb6.mono WL.out)); clear hb6)
            go_ret
            exact ⟨by first | rfl | (simp; done) | (simp; omega), B6.out⟩
      · refine wp_region_held_drew (S := (fun w' => w'.cell? ⟨bp, 0, none⟩ = some (.int .u64 (mP.gen : Int)) ∧ w'.cell? ⟨bp, 1, none⟩ = some (.int .i64 (mP.root : Int)) ∧ w'.cell? ⟨bp, 2, none⟩ = some (.int .i64 (mP.count : Int)) ∧ w'.cell? ⟨bp, 3, none⟩ = some (.int .u64 (mP.mark : Int)))) (by kernel_rfl) (by rw [← hwd]; exact ⟨P10.out.six.1, P10.out.six.2.1, P10.out.six.2.2.1, P10.out.six.2.2.2.1⟩) (fun hS0 => ?_)
        rw [← hwd] at hS0 ⊢
        clear hwd
        refine wpAnyH_take (i := 0) (oi := ⟨some 174, _, _, _, _, _⟩) (v := ?_) rfl (by kernel_rfl) (by kernel_rfl) (by kernel_rfl) (fun _ _ _ h => h) (Or.inl ⟨by rfl, ?_⟩) hS0 ?_
        rotate_left
        · (intro wS hSw; (try dsimp only at hSw); go_simp); all_goals (with_reducible rfl)
        try simp only [Act.put, List.setIfInBounds_toArray, List.set_cons_zero, List.set_cons_succ]
        refine wpAnyH_take (i := 2) (oi := ⟨some 176, _, _, _, _, _⟩) (v := ?_) rfl (by kernel_rfl) (by kernel_rfl) (by kernel_rfl) (fun _ _ _ h => h) (Or.inl ⟨by rfl, ?_⟩) hS0 ?_
        rotate_left
        · (intro wS hSw; (try dsimp only at hSw); go_simp); all_goals (with_reducible rfl)
        try simp only [Act.put, List.setIfInBounds_toArray, List.set_cons_zero, List.set_cons_succ]
        refine wpAnyH_take (i := 3) (oi := ⟨some 177, _, _, _, _, _⟩) (v := ?_) rfl (by kernel_rfl) (by kernel_rfl) (by kernel_rfl) (fun _ _ _ h => h) (Or.inl ⟨by rfl, ?_⟩) hS0 ?_
        rotate_left
        · (intro wS hSw; (try dsimp only at hSw); go_simp); all_goals (with_reducible rfl)
        try simp only [Act.put, List.setIfInBounds_toArray, List.set_cons_zero, List.set_cons_succ]
        refine wpAnyH_ready (rs := [1]) (by kernel_rfl) (by simp) ?_
        refine AllReadyH.cons (o := ⟨some 175, _, _, _, _, _⟩) rfl (fun K hK => ?_) AllReadyH.nil
        go_simp
        refine (cg_meta G10.out).mono ?_
        rintro e w11 ⟨rfl, hb11⟩
        have G11 := Lib.hid (G10.out.below hb11)
        have P11 := Lib.hid (P10.out.below hb11 P10.out.lt)
        have B11 := Lib.hid (B10.out.trans (hb11.mono B10.out.size))
        clear hb11
        go_wp2_with fail
        refine hK.out _ _ ⟨P11.out.six.1, P11.out.six.2.1, P11.out.six.2.2.1, P11.out.six.2.2.2.1⟩ (fun hS1 => ?_)
        clear hK K
        try simp only [Act.put, List.setIfInBounds_toArray, List.set_cons_zero, List.set_cons_succ]
        refine wpAnyH_take (i := 4) (oi := ⟨some 178, _, _, _, _, _⟩) (v := .bool false) rfl (by kernel_rfl) (by kernel_rfl) (by kernel_rfl) (fun _ _ _ h => h) (Or.inl ⟨by rfl, ?_⟩) hS1 ?_
        · (intro wS hSw; (try dsimp only at hSw); go_simp; exact ck_ne hmm)
        try simp only [Act.put, List.setIfInBounds_toArray, List.set_cons_zero, List.set_cons_succ]
        refine wpAnyH_take (i := 5) (oi := ⟨some 22, _, _, _, _, _⟩) (v := ?_) rfl (by kernel_rfl) (by kernel_rfl) (by kernel_rfl) (fun _ _ _ h => h) (Or.inl ⟨by rfl, ?_⟩) hS1 ?_
        rotate_left
        · (intro wS hSw; (try dsimp only at hSw); go_simp); all_goals (with_reducible rfl)
        try simp only [Act.put, List.setIfInBounds_toArray, List.set_cons_zero, List.set_cons_succ]
        refine wpAnyH_done (by kernel_rfl) ?_ _
        go_wp2_with fail
        go_loopw [22, 23] (fun v22 v23 wx => v22 = .bool false ∧ v23 = .int .i64 0 ∧ w11 = wx) (fun _ _ _ => 0)
        case atStart => exact ⟨rfl, rfl, rfl⟩
        case round =>
          obtain ⟨rfl, rfl, hwx⟩ := hrel
          obtain ⟨z0, z1, z2, z3, z4, z5⟩ := P11.out.six
          subst hwx
          by_cases hn : 0 < lP.length
          · have hn2 : (0 : Int) < (lP.length : Int) := by omega
            go_wp2_with fail
            go_roundw
            case rel => exact ⟨j + 1, by go_num, by omega, B11.out⟩
            case measure => simp [intOf]; omega
          · have hn2 : ¬ (0 : Int) < (lP.length : Int) := by omega
            go_wp2_with fail
            go_roundw
            case rel => exact ⟨j + 1, by go_num, by omega, B11.out⟩
            case measure => simp [intOf]; omega
end Go.Proofs.Ytcmffifehpbjnaa
