/- Layer 10: a node whose rows rise, of one: the law's own call, walked. -/
import Derived.Test.YtdjkkppefgppmaaNodeT
import Derived.Test.YtdjkkppefgppmaaNodeG
import Derived.BigQuiet
import Derived.Deep.QuietTactic
namespace Go.Proofs.Ytdjkkppefgppmaa
open Go.RowKit
set_option maxRecDepth 100000
set_option linter.unusedSimpArgs false
set_option linter.unusedVariables false

/-- what lies at A lies in a block from B on -/
def Apart (A : Option Addr) (B : Nat) : Prop := ∀ ad, A = some ad → B ≤ ad.block
theorem own_from {w : World} {base n c : Nat} {e : TypeId} {size : Nat} {A : Option Addr} {xs : List Value} (h : w.ownsRow base e size (.slice A n c) n xs) : Apart A base := by
  intro ad hA
  rcases h.2 with ⟨hv, _⟩ | ⟨g, cap, cur, hv, hb, _⟩
  · rw [hA] at hv; cases hv
  · injection hv with e1
    rw [hA] at e1
    injection e1 with e1
    subst e1
    exact hb
theorem Apart.less {A : Option Addr} {B B' : Nat} (h : Apart A B) (hb : B' ≤ B) : Apart A B' := fun ad e => Nat.le_trans hb (h ad e)
theorem rows_set {w : World} {B n i : Nat} {l : List Rw} {A : Option Addr} {c : Nat} {u : Value} (h : RowsAt w B l A c) (ha : Apart A (n + 1)) : RowsAt (w.setCell ⟨n, i, none⟩ u) B l A c := by
  refine ⟨h.1, h.2.1, ?_⟩
  rcases h.2.2 with h | ⟨b, o, rfl, hb, hc⟩
  · exact .inl h
  · have hbn : n + 1 ≤ b := ha _ rfl
    refine .inr ⟨b, o, rfl, hb, fun j x hx => ?_⟩
    have := World.cell?_of_block (a := ⟨b, o + j, none⟩) (Below.heap_setCell w ⟨n, i, none⟩ u b (by show b ≠ n; omega))
    rw [this]
    exact hc j x hx
def TameIs (leaf : Bool) (l : List Rw) (w : World) (e : Ending) (w' : World) : Prop :=
  ∃ A c, e = .returned (.agg #[.bool leaf, .slice A (tameN leaf l).length c]) ∧ RowsAt w' w'.heap.size (tameN leaf l) A c ∧ Apart A w.heap.size ∧ Below w.heap.size w w'
theorem TameIs.of {leaf : Bool} {l acc : List Rw} {A : Option Addr} {c : Nat} {w w' : World} (h : tameN leaf l = acc) (hr : RowsAt w' w'.heap.size acc A c) (ha : Apart A w.heap.size) (hb : Below w.heap.size w w') : TameIs leaf l w (.returned (.agg #[.bool leaf, .slice A acc.length c])) w' := by
  subst h
  exact ⟨A, c, rfl, hr, ha, hb⟩
/-- where the walk stands: the rows so far -/
structure TmAt (w wr : World) (leaf : Bool) (l : List Rw) (A : Option Addr) (c : Nat) (j : Nat) (acc : List Rw) (v : Value) : Prop where
  node : Whole wr w.heap.size 26 #[.bool leaf, .slice A l.length c]
  res : Whole wr (w.heap.size + 1) 26 #[.bool false, .slice none 0 0]
  box : Whole wr (w.heap.size + 2) 26 #[.bool leaf, v]
  own : wr.ownsRow (w.heap.size + 3) 23 3 v acc.length (cellsRws acc)
  bel : Below w.heap.size w wr
  left : tameN leaf l = tameGo leaf ((l.take 40).drop j) acc
  few : acc.length ≤ j
  j40 : j ≤ 40
  fit : TameOk leaf acc
theorem TmAt.below {w wr w' : World} {leaf : Bool} {l : List Rw} {A : Option Addr} {c : Nat} {j : Nat} {acc : List Rw} {v : Value} (h : TmAt w wr leaf l A c j acc v) (hb : Below wr.heap.size wr w') : TmAt w w' leaf l A c j acc v where
  node := h.node.below hb h.node.lt
  res := h.res.below hb h.res.lt
  box := h.box.below hb h.box.lt
  own := h.own.kept (only_below hb none) (Classical.em _)
  bel := h.bel.trans (hb.mono h.bel.size)
  left := h.left
  few := h.few
  j40 := h.j40
  fit := h.fit
theorem TmAt.done {w wr : World} {leaf : Bool} {l : List Rw} {A A5 : Option Addr} {c c5 : Nat} {j : Nat} {acc : List Rw} (h : TmAt w wr leaf l A c j acc (.slice A5 acc.length c5)) (he : tameN leaf l = acc) :
    TameIs leaf l w (.returned (.agg #[.bool leaf, .slice A5 acc.length c5])) ((wr.setCell ⟨w.heap.size + 1, 0, none⟩ (.bool leaf)).setCell ⟨w.heap.size + 1, 1, none⟩ (.slice A5 acc.length c5)) :=
  TameIs.of he (own_rows (own_set2 h.own (by omega))) ((own_from h.own).less (by omega)) ((h.bel.setCell (by simp) _).setCell (by simp) _)
theorem rows_init {w : World} {base c n : Nat} {e : TypeId} {A : Option Addr} {l : List Rw} {x : Rw} (hn : n = (l ++ [x]).length) (h : w.ownsRow base e 3 (.slice A n c) n (cellsRws (l ++ [x]))) : RowsAt w w.heap.size l A c := by
  subst hn
  have h1 := own_rows h
  have e2 : (cellsRws (l ++ [x])).take (l.length * 3) = cellsRws l := by rw [cellsRws_append, ← cellsRws_length, List.take_left]
  have h2 := h1.2.2.take (l.length * 3)
  rw [e2] at h2
  exact ⟨by have := h1.1; rw [List.length_append] at this; omega, h1.2.1, h2⟩
/-- the same, of memory alone -/
structure TmX (w wr : World) (leaf : Bool) (l : List Rw) (A : Option Addr) (c : Nat) (acc : List Rw) (v : Value) : Prop where
  node : Whole wr w.heap.size 26 #[.bool leaf, .slice A l.length c]
  res : Whole wr (w.heap.size + 1) 26 #[.bool false, .slice none 0 0]
  box : Whole wr (w.heap.size + 2) 26 #[.bool leaf, v]
  own : wr.ownsRow (w.heap.size + 3) 23 3 v acc.length (cellsRws acc)
  bel : Below w.heap.size w wr
theorem TmAt.append {w wr w7 : World} {leaf : Bool} {l : List Rw} {A : Option Addr} {c j : Nat} {acc : List Rw} {v v7 : Value} {x : Rw} {o : Obj} (h : TmAt w wr leaf l A c j acc v)
    (ho : w7.ownsRow (w.heap.size + 3) 23 3 v7 (acc.length + 1) (cellsRws acc ++ cellsRw x)) (hb : Below (w.heap.size + 3) (wr.alloc o) w7) : TmX w (w7.setCell ⟨w.heap.size + 2, 1, none⟩ v7) leaf l A c (acc ++ [x]) v7 := by
  have hz := h.box.lt
  have b1 : Below (w.heap.size + 3) wr w7 := ((Below.refl _ wr).alloc (by omega) o).trans hb
  have ho' : w7.ownsRow (w.heap.size + 3) 23 3 v7 (acc ++ [x]).length (cellsRws (acc ++ [x])) := by
    rw [List.length_append, cellsRws_append]
    simpa [cellsRws] using ho
  refine ⟨(h.node.below b1 (by omega)).other (by omega), (h.res.below b1 (by omega)).other (by omega), (h.box.below b1 (by omega)).put 1 v7, own_set ho' (by omega), (h.bel.trans (b1.mono (by omega))).setCell (by simp) _⟩
theorem TmX.below {w wr w' : World} {leaf : Bool} {l : List Rw} {A : Option Addr} {c : Nat} {acc : List Rw} {v : Value} (h : TmX w wr leaf l A c acc v) (hb : Below wr.heap.size wr w') : TmX w w' leaf l A c acc v where
  node := h.node.below hb h.node.lt
  res := h.res.below hb h.res.lt
  box := h.box.below hb h.box.lt
  own := h.own.kept (only_below hb none) (Classical.em _)
  bel := h.bel.trans (hb.mono h.bel.size)
theorem TmX.next {w wr : World} {leaf : Bool} {l : List Rw} {A : Option Addr} {c j : Nat} {acc' : List Rw} {v : Value} (h : TmX w wr leaf l A c acc' v)
    (hl : tameN leaf l = tameGo leaf ((l.take 40).drop (j + 1)) acc') (hn : acc'.length ≤ j + 1) (hj : j + 1 ≤ 40) (hf : TameOk leaf acc') : TmAt w wr leaf l A c (j + 1) acc' v :=
  ⟨h.node, h.res, h.box, h.own, h.bel, hl, hn, hj, hf⟩
theorem TmX.cut {w wr : World} {leaf : Bool} {l : List Rw} {A A7 : Option Addr} {c c7 n : Nat} {acc : List Rw} {x : Rw} (h : TmX w wr leaf l A c (acc ++ [x]) (.slice A7 n c7)) (hn : n = (acc ++ [x]).length) (he : tameN leaf l = acc) :
    TameIs leaf l w (.returned (.agg #[.bool leaf, .slice A7 acc.length c7])) (((wr.setCell ⟨w.heap.size + 2, 1, none⟩ (.slice A7 acc.length c7)).setCell ⟨w.heap.size + 1, 0, none⟩ (.bool leaf)).setCell ⟨w.heap.size + 1, 1, none⟩ (.slice A7 acc.length c7)) := by
  have o1 := own_set2 (i := 0) (j := 1) (u := .bool leaf) (u' := .slice A7 acc.length c7) (own_set (i := 1) (u := .slice A7 acc.length c7) h.own (show w.heap.size + 2 < w.heap.size + 3 by omega)) (show w.heap.size + 1 < w.heap.size + 3 by omega)
  subst hn
  exact TameIs.of he (rows_init rfl o1) ((own_from o1).less (by omega)) (((h.bel.setCell (by simp) _).setCell (by simp) _).setCell (by simp) _)
theorem rsize_is (leaf : Bool) (l : List Rw) (A : Option Addr) (n c B : Nat) (w : World) (hn : n = l.length) (ht : RowsAt w B l A c) (hB : B ≤ w.heap.size) (hf : Few l) :
    Calls Try.prog 13 #[.agg #[.bool leaf, .slice A n c]] w fun e w' => SizeAt w w' e (sizeN leaf l) := by
  subst hn
  exact rsize_node leaf l A c B w ht hB hf
theorem own_rows_n {w : World} {base n : Nat} {e : TypeId} {c : Nat} {A : Option Addr} {l : List Rw} (hn : n = l.length) (h : w.ownsRow base e 3 (.slice A n c) l.length (cellsRws l)) : RowsAt w w.heap.size l A c := by
  subst hn
  exact own_rows h
theorem tame_next {leaf : Bool} {acc : List Rw} {r : Rw} (h : TameOk leaf acc) (h1 : ¬ 130 < (tmKey acc r).length) (h2 : ¬ 512 < sizeN leaf (acc ++ [tmRow leaf acc r])) : TameOk leaf (acc ++ [tmRow leaf acc r]) := by
  refine ⟨?_, by omega⟩
  rw [okR_snoc, h.ok, Bool.true_and, Bool.and_eq_true]
  exact ⟨tmKey_rises acc r, tmRow_fits leaf acc r h1⟩
/-- the row that is being made -/
structure TmR (wr wx : World) (r : Rw) : Prop where
  row : Whole wx wr.heap.size 23 #[.string ⟨r.key.toArray⟩, .string ⟨r.val.toArray⟩, .int .i64 r.page]
  bel : Below wr.heap.size wr wx
theorem TmR.cells {wr wx : World} {r : Rw} (h : TmR wr wx r) : wx.cell? ⟨wr.heap.size, 0, none⟩ = some (.string ⟨r.key.toArray⟩) ∧ wx.cell? ⟨wr.heap.size, 1, none⟩ = some (.string ⟨r.val.toArray⟩) ∧ wx.cell? ⟨wr.heap.size, 2, none⟩ = some (.int .i64 r.page) := ⟨h.row.cell 0, h.row.cell 1, h.row.cell 2⟩
theorem TmR.key {wr wx : World} {r : Rw} (h : TmR wr wx r) (k : List UInt8) : TmR wr (wx.setCell ⟨wr.heap.size, 0, none⟩ (.string ⟨k.toArray⟩)) ⟨k, r.val, r.page⟩ := ⟨h.row.put 0 _, h.bel.setCell (Nat.le_refl _) _⟩
theorem TmR.val {wr wx : World} {r : Rw} (h : TmR wr wx r) (k : List UInt8) : TmR wr (wx.setCell ⟨wr.heap.size, 1, none⟩ (.string ⟨k.toArray⟩)) ⟨r.key, k, r.page⟩ := ⟨h.row.put 1 _, h.bel.setCell (Nat.le_refl _) _⟩
theorem TmR.page {wr wx : World} {r : Rw} (h : TmR wr wx r) (p : Int) : TmR wr (wx.setCell ⟨wr.heap.size, 2, none⟩ (.int .i64 p)) ⟨r.key, r.val, p⟩ := ⟨h.row.put 2 _, h.bel.setCell (Nat.le_refl _) _⟩
theorem cut_list (l : List UInt8) (k : Nat) : (⟨l.toArray⟩ : ByteArray).extract 0 k = ⟨(l.take k).toArray⟩ := by
  apply ByteArray.ext
  simp [ByteArray.data_extract]
theorem put_k (l : List UInt8) : (⟨#[107]⟩ : ByteArray) ++ ⟨l.toArray⟩ = ⟨(107 :: l).toArray⟩ := by
  apply ByteArray.ext
  simp [ByteArray.data_append]
theorem put_plus (l : List UInt8) : (⟨l.toArray⟩ : ByteArray) ++ ⟨#[43]⟩ = ⟨(l ++ [43]).toArray⟩ := by
  apply ByteArray.ext
  simp [ByteArray.data_append]

set_option maxHeartbeats 2000000 in
theorem tame_any (leaf : Bool) (l : List Rw) (A : Option Addr) (c B : Nat) (w : World) (ht : RowsAt w B l A c) (hB : B ≤ w.heap.size) (hf : Few l) :
    Calls Try.prog 18 #[.agg #[.bool leaf, .slice A l.length c]] w (TameIs leaf l w) := by
  obtain ⟨i0, hi, hz0, hz1, hz2⟩ := info_parts rw_info
  have HI := Lib.hid hi
  have H0 := Lib.hid hz0
  have H1 := Lib.hid hz1
  have H2 := Lib.hid hz2
  have hlc := ht.1
  have hcm := ht.2.1
  have HL := Lib.hid ht.2.2
  have HF := Lib.hid hf
  have hll := hf.1
  unfold maxLen at hcm
  clear hi hz0 hz1 hz2 ht hf
  obtain ⟨WA, hWA⟩ : ∃ WA, WA = w.alloc (.cells #[.bool leaf, .slice A l.length c] 26) := ⟨_, rfl⟩
  obtain ⟨WB, hWB⟩ : ∃ WB, WB = WA.alloc (.cells #[.bool false, .slice none 0 0] 26) := ⟨_, rfl⟩
  obtain ⟨WC, hWC⟩ : ∃ WC, WC = WB.alloc (.cells #[.bool leaf, .slice none 0 0] 26) := ⟨_, rfl⟩
  have zA : WA.heap.size = w.heap.size + 1 := by rw [hWA]; simp
  have zB : WB.heap.size = w.heap.size + 2 := by rw [hWB]; simp [zA]
  have T0 : TmAt w WC leaf l A c 0 [] (.slice none 0 0) := by
    have n1 : Whole WA w.heap.size 26 #[.bool leaf, .slice A l.length c] := by rw [hWA]; exact Whole.new _ _ _
    have n2 : Whole WB (w.heap.size + 1) 26 #[.bool false, .slice none 0 0] := by rw [hWB, ← zA]; exact Whole.new _ _ _
    have n3 : Whole WC (w.heap.size + 2) 26 #[.bool leaf, .slice none 0 0] := by rw [hWC, ← zB]; exact Whole.new _ _ _
    refine ⟨?_, ?_, n3, World.ownsRow_nil _ _ _ _, ?_, rfl, Nat.zero_le _, by omega, ⟨rfl, by simp [sizeN]⟩⟩
    · rw [hWC, hWB]; exact (n1.alloc _).alloc _
    · rw [hWC]; exact n2.alloc _
    · rw [hWC, hWB, hWA]; exact (((Below.refl _ w).alloc (Nat.le_refl _) _).alloc (by simp) _).alloc (by simp; omega) _
  have TX := Lib.hid T0
  go_enter Try.func18, Try.ntmps18
  go_wp2_with fail
  rw [← hWA, ← hWB, ← hWC]
  clear hWA hWB hWC zA zB T0
  go_loopw [4] (fun i wr => ∃ (j : Nat) (acc : List Rw) (v : Value), i = .int .i64 j ∧ j ≤ l.length ∧ TmAt w wr leaf l A c j acc v) (fun i _ => l.length - (intOf i).toNat)
  case atStart => exact ⟨0, [], _, rfl, Nat.zero_le _, TX.out⟩
  case round =>
    obtain ⟨j, acc, v, rfl, hj, ht⟩ := hrel
    have HT := Lib.hid ht
    have n1 : wr.cell? ⟨w.heap.size, 1, none⟩ = some (.slice A l.length c) := ht.node.cell 1
    have hj40 := ht.j40
    obtain ⟨A5, c5, rfl, hc5, hm5⟩ := own_form ht.own
    clear ht TX
    by_cases hlt : j < l.length ∧ j < 40
    · obtain ⟨h1, h2⟩ := hlt
      obtain ⟨b, o, rfl, hb, c0, c1, c2⟩ := lies_rw (HL.out.below (HT.out.bel.mono hB)) j h1
      obtain ⟨r, hr⟩ : ∃ r, r = l[j] := ⟨_, rfl⟩
      rw [← hr] at c0 c1 c2
      have hrk := HF.out.at j h1
      rw [← hr] at hrk
      have hdrop : (l.take 40).drop j = r :: (l.take 40).drop (j + 1) := by
        rw [List.drop_eq_getElem_cons (by rw [List.length_take]; omega), List.getElem_take, hr]
      have HD := Lib.hid hdrop
      have s1 := size_arr r.key
      have s2 := size_arr r.val
      obtain ⟨hk, hv⟩ := hrk
      obtain ⟨W0, hW0⟩ : ∃ W0, W0 = wr.alloc (.cells #[.string ⟨r.key.toArray⟩, .string ⟨r.val.toArray⟩, .int .i64 r.page] 23) := ⟨_, rfl⟩
      have R0 : TmR wr W0 r := ⟨by rw [hW0]; exact Whole.new _ _ _, by rw [hW0]; exact (Below.refl _ _).alloc (Nat.le_refl _) _⟩
      have HR0 := Lib.hid R0
      clear hr hdrop R0
      go_upto_region 6 with fail
      rw [← hW0]
      clear hW0 c0 c1 c2 n1
      go_cut [] (fun wx => TmR wr wx ⟨tmK r, r.val, r.page⟩)
      case first =>
        obtain ⟨d0, d1, d2⟩ := HR0.out.cells
        have f0 := HR0.out.row.frozen 0
        obtain ⟨P, hP⟩ : ∃ P, P = r.key.take 100 := ⟨_, rfl⟩
        have cl : P.length ≤ 100 := by rw [hP]; exact List.length_take_le _ _
        have ck : (⟨P.toArray⟩ : ByteArray).size = P.length := size_arr _
        have pk := put_k P
        have D := Lib.hid (show TmR wr (W0.setCell ⟨wr.heap.size, 0, none⟩ (.string ⟨(107 :: P).toArray⟩)) ⟨tmK r, r.val, r.page⟩ by rw [hP]; exact HR0.out.key (tmK r))
        by_cases q : r.key.length ≤ 100
        · have ce : (⟨r.key.toArray⟩ : ByteArray).extract 0 r.key.length = ⟨P.toArray⟩ := by rw [cut_list, List.take_length, hP, List.take_of_length_le q]
          clear hP
          go_wp2_with fail
          go_meet
          exact D.out
        · have ce : (⟨r.key.toArray⟩ : ByteArray).extract 0 100 = ⟨P.toArray⟩ := by rw [cut_list, hP]
          clear hP
          go_wp2_with fail
          go_meet
          exact D.out
      case rest =>
        have HR1 := Lib.hid hcut
        clear s1
        go_upto_region 7 with fail
        go_cut [] (fun wx => TmR wr wx ⟨tmK r, r.val.take 20, r.page⟩)
        case first =>
          obtain ⟨d0, d1, d2⟩ := HR1.out.cells
          have f0 := HR1.out.row.frozen 1
          obtain ⟨P, hP⟩ : ∃ P, P = r.val.take 20 := ⟨_, rfl⟩
          have D := Lib.hid (show TmR wr (wc.setCell ⟨wr.heap.size, 1, none⟩ (.string ⟨P.toArray⟩)) ⟨tmK r, r.val.take 20, r.page⟩ by rw [hP]; exact HR1.out.val _)
          by_cases q : r.val.length ≤ 20
          · have ce : (⟨r.val.toArray⟩ : ByteArray).extract 0 r.val.length = ⟨P.toArray⟩ := by rw [cut_list, List.take_length, hP, List.take_of_length_le q]
            clear hP
            go_wp2_with fail
            go_meet
            exact D.out
          · have ce : (⟨r.val.toArray⟩ : ByteArray).extract 0 20 = ⟨P.toArray⟩ := by rw [cut_list, hP]
            clear hP
            go_wp2_with fail
            go_meet
            exact D.out
        case rest =>
          have HR2 := Lib.hid hcut
          obtain ⟨d0, d1, d2⟩ := HR2.out.cells
          have f2 := HR2.out.row.frozen 2
          obtain ⟨pm, hpm, hpe, hpb⟩ := mask_is r.page 65535 16 (by omega) (by decide)
          have HP := Lib.hid hpe
          have D := Lib.hid (HR2.out.page (2 + (pm : Int)))
          have hz := HT.out.box.lt
          have HT2 := Lib.hid (HT.out.below HR2.out.bel)
          have x0 : wc.cell? ⟨w.heap.size, 0, none⟩ = some (.bool leaf) := HT2.out.node.cell 0
          have hz0 : w.heap.size < wr.heap.size := by omega
          clear s2 hpe
          go_upto_if 49 with fail
          obtain ⟨W3, hW3⟩ : ∃ W3, W3 = wc.setCell ⟨wr.heap.size, 2, none⟩ (.int .i64 (2 + (pm : Int))) := ⟨_, rfl⟩
          rw [← hW3] at D ⊢
          clear hW3 d0 d1 d2 f2 x0
          go_cut [] (fun wx => TmR wr wx ⟨tmK r, tmV leaf r, tmP leaf r⟩)
          case first =>
            obtain ⟨d0, d1, d2⟩ := D.out.cells
            have f1 := D.out.row.frozen 1
            have f2 := D.out.row.frozen 2
            cases leaf with
            | true =>
              have D2 := Lib.hid (show TmR wr (W3.setCell ⟨wr.heap.size, 2, none⟩ (.int .i64 0)) ⟨tmK r, tmV true r, tmP true r⟩ from D.out.page 0)
              go_wp2_with fail
              go_meet
              exact D2.out
            | false =>
              have D2 := Lib.hid (show TmR wr (W3.setCell ⟨wr.heap.size, 1, none⟩ (.string ⟨#[]⟩)) ⟨tmK r, tmV false r, tmP false r⟩ by
                have e : tmP false r = 2 + (pm : Int) := by
                  have h := HP.out
                  simp only [tmP, Bool.false_eq_true, if_false]
                  rw [← h]; rfl
                rw [e]
                exact D.out.val [])
              go_wp2_with fail
              go_meet
              exact D2.out
          case rest =>
            obtain ⟨W5, hW5⟩ : ∃ W5 : World, W5 = wc := ⟨_, rfl⟩
            subst hW5
            have HR3 := Lib.hid hcut
            clear hcut
            have HT3 := Lib.hid (HT.out.below HR3.out.bel)
            have m1 : W5.cell? ⟨w.heap.size + 2, 1, none⟩ = some (.slice A5 acc.length c5) := HT3.out.box.cell 1
            have hac := HT.out.few
            obtain ⟨M, hM0⟩ : ∃ M, M = acc.length := ⟨_, rfl⟩
            rw [← hM0] at m1
            have HM := Lib.hid hM0
            clear D HR2 HT2 HP hM0
            go_upto_region 13 with fail
            go_cut [68] (fun v wx => v = .bool (!ltL (lastK [] acc) (tmK r)) ∧ ∃ q, wx = W5.drewN q)
            case first =>
              obtain ⟨d0, d1, d2⟩ := HR3.out.cells
              have hM := HM.out
              rcases Nat.eq_zero_or_pos M with h0 | h0
              · have hnil : acc = [] := List.eq_nil_of_length_eq_zero (by omega)
                have e : Hid (ltL (lastK [] acc) (tmK r) = true) := Lib.hid (by rw [hnil, lastK, ltL_nil]; rfl)
                have hd : decide ((0 : Int) < (M : Int)) = false := decide_eq_false (by omega)
                have hd' : decide ((M : Int) > 0) = false := decide_eq_false (by omega)
                have hdn : decide (0 < M) = false := decide_eq_false (by omega)
                clear hM hac hnil h0
                go_quiet (fail)
                go_wp2_with fail
                go_meet
                exact ⟨by rw [e.out]; rfl, _, rfl⟩
              · have hlk := lastK_at acc [] (by omega)
                obtain ⟨n, hn⟩ : ∃ n, n = M - 1 := ⟨_, rfl⟩
                have hna : n < acc.length := by omega
                have hlk2 : lastK [] acc = acc[n].key := by
                  rw [hlk]
                  congr 2
                  omega
                have ro := own_rows HT3.out.own
                obtain ⟨b5, o5, rfl, hb5, e0, e1, e2⟩ := lies_rw ro.2.2 n hna
                rw [← hlk2] at e0
                have lq := less_is (lastK [] acc) (tmK r)
                have LQ := Lib.hid lq
                obtain ⟨LK, hLK⟩ : ∃ LK, LK = lastK [] acc := ⟨_, rfl⟩
                obtain ⟨TK, hTK⟩ : ∃ TK, TK = tmK r := ⟨_, rfl⟩
                rw [← hLK] at e0 lq
                rw [← hTK] at d0 lq
                have hd : decide ((0 : Int) < (M : Int)) = true := decide_eq_true (by omega)
                have hd' : decide ((M : Int) > 0) = true := decide_eq_true (by omega)
                have hw : IntKind.i64.wrap ((M : Int) - 1) = (n : Int) := by rw [IntWalk.i64_in _ ⟨by omega, by omega⟩]; omega
                have hw2 : IntKind.i64.wrap (n : Int) = (n : Int) := IntWalk.i64_in _ ⟨by omega, by omega⟩
                have hn0 : (0 : Int) ≤ (n : Int) := by omega
                have hn1 : (n : Int) < (M : Int) := by omega
                have HLK := Lib.hid hLK
                have HTK := Lib.hid hTK
                have HLQ := Lib.hid lq
                clear hM hac hlk hlk2 ro hn hna e1 e2 hLK hTK LQ lq
                go_quiet (fail)
                go_wp2_with fail
                go_meet
                exact ⟨by rw [← HLK.out, ← HTK.out, ← HLQ.out], _, rfl⟩
            case rest =>
              obtain ⟨rfl, q, hq⟩ := hcut
              have R4 : TmR wr wc ⟨tmK r, tmV leaf r, tmP leaf r⟩ := by rw [hq]; exact ⟨HR3.out.row, below_drewN HR3.out.bel q⟩
              have HR4 := Lib.hid R4
              have HT4 := Lib.hid (HT.out.below R4.bel)
              clear hq R4 HR3 HT3 m1
              go_upto_if 68 with fail
              go_cut [] (fun wx => TmR wr wx ⟨tmKey acc r, tmV leaf r, tmP leaf r⟩)
              case first =>
                obtain ⟨LK, hLK⟩ : ∃ LK, LK = lastK [] acc := ⟨_, rfl⟩
                by_cases hl : ltL LK (tmK r) = true
                · have e : tmKey acc r = tmK r := by rw [tmKey, ← hLK, if_pos hl]
                  have D := Lib.hid (show TmR wr wc ⟨tmKey acc r, tmV leaf r, tmP leaf r⟩ by rw [e]; exact HR4.out)
                  rw [← hLK, hl]
                  clear hLK
                  go_wp2_with fail
                  go_meet
                  exact D.out
                · have hl' : ltL LK (tmK r) = false := by simpa using hl
                  have e : tmKey acc r = LK ++ [43] := by rw [tmKey, ← hLK, if_neg hl]
                  have hM := HM.out
                  have hpos : 0 < M := by
                    rw [hM]
                    rcases Nat.eq_zero_or_pos acc.length with h0 | h0
                    · exfalso
                      have hnil : acc = [] := List.eq_nil_of_length_eq_zero h0
                      rw [hnil, lastK] at hLK
                      rw [hLK, ltL_nil] at hl'
                      simp [tmK] at hl'
                    · exact h0
                  have hlk := lastK_at acc [] (by omega)
                  obtain ⟨n, hn⟩ : ∃ n, n = M - 1 := ⟨_, rfl⟩
                  have hna : n < acc.length := by omega
                  have hlk2 : LK = acc[n].key := by
                    rw [hLK, hlk]
                    congr 2
                    omega
                  have hkl : LK.length ≤ 130 := by
                    rw [hlk2]
                    exact (fitR_len (tame_fit HT.out.fit _ (List.getElem_mem hna))).1
                  have m1 : wc.cell? ⟨w.heap.size + 2, 1, none⟩ = some (.slice A5 M c5) := by rw [hM]; exact HT4.out.box.cell 1
                  have ro := own_rows HT4.out.own
                  obtain ⟨b5, o5, rfl, hb5, e0, e1, e2⟩ := lies_rw ro.2.2 n hna
                  rw [← hlk2] at e0
                  have D := Lib.hid (show TmR wr (wc.setCell ⟨wr.heap.size, 0, none⟩ (.string ⟨(LK ++ [43]).toArray⟩)) ⟨tmKey acc r, tmV leaf r, tmP leaf r⟩ by rw [e]; exact HR4.out.key _)
                  obtain ⟨d0, d1, d2⟩ := HR4.out.cells
                  have f0 := HR4.out.row.frozen 0
                  have hw2 : (M : Int) - 1 = (n : Int) := by omega
                  have hn0 : (0 : Int) ≤ (n : Int) := by omega
                  have hn1 : (n : Int) < (M : Int) := by omega
                  have hMb : (M : Int) ≤ 1000000 := by have := HT.out.few; have := HT.out.j40; omega
                  have pp := put_plus LK
                  have sz := size_arr LK
                  rw [← hLK, hl']
                  clear hM hlk hlk2 ro hn hna e1 e2 hLK hpos e
                  go_wp2_with fail
                  go_meet
                  exact D.out
              case rest =>
                have HR5 := Lib.hid hcut
                have HT5 := Lib.hid (HT.out.below hcut.bel)
                clear hcut HR4 HT4
                have hkk : tameGo leaf ((l.take 40).drop j) acc = if 130 < (tmKey acc r).length then acc else if 512 < sizeN leaf (acc ++ [tmRow leaf acc r]) then acc else tameGo leaf ((l.take 40).drop (j + 1)) (acc ++ [tmRow leaf acc r]) := by rw [HD.out]; rfl
                have HKK := Lib.hid (HT.out.left.trans hkk)
                obtain ⟨d0, d1, d2⟩ := HR5.out.cells
                have hM := HM.out
                obtain ⟨x, hx⟩ : ∃ x, x = tmRow leaf acc r := ⟨_, rfl⟩
                have e1 : tmKey acc r = x.key := by rw [hx]; rfl
                have e2 : tmV leaf r = x.val := by rw [hx]; rfl
                have e3 : tmP leaf r = x.page := by rw [hx]; rfl
                rw [e1] at d0
                rw [e2] at d1
                rw [e3] at d2
                rw [e1, ← hx] at HKK
                have sz := size_arr x.key
                have m0 : wc.cell? ⟨w.heap.size + 2, 0, none⟩ = some (.bool leaf) := HT5.out.box.cell 0
                have m1 : wc.cell? ⟨w.heap.size + 2, 1, none⟩ = some (.slice A5 M c5) := by rw [hM]; exact HT5.out.box.cell 1
                have hxl : x.key.length ≤ 1000000 := by
                  rw [← e1, tmKey]
                  split
                  · simp [tmK]; omega
                  · rcases Nat.eq_zero_or_pos acc.length with h0 | h0
                    · have hnil : acc = [] := List.eq_nil_of_length_eq_zero h0
                      rw [hnil]; simp [lastK]
                    · rw [lastK_at acc [] h0, List.length_append]
                      have := (fitR_len (tame_fit HT.out.fit _ (List.getElem_mem (show acc.length - 1 < acc.length by omega)))).1
                      simp; omega
                have HX := Lib.hid hx
                have HE1 := Lib.hid e1
                have hMj : M ≤ 40 := by have := HT.out.few; have := HT.out.j40; omega
                clear hkk hx e1 e2 e3 hM
                by_cases h130 : 130 < x.key.length
                · have hend : tameN leaf l = acc := by rw [HKK.out, if_pos h130]
                  have HE := Lib.hid hend
                  have r0 : wc.cell? ⟨w.heap.size + 1, 0, none⟩ = some (.bool false) := HT5.out.res.cell 0
                  have r1 : wc.cell? ⟨w.heap.size + 1, 1, none⟩ = some (.slice none 0 0) := HT5.out.res.cell 1
                  have f0 := HT5.out.res.frozen 0
                  have f1 := HT5.out.res.frozen 1
                  have DN := HT5.out.done HE.out
                  rw [← HM.out] at DN
                  have HDN := Lib.hid DN
                  clear hend DN
                  go_wp2_with fail
                  have p1 := (HT5.out.res.put 0 (.bool leaf)).put 1 (.slice A5 M c5)
                  have y0 := p1.cell 0
                  have y1 := p1.cell 1
                  exact bodyPost_ret (v := .agg #[.bool leaf, .slice A5 M c5]) (by simp [results, Try.results18, go_sem, y0, y1]) rfl HDN.out
                · have hfit := tmRow_fits leaf acc r (by rw [HE1.out]; exact h130)
                  have hr1 : M + 1 ≤ maxLen := by unfold maxLen; omega
                  have hr2 : (M + 1) * 40 ≤ 140737488355328 := by omega
                  have hown5 : wc.ownsRow (w.heap.size + 3) 23 3 (.slice A5 M c5) M (cellsRws acc) := by rw [HM.out]; exact HT5.out.own
                  have hrm : ∀ o : Obj, w.heap.size + 3 ≤ (wc.alloc o).heap.size := fun o => by have := HT5.out.box.lt; simp; omega
                  have HW5 := Lib.hid hown5
                  have HR1' := Lib.hid hr1
                  have HR2' := Lib.hid hr2
                  have HRM := Lib.hid hrm
                  have HFT := Lib.hid hfit
                  have hz5 := HT5.out.box.lt
                  have fb := HT5.out.box.frozen 1
                  have hap : ∀ (v7 : Value) (w7 : World), w7.ownsRow (w.heap.size + 3) 23 3 v7 (M + 1) (cellsRws acc ++ cellsRw x) → Below (w.heap.size + 3) (wc.alloc (.cells (cellsRw x).toArray 23)) w7 → TmX w (w7.setCell ⟨w.heap.size + 2, 1, none⟩ v7) leaf l (some ⟨b, o, none⟩) c (acc ++ [x]) v7 := fun v7 w7 ho hb => HT5.out.append (by rw [← HM.out]; exact ho) hb
                  have hxb : ∀ w7, Below (w.heap.size + 3) (wc.alloc (.cells (cellsRw x).toArray 23)) w7 → Whole w7 (w.heap.size + 2) 26 #[.bool leaf, .slice A5 acc.length c5] := fun w7 hb => (HT5.out.box.alloc _).below hb (by omega)
                  rw [← HM.out] at hxb
                  have HAP := Lib.hid hap
                  have HXB := Lib.hid hxb
                  clear hown5 hr1 hr2 hrm hfit hap hxb
                  go_wp2_with (at_builtin; go_must (refine wpList_append_cells rfl _ _ 24 rfl (w.heap.size + 3) 23 i0 _ 3 40 Try.underlying24 HI.out H0.out H1.out H2.out rfl (by omega) (.slice A5 M c5) M _ rfl (HW5.out.alloc _) _ _ 1 1 (cellsRw x) rfl (Lies.lit wc 23 (cellsRw x)) rfl (cellsRw_one _) HR1'.out HR2'.out (HRM.out _) ?_); intro v7 w7 o7 b7; obtain ⟨A7, c7, rfl, hc7, hm7⟩ := own_form o7; have TX7 := Lib.hid (HAP.out _ _ o7 b7); have XB := HXB.out _ b7; have mm0 : w7.cell? ⟨w.heap.size + 2, 0, none⟩ = some (.bool leaf) := XB.cell 0; have mm1 : w7.cell? ⟨w.heap.size + 2, 1, none⟩ = some (.slice A5 M c5) := XB.cell 1; have ff1 := XB.frozen 1; clear o7 b7 XB)
                  obtain ⟨W8, hW8⟩ : ∃ W8, W8 = w7.setCell ⟨w.heap.size + 1 + 1, 1, none⟩ (.slice A7 (M + 1) c7) := ⟨_, rfl⟩
                  have TX8 : TmX w W8 leaf l (some ⟨b, o, none⟩) c (acc ++ [x]) (.slice A7 (M + 1) c7) := by rw [hW8]; exact TX7.out
                  have hM1 : M + 1 = (acc ++ [x]).length := by rw [List.length_append, ← HM.out]; rfl
                  have rr := own_rows_n hM1 TX8.own
                  have hfew : Few (acc ++ [x]) := ⟨by rw [← hM1]; omega, fun y hy => by
                    rcases List.mem_append.1 hy with hy | hy
                    · have := fitR_len (tame_fit HT.out.fit y hy); omega
                    · simp only [List.mem_cons, List.not_mem_nil, or_false] at hy
                      subst hy
                      have := fitR_len HFT.out
                      rw [← HX.out] at this
                      omega⟩
                  have HX8 := Lib.hid TX8
                  have HRR := Lib.hid rr
                  have HM1 := Lib.hid hM1
                  have HFW := Lib.hid hfew
                  rw [← hW8]
                  clear hW8 TX8 rr hM1 hfew TX7 mm0 mm1 ff1
                  refine (rsize_is leaf (acc ++ [x]) A7 (M + 1) c7 _ _ HM1.out HRR.out (Nat.le_refl _) HFW.out).mono ?_
                  rintro e w9 ⟨rfl, b9⟩
                  have TX9 := Lib.hid (HX8.out.below b9)
                  obtain ⟨Z, hZ⟩ : ∃ Z, Z = sizeN leaf (acc ++ [x]) := ⟨_, rfl⟩
                  rw [← hZ]
                  rw [← hZ] at HKK
                  have HZ := Lib.hid hZ
                  clear b9 hZ HX8 HRR HFW
                  by_cases h512 : 512 < Z
                  · have hend : tameN leaf l = acc := by rw [HKK.out, if_neg h130, if_pos h512]
                    have DN := TX9.out.cut HM1.out hend
                    rw [← HM.out] at DN
                    have HDN := Lib.hid DN
                    have k0 : w9.cell? ⟨w.heap.size + 2, 0, none⟩ = some (.bool leaf) := TX9.out.box.cell 0
                    have k1 : w9.cell? ⟨w.heap.size + 2, 1, none⟩ = some (.slice A7 (M + 1) c7) := TX9.out.box.cell 1
                    have kf := TX9.out.box.frozen 1
                    have r0 : w9.cell? ⟨w.heap.size + 1, 0, none⟩ = some (.bool false) := TX9.out.res.cell 0
                    have r1 : w9.cell? ⟨w.heap.size + 1, 1, none⟩ = some (.slice none 0 0) := TX9.out.res.cell 1
                    have f0 := TX9.out.res.frozen 0
                    have f1 := TX9.out.res.frozen 1
                    have hc7a : M ≤ c7 := by omega
                    clear hend DN
                    go_wp2_with fail
                    have p0 := ((TX9.out.res.other (m := w.heap.size + 2) (i := 1) (u := .slice A7 M c7) (by omega)).put 0 (.bool leaf)).put 1 (.slice A7 M c7)
                    have y0 := p0.cell 0
                    have y1 := p0.cell 1
                    exact bodyPost_ret (v := .agg #[.bool leaf, .slice A7 M c7]) (by simp [results, Try.results18, go_sem, y0, y1]) rfl HDN.out
                  · have hnx := tame_next HT.out.fit (by rw [HE1.out]; exact h130) (by rw [← HX.out, ← HZ.out]; exact h512)
                    rw [← HX.out] at hnx
                    have NX := Lib.hid (TX9.out.next (j := j) (by rw [HKK.out, if_neg h130, if_neg h512]) (by rw [← HM1.out, HM.out]; have := HT.out.few; omega) (by omega) hnx)
                    clear hnx
                    go_wp2_with fail
                    go_roundw
                    case rel => exact ⟨j + 1, acc ++ [x], _, by go_num, by omega, NX.out⟩
                    case measure => simp [intOf]; omega
    · have hend : tameN leaf l = acc := by
        rw [HT.out.left, List.drop_eq_nil_of_le (by rw [List.length_take]; omega)]
        rfl
      have HE := Lib.hid hend
      have m0 : wr.cell? ⟨w.heap.size + 2, 0, none⟩ = some (.bool leaf) := HT.out.box.cell 0
      have m1 : wr.cell? ⟨w.heap.size + 2, 1, none⟩ = some (.slice A5 acc.length c5) := HT.out.box.cell 1
      have r0 : wr.cell? ⟨w.heap.size + 1, 0, none⟩ = some (.bool false) := HT.out.res.cell 0
      have r1 : wr.cell? ⟨w.heap.size + 1, 1, none⟩ = some (.slice none 0 0) := HT.out.res.cell 1
      have f0 := HT.out.res.frozen 0
      have f1 := HT.out.res.frozen 1
      clear hend
      rcases Nat.lt_or_ge j l.length with h1 | h1
      · have h2 : ¬ j < 40 := by omega
        go_wp2_with fail
        have p1 := (HT.out.res.put 0 (.bool leaf)).put 1 (.slice A5 acc.length c5)
        have y0 := p1.cell 0
        have y1 := p1.cell 1
        exact bodyPost_ret (v := .agg #[.bool leaf, .slice A5 acc.length c5]) (by simp [results, Try.results18, go_sem, y0, y1]) rfl (HT.out.done HE.out)
      · have h1' : ¬ j < l.length := by omega
        go_wp2_with fail
        have p1 := (HT.out.res.put 0 (.bool leaf)).put 1 (.slice A5 acc.length c5)
        have y0 := p1.cell 0
        have y1 := p1.cell 1
        exact bodyPost_ret (v := .agg #[.bool leaf, .slice A5 acc.length c5]) (by simp [results, Try.results18, go_sem, y0, y1]) rfl (HT.out.done HE.out)
end Go.Proofs.Ytdjkkppefgppmaa
