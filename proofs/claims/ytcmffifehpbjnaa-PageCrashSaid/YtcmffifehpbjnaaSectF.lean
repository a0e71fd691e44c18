/- Layer 7: Read. -/
import Derived.Test.YtcmffifehpbjnaaSectS
import Derived.Deep.DeepCutAuto
import Derived.Deep.DeepMust
import Derived.Deep.RegionHeld3
import Derived.Deep.RegionWith
namespace Go.Proofs.Ytcmffifehpbjnaa
open Go.RowKit Go.Maps
set_option maxRecDepth 100000
set_option linter.unusedSimpArgs false
set_option linter.unusedVariables false
section
variable {K : Nat → Prop} {w w' : World} {g : Nat} {b1 b2 b3 : Nat} {S : Dv} {sv : Nm → Value}
theorem wp_world {P : Program} {c : Code} {Q : Exit → Act → World → Prop} {a : Act} {w1 w2 : World} (h : w1 = w2) (k : Code.wp P c Q a w2) : Code.wp P c Q a w1 := h ▸ k
theorem load_row64 (w : World) (g : Nat) (cs : Array Value) (hg : w.heap[g]? = some (.cells cs 64 (0, 0))) (hs : cs.size = 64) : (loadVar 64 ⟨g, 0, none⟩).run Try.prog w = .ok (.agg cs) w :=
  run_loadVar_row (P := Try.prog) w g _ _ cs (0, 0) _ hg Try.underlying64 rfl (by rw [hs]; exact size_sec)
theorem read_end {w : World} {b : Nat} {cs : Array Value} (hg : w.heap[b]? = some (.cells cs 64 (0, 0))) (hs : cs.size = 64) (tmps : Array Value) (ds) (c : Int) (h6 : tmps.getD 6 undef = ptr b) (h7 : tmps.getD 7 undef = .int .i64 c)
    (R : Ending → World → Prop) (hR : R (.returned (.tuple #[.agg cs, .int .i64 c])) w) (hd : ds = []) : bodyPost Try.prog Try.f28 R .ret { tmps := tmps, defers := ds } w := by
  refine bodyPost_ret (v := .tuple #[.agg cs, .int .i64 c]) ?_ hd hR
  rw [results_cell_tmp (p := 6) (u := 7) (ty := 64) rfl]
  rw [h6, h7]
  simp [asAddr, load_row64 w b cs hg hs, Result.andThen]
theorem at_store36 {P : Program} {ops : Array Oper} {rest : List Oper} {a : Act} {w : World} {Q : Exit → Act → World → Prop} {x y : Operand} {ty : TypeId} {ps : String} {af : Array Edge} {gd : Option (Nat × Bool)}
    (h : wpList P ops Q (⟨none, .store 64 x y, ty, ps, af, gd⟩ :: rest) a w) : wpList P ops Q (⟨none, .store 64 x y, ty, ps, af, gd⟩ :: rest) a w := h
theorem at_load36 {P : Program} {ops : Array Oper} {rest : List Oper} {a : Act} {w : World} {Q : Exit → Act → World → Prop} {x : Operand} {dst : Option Tmp} {ty : TypeId} {ps : String} {af : Array Edge} {gd : Option (Nat × Bool)}
    (h : wpList P ops Q (⟨dst, .load 64 x, ty, ps, af, gd⟩ :: rest) a w) : wpList P ops Q (⟨dst, .load 64 x, ty, ps, af, gd⟩ :: rest) a w := h
theorem wpList_load64 {ops : Array Oper} {rest : List Oper} {o : Oper} {a : Act} {w : World} {Q : Exit → Act → World → Prop} (hgd : o.guard = none) (x : Operand) (ho : o.op = .load 64 x)
    (g : Nat) (s : Sec) (hx : a.eval x = .pointer (some ⟨g, 0, none⟩)) (hg : w.heap[g]? = some (.cells (csF s) 64 (0, 0)))
    (h : wpList Try.prog ops Q rest (a.put o.dst (.agg (csF s))) w) : wpList Try.prog ops Q (o :: rest) a w :=
  wpList_load_row hgd 64 x ho g hx 64 (csF s) (0, 0) _ hg Try.underlying64 rfl (by rw [csF_size]; exact size_sec) h
theorem wpList_store64 {ops : Array Oper} {rest : List Oper} {o : Oper} {a : Act} {w : World} {Q : Exit → Act → World → Prop} (hgd : o.guard = none) (x y : Operand) (ho : o.op = .store 64 x y)
    (g : Nat) (s : Sec) (hx : a.eval x = .pointer (some ⟨g, 0, none⟩)) (hy : a.eval y = .agg (csF s)) (old : Array Value) (hg : w.heap[g]? = some (.cells old 64 (0, 0))) (hold : old.size = 64)
    (h : wpList Try.prog ops Q rest (a.put o.dst undef) (w.setRow g (csF s))) : wpList Try.prog ops Q (o :: rest) a w :=
  wpList_store_row hgd 64 x y ho g (csF s) hx hy 64 old hg (by rw [csF_size]; exact size_sec) (by rw [csF_size, hold]) (csF_one s) h
theorem load_part (w : World) (g : Nat) (x : Sec × Bool) (hg : w.heap[g]? = some (.cells (csL x) 88 (0, 0))) : (loadVar 64 ⟨g, 0, none⟩).run Try.prog w = .ok (.agg (csF x.1)) w := by
  have hl : (loadCells ⟨g, 0, none⟩ (csF x.1).toList.length).run Try.prog w = .ok (csF x.1).toList.toArray w :=
    run_loadCells_list (P := Try.prog) w ⟨g, 0, none⟩ (csF x.1).toList (fun j v hv => by
      have hadd : (⟨g, 0, none⟩ : Addr).add j = ⟨g, j, none⟩ := by unfold Addr.add; split <;> simp_all
      rw [hadd, cell_of_row w g j (csL x) 88 (0, 0) hg]
      have hj : j < (B8 x.1.1).length := by have := (List.getElem?_eq_some_iff.1 hv).1; simpa [csF] using this
      have hv' : (B8 x.1.1)[j]? = some v := by simpa [csF] using hv
      have : (csL x)[j]? = (B8 x.1.1)[j]? := by simp [csL, List.getElem?_append_left hj]
      rw [this, hv'])
  have hagg : (isAgg 64).run Try.prog w = .ok true w := by
    unfold isAgg
    rw [Sem.run_bind, run_underlying Try.underlying64 w]
    rfl
  have hs : (csF x.1).size = 64 := csF_size _
  have h64 : (sizeOf 64).run Try.prog w = .ok 64 w := by kernel_rfl
  simp only [Array.length_toList, Array.toArray_toList, hs] at hl
  simp [loadVar, Sem.run_bind, hagg, h64, hl, Result.andThen]
theorem cell64 (x : Sec × Bool) : (csL x)[64]? = some (.bool x.2) := by
  have : (B8 x.1.1).length = 64 := by rw [B8_length, x.1.2]
  simp [csL, List.getElem?_append_right, this]
theorem wpList_load_part {ops : Array Oper} {rest : List Oper} {o : Oper} {a : Act} {w : World} {Q : Exit → Act → World → Prop} (hgd : o.guard = none) (x : Operand) (ho : o.op = .load 64 x)
    (g : Nat) (hx : a.eval x = .pointer (some ⟨g, 0, none⟩)) (y : Sec × Bool) (hg : w.heap[g]? = some (.cells (csL y) 88 (0, 0)))
    (h : wpList Try.prog ops Q rest (a.put o.dst (.agg (csF y.1))) w) : wpList Try.prog ops Q (o :: rest) a w := by
  refine wpList_plain hgd fun K' hK' => ?_
  unfold Oper.wp execOp
  simp only [ho, hx, Instr.loadAt, Instr.sureAddr, Sem.run_bind, Sem.run_pure, Result.andThen_ok, load_part w g y hg]
  exact hK' _ _ h
/-- what Read answers -/
def pRead (S : Dv) (nm : Nm) (k : Int) : Sec × Int :=
  match fnd S.fs nm with
  | none => (zSec, 10)
  | some F => if k < 0 ∨ (F.l.length : Int) ≤ k then (zSec, 1) else
    match S.fr (nm, k.toNat) with
    | some s => (s, 0)
    | none => let y := (S.la (nm, k.toNat)).getD (zSec, false); if y.2 then (zSec, 7) else (y.1, 0)
set_option maxHeartbeats 4000000 in
theorem read_none (h : DevAt K w g S b1 b2 b3 sv) (nm : Nm) (hn : nm.length ≤ maxLen) (k : Int) (hf : fnd S.fs nm = none) :
    Calls Try.prog 28 #[ptr g, nmV nm, .int .i64 k] w fun e w' => e = .returned (.tuple #[.agg (csF zSec), .int .i64 10]) ∧ Below w.heap.size w w' := by
  obtain ⟨c0, c1, c2, c3, c4, c5⟩ := h.cell
  have hg := h.glt
  have hb1 := h.files.lt
  have e1 := ((h.raw.alloc (.cells (csF zSec) 64)).look_fl hn).1
  rw [hf] at e1
  simp only [Option.map_none, Option.getD_none, Option.isSome_none, Option.map_some, Option.getD_some, Option.isSome_some, flV] at e1
  unfold nmV at e1 ⊢
  clear h hf
  go_enter Try.func28, Try.ntmps28
  go_upto_region 1 with (fail)
  obtain ⟨W, hW⟩ : ∃ W, W = w.alloc (.cells (csF zSec) 64) := ⟨_, rfl⟩
  refine wp_world (w2 := W) (by rw [hW]; rfl) ?_
  have hz : W.heap.size = w.heap.size + 1 := by rw [hW]; simp
  have hB := Lib.hid (show Below w.heap.size w W by rw [hW]; exact (Below.refl _ w).alloc (Nat.le_refl _) _)
  have hrow := Lib.hid (show W.heap[w.heap.size]? = some (.cells (csF zSec) 64 (0, 0)) by rw [hW]; exact heap_alloc_new w _)
  have hc2 : W.cell? ⟨g, 2, none⟩ = some (.map (some b1)) := (hB.out.cell (p := ⟨g, 2, none⟩) hg).trans c2
  rw [← hW] at e1
  have HZ := Lib.hid hz
  have hg2 : g < W.heap.size := by omega
  have hlt : w.heap.size < W.heap.size := by omega
  clear hW hz c0 c1 c2 c3 c4 c5
  go_upto_region 3 with (fail)
  go_wp2_with (with_reducible refine at_store36 ?_; go_must (refine wpList_store64 rfl (.tmp 6) (.tmp 25) rfl w.heap.size zSec rfl rfl (csF zSec) ((Below.heap_alloc _ _ _ hlt).trans hrow.out) (csF_size _) ?_))
  refine read_end (b := w.heap.size) (cs := csF zSec) (c := 10) (setRow_heap _ _ _ _ _ _ ((Below.heap_alloc _ _ _ hlt).trans hrow.out)) (csF_size _) _ _ ?h6 ?h7 _ ?hR ?hd
  case h6 => rfl
  case h7 => rfl
  case hd => rfl
  exact ⟨rfl, below_setRow (hB.out.alloc (by omega) _) (Nat.le_refl _) _⟩
set_option maxHeartbeats 4000000 in
theorem read_out (h : DevAt K w g S b1 b2 b3 sv) (nm : Nm) (hn : nm.length ≤ maxLen) (k : Int) (F : Fil) (hf : fnd S.fs nm = some F) (hk : k < 0 ∨ (F.l.length : Int) ≤ k) :
    Calls Try.prog 28 #[ptr g, nmV nm, .int .i64 k] w fun e w' => e = .returned (.tuple #[.agg (csF zSec), .int .i64 1]) ∧ Below w.heap.size w w' := by
  obtain ⟨c0, c1, c2, c3, c4, c5⟩ := h.cell
  have hg := h.glt
  have hb1 := h.files.lt
  have e1 := ((h.raw.alloc (.cells (csF zSec) 64)).look_fl hn).1
  rw [hf] at e1
  simp only [Option.map_none, Option.getD_none, Option.isSome_none, Option.map_some, Option.getD_some, Option.isSome_some, flV] at e1
  obtain ⟨sa, sc, hsv, _, _⟩ := own_form (h.rows nm F hf).1
  rw [hsv] at e1
  obtain ⟨n, hnn⟩ : ∃ n, n = F.l.length := ⟨_, rfl⟩
  rw [← hnn] at e1 hk
  obtain ⟨sl, hsl⟩ : ∃ sl, sl = F.wr.length := ⟨_, rfl⟩
  rw [← hsl] at e1
  clear hnn hsv hsl
  unfold nmV at e1 ⊢
  clear h hf
  go_enter Try.func28, Try.ntmps28
  go_upto_region 1 with (fail)
  obtain ⟨W, hW⟩ : ∃ W, W = w.alloc (.cells (csF zSec) 64) := ⟨_, rfl⟩
  refine wp_world (w2 := W) (by rw [hW]; rfl) ?_
  have hz : W.heap.size = w.heap.size + 1 := by rw [hW]; simp
  have hB := Lib.hid (show Below w.heap.size w W by rw [hW]; exact (Below.refl _ w).alloc (Nat.le_refl _) _)
  have hrow := Lib.hid (show W.heap[w.heap.size]? = some (.cells (csF zSec) 64 (0, 0)) by rw [hW]; exact heap_alloc_new w _)
  have hc2 : W.cell? ⟨g, 2, none⟩ = some (.map (some b1)) := (hB.out.cell (p := ⟨g, 2, none⟩) hg).trans c2
  rw [← hW] at e1
  have HZ := Lib.hid hz
  have hg2 : g < W.heap.size := by omega
  have hlt : w.heap.size < W.heap.size := by omega
  clear hW hz c0 c1 c2 c3 c4 c5
  rcases (show k < 0 ∨ (¬ k < 0 ∧ (n : Int) ≤ k) by omega) with hk | ⟨hk, hk2⟩
  · go_upto_region 5 with (fail)
    go_wp2_with (with_reducible refine at_store36 ?_; go_must (refine wpList_store64 rfl (.tmp 6) (.tmp 34) rfl w.heap.size zSec rfl rfl (csF zSec) ((Below.heap_alloc _ _ _ hlt).trans hrow.out) (csF_size _) ?_))
    refine read_end (b := w.heap.size) (cs := csF zSec) (c := 1) (setRow_heap _ _ _ _ _ _ ((Below.heap_alloc _ _ _ hlt).trans hrow.out)) (csF_size _) _ _ ?h61 ?h71 _ ?hR1 ?hd1
    case h61 => rfl
    case h71 => rfl
    case hd1 => rfl
    all_goals exact ⟨rfl, below_setRow (hB.out.alloc (by omega) _) (Nat.le_refl _) _⟩
  · go_upto_region 5 with (fail)
    go_wp2_with (with_reducible refine at_store36 ?_; go_must (refine wpList_store64 rfl (.tmp 6) (.tmp 34) rfl w.heap.size zSec rfl rfl (csF zSec) ((Below.heap_alloc _ _ _ hlt).trans hrow.out) (csF_size _) ?_))
    refine read_end (b := w.heap.size) (cs := csF zSec) (c := 1) (setRow_heap _ _ _ _ _ _ ((Below.heap_alloc _ _ _ hlt).trans hrow.out)) (csF_size _) _ _ ?h62 ?h72 _ ?hR2 ?hd2
    case h62 => rfl
    case h72 => rfl
    case hd2 => rfl
    all_goals exact ⟨rfl, below_setRow (hB.out.alloc (by omega) _) (Nat.le_refl _) _⟩
set_option maxHeartbeats 4000000 in
theorem read_fr (h : DevAt K w g S b1 b2 b3 sv) (nm : Nm) (hn : nm.length ≤ maxLen) (h20 : nm.length ≤ 20) (j : Nat) (F : Fil) (hf : fnd S.fs nm = some F) (hk : j < F.l.length) (hm : F.l.length ≤ 100000) (s : Sec) (hfr : S.fr (nm, j) = some s) :
    Calls Try.prog 28 #[ptr g, nmV nm, .int .i64 (j : Int)] w fun e w' => e = .returned (.tuple #[.agg (csF s), .int .i64 0]) ∧ Below w.heap.size w w' := by
  obtain ⟨c0, c1, c2, c3, c4, c5⟩ := h.cell
  have hg := h.glt
  have hb1 := h.files.lt
  have e1 := ((h.raw.alloc (.cells (csF zSec) 64)).look_fl hn).1
  rw [hf] at e1
  simp only [Option.map_none, Option.getD_none, Option.isSome_none, Option.map_some, Option.getD_some, Option.isSome_some, flV] at e1
  obtain ⟨sa, sc, hsv, _, _⟩ := own_form (h.rows nm F hf).1
  rw [hsv] at e1
  obtain ⟨n, hnn⟩ : ∃ n, n = F.l.length := ⟨_, rfl⟩
  rw [← hnn] at e1 hk
  obtain ⟨sl, hsl⟩ : ∃ sl, sl = F.wr.length := ⟨_, rfl⟩
  rw [← hsl] at e1
  have hx : plOk (nm, j) := ⟨h20, by show j ≤ 1000000; omega⟩
  have hk0 : ¬ (j : Int) < 0 := by omega
  have hk1 : ¬ ((n : Int) ≤ (j : Int)) := by omega
  have HD := Lib.hid h
  clear hnn hsv hsl
  unfold nmV at e1 ⊢
  clear h hf hk hn hm h20
  have HX := Lib.hid hx
  have HF := Lib.hid hfr
  clear hx hfr
  go_enter Try.func28, Try.ntmps28
  go_upto_region 1 with (fail)
  obtain ⟨W, hW⟩ : ∃ W, W = w.alloc (.cells (csF zSec) 64) := ⟨_, rfl⟩
  refine wp_world (w2 := W) (by rw [hW]; rfl) ?_
  have hz : W.heap.size = w.heap.size + 1 := by rw [hW]; simp
  have hB := Lib.hid (show Below w.heap.size w W by rw [hW]; exact (Below.refl _ w).alloc (Nat.le_refl _) _)
  have hrow := Lib.hid (show W.heap[w.heap.size]? = some (.cells (csF zSec) 64 (0, 0)) by rw [hW]; exact heap_alloc_new w _)
  have hc2 : W.cell? ⟨g, 2, none⟩ = some (.map (some b1)) := (hB.out.cell (p := ⟨g, 2, none⟩) hg).trans c2
  rw [← hW] at e1
  have HZ := Lib.hid hz
  have hg2 : g < W.heap.size := by omega
  have hlt : w.heap.size < W.heap.size := by omega
  clear hW hz c0 c1 c2 c3 c4 c5
  go_upto_region 7 with (fail)
  obtain ⟨A1, hA1⟩ : ∃ A1 : Obj, A1 = .cells #[.int .i64 (n : Int), .slice sa sl sc] 91 := ⟨_, rfl⟩
  obtain ⟨A2, hA2⟩ : ∃ A2 : Obj, A2 = .cells #[.string ⟨nm.toArray⟩, .int .i64 (j : Int)] 86 := ⟨_, rfl⟩
  obtain ⟨W2, hW2⟩ : ∃ W2, W2 = (W.alloc A1).alloc A2 := ⟨_, rfl⟩
  refine wp_world (w2 := W2) (by rw [hW2, hA1, hA2]) ?_
  have hz2 : W2.heap.size = W.heap.size + 2 := by rw [hW2]; simp
  have hB2 := Lib.hid (show Below w.heap.size w W2 by rw [hW2]; exact (hB.out.alloc (by omega) _).alloc (by simp; omega) _)
  have hrow2 := Lib.hid (show W2.heap[w.heap.size]? = some (.cells (csF zSec) 64 (0, 0)) by rw [hW2]; exact (Below.heap_alloc _ _ _ (by simp; omega)).trans ((Below.heap_alloc _ _ _ hlt).trans hrow.out))
  have hbx := box_cells (W.alloc A1) (.string ⟨nm.toArray⟩) (.int .i64 (j : Int)) 86
  rw [← hA2, ← hW2, show (W.alloc A1).heap.size = W.heap.size + 1 by simp] at hbx
  obtain ⟨bx1, bx2⟩ := hbx
  have D2 := (HD.out.raw).below hB2.out
  obtain ⟨x0, x1, x2, x3, x4, x5⟩ := D2.cell
  have f1 := (D2.drew.look_fr HX.out).1
  have f2 := ((D2.alloc (.cells #[.int .u8 0, .int .u8 0, .int .u8 0, .int .u8 0, .int .u8 0, .int .u8 0, .int .u8 0, .int .u8 0, .int .u8 0, .int .u8 0, .int .u8 0, .int .u8 0, .int .u8 0, .int .u8 0, .int .u8 0, .int .u8 0, .int .u8 0, .int .u8 0, .int .u8 0, .int .u8 0, .int .u8 0, .int .u8 0, .int .u8 0, .int .u8 0, .int .u8 0, .int .u8 0, .int .u8 0, .int .u8 0, .int .u8 0, .int .u8 0, .int .u8 0, .int .u8 0, .int .u8 0, .int .u8 0, .int .u8 0, .int .u8 0, .int .u8 0, .int .u8 0, .int .u8 0, .int .u8 0, .int .u8 0, .int .u8 0, .int .u8 0, .int .u8 0, .int .u8 0, .int .u8 0, .int .u8 0, .int .u8 0, .int .u8 0, .int .u8 0, .int .u8 0, .int .u8 0, .int .u8 0, .int .u8 0, .int .u8 0, .int .u8 0, .int .u8 0, .int .u8 0, .int .u8 0, .int .u8 0, .int .u8 0, .int .u8 0, .int .u8 0, .int .u8 0] 64)).drew.look_fr HX.out).1
  rw [getD_frV, Option.isSome_map, HF.out] at f1 f2
  unfold plV at f1 f2
  have hg3 : g < W2.heap.size := by omega
  have hlt2 : w.heap.size < W2.heap.size := by omega
  have HZ2 := Lib.hid hz2
  have lt3 : W.heap.size + 1 < W2.heap.size := by omega
  clear hW2 hA1 hA2 D2 hz2 e1 hc2
  simp only [Option.getD_some, Option.isSome_some] at f1 f2
  have g1 := sc_new W2 64 #[.int .u8 0, .int .u8 0, .int .u8 0, .int .u8 0, .int .u8 0, .int .u8 0, .int .u8 0, .int .u8 0, .int .u8 0, .int .u8 0, .int .u8 0, .int .u8 0, .int .u8 0, .int .u8 0, .int .u8 0, .int .u8 0, .int .u8 0, .int .u8 0, .int .u8 0, .int .u8 0, .int .u8 0, .int .u8 0, .int .u8 0, .int .u8 0, .int .u8 0, .int .u8 0, .int .u8 0, .int .u8 0, .int .u8 0, .int .u8 0, .int .u8 0, .int .u8 0, .int .u8 0, .int .u8 0, .int .u8 0, .int .u8 0, .int .u8 0, .int .u8 0, .int .u8 0, .int .u8 0, .int .u8 0, .int .u8 0, .int .u8 0, .int .u8 0, .int .u8 0, .int .u8 0, .int .u8 0, .int .u8 0, .int .u8 0, .int .u8 0, .int .u8 0, .int .u8 0, .int .u8 0, .int .u8 0, .int .u8 0, .int .u8 0, .int .u8 0, .int .u8 0, .int .u8 0, .int .u8 0, .int .u8 0, .int .u8 0, .int .u8 0, .int .u8 0] (csF s) (by rw [csF_size]; rfl) (csF_one _)
  have g2 := csF_size s
  go_region
  all_goals
    go_upto_region 8 with (fail)
    obtain ⟨W3, hW3⟩ : ∃ W3, W3 = (W2.alloc (.cells (csF s) 64)).drew := ⟨_, rfl⟩
    refine wp_world (w2 := W3) (by rw [hW3]) ?_
    have hB3 := Lib.hid (show Below w.heap.size w W3 by rw [hW3]; exact (hB2.out.alloc (by omega) _).drew)
    have hrow3 := Lib.hid (show W3.heap[w.heap.size]? = some (.cells (csF zSec) 64 (0, 0)) by rw [hW3]; exact (Below.heap_alloc W2 _ _ hlt2).trans hrow2.out)
    have hnew3 := Lib.hid (show W3.heap[W2.heap.size]? = some (.cells (csF s) 64 (0, 0)) by rw [hW3]; exact heap_alloc_new W2 _)
    clear hW3 g1 g2 f1 f2
    go_wp2_with (first
      | (with_reducible refine at_store36 ?_; go_must (refine wpList_store64 rfl (.tmp 6) (.tmp 48) rfl w.heap.size s rfl rfl (csF zSec) hrow3.out (csF_size _) ?_))
      | (with_reducible refine at_load36 ?_; go_must (refine wpList_load64 rfl (.tmp 11) rfl W2.heap.size s rfl hnew3.out ?_)))
    refine read_end (b := w.heap.size) (cs := csF s) (c := 0) (setRow_heap _ _ _ _ _ _ hrow3.out) (csF_size _) _ _ ?h61 ?h71 _ ?hR1 ?hd1
    case h61 => rfl
    case h71 => rfl
    case hd1 => rfl
    exact ⟨rfl, below_setRow hB3.out (Nat.le_refl _) _⟩
theorem cell_sec {w : World} {b : Nat} {y : Sec × Bool} (h : w.heap[b]? = some (.cells (csL y) 88 (0, 0))) : w.cell? ⟨b, 64, none⟩ = some (.bool y.2) := (cell_of_row w b 64 _ _ _ h).trans (cell64 y)
set_option maxHeartbeats 4000000 in
theorem read_la (h : DevAt K w g S b1 b2 b3 sv) (nm : Nm) (hn : nm.length ≤ maxLen) (h20 : nm.length ≤ 20) (j : Nat) (F : Fil) (hf : fnd S.fs nm = some F) (hk : j < F.l.length) (hm : F.l.length ≤ 100000) (hfr : S.fr (nm, j) = none) (y : Sec × Bool) (hy : y = (S.la (nm, j)).getD (zSec, false)) (s : Sec) (c : Int) (hsc : s = (if y.2 then zSec else y.1) ∧ c = if y.2 then 7 else 0) :
    Calls Try.prog 28 #[ptr g, nmV nm, .int .i64 (j : Int)] w fun e w' => e = .returned (.tuple #[.agg (csF s), .int .i64 c]) ∧ Below w.heap.size w w' := by
  obtain ⟨c0, c1, c2, c3, c4, c5⟩ := h.cell
  have hg := h.glt
  have hb1 := h.files.lt
  have e1 := ((h.raw.alloc (.cells (csF zSec) 64)).look_fl hn).1
  rw [hf] at e1
  simp only [Option.map_none, Option.getD_none, Option.isSome_none, Option.map_some, Option.getD_some, Option.isSome_some, flV] at e1
  obtain ⟨sa, sc, hsv, _, _⟩ := own_form (h.rows nm F hf).1
  rw [hsv] at e1
  obtain ⟨n, hnn⟩ : ∃ n, n = F.l.length := ⟨_, rfl⟩
  rw [← hnn] at e1 hk
  obtain ⟨sl, hsl⟩ : ∃ sl, sl = F.wr.length := ⟨_, rfl⟩
  rw [← hsl] at e1
  have hx : plOk (nm, j) := ⟨h20, by show j ≤ 1000000; omega⟩
  have hk0 : ¬ (j : Int) < 0 := by omega
  have hk1 : ¬ ((n : Int) ≤ (j : Int)) := by omega
  have HD := Lib.hid h
  clear hnn hsv hsl
  unfold nmV at e1 ⊢
  clear h hf hk hn hm h20
  have HX := Lib.hid hx
  have HF := Lib.hid hfr
  have HY := Lib.hid hy
  have HSC := Lib.hid hsc
  clear hy hsc
  clear hx hfr
  go_enter Try.func28, Try.ntmps28
  go_upto_region 1 with (fail)
  obtain ⟨W, hW⟩ : ∃ W, W = w.alloc (.cells (csF zSec) 64) := ⟨_, rfl⟩
  refine wp_world (w2 := W) (by rw [hW]; rfl) ?_
  have hz : W.heap.size = w.heap.size + 1 := by rw [hW]; simp
  have hB := Lib.hid (show Below w.heap.size w W by rw [hW]; exact (Below.refl _ w).alloc (Nat.le_refl _) _)
  have hrow := Lib.hid (show W.heap[w.heap.size]? = some (.cells (csF zSec) 64 (0, 0)) by rw [hW]; exact heap_alloc_new w _)
  have hc2 : W.cell? ⟨g, 2, none⟩ = some (.map (some b1)) := (hB.out.cell (p := ⟨g, 2, none⟩) hg).trans c2
  rw [← hW] at e1
  have HZ := Lib.hid hz
  have hg2 : g < W.heap.size := by omega
  have hlt : w.heap.size < W.heap.size := by omega
  clear hW hz c0 c1 c2 c3 c4 c5
  go_upto_region 7 with (fail)
  obtain ⟨A1, hA1⟩ : ∃ A1 : Obj, A1 = .cells #[.int .i64 (n : Int), .slice sa sl sc] 91 := ⟨_, rfl⟩
  obtain ⟨A2, hA2⟩ : ∃ A2 : Obj, A2 = .cells #[.string ⟨nm.toArray⟩, .int .i64 (j : Int)] 86 := ⟨_, rfl⟩
  obtain ⟨W2, hW2⟩ : ∃ W2, W2 = (W.alloc A1).alloc A2 := ⟨_, rfl⟩
  refine wp_world (w2 := W2) (by rw [hW2, hA1, hA2]) ?_
  have hz2 : W2.heap.size = W.heap.size + 2 := by rw [hW2]; simp
  have hB2 := Lib.hid (show Below w.heap.size w W2 by rw [hW2]; exact (hB.out.alloc (by omega) _).alloc (by simp; omega) _)
  have hrow2 := Lib.hid (show W2.heap[w.heap.size]? = some (.cells (csF zSec) 64 (0, 0)) by rw [hW2]; exact (Below.heap_alloc _ _ _ (by simp; omega)).trans ((Below.heap_alloc _ _ _ hlt).trans hrow.out))
  have hbx := box_cells (W.alloc A1) (.string ⟨nm.toArray⟩) (.int .i64 (j : Int)) 86
  rw [← hA2, ← hW2, show (W.alloc A1).heap.size = W.heap.size + 1 by simp] at hbx
  obtain ⟨bx1, bx2⟩ := hbx
  have D2 := (HD.out.raw).below hB2.out
  obtain ⟨x0, x1, x2, x3, x4, x5⟩ := D2.cell
  have f1 := (D2.drew.look_fr HX.out).1
  have f2 := ((D2.alloc (.cells #[.int .u8 0, .int .u8 0, .int .u8 0, .int .u8 0, .int .u8 0, .int .u8 0, .int .u8 0, .int .u8 0, .int .u8 0, .int .u8 0, .int .u8 0, .int .u8 0, .int .u8 0, .int .u8 0, .int .u8 0, .int .u8 0, .int .u8 0, .int .u8 0, .int .u8 0, .int .u8 0, .int .u8 0, .int .u8 0, .int .u8 0, .int .u8 0, .int .u8 0, .int .u8 0, .int .u8 0, .int .u8 0, .int .u8 0, .int .u8 0, .int .u8 0, .int .u8 0, .int .u8 0, .int .u8 0, .int .u8 0, .int .u8 0, .int .u8 0, .int .u8 0, .int .u8 0, .int .u8 0, .int .u8 0, .int .u8 0, .int .u8 0, .int .u8 0, .int .u8 0, .int .u8 0, .int .u8 0, .int .u8 0, .int .u8 0, .int .u8 0, .int .u8 0, .int .u8 0, .int .u8 0, .int .u8 0, .int .u8 0, .int .u8 0, .int .u8 0, .int .u8 0, .int .u8 0, .int .u8 0, .int .u8 0, .int .u8 0, .int .u8 0, .int .u8 0] 64)).drew.look_fr HX.out).1
  rw [getD_frV, Option.isSome_map, HF.out] at f1 f2
  unfold plV at f1 f2
  have hg3 : g < W2.heap.size := by omega
  have hlt2 : w.heap.size < W2.heap.size := by omega
  have HZ2 := Lib.hid hz2
  have lt3 : W.heap.size + 1 < W2.heap.size := by omega
  clear hW2 hA1 hA2 D2 hz2 e1 hc2
  simp only [Option.getD_none, Option.isSome_none] at f1 f2
  have g1 := sc_new W2 64 #[.int .u8 0, .int .u8 0, .int .u8 0, .int .u8 0, .int .u8 0, .int .u8 0, .int .u8 0, .int .u8 0, .int .u8 0, .int .u8 0, .int .u8 0, .int .u8 0, .int .u8 0, .int .u8 0, .int .u8 0, .int .u8 0, .int .u8 0, .int .u8 0, .int .u8 0, .int .u8 0, .int .u8 0, .int .u8 0, .int .u8 0, .int .u8 0, .int .u8 0, .int .u8 0, .int .u8 0, .int .u8 0, .int .u8 0, .int .u8 0, .int .u8 0, .int .u8 0, .int .u8 0, .int .u8 0, .int .u8 0, .int .u8 0, .int .u8 0, .int .u8 0, .int .u8 0, .int .u8 0, .int .u8 0, .int .u8 0, .int .u8 0, .int .u8 0, .int .u8 0, .int .u8 0, .int .u8 0, .int .u8 0, .int .u8 0, .int .u8 0, .int .u8 0, .int .u8 0, .int .u8 0, .int .u8 0, .int .u8 0, .int .u8 0, .int .u8 0, .int .u8 0, .int .u8 0, .int .u8 0, .int .u8 0, .int .u8 0, .int .u8 0, .int .u8 0] (csF zSec) (by rw [csF_size]; rfl) (csF_one _)
  have g2 := csF_size zSec
  go_region
  all_goals
    go_upto_region 8 with (fail)
    obtain ⟨W3, hW3⟩ : ∃ W3, W3 = (W2.alloc (.cells (csF zSec) 64)).drew := ⟨_, rfl⟩
    refine wp_world (w2 := W3) (by rw [hW3]) ?_
    have hB3 := Lib.hid (show Below w.heap.size w W3 by rw [hW3]; exact (hB2.out.alloc (by omega) _).drew)
    have hB23 : Below W2.heap.size W2 W3 := by rw [hW3]; exact ((Below.refl _ W2).alloc (Nat.le_refl _) _).drew
    have hrow3 := Lib.hid (show W3.heap[w.heap.size]? = some (.cells (csF zSec) 64 (0, 0)) by rw [hW3]; exact (Below.heap_alloc W2 _ _ hlt2).trans hrow2.out)
    have hz3 : W3.heap.size = W2.heap.size + 1 := by rw [hW3]; simp
    clear hW3 g1 g2 f1 f2
    have bx1' := (hB23.cell (p := ⟨W.heap.size + 1, 0, none⟩) lt3).trans bx1
    have bx2' := (hB23.cell (p := ⟨W.heap.size + 1, 1, none⟩) lt3).trans bx2
    have D3 := (HD.out.raw).below hB3.out
    obtain ⟨y0, y1, y2, y3, y4, y5⟩ := D3.cell
    have f1 := (D3.drew.look_la HX.out).2
    have f2 := ((D3.alloc (.cells Try.zeroCells88 88)).drew.look_la HX.out).2
    rw [getD_laV, ← HY.out] at f1 f2
    unfold plV at f1 f2
    have g1 := sc_new W3 88 Try.zeroCells88 (csL y) (by rw [csL_size, z79_size]) (csL_one _)
    have g2 := csL_size y
    have hg4 : g < W3.heap.size := by omega
    have hlt4 : w.heap.size < W3.heap.size := by omega
    have lt5 : W.heap.size + 1 < W3.heap.size := by omega
    have HZ3 := Lib.hid hz3
    clear hz3 hB23 D3 bx1 bx2 x0 x1 x2 x3 x4 x5
    go_upto_region 10 with (fail)
    go_region
    all_goals
      go_upto_region 11 with (fail)
      obtain ⟨W4, hW4⟩ : ∃ W4, W4 = (W3.alloc (.cells (csL y) 88)).drew := ⟨_, rfl⟩
      refine wp_world (w2 := W4) (by rw [hW4]) ?_
      have hB4 := Lib.hid (show Below w.heap.size w W4 by rw [hW4]; exact (hB3.out.alloc (by omega) _).drew)
      have hrow4 := Lib.hid (show W4.heap[w.heap.size]? = some (.cells (csF zSec) 64 (0, 0)) by rw [hW4]; exact (Below.heap_alloc W3 _ _ hlt4).trans hrow3.out)
      have hnew4 := Lib.hid (show W4.heap[W3.heap.size]? = some (.cells (csL y) 88 (0, 0)) by rw [hW4]; exact heap_alloc_new W3 _)
      clear hW4 g1 g2 f1 f2 bx1' bx2' y0 y1 y2 y3 y4 y5
      have hcell := cell_sec hnew4.out
      rcases Bool.eq_false_or_eq_true y.2 with hb | hb
      · rw [hb] at hcell
        have h9 := HSC.out
        rw [hb] at h9
        simp only [if_true] at h9
        obtain ⟨rfl, rfl⟩ := h9
        clear hb
        go_wp2_with (with_reducible refine at_store36 ?_; go_must (refine wpList_store64 rfl (.tmp 6) (.tmp 57) rfl w.heap.size zSec rfl rfl (csF zSec) hrow4.out (csF_size _) ?_))
        refine read_end (b := w.heap.size) (cs := csF zSec) (c := 7) (setRow_heap _ _ _ _ _ _ hrow4.out) (csF_size _) _ _ ?h62 ?h72 _ ?hR2 ?hd2
        case h62 => rfl
        case h72 => rfl
        case hd2 => rfl
        exact ⟨rfl, below_setRow hB4.out (Nat.le_refl _) _⟩
      · rw [hb] at hcell
        have h9 := HSC.out
        rw [hb] at h9
        simp only [Bool.false_eq_true, if_false] at h9
        obtain ⟨rfl, rfl⟩ := h9
        clear hb
        go_wp2_with (first
          | (with_reducible refine at_store36 ?_; go_must (refine wpList_store64 rfl (.tmp 6) (.tmp 59) rfl w.heap.size y.1 rfl rfl (csF zSec) hrow4.out (csF_size _) ?_))
          | (with_reducible refine at_load36 ?_; go_must (refine wpList_load_part rfl (.tmp 58) rfl W3.heap.size rfl y hnew4.out ?_)))
        refine read_end (b := w.heap.size) (cs := csF y.1) (c := 0) (setRow_heap _ _ _ _ _ _ hrow4.out) (csF_size _) _ _ ?h63 ?h73 _ ?hR3 ?hd3
        case h63 => rfl
        case h73 => rfl
        case hd3 => rfl
        exact ⟨rfl, below_setRow hB4.out (Nat.le_refl _) _⟩
end
end Go.Proofs.Ytcmffifehpbjnaa
