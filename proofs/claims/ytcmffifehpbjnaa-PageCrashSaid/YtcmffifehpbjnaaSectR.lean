/- Layer 7: a device's memory while a call turns it. -/
import Derived.Test.YtcmffifehpbjnaaSectC
namespace Go.Proofs.Ytcmffifehpbjnaa
open Go.RowKit Go.Maps
set_option maxRecDepth 100000
set_option linter.unusedSimpArgs false
set_option linter.unusedVariables false
theorem fill_zip : ∀ (vs : List Value) (n : Nat) (z : Array Value), n + vs.length ≤ z.size →
    (vs.zipIdx n).foldl (fun cs x => cs.setIfInBounds x.2 x.1) z = (z.toList.take n ++ vs ++ z.toList.drop (n + vs.length)).toArray
  | [], n, z, h => by simp
  | v :: r, n, z, h => by
    simp only [List.zipIdx_cons, List.foldl_cons]
    rw [fill_zip r (n + 1) (z.setIfInBounds n v) (by simp at h ⊢; omega)]
    simp only [List.length_cons] at h
    have hn : n < z.toList.length := by simp; omega
    have e1 : (z.setIfInBounds n v).toList.take (n + 1) = z.toList.take n ++ [v] := by
      rw [Array.toList_setIfInBounds, List.take_set, List.take_succ_eq_append_getElem hn, List.set_append_right _ _ (by simp; omega)]
      simp [show min n z.size = n by omega]
    have e2 : (z.setIfInBounds n v).toList.drop (n + 1 + r.length) = z.toList.drop (n + (r.length + 1)) := by
      rw [Array.toList_setIfInBounds, List.drop_set, if_pos (by omega), show n + 1 + r.length = n + (r.length + 1) by omega]
    rw [e1, e2]
    simp
theorem zero79 : Try.zeroCells88.toList.drop 64 = [Value.bool false] := by kernel_rfl
theorem sector_fold (s : Sec) : Array.foldl (fun cs x => cs.setIfInBounds x.snd x.fst) Try.zeroCells88 (csF s).zipIdx 0 64 = csL (s, false) := by
  have h := fill_zip (csF s).toList 0 Try.zeroCells88 (by have := csF_size s; have := z79_size; simp; omega)
  have e1 : (csF s).toList.length = 64 := by have := csF_size s; simpa using this
  rw [e1] at h
  have e2 : Array.foldl (fun cs x => cs.setIfInBounds x.snd x.fst) Try.zeroCells88 (csF s).zipIdx 0 64 = ((csF s).zipIdx).toList.foldl (fun cs x => cs.setIfInBounds x.2 x.1) Try.zeroCells88 := by
    rw [Array.foldl_toList]
    congr 1
    simp [csF_size]
  rw [e2]
  have e3 : ((csF s).zipIdx).toList = (csF s).toList.zipIdx 0 := by simp
  rw [e3, h, zero79]
  simp [csL, csF]
theorem sector_bad (w : World) : (Instr.build 88 #[(1, .bool true)]).run Try.prog w = .ok (.agg (csL (zSec, true))) w := by kernel_rfl

/-- what a device's blocks hold, map by map -/
structure Raw (K : Nat → Prop) (w : World) (g : Nat) (mo us le : Int) (b1 b2 b3 : Nat) (ff : Nm → Option Value) (lf rf : Nm × Nat → Option Value) : Prop where
  cells : w.heap[g]? = some (.cells #[.int .i64 mo, .int .i64 us, .map (some b1), .map (some b2), .map (some b3), .int .i64 le] 75 (0, 0))
  files : MapF Try.prog 9 nmOk nmL w b1 ff
  lasts : MapF Try.prog 86 plOk plL w b2 lf
  fresh : MapF Try.prog 86 plOk plL w b3 rf
  own : K g ∧ K b1 ∧ K b2 ∧ K b3
  apart : b1 ≠ b2 ∧ b1 ≠ b3 ∧ b2 ≠ b3
section
variable {K : Nat → Prop} {w w' : World} {g : Nat} {S : Dv} {b1 b2 b3 : Nat} {sv : Nm → Value} {mo us le : Int} {ff : Nm → Option Value} {lf rf : Nm × Nat → Option Value}
theorem DevAt.raw (h : DevAt K w g S b1 b2 b3 sv) : Raw K w g S.most S.used S.left b1 b2 b3 (fun nm => (fnd S.fs nm).map fun F => flV F.l.length (sv nm)) (fun x => (S.la x).map laV) (fun x => (S.fr x).map frV) :=
  ⟨h.cells, h.files, h.lasts, h.fresh, h.own, h.apart⟩
theorem map_cells_ne {b : Nat} (hb : ∃ es clock, w.heap[b]? = some (.map es clock)) {cs : Array Value} {t : TypeId} {fr : Nat × Nat} (hg : w.heap[g]? = some (.cells cs t fr)) : g ≠ b := by
  rintro rfl
  obtain ⟨es, clock, hb⟩ := hb
  rw [hb] at hg
  cases hg
theorem MapF.is {P : Program} {kt : TypeId} {κ : Type} {ok : κ → Prop} {kl : κ → Lit} {b : Nat} {f : κ → Option Value} (h : MapF P kt ok kl w b f) : ∃ es clock, w.heap[b]? = some (.map es clock) := by
  obtain ⟨D, ⟨es, clock, h1, _⟩, _⟩ := h; exact ⟨es, clock, h1⟩
theorem Raw.ne (h : Raw K w g mo us le b1 b2 b3 ff lf rf) : g ≠ b1 ∧ g ≠ b2 ∧ g ≠ b3 :=
  ⟨map_cells_ne h.files.is h.cells, map_cells_ne h.lasts.is h.cells, map_cells_ne h.fresh.is h.cells⟩
theorem Raw.glt (h : Raw K w g mo us le b1 b2 b3 ff lf rf) : g < w.heap.size := (Array.getElem?_eq_some_iff.1 h.cells).1
theorem Raw.keep (h : Raw K w g mo us le b1 b2 b3 ff lf rf) (hb : ∀ i, i = g ∨ i = b1 ∨ i = b2 ∨ i = b3 → w'.heap[i]? = w.heap[i]?) : Raw K w' g mo us le b1 b2 b3 ff lf rf :=
  ⟨(hb g (by simp)).trans h.cells, h.files.block (hb b1 (by simp)), h.lasts.block (hb b2 (by simp)), h.fresh.block (hb b3 (by simp)), h.own, h.apart⟩
theorem Raw.below (h : Raw K w g mo us le b1 b2 b3 ff lf rf) (hb : Below w.heap.size w w') : Raw K w' g mo us le b1 b2 b3 ff lf rf :=
  h.keep fun i hi => hb.block i (by
    rcases hi with rfl | rfl | rfl | rfl
    · exact h.glt
    · exact h.files.lt
    · exact h.lasts.lt
    · exact h.fresh.lt)
theorem Raw.drew (h : Raw K w g mo us le b1 b2 b3 ff lf rf) : Raw K w.drew g mo us le b1 b2 b3 ff lf rf := h.keep fun _ _ => rfl
theorem Raw.alloc (h : Raw K w g mo us le b1 b2 b3 ff lf rf) (o : Obj) : Raw K (w.alloc o) g mo us le b1 b2 b3 ff lf rf := h.below ((Below.refl _ w).alloc (Nat.le_refl _) o)
theorem Raw.cell (h : Raw K w g mo us le b1 b2 b3 ff lf rf) : w.cell? ⟨g, 0, none⟩ = some (.int .i64 mo) ∧ w.cell? ⟨g, 1, none⟩ = some (.int .i64 us) ∧ w.cell? ⟨g, 2, none⟩ = some (.map (some b1)) ∧
    w.cell? ⟨g, 3, none⟩ = some (.map (some b2)) ∧ w.cell? ⟨g, 4, none⟩ = some (.map (some b3)) ∧ w.cell? ⟨g, 5, none⟩ = some (.int .i64 le) := by
  have h1 := h.cells
  refine ⟨?_, ?_, ?_, ?_, ?_, ?_⟩ <;> simp [World.cell?, h1]
theorem Raw.frozen (h : Raw K w g mo us le b1 b2 b3 ff lf rf) (i : Nat) : w.frozen? ⟨g, i, none⟩ = false := by
  have h1 := h.cells
  simp [World.frozen?, h1]
theorem Raw.set (h : Raw K w g mo us le b1 b2 b3 ff lf rf) (u : Int) : Raw K (w.setCell ⟨g, 1, none⟩ (.int .i64 u)) g mo u le b1 b2 b3 ff lf rf := by
  obtain ⟨m1, m2, m3⟩ := h.ne
  have hb : ∀ i, i ≠ g → (w.setCell ⟨g, 1, none⟩ (.int .i64 u)).heap[i]? = w.heap[i]? := fun i hi => Below.heap_setCell w _ _ i hi
  exact ⟨by rw [setCell_heap _ h.cells]; rfl, h.files.block (hb _ (Ne.symm m1)), h.lasts.block (hb _ (Ne.symm m2)), h.fresh.block (hb _ (Ne.symm m3)), h.own, h.apart⟩
theorem turned_block {b i : Nat} (h : w.mapTurned w' b) (hi : i ≠ b) (hlt : i < w.heap.size) : w'.heap[i]? = w.heap[i]? := h.grown.block i hlt (fun e => hi (by injection e))
theorem room_of {P : Program} {kt : TypeId} {κ : Type} {kv : κ → Value} {ok : κ → Prop} {kl : κ → Lit} {b : Nat} {f : κ → Option Value} (KK : KeyKind P kt kv ok kl) (L : List κ) (hL : ∀ x, (f x).isSome = true → x ∈ L) (hl : L.length < maxLen) :
    ∀ D : DataW Value, w.ownsMap P kt rid b (Maps.size D) D → (∀ l, Maps.has D l = true → ∃ x, ok x ∧ l = kl x ∧ (f x).isSome = true) → Maps.size D < maxLen := by
  intro D hD hk
  refine Nat.lt_of_le_of_lt (size_bound KK hD L (fun l h => ?_)) hl
  obtain ⟨x, _, e, hs⟩ := hk l h
  exact ⟨x, hL x hs, e⟩
theorem Raw.put_la (h : Raw K w g mo us le b1 b2 b3 ff lf rf) {x : Nm × Nat} (hx : plOk x) (v : Value) (L : List (Nm × Nat)) (hL : ∀ x, (lf x).isSome = true → x ∈ L) (hl : L.length < maxLen) :
    ∃ w', (Instr.mapUpdate 72 (.map (some b2)) (plV x) v).run Try.prog w = .ok () w' ∧ Raw K w' g mo us le b1 b2 b3 ff (upd lf x (some v)) rf ∧ w.mapTurned w' b2 := by
  obtain ⟨w1, r1, r2, r3⟩ := h.lasts.put pl_kind Try.underlying72 hx v (room_of pl_kind L hL hl)
  exact ⟨w1, r1, ⟨(turned_block r3 h.ne.2.1 h.glt).trans h.cells, h.files.block (turned_block r3 h.apart.1 h.files.lt), r2, h.fresh.block (turned_block r3 (Ne.symm h.apart.2.2) h.fresh.lt), h.own, h.apart⟩, r3⟩
theorem Raw.put_fr (h : Raw K w g mo us le b1 b2 b3 ff lf rf) {x : Nm × Nat} (hx : plOk x) (v : Value) (L : List (Nm × Nat)) (hL : ∀ x, (rf x).isSome = true → x ∈ L) (hl : L.length < maxLen) :
    ∃ w', (Instr.mapUpdate 73 (.map (some b3)) (plV x) v).run Try.prog w = .ok () w' ∧ Raw K w' g mo us le b1 b2 b3 ff lf (upd rf x (some v)) ∧ w.mapTurned w' b3 := by
  obtain ⟨w1, r1, r2, r3⟩ := h.fresh.put pl_kind Try.underlying73 hx v (room_of pl_kind L hL hl)
  exact ⟨w1, r1, ⟨(turned_block r3 h.ne.2.2 h.glt).trans h.cells, h.files.block (turned_block r3 h.apart.2.1 h.files.lt), h.lasts.block (turned_block r3 h.apart.2.2 h.lasts.lt), r2, h.own, h.apart⟩, r3⟩
theorem Raw.put_fl (h : Raw K w g mo us le b1 b2 b3 ff lf rf) {x : Nm} (hx : nmOk x) (v : Value) (L : List Nm) (hL : ∀ x, (ff x).isSome = true → x ∈ L) (hl : L.length < maxLen) :
    ∃ w', (Instr.mapUpdate 71 (.map (some b1)) (nmV x) v).run Try.prog w = .ok () w' ∧ Raw K w' g mo us le b1 b2 b3 (upd ff x (some v)) lf rf ∧ w.mapTurned w' b1 := by
  obtain ⟨w1, r1, r2, r3⟩ := h.files.put nm_kind Try.underlying71 hx v (room_of nm_kind L hL hl)
  exact ⟨w1, r1, ⟨(turned_block r3 h.ne.1 h.glt).trans h.cells, r2, h.lasts.block (turned_block r3 (Ne.symm h.apart.1) h.lasts.lt), h.fresh.block (turned_block r3 (Ne.symm h.apart.2.1) h.fresh.lt), h.own, h.apart⟩, r3⟩
theorem Raw.del_la (h : Raw K w g mo us le b1 b2 b3 ff lf rf) {x : Nm × Nat} (hx : plOk x) (ty : TypeId) :
    ∃ w', (Builtin.delete_ #[72, 86] ty #[.map (some b2), plV x]).run Try.prog w = .ok (.tuple #[]) w' ∧ Raw K w' g mo us le b1 b2 b3 ff (upd lf x none) rf ∧ w.mapTurned w' b2 := by
  obtain ⟨w1, r1, r2, r3⟩ := h.lasts.del pl_kind Try.underlying72 hx ty
  exact ⟨w1, r1, ⟨(turned_block r3 h.ne.2.1 h.glt).trans h.cells, h.files.block (turned_block r3 h.apart.1 h.files.lt), r2, h.fresh.block (turned_block r3 (Ne.symm h.apart.2.2) h.fresh.lt), h.own, h.apart⟩, r3⟩
theorem Raw.del_fr (h : Raw K w g mo us le b1 b2 b3 ff lf rf) {x : Nm × Nat} (hx : plOk x) (ty : TypeId) :
    ∃ w', (Builtin.delete_ #[73, 86] ty #[.map (some b3), plV x]).run Try.prog w = .ok (.tuple #[]) w' ∧ Raw K w' g mo us le b1 b2 b3 ff lf (upd rf x none) ∧ w.mapTurned w' b3 := by
  obtain ⟨w1, r1, r2, r3⟩ := h.fresh.del pl_kind Try.underlying73 hx ty
  exact ⟨w1, r1, ⟨(turned_block r3 h.ne.2.2 h.glt).trans h.cells, h.files.block (turned_block r3 h.apart.2.1 h.files.lt), h.lasts.block (turned_block r3 h.apart.2.2 h.lasts.lt), r2, h.own, h.apart⟩, r3⟩
theorem Raw.del_fl (h : Raw K w g mo us le b1 b2 b3 ff lf rf) {x : Nm} (hx : nmOk x) (ty : TypeId) :
    ∃ w', (Builtin.delete_ #[71, 9] ty #[.map (some b1), nmV x]).run Try.prog w = .ok (.tuple #[]) w' ∧ Raw K w' g mo us le b1 b2 b3 (upd ff x none) lf rf ∧ w.mapTurned w' b1 := by
  obtain ⟨w1, r1, r2, r3⟩ := h.files.del nm_kind Try.underlying71 hx ty
  exact ⟨w1, r1, ⟨(turned_block r3 h.ne.1 h.glt).trans h.cells, r2, h.lasts.block (turned_block r3 (Ne.symm h.apart.1) h.lasts.lt), h.fresh.block (turned_block r3 (Ne.symm h.apart.2.1) h.fresh.lt), h.own, h.apart⟩, r3⟩
theorem Raw.look_la (h : Raw K w g mo us le b1 b2 b3 ff lf rf) {x : Nm × Nat} (hx : plOk x) :
    (Instr.lookup 72 (.map (some b2)) (plV x) true).run Try.prog w = .ok (.tuple #[(lf x).getD (.agg (csL (zSec, false))), .bool (lf x).isSome]) w ∧
    (Instr.lookup 72 (.map (some b2)) (plV x) false).run Try.prog w = .ok ((lf x).getD (.agg (csL (zSec, false)))) w :=
  ⟨h.lasts.look pl_kind Try.underlying72 (zero_sector w) hx, h.lasts.look1 pl_kind Try.underlying72 (zero_sector w) hx⟩
theorem Raw.look_fr (h : Raw K w g mo us le b1 b2 b3 ff lf rf) {x : Nm × Nat} (hx : plOk x) :
    (Instr.lookup 73 (.map (some b3)) (plV x) true).run Try.prog w = .ok (.tuple #[(rf x).getD (.agg (csF zSec)), .bool (rf x).isSome]) w ∧
    (Instr.lookup 73 (.map (some b3)) (plV x) false).run Try.prog w = .ok ((rf x).getD (.agg (csF zSec))) w :=
  ⟨h.fresh.look pl_kind Try.underlying73 (zero_sec w) hx, h.fresh.look1 pl_kind Try.underlying73 (zero_sec w) hx⟩
theorem Raw.look_fl (h : Raw K w g mo us le b1 b2 b3 ff lf rf) {x : Nm} (hx : nmOk x) :
    (Instr.lookup 71 (.map (some b1)) (nmV x) true).run Try.prog w = .ok (.tuple #[(ff x).getD (flV 0 (.slice none 0 0)), .bool (ff x).isSome]) w ∧
    (Instr.lookup 71 (.map (some b1)) (nmV x) false).run Try.prog w = .ok ((ff x).getD (flV 0 (.slice none 0 0))) w :=
  ⟨h.files.look nm_kind Try.underlying71 (zero_file w) hx, h.files.look1 nm_kind Try.underlying71 (zero_file w) hx⟩
/-- a turn of one of the device's maps -/
theorem turn_map {b : Nat} (h : w.mapTurned w' b) (hk : K b) : Turn K w w' := Turn.of_grown h.grown hk
theorem turned_box {b i : Nat} (h : w.mapTurned w' b) (hi : i ≠ b) (hlt : i < w.heap.size) (o : Nat) : w'.cell? ⟨i, o, none⟩ = w.cell? ⟨i, o, none⟩ := World.cell?_of_block (turned_block h hi hlt)
theorem turned_size {b : Nat} (h : w.mapTurned w' b) : w'.heap.size = w.heap.size := by
  obtain ⟨es, clock, es', clock', _, rfl⟩ := h
  simp [ChangeMaps.setBlock]
end
end Go.Proofs.Ytcmffifehpbjnaa
