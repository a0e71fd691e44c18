/- Layer 7: sectors compared; blocks of the call's own beside a device. -/
import Derived.Test.YtcmffifehpbjnaaSectW
import Derived.Stop.BytesEq
namespace Go.Proofs.Ytcmffifehpbjnaa
open Go.RowKit Go.Maps
set_option maxRecDepth 100000
set_option linter.unusedSimpArgs false
set_option linter.unusedVariables false
theorem rem3 (p : Int) (h : -9223372036854775808 ≤ p ∧ p < 9223372036854775808) : (p.tmod 3 + 3).tmod 3 = p % 3 ∧ -3 < p.tmod 3 ∧ p.tmod 3 < 3 := by
  have e1 : p.tmod 3 = if p % 3 = 0 ∨ 0 ≤ p then p % 3 else p % 3 - 3 := by
    rw [Int.tmod_eq_emod]
    by_cases h : 0 ≤ p
    · simp [h]
    · by_cases h2 : p % 3 = 0
      · have : (3 : Int) ∣ p := Int.dvd_of_emod_eq_zero h2
        simp [this, h2]
      · have : ¬ (3 : Int) ∣ p := fun e => h2 (Int.emod_eq_zero_of_dvd e)
        simp [h, h2, this]
  have hm := Int.emod_nonneg p (show (3 : Int) ≠ 0 by omega)
  have hm2 := Int.emod_lt_of_pos p (show (0 : Int) < 3 by omega)
  have h3 : -3 < p.tmod 3 ∧ p.tmod 3 < 3 := by rw [e1]; split <;> omega
  refine ⟨?_, h3⟩
  have h4 : (p.tmod 3 + 3).tmod 3 = (p.tmod 3 + 3) % 3 := Int.tmod_eq_emod_of_nonneg (by omega)
  rw [h4, e1]
  split <;> omega
/-- the picks, where they lie -/
theorem lies_get {w W : World} {B : Nat} {A : Option Addr} {l : List Int} (h : Lies w B A (cellsZ l)) (hb : Below B w W) (i : Nat) (hi : i < l.length) : ∃ b o, A = some ⟨b, o, none⟩ ∧ W.cell? ⟨b, o + i, none⟩ = some (.int .i64 (l.getD i 0)) := by
  rcases h with h | ⟨b, o, rfl, h1, h2⟩
  · have : l = [] := by simpa [cellsZ] using h
    subst this
    simp at hi
  · refine ⟨b, o, rfl, ?_⟩
    rw [World.cell?_of_block (w := w) (hb.block b h1)]
    refine h2 i _ ?_
    simp [cellsZ, hi, List.getD]
theorem sec_size1 (w : World) : (sizeOf 5).run Try.prog w = .ok 1 w := by kernel_rfl
theorem eql_sec (a b : Sec) (w : World) : (binOp .eql 64 (.agg (csF a)) (.agg (csF b))).run Try.prog w = .ok (.bool (a.1 == b.1)) w :=
  run_eql_bytes w 64 5 64 Try.underlying64 Try.underlying5 sec_size1 a.1 b.1 a.2 b.2
theorem neq_sec (a b : Sec) (w : World) : (binOp .neq 64 (.agg (csF a)) (.agg (csF b))).run Try.prog w = .ok (.bool (!(a.1 == b.1))) w := by
  have h := run_equalIn_bytes (P := Try.prog) w 9998 64 5 64 Try.underlying64 Try.underlying5 sec_size1 a.1 b.1 a.2 b.2
  have h' : (Op.equalIn 10000 64 (.agg (csF a)) (.agg (csF b))).run Try.prog w = .ok (a.1 == b.1) w := h
  rw [run_neq_struct, h']
  rfl
theorem neq_self (a : Sec) (w : World) : (binOp .neq 64 (.agg (csF a)) (.agg (csF a))).run Try.prog w = .ok (.bool false) w := by
  rw [neq_sec]; simp
theorem neq_self2 (a : Sec) (w : World) : (binOp .neq 64 (.agg (B8 a.1).toArray) (.agg (csF a))).run Try.prog w = .ok (.bool false) w := neq_self a w
theorem range_below {w w' : World} {B b o : Nat} {cs : List Value} (h : w.rangeAt b o cs) (hb : Below B w w') (hlt : b < B) : w'.rangeAt b o cs := fun j v hv => (World.cell?_of_block (hb.block b hlt)).trans (h j v hv)
theorem range_row {w : World} {b : Nat} {s : Sec} {t : TypeId} {fr : Nat × Nat} (h : w.heap[b]? = some (.cells (csF s) t fr)) : w.rangeAt b 0 (B8 s.1) := fun j v hv => by
  rw [Nat.zero_add, cell_of_row w b j _ _ _ h]
  simpa [csF] using hv
theorem one_B8 (l : List UInt8) : ∀ v ∈ B8 l, v.oneCell' = true := fun v hv => by
  obtain ⟨c, _, rfl⟩ := List.mem_map.1 hv
  rfl
theorem len_B8 (s : Sec) : (B8 s.1).length = 64 := by rw [B8, List.length_map]; exact s.2
theorem info_B8 (s : Sec) : (Try.prog.info? 64).map (·.size) = some (B8 s.1).length := by rw [len_B8]; exact size_sec
theorem guard_sec (op : BinOp) (x y : Operand) (xs ys : Array Value) (w : World) : (eqGuard op 64 x y (.agg xs) (.agg ys)).run Try.prog w = .ok () w :=
  run_eqGuard_agg w op 64 x y xs ys (by kernel_rfl)
theorem one_read {mo : Nat} {le : Int} {nm : Nm} {F : Fil} (k : Nat) (y : Sec × Bool) (hk : F.l[k]? = some ⟨none, some y⟩) : pRead (one mo le nm F) nm (k : Int) = if y.2 then (zSec, 7) else (y.1, 0) := by
  have hlt := (List.getElem?_eq_some_iff.1 hk).1
  unfold pRead
  rw [one_fnd]
  simp only []
  rw [if_neg (by omega)]
  have h1 : (one mo le nm F).fr (nm, ((k : Int)).toNat) = none := by simp [Dv.fr, one_fnd, hk]
  have h2 : (one mo le nm F).la (nm, ((k : Int)).toNat) = some y := by simp [Dv.la, one_fnd, hk]
  rw [h1, h2]
  rfl
theorem one_read_fr {mo : Nat} {le : Int} {nm : Nm} {F : Fil} (k : Nat) (x : Sec) (la : Option (Sec × Bool)) (hk : F.l[k]? = some ⟨some x, la⟩) : pRead (one mo le nm F) nm (k : Int) = (x, 0) := by
  have hlt := (List.getElem?_eq_some_iff.1 hk).1
  unfold pRead
  rw [one_fnd]
  simp only []
  rw [if_neg (by omega)]
  have h1 : (one mo le nm F).fr (nm, ((k : Int)).toNat) = some x := by simp [Dv.fr, one_fnd, hk]
  rw [h1]
section
variable {B g : Nat} {X : Nat → Prop} {w0 W W' : World} {S S' : Dv}
theorem at_crashN (h : At B X w0 g S W) (A : Option Addr) (ps : List Int) (n c : Nat) (hn : ps.length = n) (hc1 : n ≤ c) (hc2 : c ≤ maxLen) (hP : PickAt (fun i => B ≤ i ∧ ¬ X i) W A ps) (h64 : In64 ps) (hS : crash S ps = S') :
    Calls Try.prog 26 #[ptr g, .slice A n c] W (Gives (.tuple #[]) B X w0 g S' W) := by
  subst hn; exact at_crash h A ps c hc1 hc2 hP h64 hS
/-- a new block of the call's own is no device's -/
theorem At.ownB (h : At B X w0 g S W) (hb : Below W.heap.size W W') (hlt : W.heap.size < W'.heap.size) : At B (fun i => X i ∨ i = W.heap.size) w0 g S W' := by
  have hle := h.le
  refine ⟨((h.dev.mono (K' := fun i => B ≤ i ∧ ¬ (X i ∨ i = W.heap.size)) (fun i hi hk => ⟨hk.1, fun e => by rcases e with e | e; exact hk.2 e; omega⟩)).below hb), h.bel.trans (hb.mono hle), by omega, fun i hi => ?_⟩
  rcases hi with hi | rfl
  · have := h.xs i hi; omega
  · omega
theorem At.free (h : At B X w0 g S W) : At B (fun _ => False) w0 g S W :=
  ⟨h.dev.mono (fun i _ hi => ⟨hi.1, fun e => e⟩), h.bel, h.le, fun i hi => hi.elim⟩
/-- a block that is no device's is written -/
theorem At.row (h : At B X w0 g S W) (b : Nat) (hX : X b) (cs : Array Value) : At B X w0 g S (W.setRow b cs) := by
  have hx := h.xs b hX
  refine ⟨h.dev.kept (fun i hi hk => setRow_other _ _ _ _ (fun e => hk.2 (by subst e; exact hX))), below_setRow h.bel hx.1 cs, by have := h.le; simpa [World.setRow] using this, fun i hi => by have := h.xs i hi; simpa [World.setRow] using this⟩
theorem At.cell (h : At B X w0 g S W) (b i : Nat) (hX : X b) (u : Value) : At B X w0 g S (W.setCell ⟨b, i, none⟩ u) := by
  have hx := h.xs b hX
  refine ⟨h.dev.kept (fun j hj hk => Below.heap_setCell _ _ _ _ (fun e => hk.2 (by subst e; exact hX))), h.bel.setCell hx.1 _, by have := h.le; simpa using this, fun j hj => by have := h.xs j hj; simpa using this⟩
end
theorem eql_2 (a b : Sec) (v : Bool) (h : (a.1 == b.1) = v) (w : World) : (binOp .eql 64 (.agg (B8 a.1).toArray) (.agg (csF b))).run Try.prog w = .ok (.bool v) w := by rw [← h]; exact eql_sec a b w
theorem At.less {B g : Nat} {X X' : Nat → Prop} {w0 W : World} {S : Dv} (h : At B X w0 g S W) (hx : ∀ i, X' i → X i) : At B X' w0 g S W :=
  ⟨h.dev.mono (fun i _ hi => ⟨hi.1, fun e => hi.2 (hx i e)⟩), h.bel, h.le, fun i hi => h.xs i (hx i hi)⟩
end Go.Proofs.Ytcmffifehpbjnaa
