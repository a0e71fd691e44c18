/- Layer 10: two nodes that are the same; small nodes. -/
import Derived.Test.YtdjkkppefgppmaaNodeH
import Derived.Laws.StructEq
namespace Go.Proofs.Ytdjkkppefgppmaa
open Go.RowKit
set_option maxRecDepth 100000
set_option linter.unusedSimpArgs false
set_option linter.unusedVariables false

theorem neq_row (r : Rw) (w : World) : (binOp .neq 23 (.agg #[.string ⟨r.key.toArray⟩, .string ⟨r.val.toArray⟩, .int .i64 r.page]) (.agg #[.string ⟨r.key.toArray⟩, .string ⟨r.val.toArray⟩, .int .i64 r.page])).run Try.prog w = .ok (.bool false) w := by
  have u3 := Try.underlying3
  have u9 := Try.underlying9
  have a3 := Try.isAgg3
  have z3 := Try.sizeOf3
  have a9 := Try.isAgg9
  have z9 := Try.sizeOf9
  have hS : Try.prog.underlying 23 = some (.struct (Try.prog.fieldsOf 23)) := by kernel_rfl
  have hp : Try.prog.stoodInHeld 23 = false := by kernel_rfl
  rw [run_neq_struct, show (10000 : Nat) = 9999 + 1 from rfl, run_equalIn_agg w 9999 23 _ _ hS hp]
  simp only [Program.fieldsOf, Try.underlying23]
  go_simp
theorem guard_row (op : BinOp) (x y : Operand) (xs ys : Array Value) (w : World) : (eqGuard op 23 x y (.agg xs) (.agg ys)).run Try.prog w = .ok () w :=
  run_eqGuard_agg w op 23 x y xs ys (by kernel_rfl)

set_option maxHeartbeats 1000000 in
theorem same_node (leaf : Bool) (l : List Rw) (A A' : Option Addr) (c c' B : Nat) (w : World) (ht : RowsAt w B l A c) (ht' : RowsAt w B l A' c') (hB : B ≤ w.heap.size) (hf : Few l) :
    Calls Try.prog 17 #[.agg #[.bool leaf, .slice A l.length c], .agg #[.bool leaf, .slice A' l.length c']] w fun e w' => OkAt w w' e true := by
  have W1 := Whole.new w 26 #[.bool leaf, .slice A l.length c]
  have b1 := (Below.refl w.heap.size w).alloc (Nat.le_refl _) (.cells #[.bool leaf, .slice A l.length c] 26)
  have W2 := Whole.new (w.alloc (.cells #[.bool leaf, .slice A l.length c] 26)) 26 #[.bool leaf, .slice A' l.length c']
  have X1 := Lib.hid (W1.alloc (.cells #[.bool leaf, .slice A' l.length c'] 26))
  have X2 := Lib.hid (show Whole ((w.alloc (.cells #[.bool leaf, .slice A l.length c] 26)).alloc (.cells #[.bool leaf, .slice A' l.length c'] 26)) (w.heap.size + 1) 26 #[.bool leaf, .slice A' l.length c'] by
    have e : (w.alloc (.cells #[.bool leaf, .slice A l.length c] 26)).heap.size = w.heap.size + 1 := by simp
    rw [e] at W2
    exact W2)
  have BX := Lib.hid (b1.alloc (by simp) (.cells #[.bool leaf, .slice A' l.length c'] 26))
  have hll := hf.1
  have HL := Lib.hid (ht.2.2.below (BX.out.mono hB))
  have HL' := Lib.hid (ht'.2.2.below (BX.out.mono hB))
  have hcm := ht.2.1
  have hlc := ht.1
  have hcm' := ht'.2.1
  have hlc' := ht'.1
  unfold maxLen at hcm hcm'
  clear ht ht' W1 W2 b1 hf
  have nf : (leaf != leaf) = false := by simp
  have NR := fun r => neq_row r
  have GR := fun op x y xs ys w => guard_row op x y xs ys w
  go_enter Try.func17, Try.ntmps17
  go_wp2_with fail
  obtain ⟨W, hW⟩ : ∃ W, W = (w.alloc (.cells #[.bool leaf, .slice A l.length c] 26)).alloc (.cells #[.bool leaf, .slice A' l.length c'] 26) := ⟨_, rfl⟩
  rw [← hW] at X1 X2 BX HL HL' ⊢
  clear hW
  go_loopw [5] (fun i wr => ∃ (j q : Nat), j ≤ l.length ∧ i = .int .i64 j ∧ wr = W.drewN q) (fun i _ => l.length - (intOf i).toNat)
  case atStart => exact ⟨0, 0, Nat.zero_le _, rfl, rfl⟩
  case round =>
    obtain ⟨j, q, hj, rfl, hq⟩ := hrel
    have Y1 : Whole wr w.heap.size 26 #[.bool leaf, .slice A l.length c] := by rw [hq]; exact X1.out
    have Y2 : Whole wr (w.heap.size + 1) 26 #[.bool leaf, .slice A' l.length c'] := by rw [hq]; exact X2.out
    have BW : Below w.heap.size w wr := by rw [hq]; exact below_drewN BX.out q
    have x1 : wr.cell? ⟨w.heap.size, 1, none⟩ = some (.slice A l.length c) := Y1.cell 1
    have x2 : wr.cell? ⟨w.heap.size + 1, 1, none⟩ = some (.slice A' l.length c') := Y2.cell 1
    have HBW := Lib.hid BW
    have HQ := Lib.hid hq
    by_cases hlt : j < l.length
    · have LA : Lies wr B A (cellsRws l) := by rw [hq]; exact HL.out
      have LA' : Lies wr B A' (cellsRws l) := by rw [hq]; exact HL'.out
      obtain ⟨b, o, rfl, hb, c0, c1, c2⟩ := lies_rw LA j hlt
      obtain ⟨b', o', rfl, hb', d0, d1, d2⟩ := lies_rw LA' j hlt
      obtain ⟨r, hr⟩ : ∃ r, r = l[j] := ⟨_, rfl⟩
      rw [← hr] at c0 c1 c2 d0 d1 d2
      have hj0 : (0 : Int) ≤ (j : Int) := by omega
      have hj1 : (j : Int) < (l.length : Int) := by omega
      have HRR := NR r
      clear hq Y1 Y2 BW LA LA' hr NR
      go_wp2_with fail
      go_quiet (fail)
      go_wp2_with fail
      go_roundw
      case rel => exact ⟨j + 1, q + nq, by omega, by go_num, by rw [HQ.out]; simp⟩
      case measure => simp [intOf]; omega
    · obtain rfl : j = l.length := by omega
      clear hq Y1 Y2 BW
      go_wp2_with fail
      go_ret
      exact OkAt.of rfl HBW.out
end Go.Proofs.Ytdjkkppefgppmaa
