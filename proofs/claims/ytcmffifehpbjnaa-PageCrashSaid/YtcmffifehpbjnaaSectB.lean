/- Layer 7: the laws at the operations of a device's maps; rows of 64 and 65 cells. -/
import Derived.Test.YtcmffifehpbjnaaSectA
import Derived.Maps.AppendAt
import Derived.Deep.QuietTactic
import Derived.BigQuiet
import Derived.BigRegion
namespace Go.Proofs.Ytcmffifehpbjnaa
open Go.RowKit Go.Maps
set_option maxRecDepth 100000
set_option linter.unusedSimpArgs false
set_option linter.unusedVariables false

/-! ### rows of many cells -/
theorem setRow_alloc (w : World) (cs ds : Array Value) (t : TypeId) : (w.alloc (.cells cs t)).setRow w.heap.size ds = w.alloc (.cells ds t) := by
  unfold World.setRow World.alloc
  congr 1
  apply Array.ext
  · simp
  · intro i h1 h2
    simp only [Array.getElem_modify, Array.getElem_push]
    simp at h1
    split
    · rename_i h3
      subst h3
      simp
    · rename_i h3
      rw [dif_pos (by omega), dif_pos (by omega)]
def csL (x : Sec × Bool) : Array Value := (B8 x.1.1 ++ [Value.bool x.2]).toArray
def csF (s : Sec) : Array Value := (B8 s.1).toArray
theorem laV_eq (x : Sec × Bool) : laV x = .agg (csL x) := rfl
theorem frV_eq (s : Sec) : frV s = .agg (csF s) := rfl
theorem csL_size (x : Sec × Bool) : (csL x).size = 65 := by simp [csL, B8_length, x.1.2]
theorem csF_size (s : Sec) : (csF s).size = 64 := by simp [csF, B8_length, s.2]
theorem csL_one (x : Sec × Bool) : (csL x).all (·.oneCell') = true := by
  rw [Array.all_eq_true_iff_forall_mem]
  intro v hv
  simp [csL] at hv
  rcases hv with h | h
  · exact B8_one _ _ h
  · subst h; rfl
theorem csF_one (s : Sec) : (csF s).all (·.oneCell') = true := by
  rw [Array.all_eq_true_iff_forall_mem]
  intro v hv
  simp [csF] at hv
  exact B8_one _ _ hv
def zero64 : List Value := List.replicate 64 (.int .u8 0)
def zSec : Sec := ⟨List.replicate 64 0, by simp⟩
theorem zero_sec (w : World) : (zeroValue 64).run Try.prog w = .ok (.agg (csF zSec)) w := by kernel_rfl
theorem zero_sector (w : World) : (zeroValue 88).run Try.prog w = .ok (.agg (csL (zSec, false))) w := by kernel_rfl
theorem size_sec : (Try.prog.info? 64).map (·.size) = some 64 := by kernel_rfl
theorem size_sector : (Try.prog.info? 88).map (·.size) = some 65 := by kernel_rfl
theorem store_new (w : World) (t : TypeId) (z cs : Array Value) (hi : (Try.prog.info? t).map (·.size) = some cs.size) (hz : z.size = cs.size) (h1 : cs.all (·.oneCell') = true) :
    (storeVar t ⟨w.heap.size, 0, none⟩ (.agg cs)).run Try.prog (w.alloc (.cells z t)) = .ok () (w.alloc (.cells cs t)) := by
  rw [run_storeVar_row (P := Try.prog) _ _ t t z cs (heap_alloc_new w _) hi hz h1, setRow_alloc]

theorem sc_new (w : World) (t : TypeId) (z cs : Array Value) (hz : z.size = cs.size) (h1 : cs.all (·.oneCell') = true) :
    (storeCells ⟨w.heap.size, 0, none⟩ cs.toList).run Try.prog (w.alloc (.cells z t)).drew = .ok () (w.alloc (.cells cs t)).drew := by
  have := run_storeCells_from (P := Try.prog) w.heap.size t cs.toList 0 z (w.alloc (.cells z t)).drew (heap_alloc_new w _) (by simp; omega) (fun v hv => (Array.all_eq_true_iff_forall_mem.1 h1) v (by simpa using hv))
  rw [this]
  have e := setRow_alloc w z cs t
  simp only [List.take_zero, List.nil_append, Array.toArray_toList]
  show Result.ok () (((w.alloc (.cells z t)).setRow w.heap.size cs).drew) = _
  rw [e]
theorem sc_new' (w : World) (t : TypeId) (z cs : Array Value) (hz : z.size = cs.size) (h1 : cs.all (·.oneCell') = true) :
    (storeCells ⟨w.heap.size, 0, none⟩ cs.toList).run Try.prog (w.alloc (.cells z t)) = .ok () (w.alloc (.cells cs t)) := by
  have := run_storeCells_from (P := Try.prog) w.heap.size t cs.toList 0 z (w.alloc (.cells z t)) (heap_alloc_new w _) (by simp; omega) (fun v hv => (Array.all_eq_true_iff_forall_mem.1 h1) v (by simpa using hv))
  rw [this]
  have e := setRow_alloc w z cs t
  simp only [List.take_zero, List.nil_append, Array.toArray_toList, e]
theorem z79_size : Try.zeroCells88.size = 65 := by kernel_rfl
section
variable {P : Program} {kt t vt : TypeId} {κ : Type} {kv : κ → Value} {ok : κ → Prop} {kl : κ → Lit} {b : Nat} {f : κ → Option Value}
variable (w : World) {ops : Array Oper} {rest : List Oper} {o : Oper} {a : Act} {Q : Exit → Act → World → Prop}
theorem wpList_putF (hg : o.guard = none) (m x v : Operand) (t : TypeId) (hop : o.op = Op.mapUpdate t m x v) (KK : KeyKind P kt kv ok kl) (ht : P.underlying t = some (.map kt vt))
    (hm : a.eval m = .map (some b)) (h : MapF P kt ok kl w b f) (x0 : κ) (hx0 : ok x0) (hx : a.eval x = kv x0) (val : Value) (hv : a.eval v = val)
    (hroom : ∀ D : DataW Value, w.ownsMap P kt rid b (Maps.size D) D → (∀ l, Maps.has D l = true → ∃ x, ok x ∧ l = kl x ∧ (f x).isSome = true) → Maps.size D < maxLen)
    (hK : ∀ w', MapF P kt ok kl w' b (upd f x0 (some val)) → w.mapTurned w' b → wpList P ops Q rest (a.put o.dst undef) w') : wpList P ops Q (o :: rest) a w := by
  refine wpList_plain hg fun K' hK' => ?_
  obtain ⟨w', hrun, r1, r2⟩ := h.put KK ht hx0 val hroom
  unfold Oper.wp
  simp [execOp, hop, hm, hx, hv, hrun, Result.andThen]
  exact hK' _ _ (hK w' r1 r2)
end
end Go.Proofs.Ytcmffifehpbjnaa
