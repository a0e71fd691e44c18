/- Layer 7: small words of a device in a walk. -/
import Derived.Test.YtcmffifehpbjnaaSectZ
namespace Go.Proofs.Ytcmffifehpbjnaa
open Go.RowKit Go.Maps
set_option maxRecDepth 100000
set_option linter.unusedSimpArgs false
set_option linter.unusedVariables false
theorem sortN_nil : sortN [] = [] := by simp [sortN]
theorem sortN_one (k : Nat) : sortN [k] = [k] := by simp [sortN]
section
variable {B g : Nat} {X : Nat → Prop} {w0 W : World} {S : Dv}
/-- a variable of the call's own, written -/
theorem At.local (h : At B X w0 g S W) (o : Obj) (cs : Array Value) : At B X w0 g S ((W.alloc o).setRow W.heap.size cs) :=
  (h.below (below_setRow ((Below.refl _ _).alloc (Nat.le_refl _) o) (Nat.le_refl _) cs)).1
end
theorem pick_new {K : Nat → Prop} {w : World} {t : TypeId} (ps : List Int) (hK : ¬ K w.heap.size) : PickAt K (w.alloc (.cells (ps.map fun p => Value.int .i64 p).toArray t)) (some ⟨w.heap.size, 0, none⟩) ps := by
  refine .inr ⟨w.heap.size, 0, rfl, by simp, hK, fun i hi => ?_⟩
  rw [cell_of_row _ _ _ _ _ _ (heap_alloc_new w _)]
  simp [hi]
end Go.Proofs.Ytcmffifehpbjnaa
