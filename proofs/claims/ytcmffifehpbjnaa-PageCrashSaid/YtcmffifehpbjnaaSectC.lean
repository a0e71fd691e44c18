/- Layer 7: lasting, settle, Read. -/
import Derived.Test.YtcmffifehpbjnaaSectB
namespace Go.Proofs.Ytcmffifehpbjnaa
open Go.RowKit Go.Maps
set_option maxRecDepth 100000
set_option linter.unusedSimpArgs false
set_option linter.unusedVariables false
section
variable {K : Nat → Prop} {w : World} {g : Nat} {S : Dv} {b1 b2 b3 : Nat} {sv : Nm → Value}
theorem getD_laV (o : Option (Sec × Bool)) : (o.map laV).getD (.agg (csL (zSec, false))) = .agg (csL (o.getD (zSec, false))) := by cases o <;> rfl
theorem getD_frV (o : Option Sec) : (o.map frV).getD (.agg (csF zSec)) = .agg (csF (o.getD zSec)) := by cases o <;> rfl
/-- v, ok := d.lasts[p], in whatever world that has the map -/
theorem look_la (h : DevAt K w g S b1 b2 b3 sv) {x : Nm × Nat} (hx : plOk x) (w' : World) (hb : w'.heap[b2]? = w.heap[b2]?) :
    (Instr.lookup 72 (.map (some b2)) (plV x) true).run Try.prog w' = .ok (.tuple #[.agg (csL ((S.la x).getD (zSec, false))), .bool (S.la x).isSome]) w' ∧
    (Instr.lookup 72 (.map (some b2)) (plV x) false).run Try.prog w' = .ok (.agg (csL ((S.la x).getD (zSec, false)))) w' := by
  have h1 := h.lasts.block (w' := w') hb
  have e1 := h1.look pl_kind Try.underlying72 (zero_sector w') (x := x) hx
  have e2 := h1.look1 pl_kind Try.underlying72 (zero_sector w') (x := x) hx
  rw [getD_laV, Option.isSome_map] at e1
  rw [getD_laV] at e2
  exact ⟨e1, e2⟩
theorem look_fr (h : DevAt K w g S b1 b2 b3 sv) {x : Nm × Nat} (hx : plOk x) (w' : World) (hb : w'.heap[b3]? = w.heap[b3]?) :
    (Instr.lookup 73 (.map (some b3)) (plV x) true).run Try.prog w' = .ok (.tuple #[.agg (csF ((S.fr x).getD zSec)), .bool (S.fr x).isSome]) w' ∧
    (Instr.lookup 73 (.map (some b3)) (plV x) false).run Try.prog w' = .ok (.agg (csF ((S.fr x).getD zSec))) w' := by
  have h1 := h.fresh.block (w' := w') hb
  have e1 := h1.look pl_kind Try.underlying73 (zero_sec w') (x := x) hx
  have e2 := h1.look1 pl_kind Try.underlying73 (zero_sec w') (x := x) hx
  rw [getD_frV, Option.isSome_map] at e1
  rw [getD_frV] at e2
  exact ⟨e1, e2⟩
set_option maxHeartbeats 1000000 in
theorem lasting_any (h : DevAt K w g S b1 b2 b3 sv) (x : Nm × Nat) (hx : plOk x) :
    Calls Try.prog 60 #[ptr g, plV x] w fun e w' => e = .returned (.bool (S.la x).isSome) ∧ Below w.heap.size w w' := by
  obtain ⟨nm, k⟩ := x
  obtain ⟨c0, c1, c2, c3, c4, c5⟩ := h.cell
  have hg := h.glt
  have hb := h.lasts.lt
  obtain ⟨A1, hA⟩ : ∃ A1 : Obj, A1 = .cells #[.string ⟨nm.toArray⟩, .int .i64 (k : Int)] 86 := ⟨_, rfl⟩
  have e1 := (look_la h hx (w.alloc A1).drew (Below.heap_alloc w A1 _ hb)).1
  have e2 := (look_la h hx ((w.alloc A1).alloc (.cells Try.zeroCells88 88)).drew ((Below.heap_alloc _ _ _ (by simp; omega)).trans (Below.heap_alloc w A1 _ hb))).1
  have e3 := sc_new (w.alloc A1) 88 Try.zeroCells88 (csL ((S.la (nm, k)).getD (zSec, false))) (by rw [csL_size, z79_size]) (csL_one _)
  have e4 := csL_size ((S.la (nm, k)).getD (zSec, false))
  rw [show (w.alloc A1).heap.size = w.heap.size + 1 from by simp] at e3
  subst hA
  unfold plV at e1 e2 ⊢
  simp only [] at e1 e2 ⊢
  obtain ⟨cs, hcs⟩ : ∃ cs, cs = csL ((S.la (nm, k)).getD (zSec, false)) := ⟨_, rfl⟩
  obtain ⟨bo, hbo⟩ : ∃ bo, bo = (S.la (nm, k)).isSome := ⟨_, rfl⟩
  rw [← hcs] at e1 e2 e3 e4
  rw [← hbo] at e1 e2 ⊢
  clear h hcs hbo
  go_enter Try.func60, Try.ntmps60
  go_wp2
  go_region
  all_goals
    go_wp2
    go_ret
    exact ⟨rfl, (((Below.refl _ w).alloc (Nat.le_refl _) _).alloc (by simp) _).drew⟩
end
end Go.Proofs.Ytcmffifehpbjnaa
