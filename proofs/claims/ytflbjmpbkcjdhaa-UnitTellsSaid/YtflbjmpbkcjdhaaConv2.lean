/- What every parameter that is an octet is; a literal with a mark. -/
import Derived.Test.YtflbjmpbkcjdhaaWords
namespace Go.Proofs.Ytflbjmpbkcjdhaa
open Go.RowKit

theorem wf_u8 {a : Int} (h : (Lit.int .u8 a).wf = true) : ∃ c : UInt8, a = (c.toNat : Int) := by
  simp [Lit.wf, IntKind.min, IntKind.max, IntKind.signed, IntKind.bits] at h
  refine ⟨UInt8.ofNat a.toNat, ?_⟩
  rw [UInt8.toNat_ofNat', Nat.mod_eq_of_lt (by omega)]
  omega
theorem Lies.litm (w : World) (t : TypeId) (cs : List Value) (fr : Nat × Nat) : Lies (w.alloc (.cells cs.toArray t fr)) (w.heap.size + 1) (some ⟨w.heap.size, 0, none⟩) cs := by
  refine .inr ⟨w.heap.size, 0, rfl, by omega, fun j x hx => ?_⟩
  rw [World.cell?_alloc_mark w cs.toArray t fr (0 + j), Nat.zero_add]
  simpa using hx
end Go.Proofs.Ytflbjmpbkcjdhaa
