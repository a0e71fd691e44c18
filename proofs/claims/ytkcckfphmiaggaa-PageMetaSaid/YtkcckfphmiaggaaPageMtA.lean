/- Layer 9: a file's metas: the law with what came in as it came. -/
import Derived.Test.YtkcckfphmiaggaaPageMt
import Derived.WalkKit
namespace Go.Proofs.Ytkcckfphmiaggaa
open Go.RowKit Go.Maps
theorem u64_9 {a : Int} (h : (Lit.int .u64 a).wf = true) : 0 ≤ a ∧ a < 18446744073709551616 := by
  simp [Lit.wf, IntKind.min, IntKind.max, IntKind.signed, IntKind.bits] at h
  omega
theorem meta9_all (a0 a1 : Int) (W : World) (h1 : (Lit.int .u64 a1).wf = true) :
    Calls Try.prog 7 #[.int .i64 a0, .int .u64 a1] W fun e w' => e = .returned (.bool true) ∧ Below W.heap.size W w' := by
  have hb := u64_9 h1
  obtain ⟨mk, rfl⟩ := Int.eq_ofNat_of_zero_le hb.1
  exact meta9_law a0 mk (by omega) W
end Go.Proofs.Ytkcckfphmiaggaa
