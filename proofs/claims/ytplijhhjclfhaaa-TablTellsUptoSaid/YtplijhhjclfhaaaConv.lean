/- A string made into octets: where they lie. -/
import Derived.Test.YtplijhhjclfhaaaWords2
import Derived.Lib.ConvBytes
namespace Go.Proofs.Ytplijhhjclfhaaa
open Go.RowKit
theorem bytes_below (w : World) (e : TypeId) (s : ByteArray) : Below w.heap.size w (Lib.bytesWorld w e s) :=
  ⟨rfl, rfl, rfl, by rw [Lib.bytesWorld_size]; omega, fun k hk => Lib.bytesWorld_at_old w e s k hk⟩
theorem bytes_lie (w : World) (e : TypeId) (l : List UInt8) : Lies (Lib.bytesWorld w e ⟨l.toArray⟩) (w.heap.size + 1) (some ⟨w.heap.size, 0, none⟩) (B8 l) := by
  refine .inr ⟨w.heap.size, 0, rfl, by omega, fun j u hu => ?_⟩
  have hj : j < l.length := by
    rw [← B8_length]
    exact (List.getElem?_eq_some_iff.1 hu).1
  rw [B8_get l j hj] at hu
  injection hu with hu
  rw [Nat.zero_add, Lib.bytesWorld_cell w e ⟨l.toArray⟩ j hj, ← hu]
  simp [List.getD, hj]
end Go.Proofs.Ytplijhhjclfhaaa
