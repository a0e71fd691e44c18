/- The law on what any octets and fields tell: all its ways together. -/
import Derived.Test.YtplijhhjclfhaaaLawTellsB
import Derived.Test.YtplijhhjclfhaaaTablO2
namespace Go.Proofs.Ytplijhhjclfhaaa
open Go.RowKit

theorem tells_all (raw : List UInt8) (l : List Fld) (A0 A : Option Addr) (c0 c d : Nat) (x z : Int) (y : UInt8) (bulk : Nat) (w : World) (hl : TabH Raw d w w.heap.size l A c) (hr : Lies w w.heap.size A0 (B8 raw)) (hrc : raw.length ≤ c0) (hrm : c0 ≤ maxLen)
    (hb : ∀ k, (rowsD k l).length ≤ 2 * bulk) (hk : bulk ≤ 1048576) :
    Calls Try.prog 3 #[.slice A0 raw.length c0, .slice A l.length c, .int .i64 x, .int .u8 (y.toNat : Int), .int .i64 z] w fun e w' => e = .returned (.bool true) ∧ Below w.heap.size w w' := by
  by_cases h1 : 2100 < raw.length
  · exact tells_early raw l A0 A c0 c d w.heap.size x z y w hl (.inl h1)
  · cases h2 : smallB 12 l with
    | false => exact tells_early raw l A0 A c0 c d w.heap.size x z y w hl (.inr ⟨by omega, h2⟩)
    | true => exact tells_late raw l A0 A c0 c d w.heap.size x z y w hl hr (Nat.le_refl _) (by omega) hrc hrm h2 (fun _ => by have := hb 8; omega)
end Go.Proofs.Ytplijhhjclfhaaa
