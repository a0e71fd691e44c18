/- The law on what any octets and frames tell: all its ways together. -/
import Derived.Test.YtplijhhjclfhaaaLawFTellsN
namespace Go.Proofs.Ytplijhhjclfhaaa
open Go.RowKit

theorem ftells_all (k ch x z : Int) (y : UInt8) (A A' : Option Addr) (b raw : List UInt8) (c c' : Nat) (w : World) (hl : Lies w w.heap.size A (B8 b)) (hr : Lies w w.heap.size A' (B8 raw)) (hbc : b.length ≤ maxLen) (hrc : raw.length ≤ c') (hrm : c' ≤ maxLen) :
    Calls Try.prog 6 #[.slice A' raw.length c', .agg #[.int .i64 k, .int .i64 ch, .slice A b.length c], .int .i64 x, .int .u8 (y.toNat : Int), .int .i64 z] w fun e w' => e = .returned (.bool true) ∧ Below w.heap.size w w' := by
  by_cases h : 5000 < raw.length ∨ (raw.length ≤ 5000 ∧ 5000 < b.length)
  · exact ftells_early k ch x z y A A' b.length c raw.length c' w hbc (Nat.le_trans hrc hrm) h
  · cases hf : frameOk k ch b.length with
    | false => exact ftells_no k ch x z y A A' b raw c c' w.heap.size w hl hr (Nat.le_refl _) (by omega) (by omega) hrc hrm hf
    | true =>
      have h' := hf
      unfold frameOk fkind at h'
      simp only [Bool.and_eq_true, decide_eq_true_eq] at h'
      obtain ⟨kn, rfl⟩ := Int.eq_ofNat_of_zero_le (show 0 ≤ k by omega)
      obtain ⟨cn, rfl⟩ := Int.eq_ofNat_of_zero_le h'.2.1
      exact ftells_yes kn cn x z y A A' b raw c c' w.heap.size w hl hr (Nat.le_refl _) (by omega) (by omega) hrc hrm hf
end Go.Proofs.Ytplijhhjclfhaaa
