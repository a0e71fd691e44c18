/- The law on what is written and read back: all its ways together. -/
import Derived.Test.YtpfenhlclegalaaLawBack
namespace Go.Proofs.Ytpfenhlclegalaa
open Go.RowKit

set_option maxRecDepth 100000 in
theorem back_long (a : Option Addr) (ca nb : Nat) (n : Int) (v : Nat) (S : ByteArray) (a' : Option Addr) (ca' nt : Nat) (w : World) (hb : nb ≤ 9223372036854775807) (ht : nt ≤ 9223372036854775807) (h : 300 < nb ∨ nb ≤ 300 ∧ 300 < nt) :
    Calls Try.prog 6 #[.slice a nb ca, .int .i64 n, .int .u64 v, .string S, .slice a' nt ca'] w fun e w' => e = .returned (.bool true) ∧ Below w.heap.size w w' := by
  rcases h with h | ⟨h, h'⟩
  · go_enter Try.func6, Try.ntmps6
    go_wp2_with (go_at_call 8; refine (awake_any _).mono ?_; rintro e w4 ⟨rfl, hb4⟩)
    go_ret
    exact ⟨rfl, hb4⟩
  · go_enter Try.func6, Try.ntmps6
    go_wp2_with (go_at_call 8; refine (awake_any _).mono ?_; rintro e w4 ⟨rfl, hb4⟩)
    go_ret
    exact ⟨rfl, hb4⟩

theorem back_any (a : Option Addr) (ca : Nat) (b : List UInt8) (n : Int) (v : Nat) (S : ByteArray) (a' : Option Addr) (ca' : Nat) (t : List UInt8) (w : World)
    (hv : v < 18446744073709551616) (hb : b.length ≤ maxLen) (ht : t.length ≤ maxLen) (hS : S.size ≤ maxLen) (lb : Lies w w.heap.size a (B8 b)) (lt : Lies w w.heap.size a' (B8 t)) :
    Calls Try.prog 6 #[.slice a b.length ca, .int .i64 n, .int .u64 v, .string S, .slice a' t.length ca'] w fun e w' => e = .returned (.bool true) ∧ Below w.heap.size w w' := by
  have hb' := hb
  have ht' := ht
  unfold maxLen at hb' ht'
  by_cases h1 : 300 < b.length
  · exact back_long a ca b.length n v S a' ca' t.length w (by omega) (by omega) (.inl h1)
  · by_cases h2 : 300 < t.length
    · exact back_long a ca b.length n v S a' ca' t.length w (by omega) (by omega) (.inr ⟨by omega, h2⟩)
    · obtain ⟨⟨l⟩⟩ := S
      have hl : (ByteArray.mk ⟨l⟩).size = l.length := rfl
      rw [hl] at hS
      by_cases h3 : l.length ≤ 255
      · exact back_yes a ca b n v l a' ca' t w hv (by omega) (by omega) h3 lb lt
      · exact back_no a ca b n v l a' ca' t w hv (by omega) (by omega) (by omega) hS lb lt
end Go.Proofs.Ytpfenhlclegalaa
