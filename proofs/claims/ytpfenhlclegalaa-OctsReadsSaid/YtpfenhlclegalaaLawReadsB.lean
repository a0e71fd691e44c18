/- The law on reading any octets: all its ways together. -/
import Derived.Test.YtpfenhlclegalaaLawReadsF
namespace Go.Proofs.Ytpfenhlclegalaa
open Go.RowKit

set_option maxRecDepth 100000 in
theorem reads_long (a : Option Addr) (ca nb : Nat) (a' : Option Addr) (ca' nn : Nat) (w : World) (hb : nb ≤ 9223372036854775807) (h : 600 < nb) :
    Calls Try.prog 5 #[.slice a nb ca, .slice a' nn ca'] w fun e w' => e = .returned (.bool true) ∧ Below w.heap.size w w' := by
  go_enter Try.func5, Try.ntmps5
  go_wp2_with (go_at_call 8; refine (awake_any _).mono ?_; rintro e w4 ⟨rfl, hb4⟩)
  go_ret
  exact ⟨rfl, hb4⟩

theorem reads_all (a : Option Addr) (ca : Nat) (b : List UInt8) (a' : Option Addr) (ca' : Nat) (ns : List Int) (w : World)
    (hca : b.length ≤ ca) (hcm : ca ≤ maxLen) (hn : ns.length ≤ maxLen) (lb : Lies w w.heap.size a (B8 b)) (ln : Lies w w.heap.size a' (ns.map (Value.int .i64))) :
    Calls Try.prog 5 #[.slice a b.length ca, .slice a' ns.length ca'] w fun e w' => e = .returned (.bool true) ∧ Below w.heap.size w w' := by
  have hb' := Nat.le_trans hca hcm
  unfold maxLen at hb'
  by_cases h : 600 < b.length
  · exact reads_long a ca b.length a' ca' ns.length w (by omega) h
  · exact reads_any a ca b a' ca' ns w (by omega) hca hcm hn lb ln
end Go.Proofs.Ytpfenhlclegalaa
