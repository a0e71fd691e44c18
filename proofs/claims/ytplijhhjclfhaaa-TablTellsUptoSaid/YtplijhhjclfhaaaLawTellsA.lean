/- The law on what any octets and fields tell: the ways that ask nothing. -/
import Derived.Test.YtplijhhjclfhaaaTablY
import Derived.Test.YtplijhhjclfhaaaTablV
namespace Go.Proofs.Ytplijhhjclfhaaa
open Go.RowKit

set_option maxHeartbeats 1000000 in
set_option maxRecDepth 100000 in
theorem tells_early (raw : List UInt8) (l : List Fld) (A0 A : Option Addr) (c0 c d B : Nat) (x z : Int) (y : UInt8) (w : World) (hl : TabH Raw d w B l A c) (h : 2100 < raw.length ∨ (raw.length ≤ 2100 ∧ smallB 12 l = false)) :
    Calls Try.prog 3 #[.slice A0 raw.length c0, .slice A l.length c, .int .i64 x, .int .u8 (y.toNat : Int), .int .i64 z] w fun e w' => e = .returned (.bool true) ∧ Below w.heap.size w w' := by
  have HL := Lib.hid hl
  clear hl
  rcases h with h | ⟨h, h'⟩
  · have h1 : (2100 : Int) < (raw.length : Int) := by omega
    go_enter Try.func3, Try.ntmps3
    go_wp2_with fail
    refine (awake2_any _).mono ?_
    rintro e w2 ⟨rfl, hb⟩
    go_wp2_with fail
    go_ret
    exact ⟨rfl, hb⟩
  · have h1 : (raw.length : Int) ≤ 2100 := by omega
    go_enter Try.func3, Try.ntmps3
    go_wp2_with fail
    refine (small_any 12 l A c d B 1 _ (by omega) (by omega) HL.out).mono ?_
    rintro e w1 ⟨rfl, rfl⟩
    rw [h']
    go_wp2_with fail
    refine (awake2_any _).mono ?_
    rintro e w2 ⟨rfl, hb⟩
    go_wp2_with fail
    go_ret
    exact ⟨rfl, hb⟩
end Go.Proofs.Ytplijhhjclfhaaa
