/- Layer 9: what is refused: the law with what came in as it came. -/
import Derived.Test.YtkcckfphmiaggaaPageRf
import Derived.WalkKit
namespace Go.Proofs.Ytkcckfphmiaggaa
open Go.RowKit Go.Maps
theorem in64_9 {a : Int} (h : (Lit.int .i64 a).wf = true) : -9223372036854775808 ≤ a ∧ a < 9223372036854775808 := by
  have := wf_i64 h
  omega
theorem refuses9_all (ids : List Int) (A : Option Addr) (cap : Nat) (root count long : Int) (W : World) (hc1 : ids.length ≤ cap) (hc2 : cap ≤ maxLen) (hl : Lies W W.heap.size A (cellsZ ids)) (h64 : In64 ids)
    (h1 : (Lit.int .i64 root).wf = true) (h2 : (Lit.int .i64 count).wf = true) (h3 : (Lit.int .i64 long).wf = true) :
    Calls Try.prog 8 #[.slice A ids.length cap, .int .i64 root, .int .i64 count, .int .i64 long] W fun e w' => e = .returned (.bool true) ∧ Below W.heap.size W w' :=
  refuses9_law ids A cap root count long W hc1 hc2 hl h64 (in64_9 h1) (in64_9 h2) (in64_9 h3)
end Go.Proofs.Ytkcckfphmiaggaa
