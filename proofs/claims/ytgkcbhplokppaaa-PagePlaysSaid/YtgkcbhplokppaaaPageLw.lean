/- Layer 9: PagePlays. -/
import Derived.Test.YtgkcbhplokppaaaPagePu
import Derived.Test.YtgkcbhplokppaaaPageCm
import Derived.Deep.CutBlock
namespace Go.Proofs.Ytgkcbhplokppaaa
open Go.RowKit Go.Maps
set_option maxRecDepth 100000
set_option linter.unusedSimpArgs false
set_option linter.unusedVariables false
theorem plays9_law (l : List Op9) (A : Option Addr) (cap : Nat) (W : World) (hc1 : l.length ≤ cap) (hc2 : cap ≤ maxLen) (hl : Lies W W.heap.size A (cellsO9 l)) (hfit : ∀ f ∈ l, f.fit) :
    Calls Try.prog 5 #[.slice A l.length cap] W fun e w' => e = .returned (.bool true) ∧ Below W.heap.size W w' :=
  (plays9_parts l W).2.2 (Lib.hid (plays9_put l W)) (Lib.hid (plays9_commit l W)) A cap hc1 hc2 hl hfit
end Go.Proofs.Ytgkcbhplokppaaa
