/-
  NARROWER THAN 'FOR EVERY INPUT', by the rows' own cells (each row's printed sentence says how): TablTells: loops.
  DERIVED. THE GIVEN ROWS OF THIS SEAT. 6 by the template 'for every input the law returns true; each argument reads behind the call as it read before'; 0 by the template 'total and deterministic' (their statements: YtplijhhjclfhaaaTotals.lean).
  GIVEN WITH THE SEED: the statements are not yours to turn. If you find one false, say at which input.
  Laid BY PROGRAM, IN A SANDBOX (cutbox-rows.mjs): the forced cells as the released guide's own fill.sh prints them over the translation 28860aa22a39599d… (all of the seat's roots in one cut). By AI agents, Wed Nov 11 2026. No macro, syntax, notation, axiom, sorry.
-/
import Derived.Test.YtplijhhjclfhaaaChecked
import GoSem.Claim
import GoSem.ClaimJoined
import GoSem.ClaimMapViews
import Derived.JoinedTies
import Derived.KernelRfl
namespace Go.Proofs.Ytplijhhjclfhaaa
/- THE CELL 'sum', in the pinned program and in every row, IS THE sha256 OF THE DUMP (.gsa) THAT YtplijhhjclfhaaaProg.lean LOADS. Nothing in Lean hashes anything: it is a label: what it is worth is what the hold of that sum in a sandbox is worth. -/
noncomputable def Try.pinned : Pinned := { name := "ytplijhhjclfhaaa", sum := "28860aa22a39599ddbc6bb2574946d84732a0f34eacf80162f39d16d30208f87", checked := Try.checked }
namespace Rows
def none {H : Type} : Left H := { results := [], args := [] }

/-- 'waybilllaw2.TablTells': WHATEVER THE INPUT: true; the input reads as it did. -/
def tablTellsSpec : ChangeSpec := { name := "tablTells", fn := fun _ => fun
  | [d1, d2, d3, d4, d5] => { results := [.lit (.bool true)], args := [d1, d2, d3, d4, d5] }
  | _ => none }
def tablTellsRow : OpenClaim := { program := "ytplijhhjclfhaaa", sum := "28860aa22a39599ddbc6bb2574946d84732a0f34eacf80162f39d16d30208f87", func := "waybill/waybilllaw2.TablTells", spec := "tablTells", recurses := true, loops := true, apart := false }
def TablTellsSaid : Prop := tablTellsRow.holds Try.pinned (OpenSpec.ofChange tablTellsSpec)

/-- ITS FALSE NEIGHBOUR: 'it returns false'. Refute it at one input. -/
def tablTellsWrong : ChangeSpec := { name := "tablTells", fn := fun _ => fun
  | [d1, d2, d3, d4, d5] => { results := [.lit (.bool false)], args := [d1, d2, d3, d4, d5] }
  | _ => none }
def TablTellsWrongFalsely : Prop := tablTellsRow.holds Try.pinned (OpenSpec.ofChange tablTellsWrong)

/-- 'waybilllaw3.FramRows': WHATEVER THE INPUT: true; the input reads as it did. -/
def framRowsSpec : ChangeSpec := { name := "framRows", fn := fun _ => fun
  | [d] => { results := [.lit (.bool true)], args := [d] }
  | _ => none }
def framRowsRow : OpenClaim := { program := "ytplijhhjclfhaaa", sum := "28860aa22a39599ddbc6bb2574946d84732a0f34eacf80162f39d16d30208f87", func := "waybill/waybilllaw3.FramRows", spec := "framRows", apart := false }
def FramRowsSaid : Prop := framRowsRow.holds Try.pinned (OpenSpec.ofChange framRowsSpec)

/-- ITS FALSE NEIGHBOUR: 'it returns false'. Refute it at one input. -/
def framRowsWrong : ChangeSpec := { name := "framRows", fn := fun _ => fun
  | [d] => { results := [.lit (.bool false)], args := [d] }
  | _ => none }
def FramRowsWrongFalsely : Prop := framRowsRow.holds Try.pinned (OpenSpec.ofChange framRowsWrong)

/-- 'waybilllaw3.FramSize': WHATEVER THE INPUT: true; the input reads as it did. -/
def framSizeSpec : ChangeSpec := { name := "framSize", fn := fun _ => fun
  | [d1, d2, d3] => { results := [.lit (.bool true)], args := [d1, d2, d3] }
  | _ => none }
def framSizeRow : OpenClaim := { program := "ytplijhhjclfhaaa", sum := "28860aa22a39599ddbc6bb2574946d84732a0f34eacf80162f39d16d30208f87", func := "waybill/waybilllaw3.FramSize", spec := "framSize", apart := false }
def FramSizeSaid : Prop := framSizeRow.holds Try.pinned (OpenSpec.ofChange framSizeSpec)

/-- ITS FALSE NEIGHBOUR: 'it returns false'. Refute it at one input. -/
def framSizeWrong : ChangeSpec := { name := "framSize", fn := fun _ => fun
  | [d1, d2, d3] => { results := [.lit (.bool false)], args := [d1, d2, d3] }
  | _ => none }
def FramSizeWrongFalsely : Prop := framSizeRow.holds Try.pinned (OpenSpec.ofChange framSizeWrong)

/-- 'waybilllaw3.FramTells': WHATEVER THE INPUT: true; the input reads as it did. -/
def framTellsSpec : ChangeSpec := { name := "framTells", fn := fun _ => fun
  | [d1, d2, d3, d4, d5] => { results := [.lit (.bool true)], args := [d1, d2, d3, d4, d5] }
  | _ => none }
def framTellsRow : OpenClaim := { program := "ytplijhhjclfhaaa", sum := "28860aa22a39599ddbc6bb2574946d84732a0f34eacf80162f39d16d30208f87", func := "waybill/waybilllaw3.FramTells", spec := "framTells", apart := false }
def FramTellsSaid : Prop := framTellsRow.holds Try.pinned (OpenSpec.ofChange framTellsSpec)

/-- ITS FALSE NEIGHBOUR: 'it returns false'. Refute it at one input. -/
def framTellsWrong : ChangeSpec := { name := "framTells", fn := fun _ => fun
  | [d1, d2, d3, d4, d5] => { results := [.lit (.bool false)], args := [d1, d2, d3, d4, d5] }
  | _ => none }
def FramTellsWrongFalsely : Prop := framTellsRow.holds Try.pinned (OpenSpec.ofChange framTellsWrong)

/-- 'waybilllaw3.FramCuts': WHATEVER THE INPUT: true; the input reads as it did. -/
def framCutsSpec : ChangeSpec := { name := "framCuts", fn := fun _ => fun
  | [d1, d2] => { results := [.lit (.bool true)], args := [d1, d2] }
  | _ => none }
def framCutsRow : OpenClaim := { program := "ytplijhhjclfhaaa", sum := "28860aa22a39599ddbc6bb2574946d84732a0f34eacf80162f39d16d30208f87", func := "waybill/waybilllaw3.FramCuts", spec := "framCuts", apart := false }
def FramCutsSaid : Prop := framCutsRow.holds Try.pinned (OpenSpec.ofChange framCutsSpec)

/-- ITS FALSE NEIGHBOUR: 'it returns false'. Refute it at one input. -/
def framCutsWrong : ChangeSpec := { name := "framCuts", fn := fun _ => fun
  | [d1, d2] => { results := [.lit (.bool false)], args := [d1, d2] }
  | _ => none }
def FramCutsWrongFalsely : Prop := framCutsRow.holds Try.pinned (OpenSpec.ofChange framCutsWrong)

/-- 'waybilllaw3.FramWrong': WHATEVER THE INPUT: true; the input reads as it did. -/
def framWrongSpec : ChangeSpec := { name := "framWrong", fn := fun _ => fun
  | [d1, d2, d3] => { results := [.lit (.bool true)], args := [d1, d2, d3] }
  | _ => none }
def framWrongRow : OpenClaim := { program := "ytplijhhjclfhaaa", sum := "28860aa22a39599ddbc6bb2574946d84732a0f34eacf80162f39d16d30208f87", func := "waybill/waybilllaw3.FramWrong", spec := "framWrong", apart := false }
def FramWrongSaid : Prop := framWrongRow.holds Try.pinned (OpenSpec.ofChange framWrongSpec)

/-- ITS FALSE NEIGHBOUR: 'it returns false'. Refute it at one input. -/
def framWrongWrong : ChangeSpec := { name := "framWrong", fn := fun _ => fun
  | [d1, d2, d3] => { results := [.lit (.bool false)], args := [d1, d2, d3] }
  | _ => none }
def FramWrongWrongFalsely : Prop := framWrongRow.holds Try.pinned (OpenSpec.ofChange framWrongWrong)

/- THE SECOND FORM. 'bulk': how many values and letters a reading holds, each counted each time it is reached (what is shared counts as often as it is met; a slice's spare places count too). A statement '..UptoSaid' is the law's where the arguments, and the package variables that the reading takes, are together of bulk at most 1048576: NARROWER than '..Said'. Prove '..Said' where nothing that the law and all that it calls make is longer than what came in: it says more and counts as full. Else prove '..UptoSaid'. A law counts once. -/
mutual
def uptoBulk {H : Type} : DataW H → Nat
  | .lit (.string bytes) => bytes.length + 1
  | .lit _ => 1
  | .nil => 1
  | .ptr d => uptoBulk d + 1
  | .slice elems spare => uptoBulkAll elems + uptoBulkAll spare + 1
  | .agg parts => uptoBulkAll parts + 1
  | .iface _ d => uptoBulk d + 1
  | .map entries => uptoBulkEntries entries + 1
  | .held _ => 1
def uptoBulkAll {H : Type} : List (DataW H) → Nat
  | [] => 0
  | d :: r => uptoBulk d + uptoBulkAll r
def uptoBulkEntries {H : Type} : List (Lit × DataW H) → Nat
  | [] => 0
  | x :: r => uptoBulkEntry x + uptoBulkEntries r
def uptoBulkEntry {H : Type} : Lit × DataW H → Nat
  | (.string bytes, d) => bytes.length + uptoBulk d + 1
  | (_, d) => uptoBulk d + 1
 end
def uptoSmall : (H : Type) → List (DataW H) → Bool := fun _ ds => decide (uptoBulkAll ds ≤ 1048576)
def OpenSpec.upto (s : _root_.Go.ChangeSpec) : _root_.Go.OpenSpec := { _root_.Go.OpenSpec.ofChange s with cond := some uptoSmall }

/-- 'waybilllaw2.TablTells', WHERE WHAT IT READS IS OF BULK AT MOST 1048576: true; the input reads as it did. -/
def tablTellsUptoRow : OpenClaim := { program := "ytplijhhjclfhaaa", sum := "28860aa22a39599ddbc6bb2574946d84732a0f34eacf80162f39d16d30208f87", func := "waybill/waybilllaw2.TablTells", spec := "tablTells", recurses := true, loops := true, apart := false, narrowed := true }
def TablTellsUptoSaid : Prop := tablTellsUptoRow.holds Try.pinned (OpenSpec.upto tablTellsSpec)

/-- 'waybilllaw3.FramRows', WHERE WHAT IT READS IS OF BULK AT MOST 1048576: true; the input reads as it did. -/
def framRowsUptoRow : OpenClaim := { program := "ytplijhhjclfhaaa", sum := "28860aa22a39599ddbc6bb2574946d84732a0f34eacf80162f39d16d30208f87", func := "waybill/waybilllaw3.FramRows", spec := "framRows", apart := false, narrowed := true }
def FramRowsUptoSaid : Prop := framRowsUptoRow.holds Try.pinned (OpenSpec.upto framRowsSpec)

/-- 'waybilllaw3.FramSize', WHERE WHAT IT READS IS OF BULK AT MOST 1048576: true; the input reads as it did. -/
def framSizeUptoRow : OpenClaim := { program := "ytplijhhjclfhaaa", sum := "28860aa22a39599ddbc6bb2574946d84732a0f34eacf80162f39d16d30208f87", func := "waybill/waybilllaw3.FramSize", spec := "framSize", apart := false, narrowed := true }
def FramSizeUptoSaid : Prop := framSizeUptoRow.holds Try.pinned (OpenSpec.upto framSizeSpec)

/-- 'waybilllaw3.FramTells', WHERE WHAT IT READS IS OF BULK AT MOST 1048576: true; the input reads as it did. -/
def framTellsUptoRow : OpenClaim := { program := "ytplijhhjclfhaaa", sum := "28860aa22a39599ddbc6bb2574946d84732a0f34eacf80162f39d16d30208f87", func := "waybill/waybilllaw3.FramTells", spec := "framTells", apart := false, narrowed := true }
def FramTellsUptoSaid : Prop := framTellsUptoRow.holds Try.pinned (OpenSpec.upto framTellsSpec)

/-- 'waybilllaw3.FramCuts', WHERE WHAT IT READS IS OF BULK AT MOST 1048576: true; the input reads as it did. -/
def framCutsUptoRow : OpenClaim := { program := "ytplijhhjclfhaaa", sum := "28860aa22a39599ddbc6bb2574946d84732a0f34eacf80162f39d16d30208f87", func := "waybill/waybilllaw3.FramCuts", spec := "framCuts", apart := false, narrowed := true }
def FramCutsUptoSaid : Prop := framCutsUptoRow.holds Try.pinned (OpenSpec.upto framCutsSpec)

/-- 'waybilllaw3.FramWrong', WHERE WHAT IT READS IS OF BULK AT MOST 1048576: true; the input reads as it did. -/
def framWrongUptoRow : OpenClaim := { program := "ytplijhhjclfhaaa", sum := "28860aa22a39599ddbc6bb2574946d84732a0f34eacf80162f39d16d30208f87", func := "waybill/waybilllaw3.FramWrong", spec := "framWrong", apart := false, narrowed := true }
def FramWrongUptoSaid : Prop := framWrongUptoRow.holds Try.pinned (OpenSpec.upto framWrongSpec)

end Rows
end Go.Proofs.Ytplijhhjclfhaaa
