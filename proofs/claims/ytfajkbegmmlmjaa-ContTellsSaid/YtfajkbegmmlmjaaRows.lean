/-
  No cell of these rows narrows 'for every input' (looked for: loops, veiled, ifaces, maps, wideKeys, modest, calm, conditions, laid).
  DERIVED. THE GIVEN ROWS OF THIS SEAT. 4 by the template 'for every input the law returns true; each argument reads behind the call as it read before'; 0 by the template 'total and deterministic' (their statements: YtfajkbegmmlmjaaTotals.lean).
  GIVEN WITH THE SEED: the statements are not yours to turn. If you find one false, say at which input.
  Laid BY PROGRAM, IN A SANDBOX (cutbox-rows.mjs): the forced cells as the released guide's own fill.sh prints them over the translation ada93576fdacee92… (all of the seat's roots in one cut). By AI agents, Wed Nov 11 2026. No macro, syntax, notation, axiom, sorry.
-/
import Derived.Test.YtfajkbegmmlmjaaChecked
import GoSem.Claim
import GoSem.ClaimJoined
import GoSem.ClaimMapViews
import Derived.JoinedTies
import Derived.KernelRfl
namespace Go.Proofs.Ytfajkbegmmlmjaa
/- THE CELL 'sum', in the pinned program and in every row, IS THE sha256 OF THE DUMP (.gsa) THAT YtfajkbegmmlmjaaProg.lean LOADS. Nothing in Lean hashes anything: it is a label: what it is worth is what the hold of that sum in a sandbox is worth. -/
noncomputable def Try.pinned : Pinned := { name := "ytfajkbegmmlmjaa", sum := "ada93576fdacee92298f7d544d1ebedd1b1982669b3cfc369ea6719e8d02a688", checked := Try.checked }
namespace Rows
def none {H : Type} : Left H := { results := [], args := [] }

/-- 'waybilllaw5.ContSizes': WHATEVER THE INPUT: true; the input reads as it did. -/
def contSizesSpec : ChangeSpec := { name := "contSizes", fn := fun _ => fun
  | [d1, d2, d3] => { results := [.lit (.bool true)], args := [d1, d2, d3] }
  | _ => none }
def contSizesRow : OpenClaim := { program := "ytfajkbegmmlmjaa", sum := "ada93576fdacee92298f7d544d1ebedd1b1982669b3cfc369ea6719e8d02a688", func := "waybill/waybilllaw5.ContSizes", spec := "contSizes", apart := false }
def ContSizesSaid : Prop := contSizesRow.holds Try.pinned (OpenSpec.ofChange contSizesSpec)

/-- ITS FALSE NEIGHBOUR: 'it returns false'. Refute it at one input. -/
def contSizesWrong : ChangeSpec := { name := "contSizes", fn := fun _ => fun
  | [d1, d2, d3] => { results := [.lit (.bool false)], args := [d1, d2, d3] }
  | _ => none }
def ContSizesWrongFalsely : Prop := contSizesRow.holds Try.pinned (OpenSpec.ofChange contSizesWrong)

/-- 'waybilllaw5.ContTells': WHATEVER THE INPUT: true; the input reads as it did. -/
def contTellsSpec : ChangeSpec := { name := "contTells", fn := fun _ => fun
  | [d1, d2, d3, d4, d5, d6, d7] => { results := [.lit (.bool true)], args := [d1, d2, d3, d4, d5, d6, d7] }
  | _ => none }
def contTellsRow : OpenClaim := { program := "ytfajkbegmmlmjaa", sum := "ada93576fdacee92298f7d544d1ebedd1b1982669b3cfc369ea6719e8d02a688", func := "waybill/waybilllaw5.ContTells", spec := "contTells", unfollowed := true, recurses := true, apart := false }
def ContTellsSaid : Prop := contTellsRow.holds Try.pinned (OpenSpec.ofChange contTellsSpec)

/-- ITS FALSE NEIGHBOUR: 'it returns false'. Refute it at one input. -/
def contTellsWrong : ChangeSpec := { name := "contTells", fn := fun _ => fun
  | [d1, d2, d3, d4, d5, d6, d7] => { results := [.lit (.bool false)], args := [d1, d2, d3, d4, d5, d6, d7] }
  | _ => none }
def ContTellsWrongFalsely : Prop := contTellsRow.holds Try.pinned (OpenSpec.ofChange contTellsWrong)

/-- 'waybilllaw5.ContBack': WHATEVER THE INPUT: true; the input reads as it did. -/
def contBackSpec : ChangeSpec := { name := "contBack", fn := fun _ => fun
  | [d1, d2, d3, d4] => { results := [.lit (.bool true)], args := [d1, d2, d3, d4] }
  | _ => none }
def contBackRow : OpenClaim := { program := "ytfajkbegmmlmjaa", sum := "ada93576fdacee92298f7d544d1ebedd1b1982669b3cfc369ea6719e8d02a688", func := "waybill/waybilllaw5.ContBack", spec := "contBack", unfollowed := true, recurses := true, apart := false }
def ContBackSaid : Prop := contBackRow.holds Try.pinned (OpenSpec.ofChange contBackSpec)

/-- ITS FALSE NEIGHBOUR: 'it returns false'. Refute it at one input. -/
def contBackWrong : ChangeSpec := { name := "contBack", fn := fun _ => fun
  | [d1, d2, d3, d4] => { results := [.lit (.bool false)], args := [d1, d2, d3, d4] }
  | _ => none }
def ContBackWrongFalsely : Prop := contBackRow.holds Try.pinned (OpenSpec.ofChange contBackWrong)

/-- 'waybilllaw5.ContFlags': WHATEVER THE INPUT: true; the input reads as it did. -/
def contFlagsSpec : ChangeSpec := { name := "contFlags", fn := fun _ => fun
  | [d1, d2, d3] => { results := [.lit (.bool true)], args := [d1, d2, d3] }
  | _ => none }
def contFlagsRow : OpenClaim := { program := "ytfajkbegmmlmjaa", sum := "ada93576fdacee92298f7d544d1ebedd1b1982669b3cfc369ea6719e8d02a688", func := "waybill/waybilllaw5.ContFlags", spec := "contFlags", apart := false }
def ContFlagsSaid : Prop := contFlagsRow.holds Try.pinned (OpenSpec.ofChange contFlagsSpec)

/-- ITS FALSE NEIGHBOUR: 'it returns false'. Refute it at one input. -/
def contFlagsWrong : ChangeSpec := { name := "contFlags", fn := fun _ => fun
  | [d1, d2, d3] => { results := [.lit (.bool false)], args := [d1, d2, d3] }
  | _ => none }
def ContFlagsWrongFalsely : Prop := contFlagsRow.holds Try.pinned (OpenSpec.ofChange contFlagsWrong)

/- THE SECOND FORM. 'bulk': how many values and letters a reading holds, each counted each time it is reached (what is shared counts as often as it is met; a slice's spare places count too). A statement '..UptoSaid' is the law's where the arguments, and the package variables that the reading takes, are together of bulk at most 1048576: NARROWER than '..Said'. Prove '..Said' where nothing that the law and all that it calls make is longer than what came in: it says more and counts as full. Else prove '..UptoSaid'. A law counts once. -/
mutual
def uptoBulk {H : Type} : DataW H → Nat
  | .lit (.string bytes) => bytes.length + 1
  | .lit _ => 1
  | .nil => 1
  | .ptr d => uptoBulk d + 1
  | .slice elems spare => uptoBulkAll elems + uptoBulkAll spare + 1
  | .agg parts => uptoBulkAll parts + 1
  | .iface _ d => uptoBulk d + 1
  | .map entries => uptoBulkEntries entries + 1
  | .held _ => 1
def uptoBulkAll {H : Type} : List (DataW H) → Nat
  | [] => 0
  | d :: r => uptoBulk d + uptoBulkAll r
def uptoBulkEntries {H : Type} : List (Lit × DataW H) → Nat
  | [] => 0
  | x :: r => uptoBulkEntry x + uptoBulkEntries r
def uptoBulkEntry {H : Type} : Lit × DataW H → Nat
  | (.string bytes, d) => bytes.length + uptoBulk d + 1
  | (_, d) => uptoBulk d + 1
 end
def uptoSmall : (H : Type) → List (DataW H) → Bool := fun _ ds => decide (uptoBulkAll ds ≤ 1048576)
def OpenSpec.upto (s : _root_.Go.ChangeSpec) : _root_.Go.OpenSpec := { _root_.Go.OpenSpec.ofChange s with cond := some uptoSmall }

/-- 'waybilllaw5.ContSizes', WHERE WHAT IT READS IS OF BULK AT MOST 1048576: true; the input reads as it did. -/
def contSizesUptoRow : OpenClaim := { program := "ytfajkbegmmlmjaa", sum := "ada93576fdacee92298f7d544d1ebedd1b1982669b3cfc369ea6719e8d02a688", func := "waybill/waybilllaw5.ContSizes", spec := "contSizes", apart := false, narrowed := true }
def ContSizesUptoSaid : Prop := contSizesUptoRow.holds Try.pinned (OpenSpec.upto contSizesSpec)

/-- 'waybilllaw5.ContTells', WHERE WHAT IT READS IS OF BULK AT MOST 1048576: true; the input reads as it did. -/
def contTellsUptoRow : OpenClaim := { program := "ytfajkbegmmlmjaa", sum := "ada93576fdacee92298f7d544d1ebedd1b1982669b3cfc369ea6719e8d02a688", func := "waybill/waybilllaw5.ContTells", spec := "contTells", unfollowed := true, recurses := true, apart := false, narrowed := true }
def ContTellsUptoSaid : Prop := contTellsUptoRow.holds Try.pinned (OpenSpec.upto contTellsSpec)

/-- 'waybilllaw5.ContBack', WHERE WHAT IT READS IS OF BULK AT MOST 1048576: true; the input reads as it did. -/
def contBackUptoRow : OpenClaim := { program := "ytfajkbegmmlmjaa", sum := "ada93576fdacee92298f7d544d1ebedd1b1982669b3cfc369ea6719e8d02a688", func := "waybill/waybilllaw5.ContBack", spec := "contBack", unfollowed := true, recurses := true, apart := false, narrowed := true }
def ContBackUptoSaid : Prop := contBackUptoRow.holds Try.pinned (OpenSpec.upto contBackSpec)

/-- 'waybilllaw5.ContFlags', WHERE WHAT IT READS IS OF BULK AT MOST 1048576: true; the input reads as it did. -/
def contFlagsUptoRow : OpenClaim := { program := "ytfajkbegmmlmjaa", sum := "ada93576fdacee92298f7d544d1ebedd1b1982669b3cfc369ea6719e8d02a688", func := "waybill/waybilllaw5.ContFlags", spec := "contFlags", apart := false, narrowed := true }
def ContFlagsUptoSaid : Prop := contFlagsUptoRow.holds Try.pinned (OpenSpec.upto contFlagsSpec)

end Rows
end Go.Proofs.Ytfajkbegmmlmjaa
