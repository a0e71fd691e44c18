/-
  NARROWER THAN 'FOR EVERY INPUT', by the rows' own cells (each row's printed sentence says how): TablTells: loops · TablBack: loops.
  DERIVED. THE GIVEN ROWS OF THIS SEAT. 9 by the template 'for every input the law returns true; each argument reads behind the call as it read before'; 0 by the template 'total and deterministic' (their statements: YthaakbmdfdkjgaaTotals.lean).
  GIVEN WITH THE SEED: the statements are not yours to turn. If you find one false, say at which input.
  Laid BY PROGRAM, IN A SANDBOX (cutbox-rows.mjs): the forced cells as the released guide's own fill.sh prints them over the translation c5bcaf3abf2ce51b… (all of the seat's roots in one cut). By AI agents, Wed Nov 11 2026. No macro, syntax, notation, axiom, sorry.
-/
import Derived.Test.YthaakbmdfdkjgaaChecked
import GoSem.Claim
import GoSem.ClaimJoined
import GoSem.ClaimMapViews
import Derived.JoinedTies
import Derived.KernelRfl
namespace Go.Proofs.Ythaakbmdfdkjgaa
/- THE CELL 'sum', in the pinned program and in every row, IS THE sha256 OF THE DUMP (.gsa) THAT YthaakbmdfdkjgaaProg.lean LOADS. Nothing in Lean hashes anything: it is a label: what it is worth is what the hold of that sum in a sandbox is worth. -/
noncomputable def Try.pinned : Pinned := { name := "ythaakbmdfdkjgaa", sum := "c5bcaf3abf2ce51bb9b055848c278b68c80d94717a80240cb65db883464ef7cb", checked := Try.checked }
namespace Rows
def none {H : Type} : Left H := { results := [], args := [] }

/-- 'waybilllaw1.OctsCuts': WHATEVER THE INPUT: true; the input reads as it did. -/
def octsCutsSpec : ChangeSpec := { name := "octsCuts", fn := fun _ => fun
  | [d1, d2, d3] => { results := [.lit (.bool true)], args := [d1, d2, d3] }
  | _ => none }
def octsCutsRow : OpenClaim := { program := "ythaakbmdfdkjgaa", sum := "c5bcaf3abf2ce51bb9b055848c278b68c80d94717a80240cb65db883464ef7cb", func := "waybill/waybilllaw1.OctsCuts", spec := "octsCuts", apart := false }
def OctsCutsSaid : Prop := octsCutsRow.holds Try.pinned (OpenSpec.ofChange octsCutsSpec)

/-- ITS FALSE NEIGHBOUR: 'it returns false'. Refute it at one input. -/
def octsCutsWrong : ChangeSpec := { name := "octsCuts", fn := fun _ => fun
  | [d1, d2, d3] => { results := [.lit (.bool false)], args := [d1, d2, d3] }
  | _ => none }
def OctsCutsWrongFalsely : Prop := octsCutsRow.holds Try.pinned (OpenSpec.ofChange octsCutsWrong)

/-- 'waybilllaw1.OctsBits': WHATEVER THE INPUT: true; the input reads as it did. -/
def octsBitsSpec : ChangeSpec := { name := "octsBits", fn := fun _ => fun
  | [d1, d2] => { results := [.lit (.bool true)], args := [d1, d2] }
  | _ => none }
def octsBitsRow : OpenClaim := { program := "ythaakbmdfdkjgaa", sum := "c5bcaf3abf2ce51bb9b055848c278b68c80d94717a80240cb65db883464ef7cb", func := "waybill/waybilllaw1.OctsBits", spec := "octsBits", apart := false }
def OctsBitsSaid : Prop := octsBitsRow.holds Try.pinned (OpenSpec.ofChange octsBitsSpec)

/-- ITS FALSE NEIGHBOUR: 'it returns false'. Refute it at one input. -/
def octsBitsWrong : ChangeSpec := { name := "octsBits", fn := fun _ => fun
  | [d1, d2] => { results := [.lit (.bool false)], args := [d1, d2] }
  | _ => none }
def OctsBitsWrongFalsely : Prop := octsBitsRow.holds Try.pinned (OpenSpec.ofChange octsBitsWrong)

/-- 'waybilllaw1.OctsReads': WHATEVER THE INPUT: true; the input reads as it did. -/
def octsReadsSpec : ChangeSpec := { name := "octsReads", fn := fun _ => fun
  | [d1, d2] => { results := [.lit (.bool true)], args := [d1, d2] }
  | _ => none }
def octsReadsRow : OpenClaim := { program := "ythaakbmdfdkjgaa", sum := "c5bcaf3abf2ce51bb9b055848c278b68c80d94717a80240cb65db883464ef7cb", func := "waybill/waybilllaw1.OctsReads", spec := "octsReads", apart := false }
def OctsReadsSaid : Prop := octsReadsRow.holds Try.pinned (OpenSpec.ofChange octsReadsSpec)

/-- ITS FALSE NEIGHBOUR: 'it returns false'. Refute it at one input. -/
def octsReadsWrong : ChangeSpec := { name := "octsReads", fn := fun _ => fun
  | [d1, d2] => { results := [.lit (.bool false)], args := [d1, d2] }
  | _ => none }
def OctsReadsWrongFalsely : Prop := octsReadsRow.holds Try.pinned (OpenSpec.ofChange octsReadsWrong)

/-- 'waybilllaw1.OctsBack': WHATEVER THE INPUT: true; the input reads as it did. -/
def octsBackSpec : ChangeSpec := { name := "octsBack", fn := fun _ => fun
  | [d1, d2, d3, d4, d5] => { results := [.lit (.bool true)], args := [d1, d2, d3, d4, d5] }
  | _ => none }
def octsBackRow : OpenClaim := { program := "ythaakbmdfdkjgaa", sum := "c5bcaf3abf2ce51bb9b055848c278b68c80d94717a80240cb65db883464ef7cb", func := "waybill/waybilllaw1.OctsBack", spec := "octsBack", apart := false }
def OctsBackSaid : Prop := octsBackRow.holds Try.pinned (OpenSpec.ofChange octsBackSpec)

/-- ITS FALSE NEIGHBOUR: 'it returns false'. Refute it at one input. -/
def octsBackWrong : ChangeSpec := { name := "octsBack", fn := fun _ => fun
  | [d1, d2, d3, d4, d5] => { results := [.lit (.bool false)], args := [d1, d2, d3, d4, d5] }
  | _ => none }
def OctsBackWrongFalsely : Prop := octsBackRow.holds Try.pinned (OpenSpec.ofChange octsBackWrong)

/-- 'waybilllaw1.OctsOrder': WHATEVER THE INPUT: true; the input reads as it did. -/
def octsOrderSpec : ChangeSpec := { name := "octsOrder", fn := fun _ => fun
  | [d1, d2, d3] => { results := [.lit (.bool true)], args := [d1, d2, d3] }
  | _ => none }
def octsOrderRow : OpenClaim := { program := "ythaakbmdfdkjgaa", sum := "c5bcaf3abf2ce51bb9b055848c278b68c80d94717a80240cb65db883464ef7cb", func := "waybill/waybilllaw1.OctsOrder", spec := "octsOrder", apart := false }
def OctsOrderSaid : Prop := octsOrderRow.holds Try.pinned (OpenSpec.ofChange octsOrderSpec)

/-- ITS FALSE NEIGHBOUR: 'it returns false'. Refute it at one input. -/
def octsOrderWrong : ChangeSpec := { name := "octsOrder", fn := fun _ => fun
  | [d1, d2, d3] => { results := [.lit (.bool false)], args := [d1, d2, d3] }
  | _ => none }
def OctsOrderWrongFalsely : Prop := octsOrderRow.holds Try.pinned (OpenSpec.ofChange octsOrderWrong)

/-- 'waybilllaw2.TablLong': WHATEVER THE INPUT: true; the input reads as it did. -/
def tablLongSpec : ChangeSpec := { name := "tablLong", fn := fun _ => fun
  | [d] => { results := [.lit (.bool true)], args := [d] }
  | _ => none }
def tablLongRow : OpenClaim := { program := "ythaakbmdfdkjgaa", sum := "c5bcaf3abf2ce51bb9b055848c278b68c80d94717a80240cb65db883464ef7cb", func := "waybill/waybilllaw2.TablLong", spec := "tablLong", recurses := true, apart := false }
def TablLongSaid : Prop := tablLongRow.holds Try.pinned (OpenSpec.ofChange tablLongSpec)

/-- ITS FALSE NEIGHBOUR: 'it returns false'. Refute it at one input. -/
def tablLongWrong : ChangeSpec := { name := "tablLong", fn := fun _ => fun
  | [d] => { results := [.lit (.bool false)], args := [d] }
  | _ => none }
def TablLongWrongFalsely : Prop := tablLongRow.holds Try.pinned (OpenSpec.ofChange tablLongWrong)

/-- 'waybilllaw2.TablTells': WHATEVER THE INPUT: true; the input reads as it did. -/
def tablTellsSpec : ChangeSpec := { name := "tablTells", fn := fun _ => fun
  | [d1, d2, d3, d4, d5] => { results := [.lit (.bool true)], args := [d1, d2, d3, d4, d5] }
  | _ => none }
def tablTellsRow : OpenClaim := { program := "ythaakbmdfdkjgaa", sum := "c5bcaf3abf2ce51bb9b055848c278b68c80d94717a80240cb65db883464ef7cb", func := "waybill/waybilllaw2.TablTells", spec := "tablTells", recurses := true, loops := true, apart := false }
def TablTellsSaid : Prop := tablTellsRow.holds Try.pinned (OpenSpec.ofChange tablTellsSpec)

/-- ITS FALSE NEIGHBOUR: 'it returns false'. Refute it at one input. -/
def tablTellsWrong : ChangeSpec := { name := "tablTells", fn := fun _ => fun
  | [d1, d2, d3, d4, d5] => { results := [.lit (.bool false)], args := [d1, d2, d3, d4, d5] }
  | _ => none }
def TablTellsWrongFalsely : Prop := tablTellsRow.holds Try.pinned (OpenSpec.ofChange tablTellsWrong)

/-- 'waybilllaw2.TablBack': WHATEVER THE INPUT: true; the input reads as it did. -/
def tablBackSpec : ChangeSpec := { name := "tablBack", fn := fun _ => fun
  | [d1, d2] => { results := [.lit (.bool true)], args := [d1, d2] }
  | _ => none }
def tablBackRow : OpenClaim := { program := "ythaakbmdfdkjgaa", sum := "c5bcaf3abf2ce51bb9b055848c278b68c80d94717a80240cb65db883464ef7cb", func := "waybill/waybilllaw2.TablBack", spec := "tablBack", recurses := true, loops := true, apart := false }
def TablBackSaid : Prop := tablBackRow.holds Try.pinned (OpenSpec.ofChange tablBackSpec)

/-- ITS FALSE NEIGHBOUR: 'it returns false'. Refute it at one input. -/
def tablBackWrong : ChangeSpec := { name := "tablBack", fn := fun _ => fun
  | [d1, d2] => { results := [.lit (.bool false)], args := [d1, d2] }
  | _ => none }
def TablBackWrongFalsely : Prop := tablBackRow.holds Try.pinned (OpenSpec.ofChange tablBackWrong)

/-- 'waybilllaw2.TablDeep': WHATEVER THE INPUT: true; the input reads as it did. -/
def tablDeepSpec : ChangeSpec := { name := "tablDeep", fn := fun _ => fun
  | [d1, d2, d3] => { results := [.lit (.bool true)], args := [d1, d2, d3] }
  | _ => none }
def tablDeepRow : OpenClaim := { program := "ythaakbmdfdkjgaa", sum := "c5bcaf3abf2ce51bb9b055848c278b68c80d94717a80240cb65db883464ef7cb", func := "waybill/waybilllaw2.TablDeep", spec := "tablDeep", recurses := true, apart := false }
def TablDeepSaid : Prop := tablDeepRow.holds Try.pinned (OpenSpec.ofChange tablDeepSpec)

/-- ITS FALSE NEIGHBOUR: 'it returns false'. Refute it at one input. -/
def tablDeepWrong : ChangeSpec := { name := "tablDeep", fn := fun _ => fun
  | [d1, d2, d3] => { results := [.lit (.bool false)], args := [d1, d2, d3] }
  | _ => none }
def TablDeepWrongFalsely : Prop := tablDeepRow.holds Try.pinned (OpenSpec.ofChange tablDeepWrong)

/- THE SECOND FORM. 'bulk': how many values and letters a reading holds, each counted each time it is reached (what is shared counts as often as it is met; a slice's spare places count too). A statement '..UptoSaid' is the law's where the arguments, and the package variables that the reading takes, are together of bulk at most 1048576: NARROWER than '..Said'. Prove '..Said' where nothing that the law and all that it calls make is longer than what came in: it says more and counts as full. Else prove '..UptoSaid'. A law counts once. -/
mutual
def uptoBulk {H : Type} : DataW H → Nat
  | .lit (.string bytes) => bytes.length + 1
  | .lit _ => 1
  | .nil => 1
  | .ptr d => uptoBulk d + 1
  | .slice elems spare => uptoBulkAll elems + uptoBulkAll spare + 1
  | .agg parts => uptoBulkAll parts + 1
  | .iface _ d => uptoBulk d + 1
  | .map entries => uptoBulkEntries entries + 1
  | .held _ => 1
def uptoBulkAll {H : Type} : List (DataW H) → Nat
  | [] => 0
  | d :: r => uptoBulk d + uptoBulkAll r
def uptoBulkEntries {H : Type} : List (Lit × DataW H) → Nat
  | [] => 0
  | x :: r => uptoBulkEntry x + uptoBulkEntries r
def uptoBulkEntry {H : Type} : Lit × DataW H → Nat
  | (.string bytes, d) => bytes.length + uptoBulk d + 1
  | (_, d) => uptoBulk d + 1
 end
def uptoSmall : (H : Type) → List (DataW H) → Bool := fun _ ds => decide (uptoBulkAll ds ≤ 1048576)
def OpenSpec.upto (s : _root_.Go.ChangeSpec) : _root_.Go.OpenSpec := { _root_.Go.OpenSpec.ofChange s with cond := some uptoSmall }

/-- 'waybilllaw1.OctsCuts', WHERE WHAT IT READS IS OF BULK AT MOST 1048576: true; the input reads as it did. -/
def octsCutsUptoRow : OpenClaim := { program := "ythaakbmdfdkjgaa", sum := "c5bcaf3abf2ce51bb9b055848c278b68c80d94717a80240cb65db883464ef7cb", func := "waybill/waybilllaw1.OctsCuts", spec := "octsCuts", apart := false, narrowed := true }
def OctsCutsUptoSaid : Prop := octsCutsUptoRow.holds Try.pinned (OpenSpec.upto octsCutsSpec)

/-- 'waybilllaw1.OctsBits', WHERE WHAT IT READS IS OF BULK AT MOST 1048576: true; the input reads as it did. -/
def octsBitsUptoRow : OpenClaim := { program := "ythaakbmdfdkjgaa", sum := "c5bcaf3abf2ce51bb9b055848c278b68c80d94717a80240cb65db883464ef7cb", func := "waybill/waybilllaw1.OctsBits", spec := "octsBits", apart := false, narrowed := true }
def OctsBitsUptoSaid : Prop := octsBitsUptoRow.holds Try.pinned (OpenSpec.upto octsBitsSpec)

/-- 'waybilllaw1.OctsReads', WHERE WHAT IT READS IS OF BULK AT MOST 1048576: true; the input reads as it did. -/
def octsReadsUptoRow : OpenClaim := { program := "ythaakbmdfdkjgaa", sum := "c5bcaf3abf2ce51bb9b055848c278b68c80d94717a80240cb65db883464ef7cb", func := "waybill/waybilllaw1.OctsReads", spec := "octsReads", apart := false, narrowed := true }
def OctsReadsUptoSaid : Prop := octsReadsUptoRow.holds Try.pinned (OpenSpec.upto octsReadsSpec)

/-- 'waybilllaw1.OctsBack', WHERE WHAT IT READS IS OF BULK AT MOST 1048576: true; the input reads as it did. -/
def octsBackUptoRow : OpenClaim := { program := "ythaakbmdfdkjgaa", sum := "c5bcaf3abf2ce51bb9b055848c278b68c80d94717a80240cb65db883464ef7cb", func := "waybill/waybilllaw1.OctsBack", spec := "octsBack", apart := false, narrowed := true }
def OctsBackUptoSaid : Prop := octsBackUptoRow.holds Try.pinned (OpenSpec.upto octsBackSpec)

/-- 'waybilllaw1.OctsOrder', WHERE WHAT IT READS IS OF BULK AT MOST 1048576: true; the input reads as it did. -/
def octsOrderUptoRow : OpenClaim := { program := "ythaakbmdfdkjgaa", sum := "c5bcaf3abf2ce51bb9b055848c278b68c80d94717a80240cb65db883464ef7cb", func := "waybill/waybilllaw1.OctsOrder", spec := "octsOrder", apart := false, narrowed := true }
def OctsOrderUptoSaid : Prop := octsOrderUptoRow.holds Try.pinned (OpenSpec.upto octsOrderSpec)

/-- 'waybilllaw2.TablLong', WHERE WHAT IT READS IS OF BULK AT MOST 1048576: true; the input reads as it did. -/
def tablLongUptoRow : OpenClaim := { program := "ythaakbmdfdkjgaa", sum := "c5bcaf3abf2ce51bb9b055848c278b68c80d94717a80240cb65db883464ef7cb", func := "waybill/waybilllaw2.TablLong", spec := "tablLong", recurses := true, apart := false, narrowed := true }
def TablLongUptoSaid : Prop := tablLongUptoRow.holds Try.pinned (OpenSpec.upto tablLongSpec)

/-- 'waybilllaw2.TablTells', WHERE WHAT IT READS IS OF BULK AT MOST 1048576: true; the input reads as it did. -/
def tablTellsUptoRow : OpenClaim := { program := "ythaakbmdfdkjgaa", sum := "c5bcaf3abf2ce51bb9b055848c278b68c80d94717a80240cb65db883464ef7cb", func := "waybill/waybilllaw2.TablTells", spec := "tablTells", recurses := true, loops := true, apart := false, narrowed := true }
def TablTellsUptoSaid : Prop := tablTellsUptoRow.holds Try.pinned (OpenSpec.upto tablTellsSpec)

/-- 'waybilllaw2.TablBack', WHERE WHAT IT READS IS OF BULK AT MOST 1048576: true; the input reads as it did. -/
def tablBackUptoRow : OpenClaim := { program := "ythaakbmdfdkjgaa", sum := "c5bcaf3abf2ce51bb9b055848c278b68c80d94717a80240cb65db883464ef7cb", func := "waybill/waybilllaw2.TablBack", spec := "tablBack", recurses := true, loops := true, apart := false, narrowed := true }
def TablBackUptoSaid : Prop := tablBackUptoRow.holds Try.pinned (OpenSpec.upto tablBackSpec)

/-- 'waybilllaw2.TablDeep', WHERE WHAT IT READS IS OF BULK AT MOST 1048576: true; the input reads as it did. -/
def tablDeepUptoRow : OpenClaim := { program := "ythaakbmdfdkjgaa", sum := "c5bcaf3abf2ce51bb9b055848c278b68c80d94717a80240cb65db883464ef7cb", func := "waybill/waybilllaw2.TablDeep", spec := "tablDeep", recurses := true, apart := false, narrowed := true }
def TablDeepUptoSaid : Prop := tablDeepUptoRow.holds Try.pinned (OpenSpec.upto tablDeepSpec)

end Rows
end Go.Proofs.Ythaakbmdfdkjgaa
