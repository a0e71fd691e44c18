/-
  No cell of these rows narrows 'for every input' (looked for: loops, veiled, ifaces, maps, wideKeys, modest, calm, conditions, laid).
  DERIVED. THE GIVEN ROWS OF THIS SEAT. 4 by the template 'for every input the law returns true; each argument reads behind the call as it read before'; 0 by the template 'total and deterministic' (their statements: YtflbjmpbkcjdhaaTotals.lean).
  GIVEN WITH THE SEED: the statements are not yours to turn. If you find one false, say at which input.
  Laid BY PROGRAM, IN A SANDBOX (cutbox-rows.mjs): the forced cells as the released guide's own fill.sh prints them over the translation 0ffe6303795a7f29… (all of the seat's roots in one cut). By AI agents, Wed Nov 11 2026. No macro, syntax, notation, axiom, sorry.
-/
import Derived.Test.YtflbjmpbkcjdhaaChecked
import GoSem.Claim
import GoSem.ClaimJoined
import GoSem.ClaimMapViews
import Derived.JoinedTies
import Derived.KernelRfl
namespace Go.Proofs.Ytflbjmpbkcjdhaa
/- THE CELL 'sum', in the pinned program and in every row, IS THE sha256 OF THE DUMP (.gsa) THAT YtflbjmpbkcjdhaaProg.lean LOADS. Nothing in Lean hashes anything: it is a label: what it is worth is what the hold of that sum in a sandbox is worth. -/
noncomputable def Try.pinned : Pinned := { name := "ytflbjmpbkcjdhaa", sum := "0ffe6303795a7f29a0cfc164889b4251d90bc86c0f18306eb4f7fc3bca0c737c", checked := Try.checked }
namespace Rows
def none {H : Type} : Left H := { results := [], args := [] }

/-- 'waybilllaw13.UnitBounds': WHATEVER THE INPUT: true; the input reads as it did. -/
def unitBoundsSpec : ChangeSpec := { name := "unitBounds", fn := fun _ => fun
  | [d1, d2, d3] => { results := [.lit (.bool true)], args := [d1, d2, d3] }
  | _ => none }
def unitBoundsRow : OpenClaim := { program := "ytflbjmpbkcjdhaa", sum := "0ffe6303795a7f29a0cfc164889b4251d90bc86c0f18306eb4f7fc3bca0c737c", func := "waybill/waybilllaw13.UnitBounds", spec := "unitBounds", unfollowed := true, recurses := true, apart := false }
def UnitBoundsSaid : Prop := unitBoundsRow.holds Try.pinned (OpenSpec.ofChange unitBoundsSpec)

/-- ITS FALSE NEIGHBOUR: 'it returns false'. Refute it at one input. -/
def unitBoundsWrong : ChangeSpec := { name := "unitBounds", fn := fun _ => fun
  | [d1, d2, d3] => { results := [.lit (.bool false)], args := [d1, d2, d3] }
  | _ => none }
def UnitBoundsWrongFalsely : Prop := unitBoundsRow.holds Try.pinned (OpenSpec.ofChange unitBoundsWrong)

/-- 'waybilllaw13.UnitTells': WHATEVER THE INPUT: true; the input reads as it did. -/
def unitTellsSpec : ChangeSpec := { name := "unitTells", fn := fun _ => fun
  | [d1, d2, d3, d4, d5] => { results := [.lit (.bool true)], args := [d1, d2, d3, d4, d5] }
  | _ => none }
def unitTellsRow : OpenClaim := { program := "ytflbjmpbkcjdhaa", sum := "0ffe6303795a7f29a0cfc164889b4251d90bc86c0f18306eb4f7fc3bca0c737c", func := "waybill/waybilllaw13.UnitTells", spec := "unitTells", unfollowed := true, recurses := true, apart := false }
def UnitTellsSaid : Prop := unitTellsRow.holds Try.pinned (OpenSpec.ofChange unitTellsSpec)

/-- ITS FALSE NEIGHBOUR: 'it returns false'. Refute it at one input. -/
def unitTellsWrong : ChangeSpec := { name := "unitTells", fn := fun _ => fun
  | [d1, d2, d3, d4, d5] => { results := [.lit (.bool false)], args := [d1, d2, d3, d4, d5] }
  | _ => none }
def UnitTellsWrongFalsely : Prop := unitTellsRow.holds Try.pinned (OpenSpec.ofChange unitTellsWrong)

/-- 'waybilllaw13.UnitApplies': WHATEVER THE INPUT: true; the input reads as it did. -/
def unitAppliesSpec : ChangeSpec := { name := "unitApplies", fn := fun _ => fun
  | [d1, d2, d3] => { results := [.lit (.bool true)], args := [d1, d2, d3] }
  | _ => none }
def unitAppliesRow : OpenClaim := { program := "ytflbjmpbkcjdhaa", sum := "0ffe6303795a7f29a0cfc164889b4251d90bc86c0f18306eb4f7fc3bca0c737c", func := "waybill/waybilllaw13.UnitApplies", spec := "unitApplies", unfollowed := true, recurses := true, apart := false }
def UnitAppliesSaid : Prop := unitAppliesRow.holds Try.pinned (OpenSpec.ofChange unitAppliesSpec)

/-- ITS FALSE NEIGHBOUR: 'it returns false'. Refute it at one input. -/
def unitAppliesWrong : ChangeSpec := { name := "unitApplies", fn := fun _ => fun
  | [d1, d2, d3] => { results := [.lit (.bool false)], args := [d1, d2, d3] }
  | _ => none }
def UnitAppliesWrongFalsely : Prop := unitAppliesRow.holds Try.pinned (OpenSpec.ofChange unitAppliesWrong)

/-- 'waybilllaw13.UnitPlaces': WHATEVER THE INPUT: true; the input reads as it did. -/
def unitPlacesSpec : ChangeSpec := { name := "unitPlaces", fn := fun _ => fun
  | [d] => { results := [.lit (.bool true)], args := [d] }
  | _ => none }
def unitPlacesRow : OpenClaim := { program := "ytflbjmpbkcjdhaa", sum := "0ffe6303795a7f29a0cfc164889b4251d90bc86c0f18306eb4f7fc3bca0c737c", func := "waybill/waybilllaw13.UnitPlaces", spec := "unitPlaces", unfollowed := true, recurses := true, apart := false }
def UnitPlacesSaid : Prop := unitPlacesRow.holds Try.pinned (OpenSpec.ofChange unitPlacesSpec)

/-- ITS FALSE NEIGHBOUR: 'it returns false'. Refute it at one input. -/
def unitPlacesWrong : ChangeSpec := { name := "unitPlaces", fn := fun _ => fun
  | [d] => { results := [.lit (.bool false)], args := [d] }
  | _ => none }
def UnitPlacesWrongFalsely : Prop := unitPlacesRow.holds Try.pinned (OpenSpec.ofChange unitPlacesWrong)

/- THE SECOND FORM. 'bulk': how many values and letters a reading holds, each counted each time it is reached (what is shared counts as often as it is met; a slice's spare places count too). A statement '..UptoSaid' is the law's where the arguments, and the package variables that the reading takes, are together of bulk at most 1048576: NARROWER than '..Said'. Prove '..Said' where nothing that the law and all that it calls make is longer than what came in: it says more and counts as full. Else prove '..UptoSaid'. A law counts once. -/
mutual
def uptoBulk {H : Type} : DataW H → Nat
  | .lit (.string bytes) => bytes.length + 1
  | .lit _ => 1
  | .nil => 1
  | .ptr d => uptoBulk d + 1
  | .slice elems spare => uptoBulkAll elems + uptoBulkAll spare + 1
  | .agg parts => uptoBulkAll parts + 1
  | .iface _ d => uptoBulk d + 1
  | .map entries => uptoBulkEntries entries + 1
  | .held _ => 1
def uptoBulkAll {H : Type} : List (DataW H) → Nat
  | [] => 0
  | d :: r => uptoBulk d + uptoBulkAll r
def uptoBulkEntries {H : Type} : List (Lit × DataW H) → Nat
  | [] => 0
  | x :: r => uptoBulkEntry x + uptoBulkEntries r
def uptoBulkEntry {H : Type} : Lit × DataW H → Nat
  | (.string bytes, d) => bytes.length + uptoBulk d + 1
  | (_, d) => uptoBulk d + 1
 end
def uptoSmall : (H : Type) → List (DataW H) → Bool := fun _ ds => decide (uptoBulkAll ds ≤ 1048576)
def OpenSpec.upto (s : _root_.Go.ChangeSpec) : _root_.Go.OpenSpec := { _root_.Go.OpenSpec.ofChange s with cond := some uptoSmall }

/-- 'waybilllaw13.UnitBounds', WHERE WHAT IT READS IS OF BULK AT MOST 1048576: true; the input reads as it did. -/
def unitBoundsUptoRow : OpenClaim := { program := "ytflbjmpbkcjdhaa", sum := "0ffe6303795a7f29a0cfc164889b4251d90bc86c0f18306eb4f7fc3bca0c737c", func := "waybill/waybilllaw13.UnitBounds", spec := "unitBounds", unfollowed := true, recurses := true, apart := false, narrowed := true }
def UnitBoundsUptoSaid : Prop := unitBoundsUptoRow.holds Try.pinned (OpenSpec.upto unitBoundsSpec)

/-- 'waybilllaw13.UnitTells', WHERE WHAT IT READS IS OF BULK AT MOST 1048576: true; the input reads as it did. -/
def unitTellsUptoRow : OpenClaim := { program := "ytflbjmpbkcjdhaa", sum := "0ffe6303795a7f29a0cfc164889b4251d90bc86c0f18306eb4f7fc3bca0c737c", func := "waybill/waybilllaw13.UnitTells", spec := "unitTells", unfollowed := true, recurses := true, apart := false, narrowed := true }
def UnitTellsUptoSaid : Prop := unitTellsUptoRow.holds Try.pinned (OpenSpec.upto unitTellsSpec)

/-- 'waybilllaw13.UnitApplies', WHERE WHAT IT READS IS OF BULK AT MOST 1048576: true; the input reads as it did. -/
def unitAppliesUptoRow : OpenClaim := { program := "ytflbjmpbkcjdhaa", sum := "0ffe6303795a7f29a0cfc164889b4251d90bc86c0f18306eb4f7fc3bca0c737c", func := "waybill/waybilllaw13.UnitApplies", spec := "unitApplies", unfollowed := true, recurses := true, apart := false, narrowed := true }
def UnitAppliesUptoSaid : Prop := unitAppliesUptoRow.holds Try.pinned (OpenSpec.upto unitAppliesSpec)

/-- 'waybilllaw13.UnitPlaces', WHERE WHAT IT READS IS OF BULK AT MOST 1048576: true; the input reads as it did. -/
def unitPlacesUptoRow : OpenClaim := { program := "ytflbjmpbkcjdhaa", sum := "0ffe6303795a7f29a0cfc164889b4251d90bc86c0f18306eb4f7fc3bca0c737c", func := "waybill/waybilllaw13.UnitPlaces", spec := "unitPlaces", unfollowed := true, recurses := true, apart := false, narrowed := true }
def UnitPlacesUptoSaid : Prop := unitPlacesUptoRow.holds Try.pinned (OpenSpec.upto unitPlacesSpec)

end Rows
end Go.Proofs.Ytflbjmpbkcjdhaa
