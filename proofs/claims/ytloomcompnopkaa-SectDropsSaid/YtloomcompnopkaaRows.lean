/-
  No cell of these rows narrows 'for every input' (looked for: loops, veiled, ifaces, maps, wideKeys, modest, calm, conditions, laid).
  DERIVED. THE GIVEN ROWS OF THIS SEAT. 6 by the template 'for every input the law returns true; each argument reads behind the call as it read before'; 0 by the template 'total and deterministic' (their statements: YtloomcompnopkaaTotals.lean).
  GIVEN WITH THE SEED: the statements are not yours to turn. If you find one false, say at which input.
  Laid BY PROGRAM, IN A SANDBOX (cutbox-rows.mjs): the forced cells as the released guide's own fill.sh prints them over the translation b34307cf52e13fc3… (all of the seat's roots in one cut). By AI agents, Wed Nov 11 2026. No macro, syntax, notation, axiom, sorry.
-/
import Derived.Test.YtloomcompnopkaaChecked
import GoSem.Claim
import GoSem.ClaimJoined
import GoSem.ClaimMapViews
import Derived.JoinedTies
import Derived.KernelRfl
namespace Go.Proofs.Ytloomcompnopkaa
/- THE CELL 'sum', in the pinned program and in every row, IS THE sha256 OF THE DUMP (.gsa) THAT YtloomcompnopkaaProg.lean LOADS. Nothing in Lean hashes anything: it is a label: what it is worth is what the hold of that sum in a sandbox is worth. -/
noncomputable def Try.pinned : Pinned := { name := "ytloomcompnopkaa", sum := "b34307cf52e13fc3fda8a54a2bfe7463690da79e70f83d8bdee12c335738563f", checked := Try.checked }
namespace Rows
def none {H : Type} : Left H := { results := [], args := [] }

/-- 'waybilllaw7.SectDrops': WHATEVER THE INPUT: true; the input reads as it did. -/
def sectDropsSpec : ChangeSpec := { name := "sectDrops", fn := fun _ => fun
  | [d1, d2] => { results := [.lit (.bool true)], args := [d1, d2] }
  | _ => none }
def sectDropsRow : OpenClaim := { program := "ytloomcompnopkaa", sum := "b34307cf52e13fc3fda8a54a2bfe7463690da79e70f83d8bdee12c335738563f", func := "waybill/waybilllaw7.SectDrops", spec := "sectDrops", unfollowed := true, recurses := true, plainKeys := false, apart := false }
def SectDropsSaid : Prop := sectDropsRow.holds Try.pinned (OpenSpec.ofChange sectDropsSpec)

/-- ITS FALSE NEIGHBOUR: 'it returns false'. Refute it at one input. -/
def sectDropsWrong : ChangeSpec := { name := "sectDrops", fn := fun _ => fun
  | [d1, d2] => { results := [.lit (.bool false)], args := [d1, d2] }
  | _ => none }
def SectDropsWrongFalsely : Prop := sectDropsRow.holds Try.pinned (OpenSpec.ofChange sectDropsWrong)

/-- 'waybilllaw7.SectEnds': WHATEVER THE INPUT: true; the input reads as it did. -/
def sectEndsSpec : ChangeSpec := { name := "sectEnds", fn := fun _ => fun
  | [d] => { results := [.lit (.bool true)], args := [d] }
  | _ => none }
def sectEndsRow : OpenClaim := { program := "ytloomcompnopkaa", sum := "b34307cf52e13fc3fda8a54a2bfe7463690da79e70f83d8bdee12c335738563f", func := "waybill/waybilllaw7.SectEnds", spec := "sectEnds", unfollowed := true, recurses := true, plainKeys := false, apart := false }
def SectEndsSaid : Prop := sectEndsRow.holds Try.pinned (OpenSpec.ofChange sectEndsSpec)

/-- ITS FALSE NEIGHBOUR: 'it returns false'. Refute it at one input. -/
def sectEndsWrong : ChangeSpec := { name := "sectEnds", fn := fun _ => fun
  | [d] => { results := [.lit (.bool false)], args := [d] }
  | _ => none }
def SectEndsWrongFalsely : Prop := sectEndsRow.holds Try.pinned (OpenSpec.ofChange sectEndsWrong)

/-- 'waybilllaw7.SectPlays': WHATEVER THE INPUT: true; the input reads as it did. -/
def sectPlaysSpec : ChangeSpec := { name := "sectPlays", fn := fun _ => fun
  | [d1, d2] => { results := [.lit (.bool true)], args := [d1, d2] }
  | _ => none }
def sectPlaysRow : OpenClaim := { program := "ytloomcompnopkaa", sum := "b34307cf52e13fc3fda8a54a2bfe7463690da79e70f83d8bdee12c335738563f", func := "waybill/waybilllaw7.SectPlays", spec := "sectPlays", inPlace := ["maps.clone"], unfollowed := true, recurses := true, plainKeys := false, apart := false }
def SectPlaysSaid : Prop := sectPlaysRow.holds Try.pinned (OpenSpec.ofChange sectPlaysSpec)

/-- ITS FALSE NEIGHBOUR: 'it returns false'. Refute it at one input. -/
def sectPlaysWrong : ChangeSpec := { name := "sectPlays", fn := fun _ => fun
  | [d1, d2] => { results := [.lit (.bool false)], args := [d1, d2] }
  | _ => none }
def SectPlaysWrongFalsely : Prop := sectPlaysRow.holds Try.pinned (OpenSpec.ofChange sectPlaysWrong)

/-- 'waybilllaw7.SectSyncs': WHATEVER THE INPUT: true; the input reads as it did. -/
def sectSyncsSpec : ChangeSpec := { name := "sectSyncs", fn := fun _ => fun
  | [d1, d2, d3] => { results := [.lit (.bool true)], args := [d1, d2, d3] }
  | _ => none }
def sectSyncsRow : OpenClaim := { program := "ytloomcompnopkaa", sum := "b34307cf52e13fc3fda8a54a2bfe7463690da79e70f83d8bdee12c335738563f", func := "waybill/waybilllaw7.SectSyncs", spec := "sectSyncs", unfollowed := true, recurses := true, plainKeys := false, apart := false }
def SectSyncsSaid : Prop := sectSyncsRow.holds Try.pinned (OpenSpec.ofChange sectSyncsSpec)

/-- ITS FALSE NEIGHBOUR: 'it returns false'. Refute it at one input. -/
def sectSyncsWrong : ChangeSpec := { name := "sectSyncs", fn := fun _ => fun
  | [d1, d2, d3] => { results := [.lit (.bool false)], args := [d1, d2, d3] }
  | _ => none }
def SectSyncsWrongFalsely : Prop := sectSyncsRow.holds Try.pinned (OpenSpec.ofChange sectSyncsWrong)

/-- 'waybilllaw7.SectFuse': WHATEVER THE INPUT: true; the input reads as it did. -/
def sectFuseSpec : ChangeSpec := { name := "sectFuse", fn := fun _ => fun
  | [d1, d2] => { results := [.lit (.bool true)], args := [d1, d2] }
  | _ => none }
def sectFuseRow : OpenClaim := { program := "ytloomcompnopkaa", sum := "b34307cf52e13fc3fda8a54a2bfe7463690da79e70f83d8bdee12c335738563f", func := "waybill/waybilllaw7.SectFuse", spec := "sectFuse", unfollowed := true, recurses := true, plainKeys := false, apart := false }
def SectFuseSaid : Prop := sectFuseRow.holds Try.pinned (OpenSpec.ofChange sectFuseSpec)

/-- ITS FALSE NEIGHBOUR: 'it returns false'. Refute it at one input. -/
def sectFuseWrong : ChangeSpec := { name := "sectFuse", fn := fun _ => fun
  | [d1, d2] => { results := [.lit (.bool false)], args := [d1, d2] }
  | _ => none }
def SectFuseWrongFalsely : Prop := sectFuseRow.holds Try.pinned (OpenSpec.ofChange sectFuseWrong)

/-- 'waybilllaw7.SectFull': WHATEVER THE INPUT: true; the input reads as it did. -/
def sectFullSpec : ChangeSpec := { name := "sectFull", fn := fun _ => fun
  | [d1, d2, d3] => { results := [.lit (.bool true)], args := [d1, d2, d3] }
  | _ => none }
def sectFullRow : OpenClaim := { program := "ytloomcompnopkaa", sum := "b34307cf52e13fc3fda8a54a2bfe7463690da79e70f83d8bdee12c335738563f", func := "waybill/waybilllaw7.SectFull", spec := "sectFull", unfollowed := true, recurses := true, plainKeys := false, apart := false }
def SectFullSaid : Prop := sectFullRow.holds Try.pinned (OpenSpec.ofChange sectFullSpec)

/-- ITS FALSE NEIGHBOUR: 'it returns false'. Refute it at one input. -/
def sectFullWrong : ChangeSpec := { name := "sectFull", fn := fun _ => fun
  | [d1, d2, d3] => { results := [.lit (.bool false)], args := [d1, d2, d3] }
  | _ => none }
def SectFullWrongFalsely : Prop := sectFullRow.holds Try.pinned (OpenSpec.ofChange sectFullWrong)

/- THE SECOND FORM. 'bulk': how many values and letters a reading holds, each counted each time it is reached (what is shared counts as often as it is met; a slice's spare places count too). A statement '..UptoSaid' is the law's where the arguments, and the package variables that the reading takes, are together of bulk at most 1048576: NARROWER than '..Said'. Prove '..Said' where nothing that the law and all that it calls make is longer than what came in: it says more and counts as full. Else prove '..UptoSaid'. A law counts once. -/
mutual
def uptoBulk {H : Type} : DataW H → Nat
  | .lit (.string bytes) => bytes.length + 1
  | .lit _ => 1
  | .nil => 1
  | .ptr d => uptoBulk d + 1
  | .slice elems spare => uptoBulkAll elems + uptoBulkAll spare + 1
  | .agg parts => uptoBulkAll parts + 1
  | .iface _ d => uptoBulk d + 1
  | .map entries => uptoBulkEntries entries + 1
  | .held _ => 1
def uptoBulkAll {H : Type} : List (DataW H) → Nat
  | [] => 0
  | d :: r => uptoBulk d + uptoBulkAll r
def uptoBulkEntries {H : Type} : List (Lit × DataW H) → Nat
  | [] => 0
  | x :: r => uptoBulkEntry x + uptoBulkEntries r
def uptoBulkEntry {H : Type} : Lit × DataW H → Nat
  | (.string bytes, d) => bytes.length + uptoBulk d + 1
  | (_, d) => uptoBulk d + 1
 end
def uptoSmall : (H : Type) → List (DataW H) → Bool := fun _ ds => decide (uptoBulkAll ds ≤ 1048576)
def OpenSpec.upto (s : _root_.Go.ChangeSpec) : _root_.Go.OpenSpec := { _root_.Go.OpenSpec.ofChange s with cond := some uptoSmall }

/-- 'waybilllaw7.SectDrops', WHERE WHAT IT READS IS OF BULK AT MOST 1048576: true; the input reads as it did. -/
def sectDropsUptoRow : OpenClaim := { program := "ytloomcompnopkaa", sum := "b34307cf52e13fc3fda8a54a2bfe7463690da79e70f83d8bdee12c335738563f", func := "waybill/waybilllaw7.SectDrops", spec := "sectDrops", unfollowed := true, recurses := true, plainKeys := false, apart := false, narrowed := true }
def SectDropsUptoSaid : Prop := sectDropsUptoRow.holds Try.pinned (OpenSpec.upto sectDropsSpec)

/-- 'waybilllaw7.SectEnds', WHERE WHAT IT READS IS OF BULK AT MOST 1048576: true; the input reads as it did. -/
def sectEndsUptoRow : OpenClaim := { program := "ytloomcompnopkaa", sum := "b34307cf52e13fc3fda8a54a2bfe7463690da79e70f83d8bdee12c335738563f", func := "waybill/waybilllaw7.SectEnds", spec := "sectEnds", unfollowed := true, recurses := true, plainKeys := false, apart := false, narrowed := true }
def SectEndsUptoSaid : Prop := sectEndsUptoRow.holds Try.pinned (OpenSpec.upto sectEndsSpec)

/-- 'waybilllaw7.SectPlays', WHERE WHAT IT READS IS OF BULK AT MOST 1048576: true; the input reads as it did. -/
def sectPlaysUptoRow : OpenClaim := { program := "ytloomcompnopkaa", sum := "b34307cf52e13fc3fda8a54a2bfe7463690da79e70f83d8bdee12c335738563f", func := "waybill/waybilllaw7.SectPlays", spec := "sectPlays", inPlace := ["maps.clone"], unfollowed := true, recurses := true, plainKeys := false, apart := false, narrowed := true }
def SectPlaysUptoSaid : Prop := sectPlaysUptoRow.holds Try.pinned (OpenSpec.upto sectPlaysSpec)

/-- 'waybilllaw7.SectSyncs', WHERE WHAT IT READS IS OF BULK AT MOST 1048576: true; the input reads as it did. -/
def sectSyncsUptoRow : OpenClaim := { program := "ytloomcompnopkaa", sum := "b34307cf52e13fc3fda8a54a2bfe7463690da79e70f83d8bdee12c335738563f", func := "waybill/waybilllaw7.SectSyncs", spec := "sectSyncs", unfollowed := true, recurses := true, plainKeys := false, apart := false, narrowed := true }
def SectSyncsUptoSaid : Prop := sectSyncsUptoRow.holds Try.pinned (OpenSpec.upto sectSyncsSpec)

/-- 'waybilllaw7.SectFuse', WHERE WHAT IT READS IS OF BULK AT MOST 1048576: true; the input reads as it did. -/
def sectFuseUptoRow : OpenClaim := { program := "ytloomcompnopkaa", sum := "b34307cf52e13fc3fda8a54a2bfe7463690da79e70f83d8bdee12c335738563f", func := "waybill/waybilllaw7.SectFuse", spec := "sectFuse", unfollowed := true, recurses := true, plainKeys := false, apart := false, narrowed := true }
def SectFuseUptoSaid : Prop := sectFuseUptoRow.holds Try.pinned (OpenSpec.upto sectFuseSpec)

/-- 'waybilllaw7.SectFull', WHERE WHAT IT READS IS OF BULK AT MOST 1048576: true; the input reads as it did. -/
def sectFullUptoRow : OpenClaim := { program := "ytloomcompnopkaa", sum := "b34307cf52e13fc3fda8a54a2bfe7463690da79e70f83d8bdee12c335738563f", func := "waybill/waybilllaw7.SectFull", spec := "sectFull", unfollowed := true, recurses := true, plainKeys := false, apart := false, narrowed := true }
def SectFullUptoSaid : Prop := sectFullUptoRow.holds Try.pinned (OpenSpec.upto sectFullSpec)

end Rows
end Go.Proofs.Ytloomcompnopkaa
