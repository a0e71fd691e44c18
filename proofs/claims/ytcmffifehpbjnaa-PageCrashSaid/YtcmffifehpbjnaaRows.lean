/-
  No cell of these rows narrows 'for every input' (looked for: loops, veiled, ifaces, maps, wideKeys, modest, calm, conditions, laid).
  DERIVED. THE GIVEN ROWS OF THIS SEAT. 6 by the template 'for every input the law returns true; each argument reads behind the call as it read before'; 0 by the template 'total and deterministic' (their statements: YtcmffifehpbjnaaTotals.lean).
  GIVEN WITH THE SEED: the statements are not yours to turn. If you find one false, say at which input.
  Laid BY PROGRAM, IN A SANDBOX (cutbox-rows.mjs): the forced cells as the released guide's own fill.sh prints them over the translation 06802452d5d10994… (all of the seat's roots in one cut). By AI agents, Wed Nov 11 2026. No macro, syntax, notation, axiom, sorry.
-/
import Derived.Test.YtcmffifehpbjnaaChecked
import GoSem.Claim
import GoSem.ClaimJoined
import GoSem.ClaimMapViews
import Derived.JoinedTies
import Derived.KernelRfl
namespace Go.Proofs.Ytcmffifehpbjnaa
/- THE CELL 'sum', in the pinned program and in every row, IS THE sha256 OF THE DUMP (.gsa) THAT YtcmffifehpbjnaaProg.lean LOADS. Nothing in Lean hashes anything: it is a label: what it is worth is what the hold of that sum in a sandbox is worth. -/
noncomputable def Try.pinned : Pinned := { name := "ytcmffifehpbjnaa", sum := "06802452d5d109949610325ca30e270a97c76d4b76d63a8a66a7afcb80052cf1", checked := Try.checked }
namespace Rows
def none {H : Type} : Left H := { results := [], args := [] }

/-- 'waybilllaw9.PageTwice': WHATEVER THE INPUT: true; the input reads as it did. -/
def pageTwiceSpec : ChangeSpec := { name := "pageTwice", fn := fun _ => fun
  | [d] => { results := [.lit (.bool true)], args := [d] }
  | _ => none }
def pageTwiceRow : OpenClaim := { program := "ytcmffifehpbjnaa", sum := "06802452d5d109949610325ca30e270a97c76d4b76d63a8a66a7afcb80052cf1", func := "waybill/waybilllaw9.PageTwice", spec := "pageTwice", inPlace := ["maps.clone"], plainKeys := false, apart := false }
def PageTwiceSaid : Prop := pageTwiceRow.holds Try.pinned (OpenSpec.ofChange pageTwiceSpec)

/-- ITS FALSE NEIGHBOUR: 'it returns false'. Refute it at one input. -/
def pageTwiceWrong : ChangeSpec := { name := "pageTwice", fn := fun _ => fun
  | [d] => { results := [.lit (.bool false)], args := [d] }
  | _ => none }
def PageTwiceWrongFalsely : Prop := pageTwiceRow.holds Try.pinned (OpenSpec.ofChange pageTwiceWrong)

/-- 'waybilllaw9.PageRoom': WHATEVER THE INPUT: true; the input reads as it did. -/
def pageRoomSpec : ChangeSpec := { name := "pageRoom", fn := fun _ => fun
  | [d] => { results := [.lit (.bool true)], args := [d] }
  | _ => none }
def pageRoomRow : OpenClaim := { program := "ytcmffifehpbjnaa", sum := "06802452d5d109949610325ca30e270a97c76d4b76d63a8a66a7afcb80052cf1", func := "waybill/waybilllaw9.PageRoom", spec := "pageRoom", plainKeys := false, apart := false }
def PageRoomSaid : Prop := pageRoomRow.holds Try.pinned (OpenSpec.ofChange pageRoomSpec)

/-- ITS FALSE NEIGHBOUR: 'it returns false'. Refute it at one input. -/
def pageRoomWrong : ChangeSpec := { name := "pageRoom", fn := fun _ => fun
  | [d] => { results := [.lit (.bool false)], args := [d] }
  | _ => none }
def PageRoomWrongFalsely : Prop := pageRoomRow.holds Try.pinned (OpenSpec.ofChange pageRoomWrong)

/-- 'waybilllaw9.PagePlays': WHATEVER THE INPUT: true; the input reads as it did. -/
def pagePlaysSpec : ChangeSpec := { name := "pagePlays", fn := fun _ => fun
  | [d] => { results := [.lit (.bool true)], args := [d] }
  | _ => none }
def pagePlaysRow : OpenClaim := { program := "ytcmffifehpbjnaa", sum := "06802452d5d109949610325ca30e270a97c76d4b76d63a8a66a7afcb80052cf1", func := "waybill/waybilllaw9.PagePlays", spec := "pagePlays", plainKeys := false, apart := false }
def PagePlaysSaid : Prop := pagePlaysRow.holds Try.pinned (OpenSpec.ofChange pagePlaysSpec)

/-- ITS FALSE NEIGHBOUR: 'it returns false'. Refute it at one input. -/
def pagePlaysWrong : ChangeSpec := { name := "pagePlays", fn := fun _ => fun
  | [d] => { results := [.lit (.bool false)], args := [d] }
  | _ => none }
def PagePlaysWrongFalsely : Prop := pagePlaysRow.holds Try.pinned (OpenSpec.ofChange pagePlaysWrong)

/-- 'waybilllaw9.PageCrash': WHATEVER THE INPUT: true; the input reads as it did. -/
def pageCrashSpec : ChangeSpec := { name := "pageCrash", fn := fun _ => fun
  | [d1, d2, d3] => { results := [.lit (.bool true)], args := [d1, d2, d3] }
  | _ => none }
def pageCrashRow : OpenClaim := { program := "ytcmffifehpbjnaa", sum := "06802452d5d109949610325ca30e270a97c76d4b76d63a8a66a7afcb80052cf1", func := "waybill/waybilllaw9.PageCrash", spec := "pageCrash", unfollowed := true, recurses := true, plainKeys := false, apart := false }
def PageCrashSaid : Prop := pageCrashRow.holds Try.pinned (OpenSpec.ofChange pageCrashSpec)

/-- ITS FALSE NEIGHBOUR: 'it returns false'. Refute it at one input. -/
def pageCrashWrong : ChangeSpec := { name := "pageCrash", fn := fun _ => fun
  | [d1, d2, d3] => { results := [.lit (.bool false)], args := [d1, d2, d3] }
  | _ => none }
def PageCrashWrongFalsely : Prop := pageCrashRow.holds Try.pinned (OpenSpec.ofChange pageCrashWrong)

/-- 'waybilllaw9.PageMeta': WHATEVER THE INPUT: true; the input reads as it did. -/
def pageMetaSpec : ChangeSpec := { name := "pageMeta", fn := fun _ => fun
  | [d1, d2] => { results := [.lit (.bool true)], args := [d1, d2] }
  | _ => none }
def pageMetaRow : OpenClaim := { program := "ytcmffifehpbjnaa", sum := "06802452d5d109949610325ca30e270a97c76d4b76d63a8a66a7afcb80052cf1", func := "waybill/waybilllaw9.PageMeta", spec := "pageMeta", plainKeys := false, apart := false }
def PageMetaSaid : Prop := pageMetaRow.holds Try.pinned (OpenSpec.ofChange pageMetaSpec)

/-- ITS FALSE NEIGHBOUR: 'it returns false'. Refute it at one input. -/
def pageMetaWrong : ChangeSpec := { name := "pageMeta", fn := fun _ => fun
  | [d1, d2] => { results := [.lit (.bool false)], args := [d1, d2] }
  | _ => none }
def PageMetaWrongFalsely : Prop := pageMetaRow.holds Try.pinned (OpenSpec.ofChange pageMetaWrong)

/-- 'waybilllaw9.PageRefuses': WHATEVER THE INPUT: true; the input reads as it did. -/
def pageRefusesSpec : ChangeSpec := { name := "pageRefuses", fn := fun _ => fun
  | [d1, d2, d3, d4] => { results := [.lit (.bool true)], args := [d1, d2, d3, d4] }
  | _ => none }
def pageRefusesRow : OpenClaim := { program := "ytcmffifehpbjnaa", sum := "06802452d5d109949610325ca30e270a97c76d4b76d63a8a66a7afcb80052cf1", func := "waybill/waybilllaw9.PageRefuses", spec := "pageRefuses", plainKeys := false, apart := false }
def PageRefusesSaid : Prop := pageRefusesRow.holds Try.pinned (OpenSpec.ofChange pageRefusesSpec)

/-- ITS FALSE NEIGHBOUR: 'it returns false'. Refute it at one input. -/
def pageRefusesWrong : ChangeSpec := { name := "pageRefuses", fn := fun _ => fun
  | [d1, d2, d3, d4] => { results := [.lit (.bool false)], args := [d1, d2, d3, d4] }
  | _ => none }
def PageRefusesWrongFalsely : Prop := pageRefusesRow.holds Try.pinned (OpenSpec.ofChange pageRefusesWrong)

/- THE SECOND FORM. 'bulk': how many values and letters a reading holds, each counted each time it is reached (what is shared counts as often as it is met; a slice's spare places count too). A statement '..UptoSaid' is the law's where the arguments, and the package variables that the reading takes, are together of bulk at most 1048576: NARROWER than '..Said'. Prove '..Said' where nothing that the law and all that it calls make is longer than what came in: it says more and counts as full. Else prove '..UptoSaid'. A law counts once. -/
mutual
def uptoBulk {H : Type} : DataW H → Nat
  | .lit (.string bytes) => bytes.length + 1
  | .lit _ => 1
  | .nil => 1
  | .ptr d => uptoBulk d + 1
  | .slice elems spare => uptoBulkAll elems + uptoBulkAll spare + 1
  | .agg parts => uptoBulkAll parts + 1
  | .iface _ d => uptoBulk d + 1
  | .map entries => uptoBulkEntries entries + 1
  | .held _ => 1
def uptoBulkAll {H : Type} : List (DataW H) → Nat
  | [] => 0
  | d :: r => uptoBulk d + uptoBulkAll r
def uptoBulkEntries {H : Type} : List (Lit × DataW H) → Nat
  | [] => 0
  | x :: r => uptoBulkEntry x + uptoBulkEntries r
def uptoBulkEntry {H : Type} : Lit × DataW H → Nat
  | (.string bytes, d) => bytes.length + uptoBulk d + 1
  | (_, d) => uptoBulk d + 1
 end
def uptoSmall : (H : Type) → List (DataW H) → Bool := fun _ ds => decide (uptoBulkAll ds ≤ 1048576)
def OpenSpec.upto (s : _root_.Go.ChangeSpec) : _root_.Go.OpenSpec := { _root_.Go.OpenSpec.ofChange s with cond := some uptoSmall }

/-- 'waybilllaw9.PageTwice', WHERE WHAT IT READS IS OF BULK AT MOST 1048576: true; the input reads as it did. -/
def pageTwiceUptoRow : OpenClaim := { program := "ytcmffifehpbjnaa", sum := "06802452d5d109949610325ca30e270a97c76d4b76d63a8a66a7afcb80052cf1", func := "waybill/waybilllaw9.PageTwice", spec := "pageTwice", inPlace := ["maps.clone"], plainKeys := false, apart := false, narrowed := true }
def PageTwiceUptoSaid : Prop := pageTwiceUptoRow.holds Try.pinned (OpenSpec.upto pageTwiceSpec)

/-- 'waybilllaw9.PageRoom', WHERE WHAT IT READS IS OF BULK AT MOST 1048576: true; the input reads as it did. -/
def pageRoomUptoRow : OpenClaim := { program := "ytcmffifehpbjnaa", sum := "06802452d5d109949610325ca30e270a97c76d4b76d63a8a66a7afcb80052cf1", func := "waybill/waybilllaw9.PageRoom", spec := "pageRoom", plainKeys := false, apart := false, narrowed := true }
def PageRoomUptoSaid : Prop := pageRoomUptoRow.holds Try.pinned (OpenSpec.upto pageRoomSpec)

/-- 'waybilllaw9.PagePlays', WHERE WHAT IT READS IS OF BULK AT MOST 1048576: true; the input reads as it did. -/
def pagePlaysUptoRow : OpenClaim := { program := "ytcmffifehpbjnaa", sum := "06802452d5d109949610325ca30e270a97c76d4b76d63a8a66a7afcb80052cf1", func := "waybill/waybilllaw9.PagePlays", spec := "pagePlays", plainKeys := false, apart := false, narrowed := true }
def PagePlaysUptoSaid : Prop := pagePlaysUptoRow.holds Try.pinned (OpenSpec.upto pagePlaysSpec)

/-- 'waybilllaw9.PageCrash', WHERE WHAT IT READS IS OF BULK AT MOST 1048576: true; the input reads as it did. -/
def pageCrashUptoRow : OpenClaim := { program := "ytcmffifehpbjnaa", sum := "06802452d5d109949610325ca30e270a97c76d4b76d63a8a66a7afcb80052cf1", func := "waybill/waybilllaw9.PageCrash", spec := "pageCrash", unfollowed := true, recurses := true, plainKeys := false, apart := false, narrowed := true }
def PageCrashUptoSaid : Prop := pageCrashUptoRow.holds Try.pinned (OpenSpec.upto pageCrashSpec)

/-- 'waybilllaw9.PageMeta', WHERE WHAT IT READS IS OF BULK AT MOST 1048576: true; the input reads as it did. -/
def pageMetaUptoRow : OpenClaim := { program := "ytcmffifehpbjnaa", sum := "06802452d5d109949610325ca30e270a97c76d4b76d63a8a66a7afcb80052cf1", func := "waybill/waybilllaw9.PageMeta", spec := "pageMeta", plainKeys := false, apart := false, narrowed := true }
def PageMetaUptoSaid : Prop := pageMetaUptoRow.holds Try.pinned (OpenSpec.upto pageMetaSpec)

/-- 'waybilllaw9.PageRefuses', WHERE WHAT IT READS IS OF BULK AT MOST 1048576: true; the input reads as it did. -/
def pageRefusesUptoRow : OpenClaim := { program := "ytcmffifehpbjnaa", sum := "06802452d5d109949610325ca30e270a97c76d4b76d63a8a66a7afcb80052cf1", func := "waybill/waybilllaw9.PageRefuses", spec := "pageRefuses", plainKeys := false, apart := false, narrowed := true }
def PageRefusesUptoSaid : Prop := pageRefusesUptoRow.holds Try.pinned (OpenSpec.upto pageRefusesSpec)

end Rows
end Go.Proofs.Ytcmffifehpbjnaa
