/- Layer 8: what one more batch makes of the rows; octets of a law, ready to be appended. -/
import Derived.Test.YtmemdkgoeldemaaGreatDoorJourK
import Derived.Test.YtmemdkgoeldemaaGreatDoorJourOc
namespace Go.Proofs.YtmemdkgoeldemaaGreatDoor
open Go.RowKit Go.Maps
set_option maxRecDepth 100000
set_option linter.unusedSimpArgs false
set_option linter.unusedVariables false
theorem addB_len (bss : List (List Bt)) (J : Jr) (x : Bt) (h : stays bss J → 0 < bss.length) : (addB bss J x).length ≤ bss.length + 1 := by
  unfold addB
  split
  · rename_i hs
    have := h hs
    simp
  · simp
theorem addB_needs (bss : List (List Bt)) (J : Jr) (x : Bt) (h : stays bss J → 0 < bss.length) : needss (addB bss J x) = needss bss + need x.b.length := by
  unfold addB
  split
  · rename_i hs
    have e := split_last (h hs)
    conv => rhs; rw [e]
    rw [needss_snoc, needss_snoc, needs_app]
    omega
  · rw [needss_snoc]
    simp [needs]
section
variable {B g jb mo : Nat} {X : Nat → Prop} {w0 W w' : World} {bss : List (List Bt)} {S : Dv} {J : Jr}
theorem JI.stays (h : JI mo bss S J) : stays bss J → 0 < bss.length := fun hs => by
  rcases h.file with h1 | h1
  · exact absurd h1 hs.1
  · exact h1.2
theorem rm_used {x : Bt} {S4 : Dv} {J4 : Jr} (h : JI mo (addB bss J x) S4 J4) (hs : Go.Proofs.YtmemdkgoeldemaaGreatDoor.stays bss J → 0 < bss.length) : S4.used = needss bss + need x.b.length := by
  rw [h.dev.used, addB_needs bss J x hs]
theorem oct_ready (h : LAt B g jb mo X w0 bss S J W) {A : Option Addr} {c : Nat} {l : List UInt8} (ho : w'.ownsRow W.heap.size 5 1 (.slice A l.length c) l.length (B8 l)) (hb : Below W.heap.size W w') :
    ∃ X3 : Nat → Prop, (∀ i, X i → X3 i) ∧ LAt B g jb mo X3 w0 bss S J w' ∧ LiesP w' (fun i => X3 i ∧ i ≠ jb) A (B8 l) := by
  refine ⟨_, fun i hi => .inl hi, h.fence hb, LiesP.own ho fun i hi => ?_⟩
  have h1 := ho.lt i hi
  have h2 := h.jlt
  exact ⟨.inr h1, by omega⟩
end
end Go.Proofs.YtmemdkgoeldemaaGreatDoor
