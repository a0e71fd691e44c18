/- Octets that came in: what they are. -/
import Derived.Test.YtflbjmpbkcjdhaaConv2
import Derived.Test.YtflbjmpbkcjdhaaRows
import Derived.OpenShut
import Derived.ShutString
import Derived.ProofKit
namespace Go.Proofs.Ytflbjmpbkcjdhaa
open Go.RowKit Go.ChangeShapes Go.WideShapes
set_option maxRecDepth 100000

/-- octets that came in, whatever is held besides -/
theorem open_octets {H : Type} {enc : TypeId × Value → H} {w : World} {base : Nat} {spare : Nat → Bool} {held : Bool} {fuel : Nat} {cs : List Value} {x : DataW H × List MemPlace} (h : DataW.trod enc Try.prog w base spare held fuel 22 cs = some x) :
    ∃ (a : Option Addr) (l : List UInt8) (cap : Nat), cs = [.slice a l.length cap] ∧ l.length ≤ cap ∧ cap ≤ maxLen ∧ Lies w w.heap.size a (B8 l) := by
  rcases open_ints Try.underlying22 Try.underlying5 (by kernel_rfl) h with ⟨rfl, _⟩ | ⟨⟨b, o, spot⟩, len, cap, zs, rfl, _, h1, h2, h3, _, h4, h5⟩
  · exact ⟨none, [], 0, rfl, Nat.le_refl _, Nat.zero_le _, Lies.empty _ _ _⟩
  · have hle : len ≤ zs.length := by rw [h3]; split <;> omega
    have hl : ((zs.take len).map fun n => UInt8.ofNat n.toNat).length = len := by rw [List.length_map, List.length_take]; omega
    refine ⟨some ⟨b, o, spot⟩, (zs.take len).map fun n => UInt8.ofNat n.toNat, cap, by rw [hl], by omega, h2, ?_⟩
    rcases Nat.eq_zero_or_pos len with h0 | h0
    · subst h0
      exact .inl (by simp [B8])
    · have hc0 := h4 0 (by omega)
      have hspot : spot = none := by simpa [Addr.add] using World.cell?_spot hc0
      subst hspot
      have hadd : ∀ j, (⟨b, o, none⟩ : Addr).add j = ⟨b, o + j, none⟩ := by intro j; unfold Addr.add; split <;> simp_all
      rw [hadd] at hc0
      refine .inr ⟨b, o, rfl, World.block_lt_of_cell? w ⟨b, o + 0, none⟩ hc0, fun j u hu => ?_⟩
      have hj : j < ((zs.take len).map fun n => UInt8.ofNat n.toNat).length := by
        rw [← B8_length]
        exact (List.getElem?_eq_some_iff.1 hu).1
      rw [B8_get _ j hj] at hu
      injection hu with hu
      rw [hl] at hj
      have hj2 : j < zs.length := by omega
      have hc := h4 j hj2
      rw [hadd] at hc
      rw [hc, ← hu]
      have hw := h5 zs[j] (List.getElem_mem hj2)
      simp [Lit.wf, IntKind.min, IntKind.max, IntKind.signed, IntKind.bits] at hw
      have hg : zs.getD j 0 = zs[j] := by simp [List.getD, hj2]
      have e : (UInt8.ofNat zs[j].toNat).toNat = zs[j].toNat := by
        rw [UInt8.toNat_ofNat']
        exact Nat.mod_eq_of_lt (by omega)
      congr 2
      simp only [List.getElem_map, List.getElem_take, hg]
      rw [e]
      omega
end Go.Proofs.Ytflbjmpbkcjdhaa
