/- Numbers and texts that came in: what they are. -/
import Derived.Test.YtlfppfknelddcaaDoorMethS
import Derived.Test.YtlfppfknelddcaaDoorRows
import Derived.OpenShut
import Derived.ShutString
import Derived.SliceStrings
import Derived.ProofKit
namespace Go.Proofs.YtlfppfknelddcaaDoor
open Go.RowKit Go.ChangeShapes Go.WideShapes
set_option maxRecDepth 100000
set_option linter.unusedSimpArgs false
set_option linter.unusedVariables false

/-- numbers of 64 bits that came in, whatever is held besides -/
theorem open_nums {H : Type} {enc : TypeId × Value → H} {w : World} {base : Nat} {spare : Nat → Bool} {held : Bool} {fuel : Nat} {cs : List Value} {x : DataW H × List MemPlace} (h : DataW.trod enc Tryd.prog w base spare held fuel 28 cs = some x) :
    ∃ (a : Option Addr) (l : List Nat) (cap : Nat), cs = [.slice a l.length cap] ∧ l.length ≤ cap ∧ cap ≤ maxLen ∧ Lies w w.heap.size a (cellsN l) ∧ ∀ v ∈ l, v < 18446744073709551616 := by
  rcases open_ints Tryd.underlying28 Tryd.underlying27 (by kernel_rfl) h with ⟨rfl, _⟩ | ⟨⟨b, o, spot⟩, len, cap, zs, rfl, _, h1, h2, h3, _, h4, h5⟩
  · exact ⟨none, [], 0, rfl, Nat.le_refl _, Nat.zero_le _, Lies.empty _ _ _, by simp⟩
  · have hle : len ≤ zs.length := by rw [h3]; split <;> omega
    have hl : ((zs.take len).map fun n => n.toNat).length = len := by rw [List.length_map, List.length_take]; omega
    have hwf : ∀ z ∈ zs, 0 ≤ z ∧ z < 18446744073709551616 := fun z hz => by
      have hw := h5 z hz
      simp [Lit.wf, IntKind.min, IntKind.max, IntKind.signed, IntKind.bits] at hw
      omega
    refine ⟨some ⟨b, o, spot⟩, (zs.take len).map fun n => n.toNat, cap, by rw [hl], by omega, h2, ?_, ?_⟩
    · rcases Nat.eq_zero_or_pos len with h0 | h0
      · subst h0
        exact .inl (by simp [cellsN])
      · have hc0 := h4 0 (by omega)
        have hspot : spot = none := by simpa [Addr.add] using World.cell?_spot hc0
        subst hspot
        have hadd : ∀ j, (⟨b, o, none⟩ : Addr).add j = ⟨b, o + j, none⟩ := by intro j; unfold Addr.add; split <;> simp_all
        rw [hadd] at hc0
        refine .inr ⟨b, o, rfl, World.block_lt_of_cell? w ⟨b, o + 0, none⟩ hc0, fun j u hu => ?_⟩
        have hj : j < len := by
          have := (List.getElem?_eq_some_iff.1 hu).1
          unfold cellsN at this
          rw [List.length_map, hl] at this
          exact this
        have hj2 : j < zs.length := by omega
        have hc := h4 j hj2
        rw [hadd] at hc
        have hg : zs.getD j 0 = zs[j] := by simp [List.getD, hj2]
        have hu2 : u = .int .u64 ((zs[j].toNat : Nat) : Int) := by
          unfold cellsN at hu
          rw [List.getElem?_map, List.getElem?_map, List.getElem?_take, if_pos hj, List.getElem?_eq_getElem hj2] at hu
          exact (Option.some.inj hu).symm
        have hz := hwf zs[j] (List.getElem_mem hj2)
        rw [hc, hu2, hg]
        congr 2
        omega
    · intro v hv
      obtain ⟨z, hz, rfl⟩ := List.mem_map.1 hv
      have := hwf z (List.mem_of_mem_take hz)
      omega
/-- texts that came in -/
theorem open_texts {H : Type} {enc : TypeId × Value → H} {w : World} {base : Nat} {spare : Nat → Bool} {held : Bool} {fuel : Nat} {cs : List Value} {x : DataW H × List MemPlace} (h : DataW.trod enc Tryd.prog w base spare held fuel 29 cs = some x) :
    ∃ (a : Option Addr) (l : List (List UInt8)) (cap : Nat), cs = [.slice a l.length cap] ∧ l.length ≤ cap ∧ cap ≤ maxLen ∧ Lies w w.heap.size a (cellsS l) := by
  rcases open_strings Tryd.underlying29 Tryd.underlying9 (by kernel_rfl) h with ⟨rfl, _⟩ | ⟨⟨b, o, spot⟩, len, cap, zs, rfl, _, h1, h2, h3, _, h4, h5⟩
  · exact ⟨none, [], 0, rfl, Nat.le_refl _, Nat.zero_le _, Lies.empty _ _ _⟩
  · have hle : len ≤ zs.length := by rw [h3]; split <;> omega
    have hl : ((zs.take len).map fun n => n.data.toList).length = len := by rw [List.length_map, List.length_take]; omega
    refine ⟨some ⟨b, o, spot⟩, (zs.take len).map fun n => n.data.toList, cap, by rw [hl], by omega, h2, ?_⟩
    rcases Nat.eq_zero_or_pos len with h0 | h0
    · subst h0
      exact .inl (by simp [cellsS])
    · have hc0 := h4 0 (by omega)
      have hspot : spot = none := by simpa [Addr.add] using World.cell?_spot hc0
      subst hspot
      have hadd : ∀ j, (⟨b, o, none⟩ : Addr).add j = ⟨b, o + j, none⟩ := by intro j; unfold Addr.add; split <;> simp_all
      rw [hadd] at hc0
      refine .inr ⟨b, o, rfl, World.block_lt_of_cell? w ⟨b, o + 0, none⟩ hc0, fun j u hu => ?_⟩
      have hj : j < len := by
        have := (List.getElem?_eq_some_iff.1 hu).1
        unfold cellsS at this
        rw [List.length_map, hl] at this
        exact this
      have hj2 : j < zs.length := by omega
      have hc := h4 j hj2
      rw [hadd] at hc
      have hg : zs.getD j ByteArray.empty = zs[j] := by simp [List.getD, hj2]
      have hu2 : u = .string zs[j] := by
        simp [cellsS, St, List.getElem?_map, List.getElem?_take, hj, hj2] at hu
        exact hu.symm
      rw [hc, hu2, hg]
end Go.Proofs.YtlfppfknelddcaaDoor
