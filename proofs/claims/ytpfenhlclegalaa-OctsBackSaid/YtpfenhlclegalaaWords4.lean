/- More words: rows that came in, as lists. -/
import Derived.Test.YtpfenhlclegalaaWords2
namespace Go.Proofs.Ytpfenhlclegalaa
open Go.RowKit

/-- octets that came in: the first of their row's cells are a list of octets -/
theorem octets_in {w : World} {a : Option Addr} {len cap : Nat} {zs : List Int}
    (h : (a = none ∧ len = 0 ∧ cap = 0 ∧ zs = []) ∨ ∃ x, a = some x ∧ len ≤ cap ∧ cap ≤ maxLen ∧ zs.length = cap ∧ (∀ i, i < zs.length → w.cell? (x.add i) = some (.int .u8 (zs.getD i 0))) ∧ ∀ n ∈ zs, (Lit.int .u8 n).wf = true) :
    ∃ l : List UInt8, l.length = len ∧ len ≤ cap ∧ cap ≤ maxLen ∧ Lies w w.heap.size a (B8 l) := by
  rcases h with ⟨rfl, rfl, rfl, rfl⟩ | ⟨x, rfl, h1, h2, h3, h4, h5⟩
  · exact ⟨[], rfl, Nat.le_refl _, Nat.zero_le _, Lies.empty _ _ _⟩
  · refine ⟨(zs.take len).map fun n => UInt8.ofNat n.toNat, by rw [List.length_map, List.length_take]; omega, h1, h2, ?_⟩
    rcases Nat.eq_zero_or_pos len with h0 | h0
    · subst h0
      exact .inl (by simp [B8])
    · obtain ⟨b, o, spot⟩ := x
      have hc0 := h4 0 (by omega)
      have hspot : spot = none := by simpa [Addr.add] using World.cell?_spot hc0
      subst hspot
      have hadd : ∀ j, (⟨b, o, none⟩ : Addr).add j = ⟨b, o + j, none⟩ := by intro j; unfold Addr.add; split <;> simp_all
      rw [hadd] at hc0
      refine .inr ⟨b, o, rfl, World.block_lt_of_cell? w ⟨b, o + 0, none⟩ hc0, fun j u hu => ?_⟩
      have hj : j < ((zs.take len).map fun n => UInt8.ofNat n.toNat).length := by
        rw [← B8_length]
        exact (List.getElem?_eq_some_iff.1 hu).1
      rw [B8_get _ j hj] at hu
      injection hu with hu
      rw [List.length_map, List.length_take] at hj
      have hj2 : j < zs.length := by omega
      have hc := h4 j hj2
      rw [hadd] at hc
      rw [hc, ← hu]
      have hw := h5 zs[j] (List.getElem_mem hj2)
      simp [Lit.wf, IntKind.min, IntKind.max, IntKind.signed, IntKind.bits] at hw
      have hg : zs.getD j 0 = zs[j] := by simp [List.getD, hj2]
      have e : (UInt8.ofNat zs[j].toNat).toNat = zs[j].toNat := by
        rw [UInt8.toNat_ofNat']
        exact Nat.mod_eq_of_lt (by omega)
      congr 2
      simp only [List.getElem_map, List.getElem_take, hg]
      rw [e]
      omega
/-- numbers that came in -/
theorem ints_in {w : World} {a : Option Addr} {len cap : Nat} {zs : List Int}
    (h : (a = none ∧ len = 0 ∧ cap = 0 ∧ zs = []) ∨ ∃ x, a = some x ∧ len ≤ cap ∧ cap ≤ maxLen ∧ zs.length = cap ∧ (∀ i, i < zs.length → w.cell? (x.add i) = some (.int .i64 (zs.getD i 0))) ∧ ∀ n ∈ zs, (Lit.int .i64 n).wf = true) :
    ∃ l : List Int, l.length = len ∧ len ≤ cap ∧ cap ≤ maxLen ∧ Lies w w.heap.size a (l.map (Value.int .i64)) := by
  rcases h with ⟨rfl, rfl, rfl, rfl⟩ | ⟨x, rfl, h1, h2, h3, h4, _⟩
  · exact ⟨[], rfl, Nat.le_refl _, Nat.zero_le _, Lies.empty _ _ _⟩
  · refine ⟨zs.take len, by rw [List.length_take]; omega, h1, h2, ?_⟩
    rcases Nat.eq_zero_or_pos len with h0 | h0
    · subst h0
      exact .inl (by simp)
    · obtain ⟨b, o, spot⟩ := x
      have hc0 := h4 0 (by omega)
      have hspot : spot = none := by simpa [Addr.add] using World.cell?_spot hc0
      subst hspot
      have hadd : ∀ j, (⟨b, o, none⟩ : Addr).add j = ⟨b, o + j, none⟩ := by intro j; unfold Addr.add; split <;> simp_all
      rw [hadd] at hc0
      refine .inr ⟨b, o, rfl, World.block_lt_of_cell? w ⟨b, o + 0, none⟩ hc0, fun j u hu => ?_⟩
      obtain ⟨hj, hu⟩ := List.getElem?_eq_some_iff.1 hu
      have hj0 : j < (zs.take len).length := by simpa using hj
      rw [List.length_take] at hj0
      have hj2 : j < zs.length := by omega
      have hc := h4 j hj2
      rw [hadd] at hc
      rw [hc, ← hu]
      simp [List.getD, hj2]
end Go.Proofs.Ytpfenhlclegalaa
