/- Octets and frames that came in: what they are. -/
import Derived.Test.YtfajkbegmmlmjaaFramB
import Derived.Test.YtfajkbegmmlmjaaConv2
import Derived.Test.YtfajkbegmmlmjaaRows
import Derived.OpenShut
import Derived.ShutString
import Derived.ProofKit
namespace Go.Proofs.Ytfajkbegmmlmjaa
open Go.RowKit Go.ChangeShapes Go.WideShapes
set_option maxRecDepth 100000

/-- octets that came in, whatever is held besides -/
theorem open_octets {H : Type} {enc : TypeId × Value → H} {w : World} {base : Nat} {spare : Nat → Bool} {held : Bool} {fuel : Nat} {cs : List Value} {x : DataW H × List MemPlace} (h : DataW.trod enc Try.prog w base spare held fuel 26 cs = some x) :
    ∃ (a : Option Addr) (l : List UInt8) (cap : Nat), cs = [.slice a l.length cap] ∧ l.length ≤ cap ∧ cap ≤ maxLen ∧ Lies w w.heap.size a (B8 l) := by
  rcases open_ints Try.underlying26 Try.underlying5 (by kernel_rfl) h with ⟨rfl, _⟩ | ⟨⟨b, o, spot⟩, len, cap, zs, rfl, _, h1, h2, h3, _, h4, h5⟩
  · exact ⟨none, [], 0, rfl, Nat.le_refl _, Nat.zero_le _, Lies.empty _ _ _⟩
  · have hle : len ≤ zs.length := by rw [h3]; split <;> omega
    have hl : ((zs.take len).map fun n => UInt8.ofNat n.toNat).length = len := by rw [List.length_map, List.length_take]; omega
    refine ⟨some ⟨b, o, spot⟩, (zs.take len).map fun n => UInt8.ofNat n.toNat, cap, by rw [hl], by omega, h2, ?_⟩
    rcases Nat.eq_zero_or_pos len with h0 | h0
    · subst h0
      exact .inl (by simp [B8])
    · have hc0 := h4 0 (by omega)
      have hspot : spot = none := by simpa [Addr.add] using World.cell?_spot hc0
      subst hspot
      have hadd : ∀ j, (⟨b, o, none⟩ : Addr).add j = ⟨b, o + j, none⟩ := by intro j; unfold Addr.add; split <;> simp_all
      rw [hadd] at hc0
      refine .inr ⟨b, o, rfl, World.block_lt_of_cell? w ⟨b, o + 0, none⟩ hc0, fun j u hu => ?_⟩
      have hj : j < ((zs.take len).map fun n => UInt8.ofNat n.toNat).length := by
        rw [← B8_length]
        exact (List.getElem?_eq_some_iff.1 hu).1
      rw [B8_get _ j hj] at hu
      injection hu with hu
      rw [hl] at hj
      have hj2 : j < zs.length := by omega
      have hc := h4 j hj2
      rw [hadd] at hc
      rw [hc, ← hu]
      have hw := h5 zs[j] (List.getElem_mem hj2)
      simp [Lit.wf, IntKind.min, IntKind.max, IntKind.signed, IntKind.bits] at hw
      have hg : zs.getD j 0 = zs[j] := by simp [List.getD, hj2]
      have e : (UInt8.ofNat zs[j].toNat).toNat = zs[j].toNat := by
        rw [UInt8.toNat_ofNat']
        exact Nat.mod_eq_of_lt (by omega)
      congr 2
      simp only [List.getElem_map, List.getElem_take, hg]
      rw [e]
      omega

/-- a frame's three cells -/
def cells3 (k ch : Int) (v : Value) : List Value := [.int .i64 k, .int .i64 ch, v]
theorem open_frame {H : Type} {enc : TypeId × Value → H} {w : World} {base : Nat} {spare : Nat → Bool} {held : Bool} {fuel : Nat} {cs : List Value} {x : DataW H × List MemPlace} (h : DataW.trod enc Try.prog w base spare held fuel 44 cs = some x) :
    ∃ (k ch : Int) (a : Option Addr) (l : List UInt8) (cap : Nat), cs = cells3 k ch (.slice a l.length cap) ∧ l.length ≤ cap ∧ cap ≤ maxLen ∧ Lies w w.heap.size a (B8 l) := by
  obtain ⟨zs, n, _, _, hcl, hzl, hfs⟩ := DataW.trod_struct Try.underlying44 h
  have k3 : Try.prog.cellsOf 3 = 1 := by kernel_rfl
  have ks : Try.prog.cellsOf 26 = 1 := by kernel_rfl
  have kf : Try.prog.cellsOf 44 = 3 := by kernel_rfl
  rw [kf] at hcl
  match cs, hcl with
  | [c0, c1, c2], _ =>
    have f0 : DataW.trod enc Try.prog w base spare held n 3 ((([c0, c1, c2] : List Value).drop 0).take (Try.prog.cellsOf 3)) = zs[0]? := hfs 0 _ rfl
    have f1 : DataW.trod enc Try.prog w base spare held n 3 ((([c0, c1, c2] : List Value).drop 1).take (Try.prog.cellsOf 3)) = zs[1]? := hfs 1 _ rfl
    have f2 : DataW.trod enc Try.prog w base spare held n 26 ((([c0, c1, c2] : List Value).drop 2).take (Try.prog.cellsOf 26)) = zs[2]? := hfs 2 _ rfl
    rw [k3] at f0 f1
    rw [ks] at f2
    have hz3 : zs.length = 3 := hzl
    obtain ⟨n0, e0, _, _⟩ := DataW.trod_int (cs := [c0]) Try.underlying3 (f0.trans (List.getElem?_eq_getElem (by omega)))
    obtain ⟨n1, e1, _, _⟩ := DataW.trod_int (cs := [c1]) Try.underlying3 (f1.trans (List.getElem?_eq_getElem (by omega)))
    obtain ⟨a, l, cap, e2, g1, g2, g3⟩ := open_octets (cs := [c2]) (f2.trans (List.getElem?_eq_getElem (by omega)))
    injection e0 with e0
    injection e1 with e1
    injection e2 with e2
    exact ⟨n0, n1, a, l, cap, by rw [e0, e1, e2]; rfl, g1, g2, g3⟩
end Go.Proofs.Ytfajkbegmmlmjaa
