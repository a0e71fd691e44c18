/- Layer 13: ops that came in: what they are. -/
import Derived.Test.YtflbjmpbkcjdhaaUnA
import Derived.Test.YtflbjmpbkcjdhaaOctO
import Derived.Test.YtflbjmpbkcjdhaaRows
import Derived.OpenShut
import Derived.ShutString
import Derived.ProofKit
namespace Go.Proofs.Ytflbjmpbkcjdhaa
open Go.RowKit Go.ChangeShapes Go.WideShapes
set_option maxRecDepth 100000
set_option linter.unusedSimpArgs false
set_option linter.unusedVariables false

def BearO (l : List Om) : Prop := l.length ≤ maxLen ∧ ∀ m ∈ l, m.o.key.length ≤ maxLen ∧ m.o.val.length ≤ maxLen
theorem open_op {H : Type} {enc : TypeId × Value → H} {w : World} {base : Nat} {spare : Nat → Bool} {held : Bool} {fuel : Nat} {cs : List Value} {x : DataW H × List MemPlace} (h : DataW.trod enc Try.prog w base spare held fuel 24 cs = some x) :
    ∃ m : Om, cs = cellsOm m ∧ m.o.key.length ≤ maxLen ∧ m.o.val.length ≤ maxLen ∧ ValAt w w.heap.size m := by
  obtain ⟨zs, n, _, _, hcl, hzl, hfs⟩ := DataW.trod_struct Try.underlying24 h
  have kb : Try.prog.cellsOf 4 = 1 := by kernel_rfl
  have ku : Try.prog.cellsOf 22 = 1 := by kernel_rfl
  have ks : Try.prog.cellsOf 9 = 1 := by kernel_rfl
  have kf : Try.prog.cellsOf 24 = 3 := by kernel_rfl
  rw [kf] at hcl
  match cs, hcl with
  | [c0, c1, c2], _ =>
    have f0 : DataW.trod enc Try.prog w base spare held n 9 ((([c0, c1, c2] : List Value).drop 0).take (Try.prog.cellsOf 9)) = zs[0]? := hfs 0 _ rfl
    have f1 : DataW.trod enc Try.prog w base spare held n 4 ((([c0, c1, c2] : List Value).drop 1).take (Try.prog.cellsOf 4)) = zs[1]? := hfs 1 _ rfl
    have f2 : DataW.trod enc Try.prog w base spare held n 22 ((([c0, c1, c2] : List Value).drop 2).take (Try.prog.cellsOf 22)) = zs[2]? := hfs 2 _ rfl
    rw [ks] at f0
    rw [kb] at f1
    rw [ku] at f2
    have hz3 : zs.length = 3 := hzl
    obtain ⟨s0, e0, _, h0⟩ := DataW.trod_string (cs := [c0]) Try.underlying9 (f0.trans (List.getElem?_eq_getElem (by omega)))
    obtain ⟨b1, e1, _⟩ := DataW.trod_bool (cs := [c1]) Try.underlying4 (f1.trans (List.getElem?_eq_getElem (by omega)))
    obtain ⟨a, l, cap, e2, g1, g2, g3⟩ := open_octets (cs := [c2]) (f2.trans (List.getElem?_eq_getElem (by omega)))
    injection e0 with e0
    injection e1 with e1
    injection e2 with e2
    exact ⟨⟨⟨s0.data.toList, b1, l⟩, a, cap⟩, by rw [e0, e1, e2]; rfl, by simpa using h0, Nat.le_trans g1 g2, g3, g1, g2⟩
theorem open_ops {H : Type} {enc : TypeId × Value → H} {w : World} {base : Nat} {spare : Nat → Bool} {held : Bool} {fuel : Nat} {cs : List Value} {x : DataW H × List MemPlace} (h : DataW.trod enc Try.prog w base spare held fuel 25 cs = some x) :
    ∃ (a : Option Addr) (l : List Om) (cap : Nat), cs = [.slice a l.length cap] ∧ OpsAt w w.heap.size l a cap ∧ BearO l := by
  rcases DataW.trod_slice Try.underlying25 h with ⟨rfl, _⟩ | ⟨a, len, cap, elems, rest, n, hn, rfl, rfl, hb, hl, hm, hlen, hel, _, _⟩
  · exact ⟨none, [], 0, rfl, ⟨Nat.le_refl _, Nat.zero_le _, Lies.empty _ _ _, fun f hf => by cases hf⟩, Nat.zero_le _, fun f hf => by cases hf⟩
  · have hC : Try.prog.cellsOf 24 = 3 := by kernel_rfl
    rw [hC] at hel
    rcases Nat.eq_zero_or_pos len with h0 | h0
    · subst h0
      exact ⟨some a, [], cap, rfl, ⟨Nat.zero_le _, hm, Lies.empty _ _ _, fun f hf => by cases hf⟩, Nat.zero_le _, fun f hf => by cases hf⟩
    · have hone : ∀ i, i < len → ∃ cs', w.cells? base (a.add (i * 3)) 3 = some cs' ∧ ∃ y, DataW.trod enc Try.prog w base spare held n 24 cs' = some y := by
        intro i hi
        have h1 := hel i hi
        rw [List.getElem?_eq_getElem (by omega)] at h1
        obtain ⟨cs', h2, h3⟩ := Option.bind_eq_some_iff.1 h1
        exact ⟨cs', h2, _, h3⟩
      obtain ⟨cs0, hc0, _⟩ := hone 0 h0
      obtain ⟨_, hl0, ha0⟩ := World.cells?_some hc0
      obtain ⟨b, o, spot⟩ := a
      have hq0 := ha0 0 (by omega)
      rw [List.getElem?_eq_getElem (by omega)] at hq0
      have hspot : spot = none := by simpa [Addr.add] using World.cell?_spot hq0
      subst hspot
      have hadd : ∀ o j, (⟨b, o, none⟩ : Addr).add j = ⟨b, o + j, none⟩ := by intro o j; unfold Addr.add; split <;> simp_all
      have hlt : b < w.heap.size := by
        rw [hadd, hadd] at hq0
        exact World.block_lt_of_cell? w ⟨b, o + 0 * 3 + 0, none⟩ hq0
      have step : ∀ m, m ≤ len → ∃ l : List Om, l.length = m ∧ (∀ f ∈ l, (f.o.key.length ≤ maxLen ∧ f.o.val.length ≤ maxLen) ∧ ValAt w w.heap.size f) ∧ ∀ j u, (cellsOms l)[j]? = some u → w.cell? ⟨b, o + j, none⟩ = some u := by
        intro m
        induction m with
        | zero => intro _; exact ⟨[], rfl, fun f hf => (by cases hf), fun j u hu => (by simp [cellsOms] at hu)⟩
        | succ m ih =>
          intro hm'
          obtain ⟨l, g1, g2, g3⟩ := ih (by omega)
          obtain ⟨cs', hc, y, hy⟩ := hone m (by omega)
          obtain ⟨_, hlc, hat⟩ := World.cells?_some hc
          obtain ⟨r, hcs, e1, e2, e3⟩ := open_op hy
          refine ⟨l ++ [r], by rw [List.length_append, g1]; rfl, ?_, ?_⟩
          · intro f hf
            rcases List.mem_append.1 hf with hf | hf
            · exact g2 f hf
            · simp only [List.mem_cons, List.not_mem_nil, or_false] at hf
              subst hf
              exact ⟨⟨e1, e2⟩, e3⟩
          · intro j u hu
            have hfl := cellsOms_length l
            rw [cellsOms_append] at hu
            rcases Nat.lt_or_ge j (cellsOms l).length with hj | hj
            · rw [List.getElem?_append_left hj] at hu
              exact g3 j u hu
            · rw [List.getElem?_append_right hj] at hu
              have hu' : (cellsOm r)[j - (cellsOms l).length]? = some u := by simpa [cellsOms] using hu
              have hj3 : j - (cellsOms l).length < 3 := (List.getElem?_eq_some_iff.1 hu').1
              have hq := hat (j - (cellsOms l).length) hj3
              rw [hadd, hadd, hcs, hu'] at hq
              rw [← hq]
              congr 2
              omega
      obtain ⟨l, g1, g2, g3⟩ := step len (Nat.le_refl _)
      subst g1
      exact ⟨some ⟨b, o, none⟩, l, cap, rfl, ⟨hl, hm, .inr ⟨b, o, rfl, hlt, g3⟩, fun f hf => (g2 f hf).2⟩, Nat.le_trans hl hm, fun f hf => (g2 f hf).1⟩
end Go.Proofs.Ytflbjmpbkcjdhaa
