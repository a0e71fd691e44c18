/- Nodes that came in: what they are. -/
import Derived.Test.YtdjkkppefgppmaaNodeJ
import Derived.Test.YtdjkkppefgppmaaConv2
import Derived.Test.YtdjkkppefgppmaaRows
import Derived.OpenShut
import Derived.ShutString
import Derived.ProofKit
namespace Go.Proofs.Ytdjkkppefgppmaa
open Go.RowKit Go.ChangeShapes Go.WideShapes
set_option maxRecDepth 100000

theorem open_rw {H : Type} {enc : TypeId × Value → H} {w : World} {base : Nat} {spare : Nat → Bool} {held : Bool} {fuel : Nat} {cs : List Value} {x : DataW H × List MemPlace} (h : DataW.trod enc Try.prog w base spare held fuel 23 cs = some x) :
    ∃ r : Rw, cs = cellsRw r ∧ r.key.length ≤ maxLen ∧ r.val.length ≤ maxLen := by
  obtain ⟨zs, n, _, _, hcl, hzl, hfs⟩ := DataW.trod_struct Try.underlying23 h
  have k3 : Try.prog.cellsOf 3 = 1 := by kernel_rfl
  have ks : Try.prog.cellsOf 9 = 1 := by kernel_rfl
  have kf : Try.prog.cellsOf 23 = 3 := by kernel_rfl
  rw [kf] at hcl
  match cs, hcl with
  | [c0, c1, c2], _ =>
    have f0 : DataW.trod enc Try.prog w base spare held n 9 ((([c0, c1, c2] : List Value).drop 0).take (Try.prog.cellsOf 9)) = zs[0]? := hfs 0 _ rfl
    have f1 : DataW.trod enc Try.prog w base spare held n 9 ((([c0, c1, c2] : List Value).drop 1).take (Try.prog.cellsOf 9)) = zs[1]? := hfs 1 _ rfl
    have f2 : DataW.trod enc Try.prog w base spare held n 3 ((([c0, c1, c2] : List Value).drop 2).take (Try.prog.cellsOf 3)) = zs[2]? := hfs 2 _ rfl
    rw [ks] at f0 f1
    rw [k3] at f2
    have hz3 : zs.length = 3 := hzl
    obtain ⟨t0, e0, _, ht0⟩ := DataW.trod_string (cs := [c0]) Try.underlying9 (f0.trans (List.getElem?_eq_getElem (by omega)))
    obtain ⟨t1, e1, _, ht1⟩ := DataW.trod_string (cs := [c1]) Try.underlying9 (f1.trans (List.getElem?_eq_getElem (by omega)))
    obtain ⟨n2, e2, _, _⟩ := DataW.trod_int (cs := [c2]) Try.underlying3 (f2.trans (List.getElem?_eq_getElem (by omega)))
    injection e0 with e0
    injection e1 with e1
    injection e2 with e2
    exact ⟨⟨t0.data.toList, t1.data.toList, n2⟩, by rw [e0, e1, e2]; rfl, by simpa using ht0, by simpa using ht1⟩
theorem open_rws {H : Type} {enc : TypeId × Value → H} {w : World} {base : Nat} {spare : Nat → Bool} {held : Bool} {fuel : Nat} {cs : List Value} {x : DataW H × List MemPlace} (h : DataW.trod enc Try.prog w base spare held fuel 24 cs = some x) :
    ∃ (a : Option Addr) (l : List Rw) (cap : Nat), cs = [.slice a l.length cap] ∧ RowsAt w w.heap.size l a cap ∧ Bear l := by
  rcases DataW.trod_slice Try.underlying24 h with ⟨rfl, _⟩ | ⟨a, len, cap, elems, rest, n, hn, rfl, rfl, hb, hl, hm, hlen, hel, _, _⟩
  · exact ⟨none, [], 0, rfl, ⟨Nat.le_refl _, Nat.zero_le _, Lies.empty _ _ _⟩, Nat.zero_le _, fun f hf => by cases hf⟩
  · have hC : Try.prog.cellsOf 23 = 3 := by kernel_rfl
    rw [hC] at hel
    rcases Nat.eq_zero_or_pos len with h0 | h0
    · subst h0
      exact ⟨some a, [], cap, rfl, ⟨Nat.zero_le _, hm, Lies.empty _ _ _⟩, Nat.zero_le _, fun f hf => by cases hf⟩
    · have hone : ∀ i, i < len → ∃ cs', w.cells? base (a.add (i * 3)) 3 = some cs' ∧ ∃ y, DataW.trod enc Try.prog w base spare held n 23 cs' = some y := by
        intro i hi
        have h1 := hel i hi
        rw [List.getElem?_eq_getElem (by omega)] at h1
        obtain ⟨cs', h2, h3⟩ := Option.bind_eq_some_iff.1 h1
        exact ⟨cs', h2, _, h3⟩
      obtain ⟨cs0, hc0, _⟩ := hone 0 h0
      obtain ⟨_, hl0, ha0⟩ := World.cells?_some hc0
      obtain ⟨b, o, spot⟩ := a
      have hq0 := ha0 0 (by omega)
      rw [List.getElem?_eq_getElem (by omega)] at hq0
      have hspot : spot = none := by simpa [Addr.add] using World.cell?_spot hq0
      subst hspot
      have hadd : ∀ o j, (⟨b, o, none⟩ : Addr).add j = ⟨b, o + j, none⟩ := by intro o j; unfold Addr.add; split <;> simp_all
      have hlt : b < w.heap.size := by
        rw [hadd, hadd] at hq0
        exact World.block_lt_of_cell? w ⟨b, o + 0 * 3 + 0, none⟩ hq0
      have step : ∀ m, m ≤ len → ∃ l : List Rw, l.length = m ∧ (∀ f ∈ l, f.key.length ≤ maxLen ∧ f.val.length ≤ maxLen) ∧ ∀ j u, (cellsRws l)[j]? = some u → w.cell? ⟨b, o + j, none⟩ = some u := by
        intro m
        induction m with
        | zero => intro _; exact ⟨[], rfl, fun f hf => (by cases hf), fun j u hu => (by simp [cellsRws] at hu)⟩
        | succ m ih =>
          intro hm'
          obtain ⟨l, g1, g2, g3⟩ := ih (by omega)
          obtain ⟨cs', hc, y, hy⟩ := hone m (by omega)
          obtain ⟨_, hlc, hat⟩ := World.cells?_some hc
          obtain ⟨r, hcs, e1, e2⟩ := open_rw hy
          refine ⟨l ++ [r], by rw [List.length_append, g1]; rfl, ?_, ?_⟩
          · intro f hf
            rcases List.mem_append.1 hf with hf | hf
            · exact g2 f hf
            · simp only [List.mem_cons, List.not_mem_nil, or_false] at hf
              subst hf
              exact ⟨e1, e2⟩
          · intro j u hu
            have hfl := cellsRws_length l
            rw [cellsRws_append] at hu
            rcases Nat.lt_or_ge j (cellsRws l).length with hj | hj
            · rw [List.getElem?_append_left hj] at hu
              exact g3 j u hu
            · rw [List.getElem?_append_right hj] at hu
              have hu' : (cellsRw r)[j - (cellsRws l).length]? = some u := by simpa [cellsRws] using hu
              have hj3 : j - (cellsRws l).length < 3 := (List.getElem?_eq_some_iff.1 hu').1
              have hq := hat (j - (cellsRws l).length) hj3
              rw [hadd, hadd, hcs, hu'] at hq
              rw [← hq]
              congr 2
              omega
      obtain ⟨l, g1, g2, g3⟩ := step len (Nat.le_refl _)
      subst g1
      exact ⟨some ⟨b, o, none⟩, l, cap, rfl, ⟨hl, hm, .inr ⟨b, o, rfl, hlt, g3⟩⟩, Nat.le_trans hl hm, g2⟩
theorem open_node {H : Type} {enc : TypeId × Value → H} {w : World} {base : Nat} {spare : Nat → Bool} {held : Bool} {fuel : Nat} {cs : List Value} {x : DataW H × List MemPlace} (h : DataW.trod enc Try.prog w base spare held fuel 26 cs = some x) :
    ∃ (leaf : Bool) (a : Option Addr) (l : List Rw) (cap : Nat), cs = [.bool leaf, .slice a l.length cap] ∧ RowsAt w w.heap.size l a cap ∧ Bear l := by
  obtain ⟨zs, n, _, _, hcl, hzl, hfs⟩ := DataW.trod_struct Try.underlying26 h
  have kb : Try.prog.cellsOf 4 = 1 := by kernel_rfl
  have ks : Try.prog.cellsOf 24 = 1 := by kernel_rfl
  have kf : Try.prog.cellsOf 26 = 2 := by kernel_rfl
  rw [kf] at hcl
  match cs, hcl with
  | [c0, c1], _ =>
    have f0 : DataW.trod enc Try.prog w base spare held n 4 ((([c0, c1] : List Value).drop 0).take (Try.prog.cellsOf 4)) = zs[0]? := hfs 0 _ rfl
    have f1 : DataW.trod enc Try.prog w base spare held n 24 ((([c0, c1] : List Value).drop 1).take (Try.prog.cellsOf 24)) = zs[1]? := hfs 1 _ rfl
    rw [kb] at f0
    rw [ks] at f1
    have hz2 : zs.length = 2 := hzl
    obtain ⟨b0, e0, _⟩ := DataW.trod_bool (cs := [c0]) Try.underlying4 (f0.trans (List.getElem?_eq_getElem (by omega)))
    obtain ⟨a, l, cap, e1, g1, g2⟩ := open_rws (cs := [c1]) (f1.trans (List.getElem?_eq_getElem (by omega)))
    injection e0 with e0
    injection e1 with e1
    exact ⟨b0, a, l, cap, by rw [e0, e1], g1, g2⟩
end Go.Proofs.Ytdjkkppefgppmaa
