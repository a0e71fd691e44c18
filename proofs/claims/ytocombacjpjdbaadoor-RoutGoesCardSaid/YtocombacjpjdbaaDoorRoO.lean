/- Layer 16: bindings that came in: what they are. -/
import Derived.Test.YtocombacjpjdbaaDoorRoW
import Derived.Test.YtocombacjpjdbaaDoorRows
import Derived.OpenShut
import Derived.ShutString
import Derived.ProofKit
namespace Go.Proofs.YtocombacjpjdbaaDoor
open Go.RowKit Go.ChangeShapes Go.WideShapes
set_option maxRecDepth 100000
set_option linter.unusedSimpArgs false
set_option linter.unusedVariables false
def bdCs (l : List Bnd) : List Value := l.flatMap bdC
theorem bdCs_length (l : List Bnd) : (bdCs l).length = 3 * l.length := by
  induction l with
  | nil => rfl
  | cons b l ih => simp only [bdCs, List.flatMap_cons, List.length_append, List.length_cons] at *; rw [ih]; simp [bdC]; omega
theorem bdCs_append (a b : List Bnd) : bdCs (a ++ b) = bdCs a ++ bdCs b := by simp [bdCs]
theorem bdCs_get (l : List Bnd) (i : Nat) (h : i < l.length) (k : Nat) (hk : k < 3) : (bdCs l)[3 * i + k]? = (bdC l[i])[k]? := by
  induction l generalizing i with
  | nil => simp at h
  | cons b l ih =>
    have e : bdCs (b :: l) = bdC b ++ bdCs l := rfl
    rw [e]
    cases i with
    | zero => rw [List.getElem?_append_left (by simp [bdC]; omega)]; simp
    | succ i =>
      have hl : (bdC b).length = 3 := rfl
      rw [List.getElem?_append_right (by omega), hl, show 3 * (i + 1) + k - 3 = 3 * i + k by omega, ih i (by simpa using h)]
      simp
def BearB (l : List Bnd) : Prop := l.length ≤ maxLen ∧ ∀ b ∈ l, b.e.length ≤ maxLen ∧ b.q.length ≤ maxLen ∧ b.k.length ≤ maxLen
theorem open_bind {H : Type} {enc : TypeId × Value → H} {w : World} {base : Nat} {spare : Nat → Bool} {held : Bool} {fuel : Nat} {cs : List Value} {x : DataW H × List MemPlace} (h : DataW.trod enc Tryd.prog w base spare held fuel 33 cs = some x) :
    ∃ b : Bnd, cs = bdC b ∧ b.e.length ≤ maxLen ∧ b.q.length ≤ maxLen ∧ b.k.length ≤ maxLen := by
  obtain ⟨zs, n, _, _, hcl, hzl, hfs⟩ := DataW.trod_struct Tryd.underlying33 h
  have ks : Tryd.prog.cellsOf 9 = 1 := by kernel_rfl
  have kf : Tryd.prog.cellsOf 33 = 3 := by kernel_rfl
  rw [kf] at hcl
  match cs, hcl with
  | [c0, c1, c2], _ =>
    have f0 : DataW.trod enc Tryd.prog w base spare held n 9 ((([c0, c1, c2] : List Value).drop 0).take (Tryd.prog.cellsOf 9)) = zs[0]? := hfs 0 _ rfl
    have f1 : DataW.trod enc Tryd.prog w base spare held n 9 ((([c0, c1, c2] : List Value).drop 1).take (Tryd.prog.cellsOf 9)) = zs[1]? := hfs 1 _ rfl
    have f2 : DataW.trod enc Tryd.prog w base spare held n 9 ((([c0, c1, c2] : List Value).drop 2).take (Tryd.prog.cellsOf 9)) = zs[2]? := hfs 2 _ rfl
    rw [ks] at f0 f1 f2
    have hz3 : zs.length = 3 := hzl
    obtain ⟨s0, e0, _, h0⟩ := DataW.trod_string (cs := [c0]) Tryd.underlying9 (f0.trans (List.getElem?_eq_getElem (by omega)))
    obtain ⟨s1, e1, _, h1⟩ := DataW.trod_string (cs := [c1]) Tryd.underlying9 (f1.trans (List.getElem?_eq_getElem (by omega)))
    obtain ⟨s2, e2, _, h2⟩ := DataW.trod_string (cs := [c2]) Tryd.underlying9 (f2.trans (List.getElem?_eq_getElem (by omega)))
    injection e0 with e0
    injection e1 with e1
    injection e2 with e2
    exact ⟨⟨s0.data.toList, s1.data.toList, s2.data.toList⟩, by rw [e0, e1, e2]; rfl, by simpa using h0, by simpa using h1, by simpa using h2⟩
theorem open_binds {H : Type} {enc : TypeId × Value → H} {w : World} {base : Nat} {spare : Nat → Bool} {held : Bool} {fuel : Nat} {cs : List Value} {x : DataW H × List MemPlace} (h : DataW.trod enc Tryd.prog w base spare held fuel 36 cs = some x) :
    ∃ (a : Option Addr) (l : List Bnd) (cap : Nat), cs = [.slice a l.length cap] ∧ Lies w w.heap.size a (bdCs l) ∧ l.length ≤ cap ∧ cap ≤ maxLen ∧ BearB l := by
  rcases DataW.trod_slice Tryd.underlying36 h with ⟨rfl, _⟩ | ⟨a, len, cap, elems, rest, n, hn, rfl, rfl, hb, hl, hm, hlen, hel, _, _⟩
  · exact ⟨none, [], 0, rfl, Lies.empty _ _ _, Nat.le_refl _, Nat.zero_le _, Nat.zero_le _, fun f hf => by cases hf⟩
  · have hC : Tryd.prog.cellsOf 33 = 3 := by kernel_rfl
    rw [hC] at hel
    rcases Nat.eq_zero_or_pos len with h0 | h0
    · subst h0
      exact ⟨some a, [], cap, rfl, Lies.empty _ _ _, Nat.zero_le _, hm, Nat.zero_le _, fun f hf => by cases hf⟩
    · have hone : ∀ i, i < len → ∃ cs', w.cells? base (a.add (i * 3)) 3 = some cs' ∧ ∃ y, DataW.trod enc Tryd.prog w base spare held n 33 cs' = some y := by
        intro i hi
        have h1 := hel i hi
        rw [List.getElem?_eq_getElem (by omega)] at h1
        obtain ⟨cs', h2, h3⟩ := Option.bind_eq_some_iff.1 h1
        exact ⟨cs', h2, _, h3⟩
      obtain ⟨cs0, hc0, _⟩ := hone 0 h0
      obtain ⟨_, hl0, ha0⟩ := World.cells?_some hc0
      obtain ⟨b, o, spot⟩ := a
      have hq0 := ha0 0 (by omega)
      rw [List.getElem?_eq_getElem (by omega)] at hq0
      have hspot : spot = none := by simpa [Addr.add] using World.cell?_spot hq0
      subst hspot
      have hadd : ∀ o j, (⟨b, o, none⟩ : Addr).add j = ⟨b, o + j, none⟩ := by intro o j; unfold Addr.add; split <;> simp_all
      have hlt : b < w.heap.size := by
        rw [hadd, hadd] at hq0
        exact World.block_lt_of_cell? w ⟨b, o + 0 * 3 + 0, none⟩ hq0
      have step : ∀ m, m ≤ len → ∃ l : List Bnd, l.length = m ∧ (∀ f ∈ l, f.e.length ≤ maxLen ∧ f.q.length ≤ maxLen ∧ f.k.length ≤ maxLen) ∧ ∀ j u, (bdCs l)[j]? = some u → w.cell? ⟨b, o + j, none⟩ = some u := by
        intro m
        induction m with
        | zero => intro _; exact ⟨[], rfl, fun f hf => (by cases hf), fun j u hu => (by simp [bdCs] at hu)⟩
        | succ m ih =>
          intro hm'
          obtain ⟨l, g1, g2, g3⟩ := ih (by omega)
          obtain ⟨cs', hc, y, hy⟩ := hone m (by omega)
          obtain ⟨_, hlc, hat⟩ := World.cells?_some hc
          obtain ⟨r, hcs, e1⟩ := open_bind hy
          refine ⟨l ++ [r], by rw [List.length_append, g1]; rfl, ?_, ?_⟩
          · intro f hf
            rcases List.mem_append.1 hf with hf | hf
            · exact g2 f hf
            · simp only [List.mem_cons, List.not_mem_nil, or_false] at hf
              subst hf
              exact e1
          · intro j u hu
            have hfl := bdCs_length l
            rw [bdCs_append] at hu
            rcases Nat.lt_or_ge j (bdCs l).length with hj | hj
            · rw [List.getElem?_append_left hj] at hu
              exact g3 j u hu
            · rw [List.getElem?_append_right hj] at hu
              have hu' : (bdC r)[j - (bdCs l).length]? = some u := by simpa [bdCs] using hu
              have hj3 : j - (bdCs l).length < 3 := (List.getElem?_eq_some_iff.1 hu').1
              have hq := hat (j - (bdCs l).length) hj3
              rw [hadd, hadd, hcs, hu'] at hq
              rw [← hq]
              congr 2
              omega
      obtain ⟨l, g1, g2, g3⟩ := step len (Nat.le_refl _)
      subst g1
      exact ⟨some ⟨b, o, none⟩, l, cap, rfl, .inr ⟨b, o, rfl, hlt, g3⟩, hl, hm, Nat.le_trans hl hm, g2⟩
end Go.Proofs.YtocombacjpjdbaaDoor
