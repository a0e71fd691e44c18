/- A table that came in: its cells. -/
import Derived.Test.YtplijhhjclfhaaaTablV
import Derived.Test.YtplijhhjclfhaaaRows
import Derived.OpenShut
import Derived.ShutString
import Derived.ProofKit
namespace Go.Proofs.Ytplijhhjclfhaaa
open Go.RowKit Go.ChangeShapes Go.WideShapes

/-- fields one by one are a list of fields -/
theorem desc_of {P : List Fld → Option Addr → Nat → Prop} {w : World} {b o : Nat} : ∀ (n : Nat), (∀ i, i < n → ∃ f A c, Raw f ∧ P f.t A c ∧ ∀ j u, (cellsF (.slice A f.t.length c) f)[j]? = some u → w.cell? ⟨b, o + (i * 5 + j), none⟩ = some u) →
    ∃ l xs, l.length = n ∧ DescL Raw P l xs ∧ ∀ j u, xs[j]? = some u → w.cell? ⟨b, o + j, none⟩ = some u := by
  intro n
  induction n with
  | zero => intro _; exact ⟨[], [], rfl, rfl, fun j u h => by simp at h⟩
  | succ n ih =>
    intro h
    obtain ⟨l, xs, h1, h2, h3⟩ := ih (fun i hi => h i (by omega))
    obtain ⟨f, A, c, hf, hp, hc⟩ := h n (by omega)
    refine ⟨l ++ [f], _, by rw [List.length_append, h1]; rfl, h2.snoc f A c hf hp, fun j u hu => ?_⟩
    have hl := h2.length
    rcases Nat.lt_or_ge j xs.length with hj | hj
    · rw [List.getElem?_append_left hj] at hu
      exact h3 j u hu
    · rw [List.getElem?_append_right hj] at hu
      have := hc _ u hu
      rw [h1] at hl
      rw [show n * 5 + (j - xs.length) = j from by omega] at this
      exact this
theorem raw_of (nm s : List UInt8) (k : UInt8) (n : Int) (t : List Fld) (hn : I64 n) (h1 : nm.length ≤ maxLen) (h2 : s.length ≤ maxLen) : Raw (.mk nm k n s t) := ⟨hn, h1, h2⟩
theorem bytes_of (s : ByteArray) : s = ⟨s.data.toList.toArray⟩ := by cases s; simp

theorem open_table {H : Type} {enc : TypeId × Value → H} {w : World} {base : Nat} {spare : Nat → Bool} {held : Bool} (m : Nat) : ∀ (fuel : Nat) (cs : List Value) (x : DataW H × List MemPlace), fuel ≤ m → DataW.trod enc Try.prog w base spare held fuel 23 cs = some x →
    ∃ a l cap, cs = [.slice a l.length cap] ∧ TabH Raw m w w.heap.size l a cap := by
  induction m with
  | zero =>
    intro fuel cs x hf h
    have h0 : fuel = 0 := by omega
    subst h0
    simp [DataW.trod] at h
  | succ m ih =>
    intro fuel cs x hf h
    rcases DataW.trod_slice Try.underlying23 h with ⟨rfl, _⟩ | ⟨a, len, cap, elems, rest, n, hn, rfl, rfl, hb, hl, hm, hlen, hel, _, _⟩
    · exact ⟨none, [], 0, rfl, TabS.nil _ _ _ _ _ (Nat.zero_le _)⟩
    · have hC : Try.prog.cellsOf 54 = 5 := by kernel_rfl
      rw [hC] at hel
      rcases Nat.eq_zero_or_pos len with h0 | h0
      · subst h0
        refine ⟨some a, [], cap, rfl, TabS.nil _ _ _ _ _ hm⟩
      · have hone : ∀ i, i < len → ∃ cs', w.cells? base (a.add (i * 5)) 5 = some cs' ∧ ∃ y, DataW.trod enc Try.prog w base spare held n 54 cs' = some y := by
          intro i hi
          have h1 := hel i hi
          rw [List.getElem?_eq_getElem (by omega)] at h1
          obtain ⟨cs', h2, h3⟩ := Option.bind_eq_some_iff.1 h1
          exact ⟨cs', h2, _, h3⟩
        obtain ⟨cs0, hc0, _⟩ := hone 0 h0
        obtain ⟨_, hl0, ha0⟩ := World.cells?_some hc0
        obtain ⟨b, o, spot⟩ := a
        have hq0 := ha0 0 (by omega)
        rw [List.getElem?_eq_getElem (by omega)] at hq0
        have hspot : spot = none := by simpa [Addr.add] using World.cell?_spot hq0
        subst hspot
        have hadd : ∀ o j, (⟨b, o, none⟩ : Addr).add j = ⟨b, o + j, none⟩ := by intro o j; unfold Addr.add; split <;> simp_all
        have hlt : b < w.heap.size := by
          rw [hadd, hadd] at hq0
          exact World.block_lt_of_cell? w ⟨b, o + 0 * 5 + 0, none⟩ hq0
        obtain ⟨l, xs, h1, h2, h3⟩ := desc_of (P := TabH Raw m w w.heap.size) (w := w) (b := b) (o := o) len (fun i hi => by
          obtain ⟨cs', hc, y, hy⟩ := hone i hi
          obtain ⟨_, hlc, hat⟩ := World.cells?_some hc
          obtain ⟨zs, n', hn', _, _, hzl, hfs⟩ := DataW.trod_struct Try.underlying54 hy
          match cs', hlc with
          | [c0, c1, c2, c3, c4], _ =>
            have k9 : Try.prog.cellsOf 9 = 1 := by kernel_rfl
            have k5 : Try.prog.cellsOf 5 = 1 := by kernel_rfl
            have k2 : Try.prog.cellsOf 2 = 1 := by kernel_rfl
            have k47 : Try.prog.cellsOf 23 = 1 := by kernel_rfl
            have f0 : DataW.trod enc Try.prog w base spare held n' 9 ((([c0, c1, c2, c3, c4] : List Value).drop 0).take (Try.prog.cellsOf 9)) = zs[0]? := hfs 0 _ rfl
            have f1 : DataW.trod enc Try.prog w base spare held n' 5 ((([c0, c1, c2, c3, c4] : List Value).drop 1).take (Try.prog.cellsOf 5)) = zs[1]? := hfs 1 _ rfl
            have f2 : DataW.trod enc Try.prog w base spare held n' 2 ((([c0, c1, c2, c3, c4] : List Value).drop 2).take (Try.prog.cellsOf 2)) = zs[2]? := hfs 2 _ rfl
            have f3 : DataW.trod enc Try.prog w base spare held n' 9 ((([c0, c1, c2, c3, c4] : List Value).drop 3).take (Try.prog.cellsOf 9)) = zs[3]? := hfs 3 _ rfl
            have f4 : DataW.trod enc Try.prog w base spare held n' 23 ((([c0, c1, c2, c3, c4] : List Value).drop 4).take (Try.prog.cellsOf 23)) = zs[4]? := hfs 4 _ rfl
            rw [k9] at f0 f3
            rw [k5] at f1
            rw [k2] at f2
            rw [k47] at f4
            have hz5 : zs.length = 5 := hzl
            obtain ⟨s0, e0, _, l0⟩ := DataW.trod_string (cs := [c0]) Try.underlying9 (f0.trans (List.getElem?_eq_getElem (by omega)))
            obtain ⟨n1, e1, _, w1⟩ := DataW.trod_int (cs := [c1]) Try.underlying5 (f1.trans (List.getElem?_eq_getElem (by omega)))
            obtain ⟨n2, e2, _, w2⟩ := DataW.trod_int (cs := [c2]) Try.underlying2 (f2.trans (List.getElem?_eq_getElem (by omega)))
            obtain ⟨s3, e3, _, l3⟩ := DataW.trod_string (cs := [c3]) Try.underlying9 (f3.trans (List.getElem?_eq_getElem (by omega)))
            obtain ⟨a4, l4, cap4, e4, t4⟩ := ih n' [c4] _ (by omega) (f4.trans (List.getElem?_eq_getElem (by omega)))
            injection e0 with e0
            injection e1 with e1
            injection e2 with e2
            injection e3 with e3
            injection e4 with e4
            simp [Lit.wf, IntKind.min, IntKind.max, IntKind.signed, IntKind.bits] at w1
            have hk : n1 = (((UInt8.ofNat n1.toNat).toNat : Nat) : Int) := by
              rw [UInt8.toNat_ofNat', Nat.mod_eq_of_lt (by omega)]
              omega
            refine ⟨.mk s0.data.toList (UInt8.ofNat n1.toNat) n2 s3.data.toList l4, a4, cap4, raw_of _ _ _ _ _ ?_ l0 l3, t4, fun j u hu => ?_⟩
            · have h := wf_i64 w2
              exact ⟨h.1, h.2⟩
            · have hj : j < 5 := (List.getElem?_eq_some_iff.1 hu).1
              have h := hat j hj
              rw [hadd, hadd, Nat.add_assoc] at h
              rw [h, ← hu]
              have hcell : [c0, c1, c2, c3, c4] = cellsF (.slice a4 l4.length cap4) (.mk s0.data.toList (UInt8.ofNat n1.toNat) n2 s3.data.toList l4) := by
                rw [e0, e1, e2, e3, e4]
                unfold cellsF
                simp only [Fld.name, Fld.kind, Fld.n, Fld.s]
                rw [← bytes_of s0, ← bytes_of s3, ← hk]
              rw [hcell]
              rfl)
        subst h1
        exact ⟨some ⟨b, o, none⟩, l, cap, rfl, hl, hm, xs, .inr ⟨b, o, rfl, hlt, h3⟩, h2⟩
end Go.Proofs.Ytplijhhjclfhaaa
