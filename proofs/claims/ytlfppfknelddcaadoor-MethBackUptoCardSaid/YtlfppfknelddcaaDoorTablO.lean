/- A table that came in: its cells. A table that came in: its octets are bounded by what it holds. -/
import Derived.Test.YtlfppfknelddcaaDoorTablV0
import Derived.Test.YtlfppfknelddcaaDoorRows
import Derived.OpenShut
import Derived.ShutString
import Derived.ProofKit
namespace Go.Proofs.YtlfppfknelddcaaDoor
section
open Go.RowKit Go.ChangeShapes Go.WideShapes
set_option maxRecDepth 100000

/-- fields one by one are a list of fields -/
theorem desc_of {P : List Fld → Option Addr → Nat → Prop} {w : World} {b o : Nat} : ∀ (n : Nat), (∀ i, i < n → ∃ f A c, Raw f ∧ P f.t A c ∧ ∀ j u, (cellsF (.slice A f.t.length c) f)[j]? = some u → w.cell? ⟨b, o + (i * 5 + j), none⟩ = some u) →
    ∃ l xs, l.length = n ∧ DescL Raw P l xs ∧ ∀ j u, xs[j]? = some u → w.cell? ⟨b, o + j, none⟩ = some u := by
  intro n
  induction n with
  | zero => intro _; exact ⟨[], [], rfl, rfl, fun j u h => by simp at h⟩
  | succ n ih =>
    intro h
    obtain ⟨l, xs, h1, h2, h3⟩ := ih (fun i hi => h i (by omega))
    obtain ⟨f, A, c, hf, hp, hc⟩ := h n (by omega)
    refine ⟨l ++ [f], _, by rw [List.length_append, h1]; rfl, h2.snoc f A c hf hp, fun j u hu => ?_⟩
    have hl := h2.length
    rcases Nat.lt_or_ge j xs.length with hj | hj
    · rw [List.getElem?_append_left hj] at hu
      exact h3 j u hu
    · rw [List.getElem?_append_right hj] at hu
      have := hc _ u hu
      rw [h1] at hl
      rw [show n * 5 + (j - xs.length) = j from by omega] at this
      exact this
theorem raw_of (nm s : List UInt8) (k : UInt8) (n : Int) (t : List Fld) (hn : I64 n) (h1 : nm.length ≤ maxLen) (h2 : s.length ≤ maxLen) : Raw (.mk nm k n s t) := ⟨hn, h1, h2⟩
theorem bytes_of (s : ByteArray) : s = ⟨s.data.toList.toArray⟩ := by cases s; simp

theorem open_table {H : Type} {enc : TypeId × Value → H} {w : World} {base : Nat} {spare : Nat → Bool} {held : Bool} (m : Nat) : ∀ (fuel : Nat) (cs : List Value) (x : DataW H × List MemPlace), fuel ≤ m → DataW.trod enc Tryd.prog w base spare held fuel 30 cs = some x →
    ∃ a l cap, cs = [.slice a l.length cap] ∧ TabH Raw m w w.heap.size l a cap := by
  induction m with
  | zero =>
    intro fuel cs x hf h
    have h0 : fuel = 0 := by omega
    subst h0
    simp [DataW.trod] at h
  | succ m ih =>
    intro fuel cs x hf h
    rcases DataW.trod_slice Tryd.underlying30 h with ⟨rfl, _⟩ | ⟨a, len, cap, elems, rest, n, hn, rfl, rfl, hb, hl, hm, hlen, hel, _, _⟩
    · exact ⟨none, [], 0, rfl, TabS.nil _ _ _ _ _ (Nat.zero_le _)⟩
    · have hC : Tryd.prog.cellsOf 50 = 5 := by kernel_rfl
      rw [hC] at hel
      rcases Nat.eq_zero_or_pos len with h0 | h0
      · subst h0
        refine ⟨some a, [], cap, rfl, TabS.nil _ _ _ _ _ hm⟩
      · have hone : ∀ i, i < len → ∃ cs', w.cells? base (a.add (i * 5)) 5 = some cs' ∧ ∃ y, DataW.trod enc Tryd.prog w base spare held n 50 cs' = some y := by
          intro i hi
          have h1 := hel i hi
          rw [List.getElem?_eq_getElem (by omega)] at h1
          obtain ⟨cs', h2, h3⟩ := Option.bind_eq_some_iff.1 h1
          exact ⟨cs', h2, _, h3⟩
        obtain ⟨cs0, hc0, _⟩ := hone 0 h0
        obtain ⟨_, hl0, ha0⟩ := World.cells?_some hc0
        obtain ⟨b, o, spot⟩ := a
        have hq0 := ha0 0 (by omega)
        rw [List.getElem?_eq_getElem (by omega)] at hq0
        have hspot : spot = none := by simpa [Addr.add] using World.cell?_spot hq0
        subst hspot
        have hadd : ∀ o j, (⟨b, o, none⟩ : Addr).add j = ⟨b, o + j, none⟩ := by intro o j; unfold Addr.add; split <;> simp_all
        have hlt : b < w.heap.size := by
          rw [hadd, hadd] at hq0
          exact World.block_lt_of_cell? w ⟨b, o + 0 * 5 + 0, none⟩ hq0
        obtain ⟨l, xs, h1, h2, h3⟩ := desc_of (P := TabH Raw m w w.heap.size) (w := w) (b := b) (o := o) len (fun i hi => by
          obtain ⟨cs', hc, y, hy⟩ := hone i hi
          obtain ⟨_, hlc, hat⟩ := World.cells?_some hc
          obtain ⟨zs, n', hn', _, _, hzl, hfs⟩ := DataW.trod_struct Tryd.underlying50 hy
          match cs', hlc with
          | [c0, c1, c2, c3, c4], _ =>
            have k9 : Tryd.prog.cellsOf 9 = 1 := by kernel_rfl
            have k5 : Tryd.prog.cellsOf 5 = 1 := by kernel_rfl
            have k2 : Tryd.prog.cellsOf 2 = 1 := by kernel_rfl
            have k47 : Tryd.prog.cellsOf 30 = 1 := by kernel_rfl
            have f0 : DataW.trod enc Tryd.prog w base spare held n' 9 ((([c0, c1, c2, c3, c4] : List Value).drop 0).take (Tryd.prog.cellsOf 9)) = zs[0]? := hfs 0 _ rfl
            have f1 : DataW.trod enc Tryd.prog w base spare held n' 5 ((([c0, c1, c2, c3, c4] : List Value).drop 1).take (Tryd.prog.cellsOf 5)) = zs[1]? := hfs 1 _ rfl
            have f2 : DataW.trod enc Tryd.prog w base spare held n' 2 ((([c0, c1, c2, c3, c4] : List Value).drop 2).take (Tryd.prog.cellsOf 2)) = zs[2]? := hfs 2 _ rfl
            have f3 : DataW.trod enc Tryd.prog w base spare held n' 9 ((([c0, c1, c2, c3, c4] : List Value).drop 3).take (Tryd.prog.cellsOf 9)) = zs[3]? := hfs 3 _ rfl
            have f4 : DataW.trod enc Tryd.prog w base spare held n' 30 ((([c0, c1, c2, c3, c4] : List Value).drop 4).take (Tryd.prog.cellsOf 30)) = zs[4]? := hfs 4 _ rfl
            rw [k9] at f0 f3
            rw [k5] at f1
            rw [k2] at f2
            rw [k47] at f4
            have hz5 : zs.length = 5 := hzl
            obtain ⟨s0, e0, _, l0⟩ := DataW.trod_string (cs := [c0]) Tryd.underlying9 (f0.trans (List.getElem?_eq_getElem (by omega)))
            obtain ⟨n1, e1, _, w1⟩ := DataW.trod_int (cs := [c1]) Tryd.underlying5 (f1.trans (List.getElem?_eq_getElem (by omega)))
            obtain ⟨n2, e2, _, w2⟩ := DataW.trod_int (cs := [c2]) Tryd.underlying2 (f2.trans (List.getElem?_eq_getElem (by omega)))
            obtain ⟨s3, e3, _, l3⟩ := DataW.trod_string (cs := [c3]) Tryd.underlying9 (f3.trans (List.getElem?_eq_getElem (by omega)))
            obtain ⟨a4, l4, cap4, e4, t4⟩ := ih n' [c4] _ (by omega) (f4.trans (List.getElem?_eq_getElem (by omega)))
            injection e0 with e0
            injection e1 with e1
            injection e2 with e2
            injection e3 with e3
            injection e4 with e4
            simp [Lit.wf, IntKind.min, IntKind.max, IntKind.signed, IntKind.bits] at w1
            have hk : n1 = (((UInt8.ofNat n1.toNat).toNat : Nat) : Int) := by
              rw [UInt8.toNat_ofNat', Nat.mod_eq_of_lt (by omega)]
              omega
            refine ⟨.mk s0.data.toList (UInt8.ofNat n1.toNat) n2 s3.data.toList l4, a4, cap4, raw_of _ _ _ _ _ ?_ l0 l3, t4, fun j u hu => ?_⟩
            · have h := wf_i64 w2
              exact ⟨h.1, h.2⟩
            · have hj : j < 5 := (List.getElem?_eq_some_iff.1 hu).1
              have h := hat j hj
              rw [hadd, hadd, Nat.add_assoc] at h
              rw [h, ← hu]
              have hcell : [c0, c1, c2, c3, c4] = cellsF (.slice a4 l4.length cap4) (.mk s0.data.toList (UInt8.ofNat n1.toNat) n2 s3.data.toList l4) := by
                rw [e0, e1, e2, e3, e4]
                unfold cellsF
                simp only [Fld.name, Fld.kind, Fld.n, Fld.s]
                rw [← bytes_of s0, ← bytes_of s3, ← hk]
              rw [hcell]
              rfl)
        subst h1
        exact ⟨some ⟨b, o, none⟩, l, cap, rfl, hl, hm, xs, .inr ⟨b, o, rfl, hlt, h3⟩, h2⟩
end
section
open Go.RowKit Go.ChangeShapes Go.WideShapes
set_option maxRecDepth 100000

theorem rows_nil (k : Nat) : (rowsD k []).length = 0 := by cases k <;> simp [rowsD]
theorem row_bulk (sub : List Fld → List UInt8) (f : Fld) : (rowOf sub f).length ≤ 10 + f.name.length + f.s.length + (sub f.t).length := by
  rw [rowOf_length]
  unfold sizeN sizeK
  split <;> (repeat' split) <;> omega
/-- what the first n of a row of readings hold -/
def bulkAt {H : Type} (L : List (DataW H)) (i : Nat) : Nat := match L[i]? with
  | some d => Rows.uptoBulk d
  | none => 0
def sumTo (u : Nat → Nat) : Nat → Nat
  | 0 => 0
  | n + 1 => sumTo u n + u n
theorem bulk_append {H : Type} (l r : List (DataW H)) : Rows.uptoBulkAll (l ++ r) = Rows.uptoBulkAll l + Rows.uptoBulkAll r := by
  induction l with
  | nil => simp [Rows.uptoBulkAll]
  | cons x l ih => simp only [List.cons_append, Rows.uptoBulkAll, ih]; omega
theorem sum_take {H : Type} (L : List (DataW H)) : ∀ (n : Nat), n ≤ L.length → sumTo (bulkAt L) n = Rows.uptoBulkAll (L.take n) := by
  intro n
  induction n with
  | zero => intro _; simp [sumTo, Rows.uptoBulkAll]
  | succ n ih =>
    intro h
    have hn : n < L.length := by omega
    rw [List.take_succ_eq_append_getElem hn, bulk_append, ← ih (by omega)]
    show sumTo (bulkAt L) n + bulkAt L n = _
    rw [show bulkAt L n = Rows.uptoBulk L[n] from by unfold bulkAt; rw [List.getElem?_eq_getElem hn]]
    simp [Rows.uptoBulkAll]
theorem bulk_five {H : Type} (zs : List (DataW H × List MemPlace)) (h : zs.length = 5) :
    Rows.uptoBulkAll (zs.map (·.1)) = Rows.uptoBulk (zs[0]'(by omega)).1 + Rows.uptoBulk (zs[1]'(by omega)).1 + Rows.uptoBulk (zs[2]'(by omega)).1 + Rows.uptoBulk (zs[3]'(by omega)).1 + Rows.uptoBulk (zs[4]'(by omega)).1 := by
  match zs, h with
  | [a, b, c, d, e], _ =>
    simp [Rows.uptoBulkAll]
    omega
theorem sum_all {H : Type} (L : List (DataW H)) (n : Nat) (h : n ≤ L.length) : sumTo (bulkAt L) n ≤ Rows.uptoBulkAll L := by
  rw [sum_take L n h]
  have e := bulk_append (L.take n) (L.drop n)
  rw [List.take_append_drop] at e
  omega
theorem desc_of2 {P : List Fld → Option Addr → Nat → Prop} {w : World} {b o : Nat} (v : Nat → Nat) : ∀ (n : Nat), (∀ i, i < n → ∃ f A c, Raw f ∧ P f.t A c ∧ (∀ j u, (cellsF (.slice A f.t.length c) f)[j]? = some u → w.cell? ⟨b, o + (i * 5 + j), none⟩ = some u) ∧ ∀ k, 10 + f.name.length + f.s.length + (rowsD k f.t).length ≤ 2 * v i) →
    ∃ l xs, l.length = n ∧ DescL Raw P l xs ∧ (∀ j u, xs[j]? = some u → w.cell? ⟨b, o + j, none⟩ = some u) ∧ ∀ k, (rowsD (k + 1) l).length ≤ 2 * sumTo v n := by
  intro n
  induction n with
  | zero => intro _; exact ⟨[], [], rfl, rfl, fun j u h => by simp at h, fun k => by rw [rows_nil]; exact Nat.zero_le _⟩
  | succ n ih =>
    intro h
    obtain ⟨l, xs, h1, h2, h3, h4⟩ := ih (fun i hi => h i (by omega))
    obtain ⟨f, A, c, hf, hp, hc, hv⟩ := h n (by omega)
    refine ⟨l ++ [f], _, by rw [List.length_append, h1]; rfl, h2.snoc f A c hf hp, fun j u hu => ?_, fun k => ?_⟩
    · have hl := h2.length
      rcases Nat.lt_or_ge j xs.length with hj | hj
      · rw [List.getElem?_append_left hj] at hu
        exact h3 j u hu
      · rw [List.getElem?_append_right hj] at hu
        have := hc _ u hu
        rw [h1] at hl
        rw [show n * 5 + (j - xs.length) = j from by omega] at this
        exact this
    · have e : (rowsD (k + 1) (l ++ [f])).length = (rowsD (k + 1) l).length + (rowOf (rowsD k) f).length := by simp [rowsD]
      rw [e]
      have := h4 k
      have := hv k
      have := row_bulk (rowsD k) f
      unfold sumTo
      omega

theorem open_table2 {H : Type} {enc : TypeId × Value → H} {w : World} {base : Nat} {spare : Nat → Bool} {held : Bool} (m : Nat) : ∀ (fuel : Nat) (cs : List Value) (x : DataW H × List MemPlace), fuel ≤ m → DataW.trod enc Tryd.prog w base spare held fuel 30 cs = some x →
    ∃ a l cap, cs = [.slice a l.length cap] ∧ TabH Raw m w w.heap.size l a cap ∧ ∀ k, (rowsD k l).length ≤ 2 * Rows.uptoBulk x.1 := by
  induction m with
  | zero =>
    intro fuel cs x hf h
    have h0 : fuel = 0 := by omega
    subst h0
    simp [DataW.trod] at h
  | succ m ih =>
    intro fuel cs x hf h
    rcases DataW.trod_slice Tryd.underlying30 h with ⟨rfl, _⟩ | ⟨a, len, cap, elems, rest, n, hn, rfl, rfl, hb, hl, hm, hlen, hel, _, _⟩
    · exact ⟨none, [], 0, rfl, TabS.nil _ _ _ _ _ (Nat.zero_le _), fun k => by rw [rows_nil]; exact Nat.zero_le _⟩
    · have hC : Tryd.prog.cellsOf 50 = 5 := by kernel_rfl
      rw [hC] at hel
      rcases Nat.eq_zero_or_pos len with h0 | h0
      · subst h0
        exact ⟨some a, [], cap, rfl, TabS.nil _ _ _ _ _ hm, fun k => by rw [rows_nil]; exact Nat.zero_le _⟩
      · have hone : ∀ i, i < len → ∃ cs', w.cells? base (a.add (i * 5)) 5 = some cs' ∧ ∃ y, DataW.trod enc Tryd.prog w base spare held n 50 cs' = some y ∧ (elems.map (·.1))[i]? = some y.1 := by
          intro i hi
          have h1 := hel i hi
          rw [List.getElem?_eq_getElem (by omega)] at h1
          obtain ⟨cs', h2, h3⟩ := Option.bind_eq_some_iff.1 h1
          exact ⟨cs', h2, _, h3, by rw [List.getElem?_map, List.getElem?_eq_getElem (by omega)]; rfl⟩
        obtain ⟨cs0, hc0, _⟩ := hone 0 h0
        obtain ⟨_, hl0, ha0⟩ := World.cells?_some hc0
        obtain ⟨b, o, spot⟩ := a
        have hq0 := ha0 0 (by omega)
        rw [List.getElem?_eq_getElem (by omega)] at hq0
        have hspot : spot = none := by simpa [Addr.add] using World.cell?_spot hq0
        subst hspot
        have hadd : ∀ o j, (⟨b, o, none⟩ : Addr).add j = ⟨b, o + j, none⟩ := by intro o j; unfold Addr.add; split <;> simp_all
        have hlt : b < w.heap.size := by
          rw [hadd, hadd] at hq0
          exact World.block_lt_of_cell? w ⟨b, o + 0 * 5 + 0, none⟩ hq0
        obtain ⟨l, xs, h1, h2, h3, h4⟩ := desc_of2 (P := TabH Raw m w w.heap.size) (w := w) (b := b) (o := o) (bulkAt (elems.map (·.1))) len (fun i hi => by
          obtain ⟨cs', hc, y, hy, hyb⟩ := hone i hi
          obtain ⟨_, hlc, hat⟩ := World.cells?_some hc
          obtain ⟨zs, n', hn', hyx, _, hzl, hfs⟩ := DataW.trod_struct Tryd.underlying50 hy
          match cs', hlc with
          | [c0, c1, c2, c3, c4], _ =>
            have k9 : Tryd.prog.cellsOf 9 = 1 := by kernel_rfl
            have k5 : Tryd.prog.cellsOf 5 = 1 := by kernel_rfl
            have k2 : Tryd.prog.cellsOf 2 = 1 := by kernel_rfl
            have k47 : Tryd.prog.cellsOf 30 = 1 := by kernel_rfl
            have f0 : DataW.trod enc Tryd.prog w base spare held n' 9 ((([c0, c1, c2, c3, c4] : List Value).drop 0).take (Tryd.prog.cellsOf 9)) = zs[0]? := hfs 0 _ rfl
            have f1 : DataW.trod enc Tryd.prog w base spare held n' 5 ((([c0, c1, c2, c3, c4] : List Value).drop 1).take (Tryd.prog.cellsOf 5)) = zs[1]? := hfs 1 _ rfl
            have f2 : DataW.trod enc Tryd.prog w base spare held n' 2 ((([c0, c1, c2, c3, c4] : List Value).drop 2).take (Tryd.prog.cellsOf 2)) = zs[2]? := hfs 2 _ rfl
            have f3 : DataW.trod enc Tryd.prog w base spare held n' 9 ((([c0, c1, c2, c3, c4] : List Value).drop 3).take (Tryd.prog.cellsOf 9)) = zs[3]? := hfs 3 _ rfl
            have f4 : DataW.trod enc Tryd.prog w base spare held n' 30 ((([c0, c1, c2, c3, c4] : List Value).drop 4).take (Tryd.prog.cellsOf 30)) = zs[4]? := hfs 4 _ rfl
            rw [k9] at f0 f3
            rw [k5] at f1
            rw [k2] at f2
            rw [k47] at f4
            have hz5 : zs.length = 5 := hzl
            obtain ⟨s0, e0, x0, l0⟩ := DataW.trod_string (cs := [c0]) Tryd.underlying9 (f0.trans (List.getElem?_eq_getElem (by omega)))
            obtain ⟨n1, e1, x1, w1⟩ := DataW.trod_int (cs := [c1]) Tryd.underlying5 (f1.trans (List.getElem?_eq_getElem (by omega)))
            obtain ⟨n2, e2, x2, w2⟩ := DataW.trod_int (cs := [c2]) Tryd.underlying2 (f2.trans (List.getElem?_eq_getElem (by omega)))
            obtain ⟨s3, e3, x3, l3⟩ := DataW.trod_string (cs := [c3]) Tryd.underlying9 (f3.trans (List.getElem?_eq_getElem (by omega)))
            obtain ⟨a4, l4, cap4, e4, t4, b4⟩ := ih n' [c4] _ (by omega) (f4.trans (List.getElem?_eq_getElem (by omega)))
            injection e0 with e0
            injection e1 with e1
            injection e2 with e2
            injection e3 with e3
            injection e4 with e4
            simp [Lit.wf, IntKind.min, IntKind.max, IntKind.signed, IntKind.bits] at w1
            have hk : n1 = (((UInt8.ofNat n1.toNat).toNat : Nat) : Int) := by
              rw [UInt8.toNat_ofNat', Nat.mod_eq_of_lt (by omega)]
              omega
            refine ⟨.mk s0.data.toList (UInt8.ofNat n1.toNat) n2 s3.data.toList l4, a4, cap4, raw_of _ _ _ _ _ ?_ l0 l3, t4, fun j u hu => ?_, fun k => ?_⟩
            · have h := wf_i64 w2
              exact ⟨h.1, h.2⟩
            · have hj : j < 5 := (List.getElem?_eq_some_iff.1 hu).1
              have h := hat j hj
              rw [hadd, hadd, Nat.add_assoc] at h
              rw [h, ← hu]
              have hcell : [c0, c1, c2, c3, c4] = cellsF (.slice a4 l4.length cap4) (.mk s0.data.toList (UInt8.ofNat n1.toNat) n2 s3.data.toList l4) := by
                rw [e0, e1, e2, e3, e4]
                unfold cellsF
                simp only [Fld.name, Fld.kind, Fld.n, Fld.s]
                rw [← bytes_of s0, ← bytes_of s3, ← hk]
              rw [hcell]
              rfl
            · have hb4 := b4 k
              have hbulk : bulkAt (elems.map (·.1)) i = Rows.uptoBulk y.1 := by unfold bulkAt; rw [hyb]
              have hY : Rows.uptoBulk y.1 = s0.data.toList.length + s3.data.toList.length + Rows.uptoBulk (zs[4]'(by omega)).1 + 5 := by
                rw [hyx]
                show Rows.uptoBulk (DataW.agg (zs.map (·.1))) = _
                have h5 := bulk_five zs hz5
                rw [x0, x1, x2, x3] at h5
                simp only [Rows.uptoBulk] at h5 ⊢
                omega
              rw [hbulk, hY]
              simp only [Fld.name, Fld.s, Fld.t]
              omega)
        subst h1
        refine ⟨some ⟨b, o, none⟩, l, cap, rfl, ⟨hl, hm, xs, .inr ⟨b, o, rfl, hlt, h3⟩, h2⟩, fun k => ?_⟩
        have h5 := sum_all (elems.map (·.1)) l.length (by rw [List.length_map]; omega)
        simp only [Rows.uptoBulk]
        cases k with
        | zero => exact Nat.zero_le _
        | succ k => have := h4 k; omega
end
end Go.Proofs.YtlfppfknelddcaaDoor
