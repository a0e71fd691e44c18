/- Rows of frames: their cells, their octets; rows that came in. -/
import Derived.Test.YtfajkbegmmlmjaaFramO
import Derived.OwnWalk
import Derived.Test.YtfajkbegmmlmjaaWords2
namespace Go.Proofs.Ytfajkbegmmlmjaa
open Go.RowKit Go.ChangeShapes Go.WideShapes
set_option maxRecDepth 100000

/-- a frame as it lies: its octets' address and room, too -/
structure Frm where
  k : Int
  ch : Int
  A : Option Addr
  c : Nat
  b : List UInt8
def cellsR (f : Frm) : List Value := cells3 f.k f.ch (.slice f.A f.b.length f.c)
def okF (f : Frm) : Bool := frameOk f.k f.ch f.b.length
def octF (f : Frm) : List UInt8 := frameB f.k.toNat f.ch.toNat f.b
def octsF (l : List Frm) : List UInt8 := l.flatMap octF
def cellsFs (l : List Frm) : List Value := l.flatMap cellsR
def FrmAt (w : World) (B : Nat) (f : Frm) : Prop := Lies w B f.A (B8 f.b) ∧ f.b.length ≤ f.c ∧ f.c ≤ maxLen
def FrmsAt (w : World) (B : Nat) (l : List Frm) (A : Option Addr) (c : Nat) : Prop := l.length ≤ c ∧ c ≤ maxLen ∧ Lies w B A (cellsFs l) ∧ ∀ f ∈ l, FrmAt w B f

theorem FrmAt.below {w w' : World} {B : Nat} {f : Frm} (h : FrmAt w B f) (hb : Below B w w') : FrmAt w' B f := ⟨h.1.below hb, h.2⟩
theorem FrmAt.more {w : World} {B B' : Nat} {f : Frm} (h : FrmAt w B f) (hB : B ≤ B') : FrmAt w B' f := ⟨h.1.more hB, h.2⟩
theorem cellsFs_length (l : List Frm) : (cellsFs l).length = l.length * 3 := by
  induction l with
  | nil => rfl
  | cons f l ih =>
    have e : cellsFs (f :: l) = cellsR f ++ cellsFs l := rfl
    rw [e, List.length_append, ih, List.length_cons, show (cellsR f).length = 3 from rfl]
    omega
theorem cellsFs_append (l m : List Frm) : cellsFs (l ++ m) = cellsFs l ++ cellsFs m := by simp [cellsFs]
theorem cellsFs_one (l : List Frm) : ∀ u ∈ cellsFs l, u.oneCell' = true := by
  intro u hu
  simp only [cellsFs, List.mem_flatMap] at hu
  obtain ⟨f, _, hf⟩ := hu
  simp only [cellsR, cells3, List.mem_cons, List.not_mem_nil, or_false] at hf
  rcases hf with rfl | rfl | rfl <;> rfl
theorem cellsFs_at : ∀ (l : List Frm) (i : Nat) (hi : i < l.length) (j : Nat) (u : Value), (cellsR l[i])[j]? = some u → (cellsFs l)[i * 3 + j]? = some u := by
  intro l
  induction l with
  | nil => intro i hi; simp at hi
  | cons f l ih =>
    intro i hi j u hu
    have e : cellsFs (f :: l) = cellsR f ++ cellsFs l := rfl
    rw [e]
    cases i with
    | zero =>
      have hu' : (cellsR f)[j]? = some u := hu
      rw [Nat.zero_mul, Nat.zero_add, List.getElem?_append_left (List.getElem?_eq_some_iff.1 hu').1]
      exact hu'
    | succ i =>
      rw [List.getElem?_append_right (by rw [show (cellsR f).length = 3 from rfl]; omega), show (cellsR f).length = 3 from rfl, show (i + 1) * 3 + j - 3 = i * 3 + j by omega]
      exact ih i (by simpa using hi) j u hu
/-- the cells of one of them -/
theorem lies_frm {w : World} {B : Nat} {A : Option Addr} {l : List Frm} (h : Lies w B A (cellsFs l)) (i : Nat) (hi : i < l.length) :
    ∃ b o, A = some ⟨b, o, none⟩ ∧ b < B ∧ w.cell? ⟨b, o + i * 3, none⟩ = some (.int .i64 l[i].k) ∧ w.cell? ⟨b, o + i * 3 + 1, none⟩ = some (.int .i64 l[i].ch) ∧ w.cell? ⟨b, o + i * 3 + 2, none⟩ = some (.slice l[i].A l[i].b.length l[i].c) := by
  rcases h with h | ⟨b, o, e, hb, hc⟩
  · have hl := cellsFs_length l
    rw [h] at hl
    simp at hl
    omega
  · exact ⟨b, o, e, hb, hc _ _ (cellsFs_at l i hi 0 _ rfl), by rw [Nat.add_assoc]; exact hc _ _ (cellsFs_at l i hi 1 _ rfl), by rw [Nat.add_assoc]; exact hc _ _ (cellsFs_at l i hi 2 _ rfl)⟩

theorem octsF_append (l m : List Frm) : octsF (l ++ m) = octsF l ++ octsF m := by simp [octsF]
theorem octF_length (f : Frm) : (octF f).length = f.b.length + 8 := frameB_length _ _ _
theorem octsF_length (l : List Frm) (h : ∀ f ∈ l, okF f = true) : (octsF l).length ≤ l.length * 4096 := by
  induction l with
  | nil => simp [octsF]
  | cons f l ih =>
    have e : octsF (f :: l) = octF f ++ octsF l := rfl
    have h1 := ih (fun g hg => h g (by simp [hg]))
    have h2 := h f (by simp)
    unfold okF frameOk at h2
    simp only [Bool.and_eq_true, decide_eq_true_eq] at h2
    rw [e, List.length_append, octF_length, List.length_cons]
    omega
theorem good_ok (l : List Frm) : ∀ f ∈ l.filter okF, okF f = true := fun _ hf => (List.mem_filter.1 hf).2
theorem good_next (l : List Frm) (j : Nat) (h : j < l.length) : (l.take (j + 1)).filter okF = (l.take j).filter okF ++ (if okF l[j] = true then [l[j]] else []) := by
  rw [List.take_succ_eq_append_getElem h, List.filter_append]
  congr 1
  simp only [List.filter_cons, List.filter_nil]
theorem okF_nat (f : Frm) (h : okF f = true) : f.k = (f.k.toNat : Int) ∧ f.ch = (f.ch.toNat : Int) ∧ frameOk (f.k.toNat : Int) (f.ch.toNat : Int) f.b.length = true := by
  have h' := h
  unfold okF frameOk fkind at h
  simp only [Bool.and_eq_true, decide_eq_true_eq] at h
  have e1 : f.k = (f.k.toNat : Int) := by omega
  have e2 : f.ch = (f.ch.toNat : Int) := by omega
  refine ⟨e1, e2, ?_⟩
  unfold okF at h'
  rw [← e1, ← e2]
  exact h'
theorem octs_first (G : List Frm) (j : Nat) (h : j < G.length) : octsF (G.drop j) = octF G[j] ++ octsF (G.drop (j + 1)) := by
  rw [List.drop_eq_getElem_cons h]
  rfl

theorem open_frames {H : Type} {enc : TypeId × Value → H} {w : World} {base : Nat} {spare : Nat → Bool} {held : Bool} {fuel : Nat} {cs : List Value} {x : DataW H × List MemPlace} (h : DataW.trod enc Try.prog w base spare held fuel 62 cs = some x) :
    ∃ (a : Option Addr) (l : List Frm) (cap : Nat), cs = [.slice a l.length cap] ∧ FrmsAt w w.heap.size l a cap := by
  rcases DataW.trod_slice Try.underlying62 h with ⟨rfl, _⟩ | ⟨a, len, cap, elems, rest, n, hn, rfl, rfl, hb, hl, hm, hlen, hel, _, _⟩
  · exact ⟨none, [], 0, rfl, Nat.le_refl _, Nat.zero_le _, Lies.empty _ _ _, fun f hf => by cases hf⟩
  · have hC : Try.prog.cellsOf 44 = 3 := by kernel_rfl
    rw [hC] at hel
    rcases Nat.eq_zero_or_pos len with h0 | h0
    · subst h0
      exact ⟨some a, [], cap, rfl, Nat.zero_le _, hm, Lies.empty _ _ _, fun f hf => by cases hf⟩
    · have hone : ∀ i, i < len → ∃ cs', w.cells? base (a.add (i * 3)) 3 = some cs' ∧ ∃ y, DataW.trod enc Try.prog w base spare held n 44 cs' = some y := by
        intro i hi
        have h1 := hel i hi
        rw [List.getElem?_eq_getElem (by omega)] at h1
        obtain ⟨cs', h2, h3⟩ := Option.bind_eq_some_iff.1 h1
        exact ⟨cs', h2, _, h3⟩
      obtain ⟨cs0, hc0, _⟩ := hone 0 h0
      obtain ⟨_, hl0, ha0⟩ := World.cells?_some hc0
      obtain ⟨b, o, spot⟩ := a
      have hq0 := ha0 0 (by omega)
      rw [List.getElem?_eq_getElem (by omega)] at hq0
      have hspot : spot = none := by simpa [Addr.add] using World.cell?_spot hq0
      subst hspot
      have hadd : ∀ o j, (⟨b, o, none⟩ : Addr).add j = ⟨b, o + j, none⟩ := by intro o j; unfold Addr.add; split <;> simp_all
      have hlt : b < w.heap.size := by
        rw [hadd, hadd] at hq0
        exact World.block_lt_of_cell? w ⟨b, o + 0 * 3 + 0, none⟩ hq0
      have step : ∀ m, m ≤ len → ∃ l : List Frm, l.length = m ∧ (∀ f ∈ l, FrmAt w w.heap.size f) ∧ ∀ j u, (cellsFs l)[j]? = some u → w.cell? ⟨b, o + j, none⟩ = some u := by
        intro m
        induction m with
        | zero => intro _; exact ⟨[], rfl, fun f hf => (by cases hf), fun j u hu => (by simp [cellsFs] at hu)⟩
        | succ m ih =>
          intro hm'
          obtain ⟨l, g1, g2, g3⟩ := ih (by omega)
          obtain ⟨cs', hc, y, hy⟩ := hone m (by omega)
          obtain ⟨_, hlc, hat⟩ := World.cells?_some hc
          obtain ⟨k, ch, a2, l2, cap2, hcs, e1, e2, e3⟩ := open_frame hy
          refine ⟨l ++ [⟨k, ch, a2, cap2, l2⟩], by rw [List.length_append, g1]; rfl, ?_, ?_⟩
          · intro f hf
            rcases List.mem_append.1 hf with hf | hf
            · exact g2 f hf
            · simp only [List.mem_cons, List.not_mem_nil, or_false] at hf
              subst hf
              exact ⟨e3, e1, e2⟩
          · intro j u hu
            have hfl := cellsFs_length l
            rw [cellsFs_append] at hu
            rcases Nat.lt_or_ge j (cellsFs l).length with hj | hj
            · rw [List.getElem?_append_left hj] at hu
              exact g3 j u hu
            · rw [List.getElem?_append_right hj] at hu
              have hu' : (cells3 k ch (.slice a2 l2.length cap2))[j - (cellsFs l).length]? = some u := by simpa [cellsFs, cellsR] using hu
              have hj3 : j - (cellsFs l).length < 3 := (List.getElem?_eq_some_iff.1 hu').1
              have hq := hat (j - (cellsFs l).length) hj3
              rw [hadd, hadd, hcs, hu'] at hq
              rw [← hq]
              congr 2
              omega
      obtain ⟨l, g1, g2, g3⟩ := step len (Nat.le_refl _)
      subst g1
      exact ⟨some ⟨b, o, none⟩, l, cap, rfl, hl, hm, .inr ⟨b, o, rfl, hlt, g3⟩, g2⟩

theorem Lies.own3 {w : World} {base : Nat} {e : TypeId} {size n c : Nat} {D : Nat} {A : Option Addr} {xs : List Value} (h : w.ownsRow base e size (.slice A n c) n xs) (hD : w.heap.size ≤ D) : Lies w D A xs := by
  rcases h.2 with ⟨hv, hn⟩ | ⟨g, cap, cur, hv, _, hg, _⟩
  · left
    apply List.eq_nil_of_length_eq_zero
    rw [h.1, hn, Nat.zero_mul]
  · have hA : A = some ⟨g, 0, none⟩ := by injection hv
    subst hA
    refine .inr ⟨g, 0, rfl, ?_, fun j u hu => ?_⟩
    · have := (Array.getElem?_eq_some_iff.1 hg).1
      exact Nat.lt_of_lt_of_le this hD
    · have := h.cells (g := g) rfl j u hu
      have hadd : (⟨g, 0, none⟩ : Addr).add j = ⟨g, j, none⟩ := by unfold Addr.add; split <;> simp_all
      rw [hadd] at this
      simpa using this
end Go.Proofs.Ytfajkbegmmlmjaa
