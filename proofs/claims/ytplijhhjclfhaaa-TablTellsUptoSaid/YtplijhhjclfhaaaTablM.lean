/- Tables of fields in memory: where a table's cells lie. No program is imported. -/
import Derived.Test.YtplijhhjclfhaaaTablP
namespace Go.Proofs.Ytplijhhjclfhaaa
open Go.RowKit

/-- a field's five cells -/
def cellsF (v : Value) (f : Fld) : List Value := [.string ⟨f.name.toArray⟩, .int .u8 (f.kind.toNat : Int), .int .i64 f.n, .string ⟨f.s.toArray⟩, v]
/-- how long a field's texts may be: what came in; what no sum of lengths breaks -/
def Raw (f : Fld) : Prop := I64 f.n ∧ f.name.length ≤ maxLen ∧ f.s.length ≤ maxLen
def Held (f : Fld) : Prop := I64 f.n ∧ f.name.length ≤ 140737488355328 ∧ f.s.length ≤ 140737488355328
/-- cells that are fields, whose tables lie as P says -/
def DescL (H : Fld → Prop) (P : List Fld → Option Addr → Nat → Prop) : List Fld → List Value → Prop
  | [], xs => xs = []
  | f :: l, xs => ∃ A c ys, xs = cellsF (.slice A f.t.length c) f ++ ys ∧ H f ∧ P f.t A c ∧ DescL H P l ys
/-- cells that lie one behind the other in a block of a kind -/
def LiesS (w : World) (S : Nat → Prop) (A : Option Addr) (xs : List Value) : Prop :=
  xs = [] ∨ ∃ b o, A = some ⟨b, o, none⟩ ∧ S b ∧ ∀ j u, xs[j]? = some u → w.cell? ⟨b, o + j, none⟩ = some u
/-- a table, d deep at most, lies at a slice's address, all of it in blocks of a kind -/
def TabS (H : Fld → Prop) : Nat → World → (Nat → Prop) → List Fld → Option Addr → Nat → Prop
  | 0, _, _, l, _, c => l = [] ∧ c ≤ maxLen
  | d + 1, w, S, l, A, c => l.length ≤ c ∧ c ≤ maxLen ∧ ∃ xs, LiesS w S A xs ∧ DescL H (TabS H d w S) l xs
/-- .. below a block; in new blocks -/
abbrev TabH (H : Fld → Prop) (d : Nat) (w : World) (B : Nat) : List Fld → Option Addr → Nat → Prop := TabS H d w (fun b => b < B)
abbrev TabAt := TabH Held
abbrev TabNew (d : Nat) (w : World) (lo : Nat) : List Fld → Option Addr → Nat → Prop := TabS Held d w (fun b => lo ≤ b ∧ b < w.heap.size)

theorem DescL.imp {H : Fld → Prop} {P Q : List Fld → Option Addr → Nat → Prop} (h : ∀ l A c, P l A c → Q l A c) : ∀ {l : List Fld} {xs : List Value}, DescL H P l xs → DescL H Q l xs := by
  intro l
  induction l with
  | nil => intro xs hx; exact hx
  | cons f l ih =>
    rintro xs ⟨A, c, ys, h1, h2, h3, h4⟩
    exact ⟨A, c, ys, h1, h2, h _ _ _ h3, ih h4⟩
theorem DescL.length {H : Fld → Prop} {P : List Fld → Option Addr → Nat → Prop} : ∀ {l : List Fld} {xs : List Value}, DescL H P l xs → xs.length = l.length * 5 := by
  intro l
  induction l with
  | nil => intro xs hx; rw [hx]; rfl
  | cons f l ih =>
    rintro xs ⟨A, c, ys, rfl, _, _, h4⟩
    rw [List.length_append, ih h4, List.length_cons]
    simp [cellsF]
    omega
theorem DescL.one {H : Fld → Prop} {P : List Fld → Option Addr → Nat → Prop} : ∀ {l : List Fld} {xs : List Value}, DescL H P l xs → ∀ u ∈ xs, u.oneCell' = true := by
  intro l
  induction l with
  | nil => intro xs hx u hu; rw [hx] at hu; cases hu
  | cons f l ih =>
    rintro xs ⟨A, c, ys, rfl, _, _, h4⟩ u hu
    rcases List.mem_append.1 hu with h | h
    · simp only [cellsF, List.mem_cons, List.not_mem_nil, or_false] at h
      rcases h with rfl | rfl | rfl | rfl | rfl <;> rfl
    · exact ih h4 u h
theorem DescL.append {H : Fld → Prop} {P : List Fld → Option Addr → Nat → Prop} : ∀ {l m : List Fld} {xs ys : List Value}, DescL H P l xs → DescL H P m ys → DescL H P (l ++ m) (xs ++ ys) := by
  intro l
  induction l with
  | nil => intro m xs ys hx hy; rw [hx]; exact hy
  | cons f l ih =>
    rintro m xs ys ⟨A, c, zs, rfl, h2, h3, h4⟩ hy
    exact ⟨A, c, zs ++ ys, by simp, h2, h3, ih h4 hy⟩
theorem DescL.snoc {H : Fld → Prop} {P : List Fld → Option Addr → Nat → Prop} {l : List Fld} {xs : List Value} (h : DescL H P l xs) (f : Fld) (A : Option Addr) (c : Nat) (hf : H f) (hp : P f.t A c) : DescL H P (l ++ [f]) (xs ++ cellsF (.slice A f.t.length c) f) :=
  h.append ⟨A, c, [], by simp, hf, hp, rfl⟩
theorem DescL.at {H : Fld → Prop} {P : List Fld → Option Addr → Nat → Prop} : ∀ {l : List Fld} {xs : List Value}, DescL H P l xs → ∀ (i : Nat) (hi : i < l.length),
    ∃ A c, H l[i] ∧ P l[i].t A c ∧ ∀ j u, (cellsF (.slice A l[i].t.length c) l[i])[j]? = some u → xs[i * 5 + j]? = some u := by
  intro l
  induction l with
  | nil => intro xs _ i hi; simp at hi
  | cons f l ih =>
    rintro xs ⟨A, c, ys, rfl, h2, h3, h4⟩ i hi
    cases i with
    | zero =>
      refine ⟨A, c, h2, h3, fun j u hu => ?_⟩
      have hu' : (cellsF (.slice A f.t.length c) f)[j]? = some u := hu
      rw [Nat.zero_mul, Nat.zero_add, List.getElem?_append_left ((List.getElem?_eq_some_iff.1 hu').1)]
      exact hu'
    | succ i =>
      obtain ⟨A', c', a1, a2, a3⟩ := ih h4 i (by simpa using hi)
      refine ⟨A', c', a1, a2, fun j u hu => ?_⟩
      have h5 : (cellsF (.slice A f.t.length c) f).length = 5 := rfl
      rw [List.getElem?_append_right (by omega), h5, show (i + 1) * 5 + j - 5 = i * 5 + j by omega]
      exact a3 j u hu
theorem DescL.take {H : Fld → Prop} {P : List Fld → Option Addr → Nat → Prop} {l : List Fld} {xs : List Value} (h : DescL H P l xs) (n : Nat) : ∃ ys, DescL H P (l.take n) ys := by
  induction l generalizing xs n with
  | nil => exact ⟨[], by rw [List.take_nil]; rfl⟩
  | cons f l ih =>
    obtain ⟨A, c, ys, rfl, h2, h3, h4⟩ := h
    cases n with
    | zero => exact ⟨[], rfl⟩
    | succ n =>
      obtain ⟨zs, hz⟩ := ih h4 n
      exact ⟨_, A, c, zs, rfl, h2, h3, hz⟩

section
variable {H : Fld → Prop} {w w' : World} {B B' : Nat} {S S' : Nat → Prop}
theorem TabS.keep (hk : ∀ b o, S b → w'.cell? ⟨b, o, none⟩ = w.cell? ⟨b, o, none⟩) : ∀ (d : Nat) (l : List Fld) (A : Option Addr) (c : Nat), TabS H d w S l A c → TabS H d w' S l A c := by
  intro d
  induction d with
  | zero => intro l A c h; exact h
  | succ d ih =>
    rintro l A c ⟨h1, h2, xs, h3, h4⟩
    refine ⟨h1, h2, xs, ?_, h4.imp ih⟩
    rcases h3 with h | ⟨b, o, e, hb, hc⟩
    · exact .inl h
    · exact .inr ⟨b, o, e, hb, fun j u hu => (hk _ _ hb).trans (hc j u hu)⟩
theorem TabS.weak (hS : ∀ b, S b → S' b) : ∀ (d : Nat) (l : List Fld) (A : Option Addr) (c : Nat), TabS H d w S l A c → TabS H d w S' l A c := by
  intro d
  induction d with
  | zero => intro l A c h; exact h
  | succ d ih =>
    rintro l A c ⟨h1, h2, xs, h3, h4⟩
    refine ⟨h1, h2, xs, ?_, h4.imp ih⟩
    rcases h3 with h | ⟨b, o, e, hb, hc⟩
    · exact .inl h
    · exact .inr ⟨b, o, e, hS _ hb, hc⟩
theorem TabS.cap {d : Nat} {l : List Fld} {A : Option Addr} {c : Nat} (h : TabS H d w S l A c) : l.length ≤ c ∧ c ≤ maxLen := by
  cases d with
  | zero => obtain ⟨rfl, h2⟩ := h; exact ⟨Nat.zero_le _, h2⟩
  | succ d => exact ⟨h.1, h.2.1⟩
theorem TabS.nil (d : Nat) (w : World) (S : Nat → Prop) (A : Option Addr) (c : Nat) (hc : c ≤ maxLen) : TabS H d w S [] A c := by
  cases d with
  | zero => exact ⟨rfl, hc⟩
  | succ d => exact ⟨Nat.zero_le _, hc, [], .inl rfl, rfl⟩
theorem TabS.succ : ∀ (d : Nat) (l : List Fld) (A : Option Addr) (c : Nat), TabS H d w S l A c → TabS H (d + 1) w S l A c := by
  intro d
  induction d with
  | zero =>
    rintro l A c ⟨rfl, h⟩
    exact TabS.nil _ _ _ _ _ h
  | succ d ih =>
    rintro l A c ⟨h1, h2, xs, h3, h4⟩
    exact ⟨h1, h2, xs, h3, h4.imp ih⟩
theorem TabS.le {d d' : Nat} (h : d ≤ d') {l : List Fld} {A : Option Addr} {c : Nat} (ht : TabS H d w S l A c) : TabS H d' w S l A c := by
  induction h with
  | refl => exact ht
  | step _ ih => exact TabS.succ _ _ _ _ ih
theorem DescL.imp2 {H H' : Fld → Prop} {P Q : List Fld → Option Addr → Nat → Prop} : ∀ {l : List Fld} {xs : List Value}, (∀ f ∈ l, H f → H' f) → (∀ f ∈ l, ∀ A c, P f.t A c → Q f.t A c) → DescL H P l xs → DescL H' Q l xs := by
  intro l
  induction l with
  | nil => intro xs _ _ hx; exact hx
  | cons f l ih =>
    rintro xs hH hP ⟨A, c, ys, h1, h2, h3, h4⟩
    exact ⟨A, c, ys, h1, hH f (by simp) h2, hP f (by simp) _ _ h3, ih (fun g hg => hH g (by simp [hg])) (fun g hg => hP g (by simp [hg])) h4⟩
theorem TabH.keep (hk : ∀ b o, b < B → w'.cell? ⟨b, o, none⟩ = w.cell? ⟨b, o, none⟩) (d : Nat) (l : List Fld) (A : Option Addr) (c : Nat) (h : TabH H d w B l A c) : TabH H d w' B l A c := TabS.keep (S := fun b => b < B) hk d l A c h
theorem TabH.more (hB : B ≤ B') (d : Nat) (l : List Fld) (A : Option Addr) (c : Nat) (h : TabH H d w B l A c) : TabH H d w B' l A c := TabS.weak (fun _ hb => Nat.lt_of_lt_of_le hb hB) d l A c h
theorem TabH.below {d : Nat} {l : List Fld} {A : Option Addr} {c : Nat} (h : TabH H d w B l A c) (hb : Below B w w') : TabH H d w' B l A c := TabH.keep (fun b o hp => hb.cell (p := ⟨b, o, none⟩) hp) d l A c h
theorem TabH.succ (d : Nat) (l : List Fld) (A : Option Addr) (c : Nat) (h : TabH H d w B l A c) : TabH H (d + 1) w B l A c := TabS.succ d l A c h
theorem TabH.cap {d : Nat} {l : List Fld} {A : Option Addr} {c : Nat} (h : TabH H d w B l A c) : l.length ≤ c ∧ c ≤ maxLen := TabS.cap h
/-- a new table stays, whatever is done to older blocks -/
theorem TabNew.grown {lo : Nat} {d : Nat} {l : List Fld} {A : Option Addr} {c : Nat} (h : TabNew d w lo l A c) {row : Option Nat} (hg : w.grownBy w' row) (hr : ∀ k, row = some k → k < lo) : TabNew d w' lo l A c := by
  have h1 := TabS.keep (w' := w') (fun b o hb => World.cell?_of_block (a := ⟨b, o, none⟩) (hg.block b hb.2 (fun e => by have := hr _ e.symm; omega))) d l A c h
  exact TabS.weak (fun b hb => ⟨hb.1, Nat.lt_of_lt_of_le hb.2 hg.size⟩) d l A c h1
theorem TabNew.low {lo lo' : Nat} {d : Nat} {l : List Fld} {A : Option Addr} {c : Nat} (h : TabNew d w lo l A c) (hl : lo' ≤ lo) : TabNew d w lo' l A c :=
  TabS.weak (fun _ hb => ⟨Nat.le_trans hl hb.1, hb.2⟩) d l A c h
theorem TabNew.at_ {lo : Nat} {d : Nat} {l : List Fld} {A : Option Addr} {c : Nat} (h : TabNew d w lo l A c) : TabAt d w w.heap.size l A c := TabS.weak (fun _ hb => hb.2) d l A c h
/-- a field of a table, its cells and its own table -/
theorem TabH.at {d : Nat} {l : List Fld} {A : Option Addr} {c : Nat} (h : TabH H (d + 1) w B l A c) (i : Nat) (hi : i < l.length) :
    ∃ b o A' c', A = some ⟨b, o, none⟩ ∧ b < B ∧ H l[i] ∧ TabH H d w B l[i].t A' c' ∧ ∀ j u, (cellsF (.slice A' l[i].t.length c') l[i])[j]? = some u → w.cell? ⟨b, o + (i * 5 + j), none⟩ = some u := by
  obtain ⟨h1, h2, xs, h3, h4⟩ := h
  obtain ⟨A', c', a1, a2, a3⟩ := h4.at i hi
  have hl := h4.length
  rcases h3 with h3 | ⟨b, o, e, hb, hc⟩
  · rw [h3] at hl
    simp at hl
    omega
  · exact ⟨b, o, A', c', e, hb, a1, a2, fun j u hu => hc _ u (a3 j u hu)⟩
/-- a table of the call's own -/
theorem TabS.own {base : Nat} {e : TypeId} {d : Nat} {l : List Fld} {A : Option Addr} {n c : Nat} {xs : List Value} (h : w.ownsRow base e 5 (.slice A n c) n xs) (hn : n = l.length) (hd : DescL H (TabS H d w S) l xs) (hS : ∀ b, base ≤ b → b < w.heap.size → S b) : TabS H (d + 1) w S l A c := by
  obtain ⟨A2, c2, hv, h1, h2⟩ := own_form h
  injection hv with e1 e2 e3
  subst e1 e3
  refine ⟨by omega, h2, xs, ?_, hd⟩
  rcases h.2 with ⟨hv, h0⟩ | ⟨g, cap, cur, hv, hgb, hg, _⟩
  · left
    apply List.eq_nil_of_length_eq_zero
    have := hd.length
    omega
  · have hA : A = some ⟨g, 0, none⟩ := by injection hv
    subst hA
    refine .inr ⟨g, 0, rfl, hS g hgb (Array.getElem?_eq_some_iff.1 hg).1, fun j u hu => ?_⟩
    have := h.cells (g := g) rfl j u hu
    have hadd : (⟨g, 0, none⟩ : Addr).add j = ⟨g, j, none⟩ := by unfold Addr.add; split <;> simp_all
    rw [hadd] at this
    simpa using this
end
end Go.Proofs.Ytplijhhjclfhaaa
