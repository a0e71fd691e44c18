/- Layer 9: rows of calls that came in. Layer 9: PagePlays, plain: which pages are in use, which are kept, what they hold; what stands between two calls. Layer 9: PagePlays: the file between two calls, and what each call does to it. Layer 9: a page of octets, noughts behind, as a text. Layer 9: PagePlays: the law's own rows: which pages are in use, which are kept, their texts. Layer 9: PagePlays: what stands within a Commit of the law. -/
import Derived.Test.YtcmffifehpbjnaaPageP
import Derived.Test.YtcmffifehpbjnaaSectW
import Derived.Test.YtcmffifehpbjnaaPageTx
import Derived.Test.YtcmffifehpbjnaaPageTw
import Derived.Test.YtcmffifehpbjnaaZeroA
namespace Go.Proofs.Ytcmffifehpbjnaa
section
open Go.RowKit Go.ChangeShapes Go.WideShapes
set_option maxRecDepth 100000
set_option linter.unusedSimpArgs false
set_option linter.unusedVariables false
structure Op9 where
  kind : Int
  v : Int
  k : Int
def in64 (x : Int) : Prop := -9223372036854775808 ≤ x ∧ x < 9223372036854775808
def Op9.fit (f : Op9) : Prop := in64 f.kind ∧ in64 f.v ∧ in64 f.k
def cellsO1 (f : Op9) : List Value := [.int .i64 f.kind, .int .i64 f.v, .int .i64 f.k]
def cellsO9 (l : List Op9) : List Value := l.flatMap cellsO1
theorem cellsO9_length (l : List Op9) : (cellsO9 l).length = l.length * 3 := by
  induction l with
  | nil => rfl
  | cons f l ih =>
    have e : cellsO9 (f :: l) = cellsO1 f ++ cellsO9 l := rfl
    rw [e, List.length_append, ih, List.length_cons, show (cellsO1 f).length = 3 from rfl]
    omega
theorem cellsO9_append (l m : List Op9) : cellsO9 (l ++ m) = cellsO9 l ++ cellsO9 m := by simp [cellsO9]
theorem cellsO9_at : ∀ (l : List Op9) (i : Nat) (hi : i < l.length) (j : Nat) (u : Value), (cellsO1 l[i])[j]? = some u → (cellsO9 l)[i * 3 + j]? = some u := by
  intro l
  induction l with
  | nil => intro i hi; simp at hi
  | cons f l ih =>
    intro i hi j u hu
    have e : cellsO9 (f :: l) = cellsO1 f ++ cellsO9 l := rfl
    rw [e]
    cases i with
    | zero =>
      have hu' : (cellsO1 f)[j]? = some u := hu
      rw [Nat.zero_mul, Nat.zero_add, List.getElem?_append_left (List.getElem?_eq_some_iff.1 hu').1]
      exact hu'
    | succ i =>
      rw [List.getElem?_append_right (by rw [show (cellsO1 f).length = 3 from rfl]; omega), show (cellsO1 f).length = 3 from rfl, show (i + 1) * 3 + j - 3 = i * 3 + j by omega]
      exact ih i (by simpa using hi) j u hu
/-- the cells of one row -/
theorem lies_op9 {w : World} {B : Nat} {A : Option Addr} {l : List Op9} (h : Lies w B A (cellsO9 l)) (i : Nat) (hi : i < l.length) :
    ∃ b o, A = some ⟨b, o, none⟩ ∧ b < B ∧ w.cell? ⟨b, o + i * 3, none⟩ = some (.int .i64 l[i].kind) ∧ w.cell? ⟨b, o + i * 3 + 1, none⟩ = some (.int .i64 l[i].v) ∧ w.cell? ⟨b, o + i * 3 + 2, none⟩ = some (.int .i64 l[i].k) := by
  rcases h with h | ⟨b, o, e, hb, hc⟩
  · have hl := cellsO9_length l
    rw [h] at hl
    simp at hl
    omega
  · exact ⟨b, o, e, hb, hc _ _ (cellsO9_at l i hi 0 _ rfl), by rw [Nat.add_assoc]; exact hc _ _ (cellsO9_at l i hi 1 _ rfl), by rw [Nat.add_assoc]; exact hc _ _ (cellsO9_at l i hi 2 _ rfl)⟩
theorem open_op9 {H : Type} {enc : TypeId × Value → H} {w : World} {base : Nat} {spare : Nat → Bool} {held : Bool} {fuel : Nat} {cs : List Value} {x : DataW H × List MemPlace} (h : DataW.trod enc Try.prog w base spare held fuel 53 cs = some x) :
    ∃ r : Op9, cs = cellsO1 r ∧ r.fit := by
  obtain ⟨zs, n, _, _, hcl, hzl, hfs⟩ := DataW.trod_struct Try.underlying53 h
  have k3 : Try.prog.cellsOf 3 = 1 := by kernel_rfl
  have kf : Try.prog.cellsOf 53 = 3 := by kernel_rfl
  rw [kf] at hcl
  match cs, hcl with
  | [c0, c1, c2], _ =>
    have f0 : DataW.trod enc Try.prog w base spare held n 3 ((([c0, c1, c2] : List Value).drop 0).take (Try.prog.cellsOf 3)) = zs[0]? := hfs 0 _ rfl
    have f1 : DataW.trod enc Try.prog w base spare held n 3 ((([c0, c1, c2] : List Value).drop 1).take (Try.prog.cellsOf 3)) = zs[1]? := hfs 1 _ rfl
    have f2 : DataW.trod enc Try.prog w base spare held n 3 ((([c0, c1, c2] : List Value).drop 2).take (Try.prog.cellsOf 3)) = zs[2]? := hfs 2 _ rfl
    rw [k3] at f0 f1 f2
    have hz3 : zs.length = 3 := hzl
    obtain ⟨n0, e0, _, w0⟩ := DataW.trod_int (cs := [c0]) Try.underlying3 (f0.trans (List.getElem?_eq_getElem (by omega)))
    obtain ⟨n1, e1, _, w1⟩ := DataW.trod_int (cs := [c1]) Try.underlying3 (f1.trans (List.getElem?_eq_getElem (by omega)))
    obtain ⟨n2, e2, _, w2⟩ := DataW.trod_int (cs := [c2]) Try.underlying3 (f2.trans (List.getElem?_eq_getElem (by omega)))
    injection e0 with e0
    injection e1 with e1
    injection e2 with e2
    simp [Lit.wf, IntKind.min, IntKind.max, IntKind.signed, IntKind.bits] at w0 w1 w2
    have q0 : in64 n0 := ⟨by omega, by omega⟩
    have q1 : in64 n1 := ⟨by omega, by omega⟩
    have q2 : in64 n2 := ⟨by omega, by omega⟩
    exact ⟨⟨n0, n1, n2⟩, by rw [e0, e1, e2]; rfl, q0, q1, q2⟩
theorem open_ops9 {H : Type} {enc : TypeId × Value → H} {w : World} {base : Nat} {spare : Nat → Bool} {held : Bool} {fuel : Nat} {cs : List Value} {x : DataW H × List MemPlace} (h : DataW.trod enc Try.prog w base spare held fuel 49 cs = some x) :
    ∃ (a : Option Addr) (l : List Op9) (cap : Nat), cs = [.slice a l.length cap] ∧ l.length ≤ cap ∧ cap ≤ maxLen ∧ Lies w w.heap.size a (cellsO9 l) ∧ ∀ f ∈ l, f.fit := by
  rcases DataW.trod_slice Try.underlying49 h with ⟨rfl, _⟩ | ⟨a, len, cap, elems, rest, n, hn, rfl, rfl, hb, hl, hm, hlen, hel, _, _⟩
  · exact ⟨none, [], 0, rfl, Nat.le_refl _, Nat.zero_le _, Lies.empty _ _ _, fun f hf => by cases hf⟩
  · have hC : Try.prog.cellsOf 53 = 3 := by kernel_rfl
    rw [hC] at hel
    rcases Nat.eq_zero_or_pos len with h0 | h0
    · subst h0
      exact ⟨some a, [], cap, rfl, Nat.zero_le _, hm, Lies.empty _ _ _, fun f hf => by cases hf⟩
    · have hone : ∀ i, i < len → ∃ cs', w.cells? base (a.add (i * 3)) 3 = some cs' ∧ ∃ y, DataW.trod enc Try.prog w base spare held n 53 cs' = some y := by
        intro i hi
        have h1 := hel i hi
        rw [List.getElem?_eq_getElem (by omega)] at h1
        obtain ⟨cs', h2, h3⟩ := Option.bind_eq_some_iff.1 h1
        exact ⟨cs', h2, _, h3⟩
      obtain ⟨cs0, hc0, _⟩ := hone 0 h0
      obtain ⟨_, hl0, ha0⟩ := World.cells?_some hc0
      obtain ⟨b, o, spot⟩ := a
      have hq0 := ha0 0 (by omega)
      rw [List.getElem?_eq_getElem (by omega)] at hq0
      have hspot : spot = none := by simpa [Addr.add] using World.cell?_spot hq0
      subst hspot
      have hadd : ∀ o j, (⟨b, o, none⟩ : Addr).add j = ⟨b, o + j, none⟩ := by intro o j; unfold Addr.add; split <;> simp_all
      have hlt : b < w.heap.size := by
        rw [hadd, hadd] at hq0
        exact World.block_lt_of_cell? w ⟨b, o + 0 * 3 + 0, none⟩ hq0
      have step : ∀ m, m ≤ len → ∃ l : List Op9, l.length = m ∧ (∀ f ∈ l, f.fit) ∧ ∀ j u, (cellsO9 l)[j]? = some u → w.cell? ⟨b, o + j, none⟩ = some u := by
        intro m
        induction m with
        | zero => intro _; exact ⟨[], rfl, fun f hf => (by cases hf), fun j u hu => (by simp [cellsO9] at hu)⟩
        | succ m ih =>
          intro hm'
          obtain ⟨l, g1, g2, g3⟩ := ih (by omega)
          obtain ⟨cs', hc, y, hy⟩ := hone m (by omega)
          obtain ⟨_, hlc, hat⟩ := World.cells?_some hc
          obtain ⟨r, hcs, e1⟩ := open_op9 hy
          refine ⟨l ++ [r], by rw [List.length_append, g1]; rfl, ?_, ?_⟩
          · intro f hf
            rcases List.mem_append.1 hf with hf | hf
            · exact g2 f hf
            · simp only [List.mem_cons, List.not_mem_nil, or_false] at hf
              subst hf
              exact e1
          · intro j u hu
            have hfl := cellsO9_length l
            rw [cellsO9_append] at hu
            rcases Nat.lt_or_ge j (cellsO9 l).length with hj | hj
            · rw [List.getElem?_append_left hj] at hu
              exact g3 j u hu
            · rw [List.getElem?_append_right hj] at hu
              have hu' : (cellsO1 r)[j - (cellsO9 l).length]? = some u := by simpa [cellsO9] using hu
              have hj3 : j - (cellsO9 l).length < 3 := (List.getElem?_eq_some_iff.1 hu').1
              have hq := hat (j - (cellsO9 l).length) hj3
              rw [hadd, hadd, hcs, hu'] at hq
              rw [← hq]
              congr 2
              omega
      obtain ⟨l, g1, g2, g3⟩ := step len (Nat.le_refl _)
      subst g1
      exact ⟨some ⟨b, o, none⟩, l, cap, rfl, hl, hm, .inr ⟨b, o, rfl, hlt, g3⟩, g2⟩
end
section
open Go.RowKit Go.Maps
set_option maxRecDepth 100000
set_option linter.unusedSimpArgs false
set_option linter.unusedVariables false
/-- the numbers from id on, k of them, that f does not hold of -/
def freeF (f : Nat → Bool) : Nat → Nat → List Int
  | _, 0 => []
  | id, k + 1 => if f id = true then freeF f (id + 1) k else (id : Int) :: freeF f (id + 1) k
theorem freeF_snoc (f : Nat → Bool) : ∀ (k id : Nat), freeF f id (k + 1) = freeF f id k ++ if f (id + k) = true then [] else [((id + k : Nat) : Int)] := by
  intro k
  induction k with
  | zero => intro id; simp [freeF]
  | succ k ih =>
    intro id
    rw [freeF, ih (id + 1)]
    conv => rhs; rw [freeF]
    rw [show id + 1 + k = id + (k + 1) by omega]
    by_cases h : f id = true
    · rw [if_pos h, if_pos h]
    · rw [if_neg h, if_neg h]; rfl
theorem freeF_congr {f f' : Nat → Bool} : ∀ (k id : Nat), (∀ j, id ≤ j → j < id + k → f j = f' j) → freeF f id k = freeF f' id k := by
  intro k
  induction k with
  | zero => intro id _; rfl
  | succ k ih =>
    intro id h
    rw [freeF, freeF, h id (Nat.le_refl _) (by omega), ih (id + 1) (fun j h1 h2 => h j (by omega) (by omega))]
theorem freeF_mem (f : Nat → Bool) : ∀ (k id : Nat) (x : Int), x ∈ freeF f id k ↔ ∃ j : Nat, x = (j : Int) ∧ id ≤ j ∧ j < id + k ∧ f j = false := by
  intro k
  induction k with
  | zero => intro id x; simp [freeF]; intro j _ h1 h2; omega
  | succ k ih =>
    intro id x
    have key : x ∈ freeF f (id + 1) k ↔ ∃ j : Nat, x = (j : Int) ∧ id + 1 ≤ j ∧ j < id + (k + 1) ∧ f j = false := by
      rw [ih (id + 1) x, show id + 1 + k = id + (k + 1) by omega]
    rw [freeF]
    by_cases h : f id = true
    · rw [if_pos h, key]
      constructor
      · rintro ⟨j, h1, h2, h3, h4⟩; exact ⟨j, h1, by omega, h3, h4⟩
      · rintro ⟨j, h1, h2, h3, h4⟩
        have : j ≠ id := fun e => by rw [e, h] at h4; cases h4
        exact ⟨j, h1, by omega, h3, h4⟩
    · rw [if_neg h, List.mem_cons, key]
      have hf : f id = false := by simpa using h
      constructor
      · rintro (rfl | ⟨j, h1, h2, h3, h4⟩)
        · exact ⟨id, rfl, Nat.le_refl _, by omega, hf⟩
        · exact ⟨j, h1, by omega, h3, h4⟩
      · rintro ⟨j, h1, h2, h3, h4⟩
        by_cases e : j = id
        · subst e; exact .inl h1
        · exact .inr ⟨j, h1, by omega, h3, h4⟩
theorem freeF_up (f : Nat → Bool) : ∀ (k id : Nat), (freeF f id k).Pairwise (· < ·) := by
  intro k
  induction k with
  | zero => intro id; exact List.Pairwise.nil
  | succ k ih =>
    intro id
    rw [freeF]
    split
    · exact ih (id + 1)
    · refine List.pairwise_cons.2 ⟨fun x hx => ?_, ih (id + 1)⟩
      obtain ⟨j, h1, h2, _⟩ := (freeF_mem f k (id + 1) x).1 hx
      omega
theorem freeF_le (f : Nat → Bool) : ∀ (k id : Nat), (freeF f id k).length ≤ k := by
  intro k
  induction k with
  | zero => intro id; exact Nat.le_refl _
  | succ k ih =>
    intro id
    have := ih (id + 1)
    rw [freeF]
    split
    · omega
    · simp only [List.length_cons]; omega
theorem freeF_keeps (f : Nat → Bool) (k : Nat) : keepsB (k + 2) (freeF f 2 k) = true := by
  rw [keeps_iff]
  refine ⟨fun x hx => ?_, freeF_up f k 2⟩
  obtain ⟨j, h1, h2, h3, _⟩ := (freeF_mem f k 2 x).1 hx
  omega
/-- the first one is taken -/
theorem freeF_take {f : Nat → Bool} : ∀ (k id x : Nat) (r : List Int), freeF f id k = (x : Int) :: r → f x = false ∧ id ≤ x ∧ x < id + k ∧ freeF (fun j => if j = x then true else f j) id k = r := by
  intro k
  induction k with
  | zero => intro id x r h; cases h
  | succ k ih =>
    intro id x r h
    rw [freeF] at h
    by_cases hf : f id = true
    · rw [if_pos hf] at h
      obtain ⟨h1, h2, h3, h4⟩ := ih (id + 1) x r h
      refine ⟨h1, by omega, by omega, ?_⟩
      rw [freeF]
      rw [if_pos (by show (if id = x then true else f id) = true; rw [hf]; split <;> rfl)]
      exact h4
    · rw [if_neg hf] at h
      injection h with e1 e2
      have e : id = x := by omega
      subst e
      refine ⟨by simpa using hf, Nat.le_refl _, by omega, ?_⟩
      rw [freeF, if_pos (by simp), ← e2]
      exact freeF_congr k (id + 1) fun j h1 h2 => by rw [if_neg (by omega)]
/-- the pages that are none of some that rise -/
theorem othP_free : ∀ (k : Nat) (ids : List Int) (id : Nat), (∀ x ∈ ids, (id : Int) ≤ x) → ids.Pairwise (· < ·) → othP ids id k = freeF (fun j => decide ((j : Int) ∈ ids)) id k := by
  intro k
  induction k with
  | zero => intro ids id _ _; cases ids <;> rfl
  | succ k ih =>
    intro ids id h1 h2
    cases ids with
    | nil =>
      have := ih [] (id + 1) (fun x hx => by cases hx) h2
      rw [othP, freeF, if_neg (by simp), this]
    | cons y r =>
      obtain ⟨h3, h4⟩ := List.pairwise_cons.1 h2
      have hy := h1 y (by simp)
      rw [othP, freeF]
      by_cases e : y = (id : Int)
      · rw [if_pos e, if_pos (by rw [e]; simp), ih r (id + 1) (fun x hx => by have := h3 x hx; omega) h4]
        refine freeF_congr k (id + 1) fun j g1 g2 => ?_
        have : (j : Int) ≠ y := by omega
        simp [this]
      · have hn : ¬ ((id : Int) ∈ y :: r) := fun hm => by
          rcases List.mem_cons.1 hm with hm | hm
          · exact e hm.symm
          · have := h3 _ hm; omega
        rw [if_neg e, if_neg (by simpa using hn), ih (y :: r) (id + 1) (fun x hx => by
          rcases List.mem_cons.1 hx with rfl | hx
          · omega
          · have := h3 x hx; omega) h2]
/-- the least that is free, or what stands at the end -/
def leastF (f : Nat → Bool) (id k n : Nat) : Int := (freeF f id k).headD (n : Int)
theorem leastF_step (f : Nat → Bool) (id k n : Nat) : leastF f id (k + 1) n = if f id = true then leastF f (id + 1) k n else (id : Int) := by
  unfold leastF
  rw [freeF]
  split <;> rfl
/-- what stands between two calls: n pages, u of them in use, kp kept, t their octets; the file's pages D, its loose ones L, put of them taken -/
structure PlI (n : Nat) (u kp : Nat → Bool) (t : Nat → List UInt8) (D : List (List UInt8)) (L : List Int) (put : Nat) : Prop where
  num : n = D.length + 2
  loose : L = freeF kp 2 D.length
  left : L.drop put = freeF u 2 D.length
  most : put ≤ L.length
  sub : ∀ j, kp j = true → u j = true
  tx : ∀ k b, D[k]? = some b → u (k + 2) = true → t (k + 2) = pad b
  le : ∀ b ∈ D, b.length ≤ 512
section
variable {n : Nat} {u kp : Nat → Bool} {t : Nat → List UInt8} {D : List (List UInt8)} {L : List Int} {put : Nat}
theorem PlI.start {u kp : Nat → Bool} {t : Nat → List UInt8} (h : ∀ j, kp j = true → u j = true) : PlI 2 u kp t [] [] 0 := ⟨rfl, rfl, rfl, Nat.le_refl _, h, fun k b hk => by simp at hk, fun b hb => by cases hb⟩
theorem PlI.drop (h : PlI n u kp t D L put) : PlI n kp kp t D L 0 := ⟨h.num, h.loose, by rw [List.drop_zero]; exact h.loose, Nat.zero_le _, fun _ h => h, fun k b h1 h2 => h.tx k b h1 (h.sub _ h2), h.le⟩
theorem PlI.short (h : PlI n u kp t D L put) : L.length ≤ D.length := by rw [h.loose]; exact freeF_le _ _ _
/-- a loose page is taken -/
theorem PlI.old (h : PlI n u kp t D L put) (hp : put < L.length) (b : List UInt8) (hb : b.length ≤ 512) :
    ∃ k, L.getD put 0 = ((k + 2 : Nat) : Int) ∧ k < D.length ∧ u (k + 2) = false ∧ leastF u 2 D.length n = ((k + 2 : Nat) : Int) ∧
      PlI n (fun j => if j = k + 2 then true else u j) kp (fun j => if j = k + 2 then pad b else t j) (D.set k b) L (put + 1) := by
  obtain ⟨x, hx⟩ : ∃ x, x = L[put] := ⟨_, rfl⟩
  have hd : L.drop put = x :: L.drop (put + 1) := by rw [hx]; exact List.drop_eq_getElem_cons hp
  have hm : x ∈ freeF u 2 D.length := by rw [← h.left, hd]; simp
  obtain ⟨j, e1, e2, e3, e4⟩ := (freeF_mem u D.length 2 x).1 hm
  have hf : freeF u 2 D.length = (j : Int) :: L.drop (put + 1) := by rw [← h.left, hd, e1]
  obtain ⟨h1, h2, h3, h4⟩ := freeF_take D.length 2 j _ hf
  have e5 : j - 2 + 2 = j := by omega
  refine ⟨j - 2, ?_, by omega, by rw [e5]; exact h1, ?_, ?_⟩
  · rw [e5, ← e1, hx]; simp [List.getD, hp]
  · unfold leastF; rw [hf, e5]; rfl
  · rw [e5]
    refine ⟨by rw [List.length_set]; exact h.num, by rw [List.length_set]; exact h.loose, by rw [List.length_set]; exact h4.symm, hp, ?_, ?_, ?_⟩
    · intro i hi
      show (if i = j then true else u i) = true
      split
      · rfl
      · exact h.sub i hi
    · intro k c hk hu
      show (if k + 2 = j then pad b else t (k + 2)) = pad c
      by_cases e : k + 2 = j
      · rw [if_pos e]
        rw [show j - 2 = k by omega] at hk
        obtain ⟨g1, g2⟩ := List.getElem?_eq_some_iff.1 hk
        rw [List.getElem_set_self] at g2
        rw [g2]
      · rw [if_neg e]
        rw [List.getElem?_set_ne (by omega)] at hk
        exact h.tx k c hk (by simpa [e] using hu)
    · intro c hc
      rcases List.mem_or_eq_of_mem_set hc with hc | rfl
      · exact h.le c hc
      · exact hb
/-- a page is put at the end -/
theorem PlI.new (h : PlI n u kp t D L put) (hp : ¬ put < L.length) (b : List UInt8) (hb : b.length ≤ 512) :
    put = L.length ∧ leastF u 2 D.length n = (n : Int) ∧ PlI (n + 1) (fun j => if j = n then true else u j) (fun j => if j = n then false else kp j) (fun j => if j = n then pad b else t j) (D ++ [b]) (L ++ [((D.length + 2 : Nat) : Int)]) (put + 1) := by
  have hm := h.most
  have hpe : put = L.length := by omega
  have hfr : freeF u 2 D.length = [] := by rw [← h.left, hpe, List.drop_length]
  have hn := h.num
  refine ⟨hpe, by unfold leastF; rw [hfr]; rfl, ⟨by simp; omega, ?_, ?_, by simp; omega, ?_, ?_, ?_⟩⟩
  · rw [List.length_append, List.length_singleton, freeF_snoc, if_neg (by simp; omega), show 2 + D.length = D.length + 2 by omega]
    rw [freeF_congr (f' := kp) D.length 2 (fun j h1 h2 => by show (if j = n then false else kp j) = kp j; rw [if_neg (by omega)]), ← h.loose]
  · rw [List.length_append, List.length_singleton, freeF_snoc, if_pos (by simp; omega), List.append_nil]
    rw [freeF_congr (f' := u) D.length 2 (fun j h1 h2 => by show (if j = n then true else u j) = u j; rw [if_neg (by omega)]), hfr]
    rw [hpe, List.drop_of_length_le (by simp)]
  · intro j hj
    show (if j = n then true else u j) = true
    split
    · rfl
    · rename_i e
      exact h.sub j (by simpa [e] using hj)
  · intro k c hk hu
    show (if k + 2 = n then pad b else t (k + 2)) = pad c
    by_cases e : k + 2 = n
    · rw [if_pos e]
      rw [List.getElem?_append_right (by omega), show k - D.length = 0 by omega] at hk
      simp at hk
      rw [hk]
    · rw [if_neg e]
      have hlt := (List.getElem?_eq_some_iff.1 hk).1
      simp at hlt
      rw [List.getElem?_append_left (by omega)] at hk
      exact h.tx k c hk (by simpa [e] using hu)
  · intro c hc
    rcases List.mem_append.1 hc with hc | hc
    · exact h.le c hc
    · rw [List.mem_singleton.1 hc]; exact hb
/-- what a Commit keeps: the pages in use whose bit is none -/
theorem PlI.commit (h : PlI n u kp t D L put) (f : Nat → Bool) (hf : ∀ j, f j = false → u j = true) (ids : List Int) (hi : ids = freeF f 2 D.length) (v : Nat → Bool) (hv : ∀ j, 2 ≤ j → v j = decide ((j : Int) ∈ ids)) :
    PlI n v v t D (othP ids 2 D.length) 0 ∧ keepsB (D.length + 2) ids = true := by
  have hk : keepsB (D.length + 2) ids = true := by rw [hi]; exact freeF_keeps f D.length
  have h2 := (keeps_iff _ _).1 hk
  have ho : othP ids 2 D.length = freeF v 2 D.length := by
    rw [othP_free D.length ids 2 (fun x hx => by have := (h2.1 x hx).1; omega) h2.2]
    exact freeF_congr _ _ fun j g1 g2 => (hv j g1).symm
  refine ⟨⟨h.num, ho, by rw [List.drop_zero]; exact ho, Nat.zero_le _, fun _ h => h, fun k b g1 g2 => ?_, h.le⟩, hk⟩
  rw [hv (k + 2) (by omega), decide_eq_true_iff, hi] at g2
  obtain ⟨j, e1, _, _, e4⟩ := (freeF_mem f D.length 2 _).1 g2
  have : k + 2 = j := by omega
  exact h.tx k b g1 (this ▸ hf j e4)
end
end
section
open Go.RowKit Go.Maps
set_option maxRecDepth 100000
set_option linter.unusedSimpArgs false
set_option linter.unusedVariables false
/-- the file behind i calls, beside the law's own rows (their blocks: Y) -/
structure PlA (B g fb : Nat) (w0 : World) (i : Nat) (m : Mt) (n : Nat) (u kp : Nat → Bool) (t : Nat → List UInt8) (Y : Nat → Prop) (w : World) : Prop where
  ex : ∃ a0 a1 D L put, PAt B g fb 2000 Y w0 a0 a1 D m L put w ∧ PlI n u kp t D L put ∧ D.length ≤ i ∧ m.gen ≤ 1 + i
section
variable {B g fb i n : Nat} {w0 w w' : World} {m : Mt} {u kp : Nat → Bool} {t : Nat → List UInt8} {Y : Nat → Prop} {row : Option Nat}
theorem PlA.below (h : PlA B g fb w0 i m n u kp t Y w) (hb : Below w.heap.size w w') : PlA B g fb w0 i m n u kp t Y w' := by
  obtain ⟨a0, a1, D, L, put, h1, h2⟩ := h.ex
  exact ⟨a0, a1, D, L, put, h1.below hb, h2⟩
theorem PlA.fence (h : PlA B g fb w0 i m n u kp t Y w) (hb : Below w.heap.size w w') : PlA B g fb w0 i m n u kp t (fun j => Y j ∨ (w.heap.size ≤ j ∧ j < w'.heap.size)) w' := by
  obtain ⟨a0, a1, D, L, put, h1, h2⟩ := h.ex
  exact ⟨a0, a1, D, L, put, h1.fence hb, h2⟩
theorem PlA.grown (h : PlA B g fb w0 i m n u kp t Y w) (hg : w.grownBy w' row) (hr : ∀ k, row = some k → Y k) : PlA B g fb w0 i m n u kp t (fun j => Y j ∨ (w.heap.size ≤ j ∧ j < w'.heap.size)) w' := by
  obtain ⟨a0, a1, D, L, put, h1, h2⟩ := h.ex
  exact ⟨a0, a1, D, L, put, h1.grown hg hr, h2⟩
theorem PlA.less (h : PlA B g fb w0 i m n u kp t Y w) {Y' : Nat → Prop} (hy : ∀ j, Y' j → Y j) : PlA B g fb w0 i m n u kp t Y' w := by
  obtain ⟨a0, a1, D, L, put, h1, h2⟩ := h.ex
  exact ⟨a0, a1, D, L, put, h1.less hy, h2⟩
theorem PlA.xs (h : PlA B g fb w0 i m n u kp t Y w) : ∀ j, Y j → B ≤ j ∧ j < w.heap.size := by
  obtain ⟨a0, a1, D, L, put, h1, h2⟩ := h.ex
  exact h1.xs
theorem PlA.bel (h : PlA B g fb w0 i m n u kp t Y w) : Below B w0 w ∧ B ≤ w.heap.size := by
  obtain ⟨a0, a1, D, L, put, h1, h2⟩ := h.ex
  exact ⟨h1.bel, h1.le⟩
theorem PlA.few (h : PlA B g fb w0 i m n u kp t Y w) : 2 ≤ n ∧ n ≤ i + 2 ∧ m.gen ≤ 1 + i := by
  obtain ⟨a0, a1, D, L, put, h1, h2, h3, h4⟩ := h.ex
  have := h2.num
  omega
/-- one more call that changed nothing -/
theorem PlA.later (h : PlA B g fb w0 i m n u kp t Y w) : PlA B g fb w0 (i + 1) m n u kp t Y w := by
  obtain ⟨a0, a1, D, L, put, h1, h2, h3, h4⟩ := h.ex
  exact ⟨a0, a1, D, L, put, h1, h2, by omega, by omega⟩
/-- the functions are the same where they are asked -/
theorem PlA.same (h : PlA B g fb w0 i m n u kp t Y w) {u' kp' : Nat → Bool} {t' : Nat → List UInt8} (hu : u' = u) (hk : kp' = kp) (ht : t' = t) : PlA B g fb w0 i m n u' kp' t' Y w := by
  subst hu hk ht
  exact h
theorem pl_put (h : PlA B g fb w0 i m n u kp t Y w) (hi : i < 60) (b : List UInt8) (A : Option Addr) (c : Nat) (hl : LiesP w Y A (B8 b)) (hc1 : b.length ≤ c) (hc2 : c ≤ maxLen) (hb : b.length ≤ 512) :
    Calls Try.prog 11 #[ptr fb, .slice A b.length c] w fun e w' => ∃ id : Nat, e = .returned (.tuple #[.int .i64 (id : Int), .int .i64 0]) ∧ leastF u 2 (n - 2) n = (id : Int) ∧ 2 ≤ id ∧ KeptX Y w w' ∧
      ((id < n ∧ PlA B g fb w0 (i + 1) m n (fun j => if j = id then true else u j) kp (fun j => if j = id then pad b else t j) Y w') ∨
        (id = n ∧ PlA B g fb w0 (i + 1) m (n + 1) (fun j => if j = id then true else u j) (fun j => if j = id then false else kp j) (fun j => if j = id then pad b else t j) Y w')) := by
  obtain ⟨a0, a1, D, L, put, h1, h2, h3, h4⟩ := h.ex
  have hn := h2.num
  have hs := h2.short
  have hd : n - 2 = D.length := by omega
  rw [hd]
  by_cases hp : put < L.length
  · obtain ⟨k, e1, e2, e3, e4, e5⟩ := h2.old hp b hb
    refine (p_put_old h1 b A c hl hc1 hc2 (by omega) hb k hp e1 e2).mono ?_
    rintro e w' ⟨r1, r2, r3⟩
    exact ⟨k + 2, r1, e4, by omega, r3, .inl ⟨by omega, ⟨a0, a1, _, L, _, r2, e5, by rw [List.length_set]; omega, by omega⟩⟩⟩
  · obtain ⟨e1, e2, e3⟩ := h2.new hp b hb
    refine (p_put_new h1 b A c hl hc1 hc2 (by omega) hb e1 (by omega)).mono ?_
    rintro e w' ⟨r1, r2, r3⟩
    rw [← hn] at r1
    exact ⟨n, r1, e2, by omega, r3, .inr ⟨rfl, ⟨a0, a1, _, _, _, r2, e3, by simp; omega, by omega⟩⟩⟩
theorem getLastD_mem : ∀ (l : List Int), l ≠ [] → l.getLastD 0 ∈ l := by
  intro l hl
  rw [List.getLastD_eq_getLast?, List.getLast?_eq_some_getLast hl]
  exact List.getLast_mem hl
theorem pl_commit (h : PlA B g fb w0 i m n u kp t Y w) (hi : i < 60) (f : Nat → Bool) (hf : ∀ j, f j = false → u j = true) (ids : List Int) (hids : ids = freeF f 2 (n - 2)) (mark : Nat) (hmk : mark < 18446744073709551616) (A : Option Addr) (c : Nat) (hl : LiesP w (fun i => Y i ∨ i < B) A (cellsZ ids)) (hc1 : ids.length ≤ c) (hc2 : c ≤ maxLen)
    (v : Nat → Bool) (hv : ∀ j, 2 ≤ j → v j = decide ((j : Int) ∈ ids)) :
    Calls Try.prog 14 #[ptr fb, .int .i64 (ids.getLastD 0), .int .i64 (ids.length : Int), .int .u64 (mark : Int), .slice A ids.length c] w fun e w' => e = .returned (.int .i64 0) ∧ KeptX Y w w' ∧
      PlA B g fb w0 (i + 1) ⟨m.gen + 1, (ids.getLastD 0).toNat, ids.length, mark⟩ n v v t Y w' := by
  obtain ⟨a0, a1, D, L, put, h1, h2, h3, h4⟩ := h.ex
  have hn := h2.num
  have hd : n - 2 = D.length := by omega
  rw [hd] at hids
  obtain ⟨e1, e2⟩ := h2.commit f hf ids hids v hv
  have h5 := (keeps_iff _ _).1 e2
  have hle : ids.length ≤ D.length := by rw [hids]; exact freeF_le _ _ _
  have hroot : 0 ≤ ids.getLastD 0 ∧ ids.getLastD 0 < 100 ∧ (ids.getLastD 0 ≠ 0 → ids.getLastD 0 ∈ ids) := by
    by_cases e : ids = []
    · rw [e]; exact ⟨by decide, by decide, fun h => absurd rfl h⟩
    · have hm := getLastD_mem ids e
      have := h5.1 _ hm
      exact ⟨by omega, by omega, fun _ => hm⟩
  obtain ⟨r, hr⟩ : ∃ r : Nat, ids.getLastD 0 = (r : Int) := ⟨(ids.getLastD 0).toNat, by omega⟩
  rw [hr] at hroot
  rw [hr, Int.toNat_natCast]
  have hbad : cmBad (D.length + 2) (r : Int) (ids.length : Int) ids = false := by
    unfold cmBad
    rw [e2, decide_eq_false (show ¬ ((ids.length : Int) < 0) by omega), decide_eq_false (show ¬ (4611686018427387904 < (ids.length : Int)) by omega)]
    by_cases e : (r : Int) = 0
    · simp [e]
    · have := hroot.2.2 e
      simp [this]
  have h64 : In64 ids := fun x hx => by have := h5.1 x hx; omega
  refine (p_commit h1 r ids.length mark ids A c hl hc1 hc2 h64 (by omega) (by omega) hmk hbad e2 (by omega)).mono ?_
  rintro e w' ⟨r1, r2, r3⟩
  exact ⟨r1, r3, ⟨_, _, D, _, 0, r2, e1, by omega, by show m.gen + 1 ≤ 1 + (i + 1); omega⟩⟩
theorem pl_drop (h : PlA B g fb w0 i m n u kp t Y w) : Calls Try.prog 23 #[ptr fb] w fun e w' => e = .returned (.tuple #[]) ∧ KeptX Y w w' ∧ PlA B g fb w0 (i + 1) m n kp kp t Y w' := by
  obtain ⟨a0, a1, D, L, put, h1, h2, h3, h4⟩ := h.ex
  exact (p_drop h1).mono fun e w' ⟨r1, r2, r3⟩ => ⟨r1, r3, ⟨a0, a1, D, L, 0, r2, h2.drop, by omega, by omega⟩⟩
theorem pl_meta (h : PlA B g fb w0 i m n u kp t Y w) : Calls Try.prog 16 #[ptr fb] w fun e w' => e = .returned (.agg #[.int .u64 (m.gen : Int), .int .i64 (m.root : Int), .int .i64 (m.count : Int), .int .u64 (m.mark : Int)]) ∧ Below w.heap.size w w' := by
  obtain ⟨a0, a1, D, L, put, h1, h2⟩ := h.ex
  exact p_meta h1
theorem pl_len (h : PlA B g fb w0 i m n u kp t Y w) : Calls Try.prog 17 #[ptr fb] w fun e w' => e = .returned (.int .i64 (n : Int)) ∧ w = w' := by
  obtain ⟨a0, a1, D, L, put, h1, h2, _⟩ := h.ex
  rw [h2.num]
  exact p_len h1
theorem pl_free (h : PlA B g fb w0 i m n u kp t Y w) (hi : i ≤ 60) (F : List Int) (hF : F = freeF u 2 (n - 2)) : Calls Try.prog 18 #[ptr fb] w fun e w' => ∃ (A : Option Addr) (c : Nat), e = .returned (.slice A F.length c) ∧ LiesP w' (fun _ => True) A (cellsZ F) ∧ Below w.heap.size w w' := by
  obtain ⟨a0, a1, D, L, put, h1, h2, h3, h4⟩ := h.ex
  have hd : n - 2 = D.length := by have := h2.num; omega
  have hs := h2.short
  rw [hd, ← h2.left] at hF
  refine (p_free h1 (by omega)).mono ?_
  rintro e w' ⟨v, rfl, ho, hb⟩
  rw [← hF] at ho
  obtain ⟨A, c, rfl, _, _⟩ := own_form ho
  exact ⟨A, c, rfl, LiesP.own ho (fun _ _ => trivial), hb⟩
theorem pl_read_no (h : PlA B g fb w0 i m n u kp t Y w) (id : Int) (hid : ¬ (2 ≤ id ∧ id < (n : Int))) : Calls Try.prog 21 #[ptr fb, .int .i64 id] w fun e w' => ∃ (A : Option Addr) (c : Nat), e = .returned (.tuple #[.slice A 0 c, .int .i64 1]) ∧ Below w.heap.size w w' := by
  obtain ⟨a0, a1, D, L, put, h1, h2, _⟩ := h.ex
  rw [h2.num] at hid
  refine (p_read_no h1 id hid).mono ?_
  rintro e w' ⟨v, rfl, ho, hb⟩
  obtain ⟨A, c, rfl, _, _⟩ := own_form ho
  exact ⟨A, c, rfl, hb⟩
theorem pl_read (h : PlA B g fb w0 i m n u kp t Y w) (id : Nat) (h1 : 2 ≤ id) (h2 : id < n) : Calls Try.prog 21 #[ptr fb, .int .i64 (id : Int)] w fun e w' => ∃ (A : Option Addr) (c : Nat) (b : List UInt8), e = .returned (.tuple #[.slice A 512 c, .int .i64 0]) ∧ LiesP w' (fun _ => True) A (B8 b) ∧ b.length = 512 ∧ (u id = true → b = t id) ∧ Below w.heap.size w w' := by
  obtain ⟨a0, a1, D, L, put, g1, g2, _⟩ := h.ex
  obtain ⟨k, rfl⟩ : ∃ k, id = k + 2 := ⟨id - 2, by omega⟩
  have hn := g2.num
  have hk : D[k]? = some D[k] := List.getElem?_eq_getElem (by omega)
  have hb := g2.le _ (List.getElem_mem (l := D) (n := k) (by omega))
  refine (p_read g1 k _ hk hb).mono ?_
  rintro e w' ⟨v, rfl, ho, hbl⟩
  obtain ⟨A, c, rfl, _, _⟩ := own_form ho
  exact ⟨A, c, _, rfl, LiesP.own ho (fun _ _ => trivial), pad_length hb, fun hu => (g2.tx k _ hk hu).symm, hbl⟩
end
theorem pl_start {B g fb : Nat} {w0 w : World} {Y : Nat → Prop} (h : PAt B g fb 2000 Y w0 none (some ⟨1, 0, 0, 0⟩) [] ⟨1, 0, 0, 0⟩ [] 0 w) (u kp : Nat → Bool) (t : Nat → List UInt8) (hs : ∀ j, kp j = true → u j = true) : PlA B g fb w0 0 ⟨1, 0, 0, 0⟩ 2 u kp t Y w :=
  ⟨_, _, [], [], 0, h, PlI.start hs, Nat.le_refl _, Nat.le_refl _⟩
end
section
open Go.RowKit Go.Maps
set_option maxRecDepth 100000
set_option linter.unusedSimpArgs false
set_option linter.unusedVariables false
theorem B8_zeros9 (l : List UInt8) (k : Nat) : B8 l ++ List.replicate k (Value.int .u8 0) = B8 (l ++ List.replicate k 0) := by simp [B8]
set_option maxHeartbeats 4000000 in
theorem whole_any (b : List UInt8) (A : Option Addr) (c : Nat) (w : World) (hl : Lies w w.heap.size A (B8 b)) (hb : b.length ≤ 512) :
    Calls Try.prog 24 #[.slice A b.length c] w fun e w' => e = .returned (.string ⟨(pad b).toArray⟩) ∧ Below w.heap.size w w' := by
  obtain ⟨i0, hi, hz0, hz1, hz2⟩ := info_parts u8_info
  obtain ⟨zm, hzm⟩ : ∃ zm, zm = 512 - b.length := ⟨_, rfl⟩
  have hsub : IntKind.i64.wrap (512 - (b.length : Int)) = (zm : Int) := by
    rw [IntWalk.i64_in _ ⟨by omega, by omega⟩]; omega
  have hsub2 : (512 - (b.length : Int)) = (zm : Int) := by omega
  have ho1 : 0 + b.length ≤ 140737488355328 := by omega
  have ho2 : 0 + b.length + zm ≤ 140737488355328 := by omega
  have hown : (w.alloc (.cells #[] 5)).ownsRow w.heap.size 5 1 (.slice (some ⟨w.heap.size, 0, none⟩) 0 0) 0 [] := World.ownsRow_made w #[] 0 (Nat.le_refl _) (Nat.zero_le _) rfl
  have hrm : ∀ w5, Below w.heap.size (w.alloc (.cells #[] 5)) w5 → w.heap.size ≤ w5.heap.size := fun w5 h => by have := h.size; simp at this; omega
  have HRM := Lib.hid hrm
  have HWN := Lib.hid hown
  have LO := Lib.hid (hl.alloc (Nat.le_refl _) (.cells #[] 5))
  have HI := Lib.hid hi
  have H0 := Lib.hid hz0
  have H1 := Lib.hid hz1
  have H2 := Lib.hid hz2
  have HZM := Lib.hid hzm
  have HPD : Hid (b ++ List.replicate zm 0 = pad b) := Lib.hid (by rw [hzm]; rfl)
  have HLN : Hid (0 + b.length + zm = 512) := Lib.hid (by omega)
  clear hi hz0 hz1 hz2 hown hrm hzm
  go_enter Try.func24, Try.ntmps24
  go_wp2_with (first
    | (at_builtin; refine wpList_append_cells rfl _ _ 31 rfl w.heap.size 5 i0 (.int .u8 0) 1 1 Try.underlying31 HI.out H0.out H1.out H2.out rfl (by omega) (.slice (some ⟨w.heap.size, 0, none⟩) 0 0) 0 [] rfl HWN.out w.heap.size A b.length c (B8 b) rfl LO.out (B8_len1 b) (B8_one b) (room63 ho1) (room1 ho1) (by simp) ?_; intro v5 w5 o5 b5; have O5 := Lib.hid o5; have B5 := Lib.hid b5; clear o5 b5)
    | (at_builtin; refine wpList_append_zeros rfl _ _ 31 3 rfl w.heap.size 5 i0 (.int .u8 0) 1 .i64 .i64 Try.underlying31 Try.underlying3 HI.out H0.out H1.out H2.out rfl rfl v5 (0 + b.length) _ rfl O5.out zm rfl (room63 ho2) (room1 ho2) (HRM.out w5 B5.out) ?_; intro v6 w6 o6 b6; have O6 := Lib.hid o6; have B6 := Lib.hid b6; clear o6 b6; obtain ⟨A6, c6, rfl, hc6, hm6⟩ := own_form O6.out; have o7 := O6.out; rw [List.nil_append, B8_zeros9, HPD.out, HLN.out] at o7; rw [HLN.out]; have hcv := conv_of9 (LiesP.own (P := fun _ => True) o7 (fun _ _ => trivial)) (pad_length hb) c6; clear o7))
  go_ret
  exact ⟨rfl, ((Below.refl _ w).alloc (Nat.le_refl _) (.cells #[] 5)).trans (B5.out.trans B6.out)⟩
end
section
open Go.RowKit Go.Maps
set_option maxRecDepth 100000
set_option linter.unusedSimpArgs false
set_option linter.unusedVariables false
section
variable {α : Type} {g : α → Value} {n : Nat} {f : Nat → α}
def rowF (g : α → Value) (n : Nat) (f : Nat → α) : List Value := (List.range n).map fun j => g (f j)
def gB (b : Bool) : Value := .bool b
def gT (l : List UInt8) : Value := .string ⟨l.toArray⟩
theorem rowF_length : (rowF g n f).length = n := by simp [rowF]
theorem rowF_get {j : Nat} (h : j < n) : (rowF g n f)[j]? = some (g (f j)) := by simp [rowF, h]
theorem rowF_set (j : Nat) (x : α) : (rowF g n f).set j (g x) = rowF g n (fun i => if i = j then x else f i) := by
  apply List.ext_getElem?
  intro i
  rw [List.getElem?_set]
  by_cases h : i < n
  · rw [rowF_get (f := fun i => if i = j then x else f i) h, rowF_get h, rowF_length]
    by_cases e : j = i
    · subst e; simp [h]
    · simp [e, Ne.symm e]
  · have e1 : (rowF g n (fun i => if i = j then x else f i))[i]? = none := List.getElem?_eq_none (by rw [rowF_length]; omega)
    have e2 : (rowF g n f)[i]? = none := List.getElem?_eq_none (by rw [rowF_length]; omega)
    rw [e1, e2, rowF_length]
    split
    · rw [if_neg (by omega)]
    · rfl
theorem rowF_snoc (x : α) : rowF g n f ++ [g x] = rowF g (n + 1) (fun i => if i = n then x else f i) := by
  unfold rowF
  rw [List.range_succ, List.map_append]
  congr 1
  · apply List.map_congr_left
    intro i hi
    have := List.mem_range.1 hi
    show g (f i) = g (if i = n then x else f i)
    rw [if_neg (by omega)]
  · simp
end
/-- a row of the law's own -/
structure Rw9 {α : Type} (e : TypeId) (g : α → Value) (b c n : Nat) (f : Nat → α) (Y : Nat → Prop) (w : World) : Prop where
  own : w.ownsRow 0 e 1 (.slice (some ⟨b, 0, none⟩) n c) n (rowF g n f)
  y : Y b
section
variable {α : Type} {e : TypeId} {g : α → Value} {b c n : Nat} {f : Nat → α} {Y Y' : Nat → Prop} {w w' : World} {row : Option Nat}
theorem Rw9.lt (h : Rw9 e g b c n f Y w) : b < w.heap.size := (h.own.lt b rfl).2
theorem Rw9.block (h : Rw9 e g b c n f Y w) (hb : w'.heap[b]? = w.heap[b]?) (hy : Y' b) : Rw9 e g b c n f Y' w' :=
  ⟨own_block h.own (fun j hj => by cases hj; exact hb), hy⟩
theorem Rw9.below (h : Rw9 e g b c n f Y w) {B : Nat} (hb : Below B w w') (hB : b < B) : Rw9 e g b c n f Y w' := h.block (hb.block b hB) h.y
theorem Rw9.grown (h : Rw9 e g b c n f Y w) (hg : w.grownBy w' row) (hr : some b ≠ row) (hy : Y' b) : Rw9 e g b c n f Y' w' := h.block (hg.block b h.lt hr) hy
theorem Rw9.cell (h : Rw9 e g b c n f Y w) {j : Nat} (hj : j < n) : w.cell? ⟨b, j, none⟩ = some (g (f j)) := (h.own.cellAt j (by omega)).trans (rowF_get hj)
theorem Rw9.frozen (h : Rw9 e g b c n f Y w) (j : Nat) : w.frozen? ⟨b, j, none⟩ = false := h.own.frozenAt j
theorem Rw9.set (h : Rw9 e g b c n f Y w) (j : Nat) (x : α) : Rw9 e g b c n (fun i => if i = j then x else f i) Y (w.setCell ⟨b, j, none⟩ (g x)) := by
  refine ⟨?_, h.y⟩
  rw [← rowF_set]
  exact (h.own.stored j (g x)).1
theorem Rw9.grow (h : Rw9 e g b c n f Y w) (j : Nat) (u : Value) : w.grownBy (w.setCell ⟨b, j, none⟩ u) (some b) := (h.own.stored j u).2
theorem Rw9.some_of {v : Value} {x : α} (ho : w.ownsRow 0 e 1 v (n + 1) (rowF g n f ++ [g x])) : ∃ b c, v = .slice (some ⟨b, 0, none⟩) (n + 1) c ∧ v.ownBlock = some b := by
  rcases ho.2 with ⟨_, h⟩ | ⟨b, c, cur, hv, _⟩
  · omega
  · exact ⟨b, c, hv, by rw [hv]; rfl⟩
end
/-- the law's three rows -/
structure LW (bU cU nU : Nat) (u : Nat → Bool) (bK cK nK : Nat) (kp : Nat → Bool) (bT cT nT : Nat) (t : Nat → List UInt8) (Y : Nat → Prop) (w : World) : Prop where
  U : Rw9 4 gB bU cU nU u Y w
  K : Rw9 4 gB bK cK nK kp Y w
  T : Rw9 9 gT bT cT nT t Y w
  uk : bU ≠ bK
  ut : bU ≠ bT
  kt : bK ≠ bT
section
variable {bU cU nU : Nat} {u : Nat → Bool} {bK cK nK : Nat} {kp : Nat → Bool} {bT cT nT : Nat} {t : Nat → List UInt8} {Y Y' : Nat → Prop} {w w' : World}
theorem LW.kept (h : LW bU cU nU u bK cK nK kp bT cT nT t Y w) (hk : ∀ i, Y i → w'.heap[i]? = w.heap[i]?) : LW bU cU nU u bK cK nK kp bT cT nT t Y w' :=
  ⟨h.U.block (hk _ h.U.y) h.U.y, h.K.block (hk _ h.K.y) h.K.y, h.T.block (hk _ h.T.y) h.T.y, h.uk, h.ut, h.kt⟩
theorem LW.more (h : LW bU cU nU u bK cK nK kp bT cT nT t Y w) (hy : ∀ i, Y i → Y' i) : LW bU cU nU u bK cK nK kp bT cT nT t Y' w :=
  ⟨⟨h.U.own, hy _ h.U.y⟩, ⟨h.K.own, hy _ h.K.y⟩, ⟨h.T.own, hy _ h.T.y⟩, h.uk, h.ut, h.kt⟩
theorem LW.below (h : LW bU cU nU u bK cK nK kp bT cT nT t Y w) (hb : Below w.heap.size w w') : LW bU cU nU u bK cK nK kp bT cT nT t Y w' :=
  ⟨h.U.below hb h.U.lt, h.K.below hb h.K.lt, h.T.below hb h.T.lt, h.uk, h.ut, h.kt⟩
theorem LW.setU (h : LW bU cU nU u bK cK nK kp bT cT nT t Y w) (j : Nat) (x : Bool) : LW bU cU nU (fun i => if i = j then x else u i) bK cK nK kp bT cT nT t Y (w.setCell ⟨bU, j, none⟩ (.bool x)) :=
  ⟨h.U.set j x, h.K.grown (h.U.grow j (.bool x)) (fun e => h.uk (by cases e; rfl)) h.K.y, h.T.grown (h.U.grow j (.bool x)) (fun e => h.ut (by cases e; rfl)) h.T.y, h.uk, h.ut, h.kt⟩
theorem LW.setK (h : LW bU cU nU u bK cK nK kp bT cT nT t Y w) (j : Nat) (x : Bool) : LW bU cU nU u bK cK nK (fun i => if i = j then x else kp i) bT cT nT t Y (w.setCell ⟨bK, j, none⟩ (.bool x)) :=
  ⟨h.U.grown (h.K.grow j (.bool x)) (fun e => h.uk (by cases e; rfl)) h.U.y, h.K.set j x, h.T.grown (h.K.grow j (.bool x)) (fun e => h.kt (by cases e; rfl)) h.T.y, h.uk, h.ut, h.kt⟩
theorem LW.setT (h : LW bU cU nU u bK cK nK kp bT cT nT t Y w) (j : Nat) (x : List UInt8) : LW bU cU nU u bK cK nK kp bT cT nT (fun i => if i = j then x else t i) Y (w.setCell ⟨bT, j, none⟩ (.string ⟨x.toArray⟩)) :=
  ⟨h.U.grown (h.T.grow j (gT x)) (fun e => h.ut (by cases e; rfl)) h.U.y, h.K.grown (h.T.grow j (gT x)) (fun e => h.kt (by cases e; rfl)) h.K.y, h.T.set j x, h.uk, h.ut, h.kt⟩
end
section
variable {B g fb i n : Nat} {w0 w w' W1 : World} {m : Mt} {a b : Nat → Bool} {s : Nat → List UInt8} {Y : Nat → Prop}
variable {bU cU nU : Nat} {u : Nat → Bool} {bK cK nK : Nat} {kp : Nat → Bool} {bT cT nT : Nat} {t : Nat → List UInt8}
/-- the file stays where a row of the law's own is written -/
theorem PlA.wrote (h : PlA B g fb w0 i m n a b s Y w) {k : Nat} (hy : Y k) (j : Nat) (x : Value) (hg : w.grownBy (w.setCell ⟨k, j, none⟩ x) (some k)) : PlA B g fb w0 i m n a b s Y (w.setCell ⟨k, j, none⟩ x) :=
  (h.grown hg (fun q hq => by cases hq; exact hy)).less (fun _ hi => .inl hi)
/-- what was made in between is the law's own -/
theorem both_fence (h : PlA B g fb w0 i m n a b s Y w) (r : LW bU cU nU u bK cK nK kp bT cT nT t Y w) (hb : Below w.heap.size w w') :
    PlA B g fb w0 i m n a b s (fun j => Y j ∨ (w.heap.size ≤ j ∧ j < w'.heap.size)) w' ∧ LW bU cU nU u bK cK nK kp bT cT nT t (fun j => Y j ∨ (w.heap.size ≤ j ∧ j < w'.heap.size)) w' :=
  ⟨h.fence hb, (r.below hb).more (fun _ hi => .inl hi)⟩
theorem moreU (h : PlA B g fb w0 i m n a b s Y w) (r : LW bU cU nU u bK cK nK kp bT cT nT t Y w) (hb : Below w.heap.size w W1) {v : Value} {x : Bool} (hg : W1.grownBy w' (some bU)) (ho : w'.ownsRow 0 4 1 v (nU + 1) (rowF gB nU u ++ [.bool x])) (hv : v.ownBlock = some bU ∨ v.ownBlock = some W1.heap.size) :
    ∃ b' c' Y', v = .slice (some ⟨b', 0, none⟩) (nU + 1) c' ∧ PlA B g fb w0 i m n a b s Y' w' ∧ LW b' c' (nU + 1) (fun j => if j = nU then x else u j) bK cK nK kp bT cT nT t Y' w' ∧ ∀ q, Y q → Y' q := by
  obtain ⟨h1, r1⟩ := both_fence h r hb
  obtain ⟨b', c', rfl, he⟩ := Rw9.some_of (g := gB) (x := x) ho
  have h2 := h1.grown hg (fun k hk => by cases hk; exact r1.U.y)
  rw [show [Value.bool x] = [gB x] from rfl, rowF_snoc] at ho
  have hlt := (ho.lt b' rfl).2
  have hK := r1.K.lt
  have hT := r1.T.lt
  refine ⟨b', c', _, rfl, h2, ⟨⟨ho, ?_⟩, r1.K.grown hg (fun e => r.uk (by cases e; rfl)) (.inl r1.K.y), r1.T.grown hg (fun e => r.ut (by cases e; rfl)) (.inl r1.T.y), ?_, ?_, r.kt⟩, fun q hq => .inl (.inl hq)⟩
  · rcases hv with e | e <;> (rw [he] at e; injection e with e; subst e)
    · exact .inl r1.U.y
    · exact .inr ⟨Nat.le_refl _, hlt⟩
  · rcases hv with e | e <;> (rw [he] at e; injection e with e)
    · rw [e]; exact r.uk
    · omega
  · rcases hv with e | e <;> (rw [he] at e; injection e with e)
    · rw [e]; exact r.ut
    · omega
theorem moreK (h : PlA B g fb w0 i m n a b s Y w) (r : LW bU cU nU u bK cK nK kp bT cT nT t Y w) (hb : Below w.heap.size w W1) {v : Value} {x : Bool} (hg : W1.grownBy w' (some bK)) (ho : w'.ownsRow 0 4 1 v (nK + 1) (rowF gB nK kp ++ [.bool x])) (hv : v.ownBlock = some bK ∨ v.ownBlock = some W1.heap.size) :
    ∃ b' c' Y', v = .slice (some ⟨b', 0, none⟩) (nK + 1) c' ∧ PlA B g fb w0 i m n a b s Y' w' ∧ LW bU cU nU u b' c' (nK + 1) (fun j => if j = nK then x else kp j) bT cT nT t Y' w' ∧ ∀ q, Y q → Y' q := by
  obtain ⟨h1, r1⟩ := both_fence h r hb
  obtain ⟨b', c', rfl, he⟩ := Rw9.some_of (g := gB) (x := x) ho
  have h2 := h1.grown hg (fun k hk => by cases hk; exact r1.K.y)
  rw [show [Value.bool x] = [gB x] from rfl, rowF_snoc] at ho
  have hlt := (ho.lt b' rfl).2
  have hU := r1.U.lt
  have hT := r1.T.lt
  refine ⟨b', c', _, rfl, h2, ⟨r1.U.grown hg (fun e => r.uk (by cases e; rfl)) (.inl r1.U.y), ⟨ho, ?_⟩, r1.T.grown hg (fun e => r.kt (by cases e; rfl)) (.inl r1.T.y), ?_, r.ut, ?_⟩, fun q hq => .inl (.inl hq)⟩
  · rcases hv with e | e <;> (rw [he] at e; injection e with e; subst e)
    · exact .inl r1.K.y
    · exact .inr ⟨Nat.le_refl _, hlt⟩
  · rcases hv with e | e <;> (rw [he] at e; injection e with e)
    · rw [e]; exact r.uk
    · omega
  · rcases hv with e | e <;> (rw [he] at e; injection e with e)
    · rw [e]; exact r.kt
    · omega
theorem moreT (h : PlA B g fb w0 i m n a b s Y w) (r : LW bU cU nU u bK cK nK kp bT cT nT t Y w) (hb : Below w.heap.size w W1) {v : Value} {x : List UInt8} (hg : W1.grownBy w' (some bT)) (ho : w'.ownsRow 0 9 1 v (nT + 1) (rowF gT nT t ++ [gT x])) (hv : v.ownBlock = some bT ∨ v.ownBlock = some W1.heap.size) :
    ∃ b' c' Y', v = .slice (some ⟨b', 0, none⟩) (nT + 1) c' ∧ PlA B g fb w0 i m n a b s Y' w' ∧ LW bU cU nU u bK cK nK kp b' c' (nT + 1) (fun j => if j = nT then x else t j) Y' w' ∧ ∀ q, Y q → Y' q := by
  obtain ⟨h1, r1⟩ := both_fence h r hb
  obtain ⟨b', c', rfl, he⟩ := Rw9.some_of (g := gT) (x := x) ho
  have h2 := h1.grown hg (fun k hk => by cases hk; exact r1.T.y)
  rw [rowF_snoc] at ho
  have hlt := (ho.lt b' rfl).2
  have hU := r1.U.lt
  have hK := r1.K.lt
  refine ⟨b', c', _, rfl, h2, ⟨r1.U.grown hg (fun e => r.ut (by cases e; rfl)) (.inl r1.U.y), r1.K.grown hg (fun e => r.kt (by cases e; rfl)) (.inl r1.K.y), ⟨ho, ?_⟩, r.uk, ?_, ?_⟩, fun q hq => .inl (.inl hq)⟩
  · rcases hv with e | e <;> (rw [he] at e; injection e with e; subst e)
    · exact .inl r1.T.y
    · exact .inr ⟨Nat.le_refl _, hlt⟩
  · rcases hv with e | e <;> (rw [he] at e; injection e with e)
    · rw [e]; exact r.ut
    · omega
  · rcases hv with e | e <;> (rw [he] at e; injection e with e)
    · rw [e]; exact r.kt
    · omega
/-- a box that a growing row is none of stays -/
theorem box_grown {w W1 w' : World} {ob b : Nat} {ty : TypeId} {cs : Array Value} (h : Whole w ob ty cs) (hb : Below w.heap.size w W1) (hg : W1.grownBy w' (some b)) (hne : ob ≠ b) : Whole w' ob ty cs :=
  (hg.block ob (Nat.lt_of_lt_of_le h.lt hb.size) (fun e => hne (Option.some.inj e))).trans ((hb.block ob h.lt).trans h)
theorem bool_info9 : (Try.prog.info? 4).map (fun i => (i.zero, i.size, i.bytes)) = some (some (.bool false), 1, 1) := by kernel_rfl
theorem str_info9 : (Try.prog.info? 9).map (fun i => (i.zero, i.size, i.bytes)) = some (some (.string ⟨#[]⟩), 1, 16) := by kernel_rfl
end
end
section
open Go.RowKit Go.Maps
set_option maxRecDepth 100000
set_option linter.unusedSimpArgs false
set_option linter.unusedVariables false
theorem own_zero {w : World} {base n size : Nat} {e : TypeId} {v : Value} {xs : List Value} (h : w.ownsRow base e size v n xs) : w.ownsRow 0 e size v n xs := ⟨h.1, h.2.imp id (fun ⟨g', cap', cur', e, _, r⟩ => ⟨g', cap', cur', e, Nat.zero_le _, r⟩)⟩
/-- the bit of page j in a call's number -/
def bit9 (ov : Int) (j : Nat) : Int := bits .and .i64 (ov / 2 ^ (j % 16)) 1
/-- the pages that a Commit of the law leaves -/
def out9 (u : Nat → Bool) (ov : Int) : Nat → Bool := fun j => !(u j && (bit9 ov j == 0))
theorem out9_uses {u : Nat → Bool} {ov : Int} (j : Nat) (h : out9 u ov j = false) : u j = true := by
  unfold out9 at h
  cases hu : u j with
  | true => rfl
  | false => rw [hu] at h; simp at h
theorem freeF_more (f : Nat → Bool) (k : Nat) (h : 2 ≤ k) : freeF f 2 (k + 1 - 2) = freeF f 2 (k - 2) ++ if f k = true then [] else [(k : Int)] := by
  rw [show k + 1 - 2 = (k - 2) + 1 by omega, freeF_snoc, show 2 + (k - 2) = k by omega]
/-- the pages to keep, gathered -/
def PlG (f : Nat → Bool) (n : Nat) (wc : World) (v16 v17 v18 : Value) (wr : World) : Prop :=
  ∃ (k : Nat) (F : List Int), v18 = .int .i64 (k : Int) ∧ 2 ≤ k ∧ k ≤ n ∧ F = freeF f 2 (k - 2) ∧ v17 = .int .i64 (F.getLastD 0) ∧ wr.ownsRow wc.heap.size 3 1 v16 F.length (cellsZ F) ∧ Below wc.heap.size wc wr
/-- what stands while the law's rows are written anew -/
structure PlH (B g fb : Nat) (w0 : World) (i : Nat) (m : Mt) (n : Nat) (v : Nat → Bool) (t : Nat → List UInt8) (bU cU bK cK bT cT : Nat) (Y : Nat → Prop) (ob : Nat) (ok ov oK : Int) (A5 : Option Addr) (c5 : Nat) (F : List Int) (u0 kp0 : Nat → Bool) (w : World) : Prop where
  file : PlA B g fb w0 i m n v v t Y w
  rows : LW bU cU n u0 bK cK n kp0 bT cT n t Y w
  oby : Y ob
  obx : Whole w ob 53 #[.int .i64 ok, .int .i64 ov, .int .i64 oK]
  ids : w.ownsRow 0 3 1 (.slice A5 F.length c5) F.length (cellsZ F)
  ne : ∀ b, (Value.slice A5 F.length c5).ownBlock = some b → b ≠ bU ∧ b ≠ bK
section
variable {B g fb : Nat} {w0 : World} {i : Nat} {m : Mt} {n : Nat} {v : Nat → Bool} {t : Nat → List UInt8} {bU cU bK cK bT cT : Nat} {Y : Nat → Prop} {ob : Nat} {ok ov oK : Int} {A5 : Option Addr} {c5 : Nat} {F : List Int} {u0 kp0 : Nat → Bool} {w : World}
theorem PlH.below (h : PlH B g fb w0 i m n v t bU cU bK cK bT cT Y ob ok ov oK A5 c5 F u0 kp0 w) {w' : World} (hb : Below w.heap.size w w') : PlH B g fb w0 i m n v t bU cU bK cK bT cT Y ob ok ov oK A5 c5 F u0 kp0 w' :=
  ⟨h.file.below hb, h.rows.below hb, h.oby, h.obx.below hb h.obx.lt, own_block h.ids (fun q hq => hb.block q (h.ids.lt q hq).2), h.ne⟩
theorem PlH.put (h : PlH B g fb w0 i m n v t bU cU bK cK bT cT Y ob ok ov oK A5 c5 F u0 kp0 w) (j : Nat) (x : Bool) :
    PlH B g fb w0 i m n v t bU cU bK cK bT cT Y ob ok ov oK A5 c5 F (fun q => if q = j then x else u0 q) (fun q => if q = j then x else kp0 q) ((w.setCell ⟨bU, j, none⟩ (.bool x)).setCell ⟨bK, j, none⟩ (.bool x)) := by
  have r1 := h.rows.setU j x
  have h1 := h.file.wrote h.rows.U.y j (.bool x) (h.rows.U.grow j (.bool x))
  have r2 := r1.setK j x
  have h2 := h1.wrote r1.K.y j (.bool x) (r1.K.grow j (.bool x))
  have hU : ob ≠ bU := fun e => whole_apart h.obx h.rows.U.own (by decide) (by rw [e]; rfl)
  have hK : ob ≠ bK := fun e => whole_apart h.obx h.rows.K.own (by decide) (by rw [e]; rfl)
  have hs : ∀ q, q ≠ bU → q ≠ bK → ((w.setCell ⟨bU, j, none⟩ (.bool x)).setCell ⟨bK, j, none⟩ (.bool x)).heap[q]? = w.heap[q]? := fun q e1 e2 => (Below.heap_setCell _ ⟨bK, j, none⟩ _ _ e2).trans (Below.heap_setCell _ ⟨bU, j, none⟩ _ _ e1)
  exact ⟨h2, r2, h.oby, (hs ob hU hK).trans h.obx, own_block h.ids (fun q hq => hs q (h.ne q hq).1 (h.ne q hq).2), h.ne⟩
end
/-- the rows while they are cleared, from page 2 on -/
def clr9 (u : Nat → Bool) (k : Nat) : Nat → Bool := fun q => if 2 ≤ q ∧ q < k then false else u q
theorem clr9_start (u : Nat → Bool) : clr9 u 2 = u := by
  funext q
  unfold clr9
  rw [if_neg (by omega)]
theorem clr9_next (u : Nat → Bool) (k : Nat) (h : 2 ≤ k) : (fun q => if q = k then false else clr9 u k q) = clr9 u (k + 1) := by
  funext q
  show (if q = k then false else clr9 u k q) = clr9 u (k + 1) q
  unfold clr9
  by_cases e : q = k
  · rw [if_pos e, if_pos (by omega)]
  · rw [if_neg e]
    by_cases e2 : 2 ≤ q ∧ q < k
    · rw [if_pos e2, if_pos (by omega)]
    · rw [if_neg e2, if_neg (by omega)]
/-- the rows while the kept ones are marked -/
def mrk9 (u : Nat → Bool) (l : List Int) : Nat → Bool := fun q => decide ((q : Int) ∈ l) || u q
theorem mrk9_start (u : Nat → Bool) : mrk9 u [] = u := by
  funext q
  simp [mrk9]
theorem mrk9_next (u : Nat → Bool) (l : List Int) (j : Nat) : (fun q => if q = j then true else mrk9 u l q) = mrk9 u (l ++ [(j : Int)]) := by
  funext q
  show (if q = j then true else mrk9 u l q) = mrk9 u (l ++ [(j : Int)]) q
  unfold mrk9
  by_cases e : q = j
  · subst e; simp
  · rw [if_neg e]
    have : ¬ ((q : Int) = (j : Int)) := by omega
    simp [this]
theorem mrk9_take (u : Nat → Bool) (F : List Int) (k j : Nat) (h : k < F.length) (e : F[k] = (j : Int)) : (fun q => if q = j then true else mrk9 u (F.take k) q) = mrk9 u (F.take (k + 1)) := by
  rw [List.take_succ_eq_append_getElem h, e]
  exact mrk9_next u (F.take k) j
/-- the rows behind a Commit -/
def fin9 (u : Nat → Bool) (F : List Int) : Nat → Bool := fun q => if q < 2 then u q else decide ((q : Int) ∈ F)
theorem fin9_is (u f : Nat → Bool) (n : Nat) (F : List Int) (hF : F = freeF f 2 (n - 2)) (q : Nat) (hq : q < n) : mrk9 (clr9 u n) F q = fin9 u F q := by
  unfold mrk9 clr9 fin9
  by_cases e : q < 2
  · rw [if_pos e, if_neg (by omega)]
    have : ¬ ((q : Int) ∈ F) := fun h => by
      rw [hF] at h
      obtain ⟨j, e1, e2, _⟩ := (freeF_mem f (n - 2) 2 _).1 h
      omega
    simp [this]
  · rw [if_neg e, if_pos (by omega), Bool.or_false]
theorem rowF_congr {α : Type} {g : α → Value} {n : Nat} {f f' : Nat → α} (h : ∀ q, q < n → f q = f' q) : rowF g n f = rowF g n f' := by
  unfold rowF
  apply List.map_congr_left
  intro q hq
  rw [h q (List.mem_range.1 hq)]
theorem Rw9.congr {α : Type} {e : TypeId} {g : α → Value} {b c n : Nat} {f f' : Nat → α} {Y : Nat → Prop} {w : World} (h : Rw9 e g b c n f Y w) (hf : ∀ q, q < n → f q = f' q) : Rw9 e g b c n f' Y w :=
  ⟨by rw [← rowF_congr hf]; exact h.own, h.y⟩
theorem LW.congr {bU cU n : Nat} {u u' : Nat → Bool} {bK cK : Nat} {kp kp' : Nat → Bool} {bT cT : Nat} {t : Nat → List UInt8} {Y : Nat → Prop} {w : World} (h : LW bU cU n u bK cK n kp bT cT n t Y w) (hu : ∀ q, q < n → u q = u' q) (hk : ∀ q, q < n → kp q = kp' q) :
    LW bU cU n u' bK cK n kp' bT cT n t Y w := ⟨h.U.congr hu, h.K.congr hk, h.T, h.uk, h.ut, h.kt⟩
theorem PlI.low {n : Nat} {u kp u' kp' : Nat → Bool} {t : Nat → List UInt8} {D : List (List UInt8)} {L : List Int} {put : Nat} (h : PlI n u kp t D L put) (hu : ∀ q, 2 ≤ q → u' q = u q) (hk : ∀ q, 2 ≤ q → kp' q = kp q) (hs : ∀ q, q < 2 → kp' q = true → u' q = true) :
    PlI n u' kp' t D L put :=
  ⟨h.num, by rw [h.loose]; exact freeF_congr _ _ (fun j h1 _ => (hk j h1).symm), by rw [h.left]; exact freeF_congr _ _ (fun j h1 _ => (hu j h1).symm), h.most, fun j hj => by
    by_cases e : j < 2
    · exact hs j e hj
    · rw [hu j (by omega)]; rw [hk j (by omega)] at hj; exact h.sub j hj, fun k b h1 h2 => h.tx k b h1 (by rw [← hu (k + 2) (by omega)]; exact h2), h.le⟩
theorem PlA.low {B g fb i n : Nat} {w0 w : World} {m : Mt} {u kp u' kp' : Nat → Bool} {t : Nat → List UInt8} {Y : Nat → Prop} (h : PlA B g fb w0 i m n u kp t Y w) (hu : ∀ q, 2 ≤ q → u' q = u q) (hk : ∀ q, 2 ≤ q → kp' q = kp q) (hs : ∀ q, q < 2 → kp' q = true → u' q = true) :
    PlA B g fb w0 i m n u' kp' t Y w := by
  obtain ⟨a0, a1, D, L, put, h1, h2, h3⟩ := h.ex
  exact ⟨a0, a1, D, L, put, h1, h2.low hu hk hs, h3⟩
theorem PlA.sub {B g fb i n : Nat} {w0 w : World} {m : Mt} {u kp : Nat → Bool} {t : Nat → List UInt8} {Y : Nat → Prop} (h : PlA B g fb w0 i m n u kp t Y w) : ∀ q, kp q = true → u q = true := by
  obtain ⟨a0, a1, D, L, put, h1, h2, h3⟩ := h.ex
  exact h2.sub
/-- the end of a Commit of the law -/
theorem PlH.done {B g fb : Nat} {w0 : World} {i : Nat} {m : Mt} {n : Nat} {t : Nat → List UInt8} {bU cU bK cK bT cT : Nat} {Y : Nat → Prop} {ob : Nat} {ok ov oK : Int} {A5 : Option Addr} {c5 : Nat} {F : List Int} {u kp f : Nat → Bool} {w : World}
    (h : PlH B g fb w0 i m n (fun q => decide ((q : Int) ∈ F)) t bU cU bK cK bT cT Y ob ok ov oK A5 c5 F (mrk9 (clr9 u n) F) (mrk9 (clr9 kp n) F) w) (hF : F = freeF f 2 (n - 2)) (hs : ∀ q, kp q = true → u q = true) :
    PlA B g fb w0 i m n (fin9 u F) (fin9 kp F) t Y w ∧ LW bU cU n (fin9 u F) bK cK n (fin9 kp F) bT cT n t Y w := by
  have e2 : ∀ (a : Nat → Bool) (q : Nat), 2 ≤ q → fin9 a F q = decide ((q : Int) ∈ F) := fun a q hq => by unfold fin9; rw [if_neg (by omega)]
  refine ⟨h.file.low (e2 u) (e2 kp) (fun q hq hk => ?_), h.rows.congr (fun q hq => fin9_is u f n F hF q hq) (fun q hq => fin9_is kp f n F hF q hq)⟩
  unfold fin9 at hk ⊢
  rw [if_pos hq] at hk ⊢
  exact hs q hk
end
end Go.Proofs.Ytcmffifehpbjnaa
