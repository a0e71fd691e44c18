/- Words of my own for octets in memory: a list of octets as cells, where a slice's cells lie, a block that is known whole, numbers and their octets. No program is imported. -/
import Derived.WalkKit
import Derived.Deep.AppendLies
import Derived.Deep.Draws
namespace Go.Proofs.YtocombacjpjdbaaDoor
open Go.RowKit

/-- octets as cells -/
def B8 (l : List UInt8) : List Value := l.map fun c => Value.int .u8 (c.toNat : Int)
theorem B8_length (l : List UInt8) : (B8 l).length = l.length := by simp [B8]
theorem B8_append (a b : List UInt8) : B8 (a ++ b) = B8 a ++ B8 b := by simp [B8]
theorem B8_get (l : List UInt8) (j : Nat) (h : j < l.length) : (B8 l)[j]? = some (.int .u8 (l[j].toNat : Int)) := by
  simp [B8, List.getElem?_map, List.getElem?_eq_getElem h]
theorem B8_one (l : List UInt8) : ∀ u ∈ B8 l, u.oneCell' = true := by
  intro u hu
  simp only [B8, List.mem_map] at hu
  obtain ⟨c, _, rfl⟩ := hu
  rfl

/-- the cells of a slice's elements lie one behind the other, in a block below B (an empty list says nothing) -/
def Lies (w : World) (B : Nat) (A : Option Addr) (xs : List Value) : Prop :=
  xs = [] ∨ ∃ b o, A = some ⟨b, o, none⟩ ∧ b < B ∧ ∀ j u, xs[j]? = some u → w.cell? ⟨b, o + j, none⟩ = some u

section
variable {w w' : World} {B B' : Nat} {A : Option Addr} {xs : List Value}
theorem Lies.empty (w : World) (B : Nat) (A : Option Addr) : Lies w B A [] := .inl rfl
theorem Lies.keep (h : Lies w B A xs) (hk : ∀ b o, b < B → w'.cell? ⟨b, o, none⟩ = w.cell? ⟨b, o, none⟩) : Lies w' B A xs := by
  rcases h with h | ⟨b, o, e, hb, hc⟩
  · exact .inl h
  · exact .inr ⟨b, o, e, hb, fun j u hu => (hk _ _ hb).trans (hc j u hu)⟩
theorem Lies.more (h : Lies w B A xs) (hB : B ≤ B') : Lies w B' A xs := by
  rcases h with h | ⟨b, o, e, hb, hc⟩
  · exact .inl h
  · exact .inr ⟨b, o, e, by omega, hc⟩
theorem Lies.below (h : Lies w B A xs) (hb : Below B w w') : Lies w' B A xs := h.keep fun b o hp => hb.cell (p := ⟨b, o, none⟩) hp
theorem Lies.grown (h : Lies w B A xs) {row : Option Nat} (hg : w.grownBy w' row) (hB : B ≤ w.heap.size) (hr : ∀ k, row = some k → B ≤ k) : Lies w' B A xs :=
  h.keep fun b o hp => World.cell?_of_block (a := ⟨b, o, none⟩) (hg.block b (by omega) (fun e => by have := hr _ e.symm; omega))
theorem Lies.own {base : Nat} {e : TypeId} {n c : Nat} {D : Nat} (h : w.ownsRow base e 1 (.slice A n c) n xs) (hD : w.heap.size ≤ D) : Lies w D A xs := by
  rcases h.2 with ⟨hv, hn⟩ | ⟨g, cap, cur, hv, _, hg, _⟩
  · left
    apply List.eq_nil_of_length_eq_zero
    rw [h.1, hn]
  · have hA : A = some ⟨g, 0, none⟩ := by injection hv
    subst hA
    refine .inr ⟨g, 0, rfl, ?_, fun j u hu => ?_⟩
    · have := (Array.getElem?_eq_some_iff.1 hg).1
      exact Nat.lt_of_lt_of_le this hD
    · have := h.cells (g := g) rfl j u hu
      have hadd : (⟨g, 0, none⟩ : Addr).add j = ⟨g, j, none⟩ := by unfold Addr.add; split <;> simp_all
      rw [hadd] at this
      simpa using this
theorem own_form {base : Nat} {e : TypeId} {size n : Nat} {v : Value} (h : w.ownsRow base e size v n xs) : ∃ A c, v = .slice A n c ∧ n ≤ c ∧ c ≤ maxLen := by
  rcases h.2 with ⟨rfl, rfl⟩ | ⟨g, cap, cur, rfl, _, _, h1, h2, _⟩
  · exact ⟨none, 0, rfl, Nat.le_refl _, Nat.zero_le _⟩
  · exact ⟨_, cap, rfl, h1, h2⟩
theorem Lies.take (h : Lies w B A xs) (k : Nat) : Lies w B A (xs.take k) := by
  rcases h with h | ⟨b, o, e, hb, hc⟩
  · exact .inl (by simp [h])
  · refine .inr ⟨b, o, e, hb, fun j u hu => hc j u ?_⟩
    rw [List.getElem?_take] at hu
    split at hu
    · exact hu
    · cases hu
theorem Lies.drop (h : Lies w B A xs) (k cap : Nat) (hk : k ≤ xs.length) (hc : xs.length ≤ cap) : Lies w B (if cap = k then A else A.map (·.add k)) (xs.drop k) := by
  rcases h with h | ⟨b, o, e, hb, hcl⟩
  · exact .inl (by simp [h])
  · by_cases hx : k = xs.length
    · exact .inl (by simp [hx])
    · rw [if_neg (by omega)]
      subst e
      refine .inr ⟨b, o + k, ?_, hb, fun j u hu => ?_⟩
      · by_cases h0 : k = 0 <;> simp [Addr.add, h0]
      · rw [Nat.add_assoc]
        exact hcl (k + j) u (by rw [← hu, List.getElem?_drop])
end

theorem Lies.octets {w : World} {B : Nat} {A : Option Addr} {l : List UInt8} (h : Lies w B A (B8 l)) :
    l = [] ∨ ∃ b o, A = some ⟨b, o, none⟩ ∧ b < B ∧ ∀ (j : Nat) (hj : j < l.length), w.cell? ⟨b, o + j, none⟩ = some (.int .u8 (l[j].toNat : Int)) := by
  rcases h with h | ⟨b, o, e, hb, hc⟩
  · left
    apply List.eq_nil_of_length_eq_zero
    rw [← B8_length, h]; rfl
  · exact .inr ⟨b, o, e, hb, fun j hj => hc j _ (B8_get l j hj)⟩

/-- a block that is known whole -/
def Whole (w : World) (g : Nat) (t : TypeId) (cs : Array Value) : Prop := w.heap[g]? = some (.cells cs t (0, 0))
section
variable {w w' : World} {g : Nat} {t : TypeId} {cs : Array Value}
theorem Whole.lt (h : Whole w g t cs) : g < w.heap.size := (Array.getElem?_eq_some_iff.1 h).1
theorem Whole.cell (h : Whole w g t cs) (i : Nat) : w.cell? ⟨g, i, none⟩ = cs[i]? := cell_of_row w g i cs t (0, 0) h
theorem Whole.frozen (h : Whole w g t cs) (i : Nat) : w.frozen? ⟨g, i, none⟩ = false := by
  unfold Whole at h
  simp [World.frozen?, h]
theorem Whole.new (w : World) (t : TypeId) (cs : Array Value) : Whole (w.alloc (.cells cs t)) w.heap.size t cs := heap_alloc_new w _
theorem Whole.put (h : Whole w g t cs) (i : Nat) (u : Value) : Whole (w.setCell ⟨g, i, none⟩ u) g t (cs.setIfInBounds i u) := by
  unfold Whole at h ⊢
  simp [World.setCell, Array.getElem?_modify, h]
theorem Whole.below {B : Nat} (h : Whole w g t cs) (hb : Below B w w') (hg : g < B) : Whole w' g t cs := (hb.block g hg).trans h
theorem Whole.alloc (h : Whole w g t cs) (o : Obj) : Whole (w.alloc o) g t cs := h.below ((Below.refl _ w).alloc (Nat.le_refl _) o) h.lt
theorem Whole.grown {row : Option Nat} (h : Whole w g t cs) (hb : w.grownBy w' row) (hg : some g ≠ row) : Whole w' g t cs := (hb.block g h.lt hg).trans h
end

/-- one block of the old ones may have turned, others are as they were -/
theorem only_set {a w : World} {g : Nat} (h : a.grownBy w (some g)) (i : Nat) (u : Value) : a.grownBy (w.setCell ⟨g, i, none⟩ u) (some g) :=
  ⟨h.os, h.tape, h.output, by simpa [World.setCell] using h.size, fun k hk hne => (Below.heap_setCell w ⟨g, i, none⟩ u k (fun e => hne (by rw [e]))).trans (h.block k hk hne)⟩
theorem only_refl (w : World) (row : Option Nat) : w.grownBy w row := ⟨rfl, rfl, rfl, Nat.le_refl _, fun _ _ _ => rfl⟩
theorem only_trans {a b c : World} {row : Option Nat} (h : a.grownBy b row) (k : b.grownBy c row) : a.grownBy c row :=
  ⟨k.os.trans h.os, k.tape.trans h.tape, k.output.trans h.output, Nat.le_trans h.size k.size, fun i hi hn => (k.block i (Nat.lt_of_lt_of_le hi h.size) hn).trans (h.block i hi hn)⟩
theorem only_below {a b : World} (h : Below a.heap.size a b) (row : Option Nat) : a.grownBy b row := ⟨h.os, h.tape, h.output, h.size, fun i hi _ => h.block i hi⟩
theorem below_none {a b : World} (h : a.grownBy b none) : Below a.heap.size a b := (Below.refl _ a).grown h (Nat.le_refl _) (fun k hk => by cases hk)
theorem below_only {B g : Nat} {a b : World} (h : a.grownBy b (some g)) (hg : B ≤ g) (hB : B ≤ a.heap.size) : Below B a b :=
  ⟨h.os, h.tape, h.output, h.size, fun i hi => h.block i (by omega) (fun e => by injection e; omega)⟩

/-! ### append onto a row of the call's own, whatever the source is: nil, empty, or cells that lie somewhere -/
section
variable {P : Program} {w : World}
theorem run_append_nothing (base t ty e : Nat) (i : TypeInfo) (size : Nat) (ht : P.underlying t = some (.slice e)) (hi : P.info? e = some i)
    (v : Value) (n : Nat) (xs : List Value) (hown : w.ownsRow base e size v n xs) (c : Nat) :
    (Builtin.append_ #[t, t] ty #[v, .slice none 0 c]).run P w = .ok v w := by
  rcases hown.2 with ⟨rfl, rfl⟩ | ⟨g, cap, cur, rfl, _, _, hnc, _⟩
  · simp [Builtin.append_, run_underlying ht, sizeOf, typeInfo, hi, Builtin.lenOf, Builtin.firstCells]
  · simp [Builtin.append_, run_underlying ht, sizeOf, typeInfo, hi, Builtin.lenOf, Builtin.firstCells, hnc, storeCells]

theorem run_append_cells (base t ty e : Nat) (i : TypeInfo) (z : Value) (size bytes : Nat) (ht : P.underlying t = some (.slice e)) (hi : P.info? e = some i) (hz : i.zero = some z)
    (hsize : i.size = size) (hby : i.bytes = bytes) (hzs : z.cells.size = size) (hsz : 0 < size)
    (v : Value) (n : Nat) (xs : List Value) (hown : w.ownsRow base e size v n xs)
    (B : Nat) (A : Option Addr) (m c : Nat) (ys : List Value) (hl : Lies w B A ys) (hm : ys.length = m * size) (hone : ∀ u ∈ ys, u.oneCell' = true)
    (h63 : n + m ≤ maxLen) (hbytes : (n + m) * bytes ≤ 140737488355328) (hbase : base ≤ w.heap.size) :
    ∃ v' w', (Builtin.append_ #[t, t] ty #[v, .slice A m c]).run P w = .ok v' w' ∧ w'.ownsRow base e size v' (n + m) (xs ++ ys) ∧ Below base w w' ∧ w.grownBy w' v.ownBlock := by
  have hrow : ∀ k, v.ownBlock = some k → base ≤ k := fun k hk => (hown.lt k hk).1
  rcases A with _ | a
  · rcases hl with rfl | ⟨b, o, e, _⟩
    · have h0 : m = 0 := by
        rcases Nat.eq_zero_or_pos m with h | h
        · exact h
        · have := Nat.mul_pos h hsz
          simp at hm; omega
      subst h0
      exact ⟨v, w, run_append_nothing base t ty e i size ht hi v n xs hown c, by simpa using hown, Below.refl _ _, only_refl _ _⟩
    · cases e
  · have hc : ∀ j u, ys[j]? = some u → w.cell? (a.add j) = some u := by
      intro j u hu
      rcases hl with rfl | ⟨b, o, e, _, hc⟩
      · simp at hu
      · injection e with e
        subst e
        have hadd : (⟨b, o, none⟩ : Addr).add j = ⟨b, o + j, none⟩ := by unfold Addr.add; split <;> simp_all
        rw [hadd]
        exact hc j u hu
    obtain ⟨v', w', hrun, h2, h3, _, _⟩ := run_append_own_at (P := P) w base t ty e i z size bytes ht hi hz hsize hby hzs hsz v n xs hown a m c ys hm hc hone h63 hbytes hbase
    exact ⟨v', w', hrun, h2, (Below.refl base w).grown h3 hbase hrow, h3⟩

theorem wpList_append_cells {ops : Array Oper} {rest : List Oper} {o : Oper} {a : Act} {Q : Exit → Act → World → Prop} (hgd : o.guard = none) (s x : Operand) (t : TypeId)
    (ho : o.op = .call { callee := .builtin .append, args := #[s, x], argTypes := #[t, t] })
    (base : Nat) (e : TypeId) (i : TypeInfo) (z : Value) (size bytes : Nat) (ht : P.underlying t = some (.slice e)) (hi : P.info? e = some i) (hz : i.zero = some z)
    (hsize : i.size = size) (hby : i.bytes = bytes) (hzs : z.cells.size = size) (hsz : 0 < size)
    (v : Value) (n : Nat) (xs : List Value) (hs : a.eval s = v) (hown : w.ownsRow base e size v n xs)
    (B : Nat) (A : Option Addr) (m c : Nat) (ys : List Value) (hx : a.eval x = .slice A m c) (hl : Lies w B A ys) (hm : ys.length = m * size) (hone : ∀ u ∈ ys, u.oneCell' = true)
    (h63 : n + m ≤ maxLen) (hbytes : (n + m) * bytes ≤ 140737488355328) (hbase : base ≤ w.heap.size)
    (h : ∀ v' w', w'.ownsRow base e size v' (n + m) (xs ++ ys) → Below base w w' → wpList P ops Q rest (a.put o.dst v') w') : wpList P ops Q (o :: rest) a w := by
  refine wpList_plain hgd fun K hK => ?_
  obtain ⟨v', w', hrun, h2, h3, _⟩ := run_append_cells (P := P) base t o.type e i z size bytes ht hi hz hsize hby hzs hsz v n xs hown B A m c ys hl hm hone h63 hbytes hbase
  unfold Oper.wp execOp
  simp only [ho, resolve, invoke, builtin, Sem.run_bind, Sem.run_pure, Result.andThen_ok, List.map_toArray, List.map_cons, List.map_nil, hs, hx, hrun]
  exact hK _ _ (h v' w' h2 h3)
end

/-- a number of octets, the highest first -/
def nat (l : List UInt8) : Nat := l.foldl (fun a c => a * 256 + c.toNat) 0
/-- the n lowest octets of a number -/
def be (n v : Nat) : List UInt8 := (List.range n).map fun i => UInt8.ofNat (v / 2 ^ (8 * (n - 1 - i)))
theorem be_length (n v : Nat) : (be n v).length = n := by simp [be]
theorem nat_snoc (l : List UInt8) (c : UInt8) : nat (l ++ [c]) = nat l * 256 + c.toNat := by simp [nat, List.foldl_append]
theorem nat_nil : nat [] = 0 := rfl
theorem nat_from (l : List UInt8) : ∀ a, l.foldl (fun a c => a * 256 + c.toNat) a = a * 256 ^ l.length + nat l := by
  induction l with
  | nil => intro a; simp [nat]
  | cons c l ih =>
    intro a
    have h0 : nat (c :: l) = (0 * 256 + c.toNat) * 256 ^ l.length + nat l := ih _
    rw [h0, List.foldl_cons, ih, List.length_cons, Nat.pow_succ]
    generalize 256 ^ l.length = X
    rw [Nat.add_mul, Nat.add_mul, Nat.mul_assoc, Nat.mul_comm 256 X]
    omega
theorem nat_cons (c : UInt8) (l : List UInt8) : nat (c :: l) = c.toNat * 256 ^ l.length + nat l := by
  have h0 : nat (c :: l) = (0 * 256 + c.toNat) * 256 ^ l.length + nat l := nat_from l _
  rw [h0, Nat.zero_mul, Nat.zero_add]
theorem nat_lt (l : List UInt8) : nat l < 256 ^ l.length := by
  induction l with
  | nil => simp [nat]
  | cons c l ih =>
    rw [nat_cons, List.length_cons, Nat.pow_succ]
    have h1 := c.toNat_lt
    have h2 : (c.toNat + 1) * 256 ^ l.length ≤ 256 * 256 ^ l.length := Nat.mul_le_mul_right _ (by omega)
    rw [Nat.add_mul] at h2
    omega
/-- the first of n + 1 octets, and the others -/
theorem be_succ (n v : Nat) : be (n + 1) v = UInt8.ofNat (v / 256 ^ n) :: be n v := by
  unfold be
  rw [List.range_succ_eq_map, List.map_cons, List.map_map]
  have e : 2 ^ (8 * (n + 1 - 1 - 0)) = 256 ^ n := by
    rw [show 8 * (n + 1 - 1 - 0) = 8 * n from by omega, Nat.pow_mul]
  rw [e]
  congr 1
  apply List.map_congr_left
  intro i hi
  have hi := List.mem_range.1 hi
  simp only [Function.comp]
  rw [show n + 1 - 1 - (i + 1) = n - 1 - i from by omega]
theorem nat_be (n v : Nat) : nat (be n v) = v % 256 ^ n := by
  induction n with
  | zero => simp [be, nat, Nat.mod_one]
  | succ n ih =>
    rw [be_succ, nat_cons, be_length, ih, Nat.pow_succ, Nat.mod_mul]
    simp only [UInt8.toNat_ofNat', Nat.reducePow]
    rw [Nat.mul_comm]
    omega
/-- rows of octets of one length stand as their numbers do -/
theorem lt_nat : ∀ (a b : List UInt8), a.length = b.length → (a < b ↔ nat a < nat b) := by
  intro a
  induction a with
  | nil => intro b h; cases b <;> simp_all [nat]
  | cons c a ih =>
    intro b h
    cases b with
    | nil => simp at h
    | cons d b =>
      have hl : a.length = b.length := by simpa using h
      have ha := nat_lt a
      have hb := nat_lt b
      rw [List.cons_lt_cons_iff, ih b hl, nat_cons, nat_cons, UInt8.lt_iff_toNat_lt]
      rw [hl] at ha ⊢
      constructor
      · rintro (h1 | ⟨rfl, h1⟩)
        · have h2 : (c.toNat + 1) * 256 ^ b.length ≤ d.toNat * 256 ^ b.length := Nat.mul_le_mul_right _ h1
          rw [Nat.add_mul] at h2
          omega
        · omega
      · intro h1
        rcases Nat.lt_trichotomy c.toNat d.toNat with h2 | h2 | h2
        · exact .inl h2
        · right
          refine ⟨UInt8.toNat_inj.1 h2, ?_⟩
          rw [h2] at h1
          omega
        · have h3 : (d.toNat + 1) * 256 ^ b.length ≤ c.toNat * 256 ^ b.length := Nat.mul_le_mul_right _ h2
          rw [Nat.add_mul] at h3
          omega
theorem nat_inj : ∀ (a b : List UInt8), a.length = b.length → nat a = nat b → a = b := by
  intro a
  induction a with
  | nil => intro b h _; cases b <;> simp_all
  | cons c a ih =>
    intro b h e
    cases b with
    | nil => simp at h
    | cons d b =>
      have hl : a.length = b.length := by simpa using h
      have ha := nat_lt a
      have hb := nat_lt b
      rw [nat_cons, nat_cons] at e
      rw [hl] at ha e
      have hcd : c.toNat = d.toNat := by
        rcases Nat.lt_trichotomy c.toNat d.toNat with h2 | h2 | h2
        · have h3 : (c.toNat + 1) * 256 ^ b.length ≤ d.toNat * 256 ^ b.length := Nat.mul_le_mul_right _ h2
          rw [Nat.add_mul] at h3
          omega
        · exact h2
        · have h3 : (d.toNat + 1) * 256 ^ b.length ≤ c.toNat * 256 ^ b.length := Nat.mul_le_mul_right _ h2
          rw [Nat.add_mul] at h3
          omega
      obtain rfl := UInt8.toNat_inj.1 hcd
      rw [ih b hl (by omega)]

/-- room for eight bits more: fewer than eight octets so far -/
theorem nat_room (t : List UInt8) (j : Nat) (h : j < t.length) (h8 : t.length ≤ 8) : nat (t.take j) * 256 < 18446744073709551616 := by
  have h1 := nat_lt (t.take j)
  have h2 : (t.take j).length = j := by rw [List.length_take]; omega
  rw [h2] at h1
  have h3 : 256 ^ j ≤ 256 ^ 7 := Nat.pow_le_pow_right (by omega) (by omega)
  have h4 : (256 : Nat) ^ 7 = 72057594037927936 := by decide
  omega
theorem B8_len1 (l : List UInt8) : (B8 l).length = l.length * 1 := by rw [B8_length, Nat.mul_one]
theorem room63 {n : Nat} (h : n ≤ 140737488355328) : n ≤ maxLen := by unfold maxLen; omega
theorem room1 {n : Nat} (h : n ≤ 140737488355328) : n * 1 ≤ 140737488355328 := by omega
theorem Lies.alloc {w : World} {B : Nat} {A : Option Addr} {xs : List Value} (h : Lies w B A xs) (hB : B ≤ w.heap.size) (o : Obj) : Lies (w.alloc o) B A xs := h.below ((Below.refl B w).alloc hB o)
theorem take_one (l : List UInt8) (k : Nat) (h : k < l.length) : l.take (k + 1) = l.take k ++ [l[k]] := by
  rw [List.take_succ_eq_append_getElem h]
theorem Lies.one (w : World) (t : TypeId) (u : Value) : Lies (w.alloc (.cells #[u] t)) (w.heap.size + 1) (some ⟨w.heap.size, 0, none⟩) [u] := by
  refine .inr ⟨w.heap.size, 0, rfl, by omega, fun j x hx => ?_⟩
  rw [(Whole.new w t #[u]).cell (0 + j)]
  rw [Nat.zero_add]
  simpa using hx
theorem Lies.lit (w : World) (t : TypeId) (cs : List Value) : Lies (w.alloc (.cells cs.toArray t)) (w.heap.size + 1) (some ⟨w.heap.size, 0, none⟩) cs := by
  refine .inr ⟨w.heap.size, 0, rfl, by omega, fun j x hx => ?_⟩
  rw [(Whole.new w t cs.toArray).cell (0 + j), Nat.zero_add]
  simpa using hx
/-- one octet of a number, as the walk writes it -/
theorem oct_cast (x k : Nat) : ((x : Int) / 2 ^ k % 256) = ((UInt8.ofNat (x / 2 ^ k)).toNat : Int) := by
  rw [UInt8.toNat_ofNat']
  rw [Int.natCast_emod, Int.natCast_ediv, Int.natCast_pow]
  rfl
theorem be_next (l : List UInt8) (n x j : Nat) (h : j < n) : B8 (l ++ (be n x).take (j + 1)) = B8 (l ++ (be n x).take j) ++ [.int .u8 ((x : Int) / 2 ^ (8 * (n - 1 - j)) % 256)] := by
  have hl : j < (be n x).length := by rw [be_length]; exact h
  rw [take_one _ _ hl, ← List.append_assoc, B8_append, oct_cast]
  congr 1
  simp [B8, be]
theorem push_octets : ∀ (l : List UInt8) (s : ByteArray), (l.map fun c => (c.toNat : Int)).foldl (fun r n => r.push (UInt8.ofNat n.toNat)) s = ⟨(s.data.toList ++ l).toArray⟩ := by
  intro l
  induction l with
  | nil => intro s; simp
  | cons c l ih =>
    intro s
    rw [List.map_cons, List.foldl_cons, ih]
    have e : UInt8.ofNat (c.toNat : Int).toNat = c := by simp
    rw [e]
    simp [ByteArray.push]
/-- string(b): the octets that lie there -/
theorem run_octets_string {P : Program} {w : World} (src dst e : TypeId) (hs : P.underlying src = some (.slice e)) (he : P.underlying e = some (.int .u8)) (hd : P.underlying dst = some .string)
    {B : Nat} {A : Option Addr} {l : List UInt8} (hl : Lies w B A (B8 l)) (c : Nat) :
    (convert src dst (.slice A l.length c)).run P w = .ok (.string ⟨l.toArray⟩) w := by
  rw [run_convert_bytes_string w src dst e A l.length c hs he hd]
  rcases A with _ | a
  · have h0 : l = [] := by
      rcases hl.octets with h | ⟨b, o, e, _⟩
      · exact h
      · cases e
    subst h0
    rfl
  · have hc : ∀ j v, (B8 l)[j]? = some v → w.cell? (a.add j) = some v := by
      intro j u hu
      rcases hl with h | ⟨b, o, e, _, hc⟩
      · rw [h] at hu; simp at hu
      · injection e with e
        subst e
        have hadd : (⟨b, o, none⟩ : Addr).add j = ⟨b, o + j, none⟩ := by unfold Addr.add; split <;> simp_all
        rw [hadd]
        exact hc j u hu
    have hload := run_loadCells_list (P := P) (w := w) a (B8 l) hc
    rw [B8_length] at hload
    have e : B8 l = (l.map fun c => (c.toNat : Int)).map (Value.int .u8) := by simp [B8]
    rw [e] at hload
    rw [run_bytesToString w a l.length c _ hload, push_octets]
    rfl
/-- what a take of n octets tells, and what is left behind it -/
def tk (n : Nat) (l : List UInt8) : List UInt8 := if n ≤ l.length then l.take n else []
def rst (n : Nat) (l : List UInt8) : List UInt8 := if n ≤ l.length then l.drop n else []
def short (n : Nat) (l : List UInt8) : Bool := decide (l.length < n)
theorem tk_le (n : Nat) (l : List UInt8) : (tk n l).length ≤ n := by
  unfold tk
  split
  · exact List.length_take_le _ _
  · simp
theorem tk_yes {n : Nat} {l : List UInt8} (h : n ≤ l.length) : tk n l = l.take n := if_pos h
theorem tk_no {n : Nat} {l : List UInt8} (h : l.length < n) : tk n l = [] := if_neg (by omega)
theorem rst_yes {n : Nat} {l : List UInt8} (h : n ≤ l.length) : rst n l = l.drop n := if_pos h
theorem rst_no {n : Nat} {l : List UInt8} (h : l.length < n) : rst n l = [] := if_neg (by omega)
theorem short_yes {n : Nat} {l : List UInt8} (h : l.length < n) : short n l = true := by simp [short, h]
theorem short_no {n : Nat} {l : List UInt8} (h : n ≤ l.length) : short n l = false := by simp [short]; omega

/-- a text behind its length of n octets -/
def txt (n : Nat) (l : List UInt8) : List UInt8 := tk (nat (tk n l)) (rst n l)
def txtRest (n : Nat) (l : List UInt8) : List UInt8 := rst (nat (tk n l)) (rst n l)
def txtShort (n : Nat) (l : List UInt8) : Bool := short n l || short (nat (tk n l)) (rst n l)
theorem tk_sub (n : Nat) (l : List UInt8) : (tk n l).length ≤ l.length := by
  unfold tk
  split
  · rw [List.length_take]; omega
  · simp
theorem rst_sub (n : Nat) (l : List UInt8) : (rst n l).length ≤ l.length := by
  unfold rst
  split
  · rw [List.length_drop]; omega
  · simp
theorem txt_sub (n : Nat) (l : List UInt8) : (txt n l).length ≤ l.length := Nat.le_trans (tk_sub _ _) (rst_sub _ _)
theorem txtRest_sub (n : Nat) (l : List UInt8) : (txtRest n l).length ≤ l.length := Nat.le_trans (rst_sub _ _) (rst_sub _ _)
/-- eight bits more -/
theorem or_octet (a c : Nat) (ha : a * 256 < 18446744073709551616) (hc : c < 256) : bits .or .u64 ((a : Int) * 256) (c : Int) = ((a * 256 + c : Nat) : Int) := by
  have h := u64_or_nat (a * 256) c ha (by omega)
  rw [Int.natCast_mul] at h
  rw [show ((256 : Nat) : Int) = 256 from rfl] at h
  rw [h, nat_join 8 (a * 256) c (by omega) hc]
theorem B8_cell (l : List UInt8) (k : Nat) (h : k < l.length) : (B8 l)[k]? = some (.int .u8 (l[k].toNat : Int)) := B8_get l k h
end Go.Proofs.YtocombacjpjdbaaDoor
