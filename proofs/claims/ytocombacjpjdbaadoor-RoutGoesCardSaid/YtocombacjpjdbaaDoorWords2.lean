/- More words: masks and bits. More words: what is read of octets that are cut off. More words: rows that came in, as lists. More words: one octet turned in an owned row. More words: append onto an owned row turns its own block alone; where the new row lies. A string made into octets: where they lie. -/
import Derived.Test.YtocombacjpjdbaaDoorWords
import Derived.Laws.BitsAllLaws
import Derived.Lib.ConvBytes
namespace Go.Proofs.YtocombacjpjdbaaDoor
section
open Go.RowKit

/-- the lowest bits of a number of either sign -/
theorem i64_mask (x : Int) (k : Nat) (hk : k < 63) : bits .and .i64 x ((2 ^ k - 1 : Nat) : Int) = x % 2 ^ k := by
  show IntKind.i64.wrap ((BitVec.ofInt 64 x &&& BitVec.ofInt 64 ((2 ^ k - 1 : Nat) : Int)).toNat : Int) = _
  have h2 : 2 ^ k ≤ 2 ^ 62 := Nat.pow_le_pow_right (by omega) (by omega)
  have h1 : 0 < 2 ^ k := Nat.pow_pos (by omega)
  have hm : (BitVec.ofInt 64 ((2 ^ k - 1 : Nat) : Int)).toNat = 2 ^ k - 1 := by
    rw [BitVec.ofInt_natCast, BitVec.toNat_ofNat]
    exact Nat.mod_eq_of_lt (by omega)
  have hx : (BitVec.ofInt 64 x).toNat % 2 ^ k = (x % ((2 ^ k : Nat) : Int)).toNat := by
    rw [BitVec.toNat_ofInt]
    have hd : ((2 ^ k : Nat) : Int) ∣ ((2 ^ 64 : Nat) : Int) := by
      apply Int.natCast_dvd_natCast.2
      exact Nat.pow_dvd_pow 2 (by omega)
    have h3 : 0 ≤ x % ((2 ^ 64 : Nat) : Int) := Int.emod_nonneg _ (by decide)
    have h4 := Int.emod_emod_of_dvd x hd
    rw [← h4]
    obtain ⟨y, hy⟩ := Int.eq_ofNat_of_zero_le h3
    rw [hy, ← Int.natCast_emod, Int.toNat_natCast, Int.toNat_natCast]
  rw [BitVec.toNat_and, hm, Nat.and_two_pow_sub_one_eq_mod, hx]
  have h5 : 0 ≤ x % ((2 ^ k : Nat) : Int) := Int.emod_nonneg _ (by omega)
  have h6 : x % ((2 ^ k : Nat) : Int) < ((2 ^ k : Nat) : Int) := Int.emod_lt_of_pos _ (by omega)
  rw [Int.toNat_of_nonneg h5]
  have h7 : x % ((2 ^ k : Nat) : Int) ≤ 4611686018427387904 := by omega
  rw [IntWalk.i64_in _ ⟨by omega, by omega⟩, Int.natCast_pow]
  rfl
theorem mask_is (x : Int) (m : Int) (k : Nat) (hk : k < 63) (hm : m = ((2 ^ k - 1 : Nat) : Int)) : ∃ n : Nat, n < 2 ^ k ∧ x % 2 ^ k = (n : Int) ∧ bits .and .i64 x m = (n : Int) := by
  subst hm
  have h1 : (0 : Int) < 2 ^ k := Int.pow_pos (by omega)
  obtain ⟨n, hn⟩ := Int.eq_ofNat_of_zero_le (Int.emod_nonneg x (show (2 : Int) ^ k ≠ 0 by omega))
  refine ⟨n, ?_, hn, by rw [i64_mask x k hk, hn]⟩
  have h2 := Int.emod_lt_of_pos x h1
  rw [hn] at h2
  have h3 : ((2 ^ k : Nat) : Int) = (2 : Int) ^ k := Int.natCast_pow 2 k
  omega

theorem u64_low (a : Nat) (h : a < 18446744073709551616) : bits .and .u64 (a : Int) 1 = ((a % 2 : Nat) : Int) := by
  have := u64_and_nat a 1 h (by omega)
  rw [Nat.and_one_is_mod] at this
  exact this
theorem u8_low (a : Nat) (h : a < 256) : bits .and .u8 (a : Int) 1 = ((a % 2 : Nat) : Int) := by
  have := u8_and_nat a 1 h (by omega)
  rw [Nat.and_one_is_mod] at this
  exact this
theorem mask_low (a k : Nat) (ha : a < 18446744073709551616) (hk : k < 8) : bits .and .u64 (a : Int) (IntKind.u64.wrap (IntKind.u64.wrap (2 ^ (8 * k)) - 1)) = ((a % 256 ^ k : Nat) : Int) := by
  have h1 : 2 ^ (8 * k) = 256 ^ k := by rw [Nat.pow_mul]
  have h2 : 256 ^ k ≤ 256 ^ 7 := Nat.pow_le_pow_right (by omega) (by omega)
  have h3 : (256 : Nat) ^ 7 = 72057594037927936 := by decide
  have h4 : 0 < 256 ^ k := Nat.pow_pos (by omega)
  have e1 : ((2 : Int) ^ (8 * k)) = ((256 ^ k : Nat) : Int) := by rw [← h1, Int.natCast_pow]; rfl
  have i1 : IntKind.u64.wrap ((256 ^ k : Nat) : Int) = ((256 ^ k : Nat) : Int) := IntWalk.u64_in _ ⟨by omega, by omega⟩
  have i2 : IntKind.u64.wrap (((256 ^ k : Nat) : Int) - 1) = ((256 ^ k : Nat) : Int) - 1 := IntWalk.u64_in _ ⟨by omega, by omega⟩
  rw [e1, i1, i2]
  have e2 : ((256 ^ k : Nat) : Int) - 1 = ((2 ^ (8 * k) - 1 : Nat) : Int) := by rw [h1]; omega
  rw [e2, u64_and_nat a _ ha (by rw [h1]; omega), Nat.and_two_pow_sub_one_eq_mod, h1]
theorem mask_low32 (a : Nat) (ha : a < 18446744073709551616) : bits .and .u64 (a : Int) 4294967295 = ((a % 4294967296 : Nat) : Int) := by
  have h := u64_and_nat a (2 ^ 32 - 1) ha (by decide)
  rw [Nat.and_two_pow_sub_one_eq_mod] at h
  exact h
theorem nat_be8 (x : Nat) (h : x < 18446744073709551616) : nat (be 8 x) = x := by
  rw [nat_be, show 256 ^ 8 = 18446744073709551616 from by decide, Nat.mod_eq_of_lt h]
/-- what is known of a number that came in -/
theorem wf_u64 {a : Int} (h : (Lit.int .u64 a).wf = true) : ∃ x : Nat, a = (x : Int) ∧ x < 18446744073709551616 := by
  simp [Lit.wf, IntKind.min, IntKind.max, IntKind.signed, IntKind.bits] at h
  obtain ⟨x, rfl⟩ := Int.eq_ofNat_of_zero_le h.1
  exact ⟨x, rfl, by omega⟩
theorem wf_i64 {a : Int} (h : (Lit.int .i64 a).wf = true) : -9223372036854775808 ≤ a ∧ a ≤ 9223372036854775807 := by
  simp [Lit.wf, IntKind.min, IntKind.max, IntKind.signed, IntKind.bits] at h
  exact ⟨by omega, by omega⟩
/-- a bit of an octet is that of the number -/
theorem bit_of_octet (x k : Nat) : x / 2 ^ (8 * (k / 8)) % 256 / 2 ^ (k % 8) % 2 = x / 2 ^ k % 2 := by
  have h1 : 2 ^ k = 2 ^ (8 * (k / 8)) * 2 ^ (k % 8) := by rw [← Nat.pow_add, Nat.div_add_mod]
  rw [h1, ← Nat.div_div_eq_div_mul]
  generalize x / 2 ^ (8 * (k / 8)) = y
  have h2 : k % 8 < 8 := Nat.mod_lt _ (by omega)
  have h3 : 256 = 2 ^ (k % 8) * 2 ^ (8 - k % 8) := by rw [← Nat.pow_add, show k % 8 + (8 - k % 8) = 8 from by omega]
  rw [h3, Nat.mod_mul_right_div_self]
  have h4 : 2 ^ (8 - k % 8) = 2 * 2 ^ (7 - k % 8) := by rw [show 8 - k % 8 = (7 - k % 8) + 1 from by omega, Nat.pow_succ, Nat.mul_comm]
  rw [h4, Nat.mod_mul_right_mod]
end
section

theorem tk_cut {n : Nat} {a r : List UInt8} {q : Nat} (ha : a.length = n) (h : n ≤ q) : tk n ((a ++ r).take q) = a ∧ rst n ((a ++ r).take q) = r.take (q - n) ∧ short n ((a ++ r).take q) = false := by
  have hl : n ≤ ((a ++ r).take q).length := by simp; omega
  refine ⟨?_, ?_, short_no hl⟩
  · rw [tk_yes hl, List.take_take, Nat.min_eq_left h, ← ha, List.take_left]
  · rw [rst_yes hl, List.drop_take, ← ha, List.drop_left]
theorem tk_less {n : Nat} {l : List UInt8} (h : l.length < n) : tk n l = [] ∧ rst n l = [] ∧ short n l = true := ⟨tk_no h, rst_no h, short_yes h⟩
theorem txt_cut {k : Nat} {S r : List UInt8} {q : Nat} (hn : S.length < 256 ^ k) (h : k + S.length ≤ q) :
    txt k ((be k S.length ++ (S ++ r)).take q) = S ∧ txtRest k ((be k S.length ++ (S ++ r)).take q) = r.take (q - k - S.length) ∧ txtShort k ((be k S.length ++ (S ++ r)).take q) = false := by
  obtain ⟨h1, h2, h3⟩ := tk_cut (a := be k S.length) (r := S ++ r) (q := q) (be_length k S.length) (by omega)
  unfold txt txtRest txtShort
  rw [h1, h2, h3, nat_be, Nat.mod_eq_of_lt hn]
  obtain ⟨h4, h5, h6⟩ := tk_cut (a := S) (r := r) (q := q - k) rfl (by omega)
  rw [h4, h5, h6]
  exact ⟨rfl, rfl, rfl⟩
theorem txt_nil (k : Nat) (hk : 0 < k) : txt k [] = [] ∧ txtRest k [] = [] ∧ txtShort k [] = true := by
  obtain ⟨h1, h2, h3⟩ := tk_less (n := k) (l := []) (by simpa using hk)
  unfold txt txtRest txtShort
  rw [h1, h2, h3, nat_nil]
  exact ⟨rfl, rfl, rfl⟩
theorem txt_less {k : Nat} {S r : List UInt8} {q : Nat} (_hk : 0 < k) (hn : S.length < 256 ^ k) (h : q < k + S.length) :
    txt k ((be k S.length ++ (S ++ r)).take q) = [] ∧ txtRest k ((be k S.length ++ (S ++ r)).take q) = [] ∧ txtShort k ((be k S.length ++ (S ++ r)).take q) = true := by
  rcases Nat.lt_or_ge q k with h0 | h0
  · obtain ⟨h1, h2, h3⟩ := tk_less (n := k) (l := (be k S.length ++ (S ++ r)).take q) (by simp; omega)
    unfold txt txtRest txtShort
    rw [h1, h2, h3, nat_nil]
    exact ⟨rfl, rfl, rfl⟩
  · obtain ⟨h1, h2, h3⟩ := tk_cut (a := be k S.length) (r := S ++ r) (q := q) (be_length k S.length) h0
    unfold txt txtRest txtShort
    rw [h1, h2, h3, nat_be, Nat.mod_eq_of_lt hn]
    obtain ⟨h4, h5, h6⟩ := tk_less (n := S.length) (l := (S ++ r).take (q - k)) (by simp; omega)
    rw [h4, h5, h6]
    exact ⟨rfl, rfl, rfl⟩

theorem tk_pre {n : Nat} {a : List UInt8} (r : List UInt8) (ha : a.length = n) : tk n (a ++ r) = a ∧ rst n (a ++ r) = r ∧ short n (a ++ r) = false := by
  have hl : n ≤ (a ++ r).length := by simp; omega
  refine ⟨?_, ?_, short_no hl⟩
  · rw [tk_yes hl, ← ha, List.take_left]
  · rw [rst_yes hl, ← ha, List.drop_left]
theorem txt_pre (k : Nat) (S r : List UInt8) (hn : S.length < 256 ^ k) :
    txt k (be k S.length ++ (S ++ r)) = S ∧ txtRest k (be k S.length ++ (S ++ r)) = r ∧ txtShort k (be k S.length ++ (S ++ r)) = false := by
  obtain ⟨h1, h2, h3⟩ := tk_pre (S ++ r) (be_length k S.length)
  unfold txt txtRest txtShort
  rw [h1, h2, h3, nat_be, Nat.mod_eq_of_lt hn]
  obtain ⟨h4, h5, h6⟩ := tk_pre (n := S.length) r rfl
  rw [h4, h5, h6]
  exact ⟨rfl, rfl, rfl⟩
/-- what is read of a number of four octets, a text behind one octet, and a text behind four, cut off behind q octets -/
structure CutReads (S : List UInt8) (v q : Nat) (M : Nat) (X Y R : List UInt8) (bad : Bool) : Prop where
  num : M = if 4 ≤ q then v % 4294967296 else 0
  one : X = if 5 + S.length ≤ q then S else []
  two : Y = if 9 + S.length + S.length ≤ q then S else []
  rest : R = []
  was : bad = !decide (9 + S.length + S.length ≤ q)
theorem cut_reads (S : List UInt8) (v q : Nat) (hS : S.length ≤ 200) (Q : List UInt8) (hQ : Q = (be 4 v ++ be 1 S.length ++ S ++ be 4 S.length ++ S).take q) :
    CutReads S v q (nat (tk 4 Q)) (txt 1 (rst 4 Q)) (txt 4 (txtRest 1 (rst 4 Q))) (txtRest 4 (txtRest 1 (rst 4 Q))) (((false || short 4 Q) || txtShort 1 (rst 4 Q)) || txtShort 4 (txtRest 1 (rst 4 Q))) := by
  have e : be 4 v ++ be 1 S.length ++ S ++ be 4 S.length ++ S = be 4 v ++ (be 1 S.length ++ (S ++ (be 4 S.length ++ (S ++ [])))) := by simp
  rw [e] at hQ
  subst hQ
  have h4 : (256 : Nat) ^ 4 = 4294967296 := by decide
  have h1 : (256 : Nat) ^ 1 = 256 := by decide
  rcases Nat.lt_or_ge q 4 with hq | hq
  · obtain ⟨a1, a2, a3⟩ := tk_less (n := 4) (l := (be 4 v ++ (be 1 S.length ++ (S ++ (be 4 S.length ++ (S ++ []))))).take q) (by simp; omega)
    rw [a1, a2, a3]
    obtain ⟨b1, b2, b3⟩ := txt_nil 1 (by omega)
    obtain ⟨c1, c2, c3⟩ := txt_nil 4 (by omega)
    rw [b1, b2, b3, c1, c2, c3]
    exact ⟨by rw [if_neg (by omega)]; rfl, by rw [if_neg (by omega)], by rw [if_neg (by omega)], rfl, by rw [decide_eq_false (by omega)]; rfl⟩
  · obtain ⟨a1, a2, a3⟩ := tk_cut (a := be 4 v) (r := be 1 S.length ++ (S ++ (be 4 S.length ++ (S ++ [])))) (q := q) (be_length 4 v) hq
    rw [a1, a2, a3, nat_be, h4]
    rcases Nat.lt_or_ge q (5 + S.length) with hq1 | hq1
    · obtain ⟨b1, b2, b3⟩ := txt_less (k := 1) (S := S) (r := be 4 S.length ++ (S ++ [])) (q := q - 4) (by omega) (by omega) (by omega)
      obtain ⟨c1, c2, c3⟩ := txt_nil 4 (by omega)
      rw [b1, b2, b3, c1, c2, c3]
      exact ⟨by rw [if_pos hq], by rw [if_neg (by omega)], by rw [if_neg (by omega)], rfl, by rw [decide_eq_false (by omega)]; rfl⟩
    · obtain ⟨b1, b2, b3⟩ := txt_cut (k := 1) (S := S) (r := be 4 S.length ++ (S ++ [])) (q := q - 4) (by omega) (by omega)
      rw [b1, b2, b3]
      rcases Nat.lt_or_ge q (9 + S.length + S.length) with hq2 | hq2
      · obtain ⟨c1, c2, c3⟩ := txt_less (k := 4) (S := S) (r := []) (q := q - 4 - 1 - S.length) (by omega) (by omega) (by omega)
        rw [c1, c2, c3]
        exact ⟨by rw [if_pos hq], by rw [if_pos hq1], by rw [if_neg (by omega)], rfl, by rw [decide_eq_false (by omega)]; rfl⟩
      · obtain ⟨c1, c2, c3⟩ := txt_cut (k := 4) (S := S) (r := []) (q := q - 4 - 1 - S.length) (by omega) (by omega)
        rw [c1, c2, c3]
        exact ⟨by rw [if_pos hq], by rw [if_pos hq1], by rw [if_pos hq2], by simp, by rw [decide_eq_true hq2]; rfl⟩
end
section
open Go.RowKit

/-- octets that came in: the first of their row's cells are a list of octets -/
theorem octets_in {w : World} {a : Option Addr} {len cap : Nat} {zs : List Int}
    (h : (a = none ∧ len = 0 ∧ cap = 0 ∧ zs = []) ∨ ∃ x, a = some x ∧ len ≤ cap ∧ cap ≤ maxLen ∧ zs.length = cap ∧ (∀ i, i < zs.length → w.cell? (x.add i) = some (.int .u8 (zs.getD i 0))) ∧ ∀ n ∈ zs, (Lit.int .u8 n).wf = true) :
    ∃ l : List UInt8, l.length = len ∧ len ≤ cap ∧ cap ≤ maxLen ∧ Lies w w.heap.size a (B8 l) := by
  rcases h with ⟨rfl, rfl, rfl, rfl⟩ | ⟨x, rfl, h1, h2, h3, h4, h5⟩
  · exact ⟨[], rfl, Nat.le_refl _, Nat.zero_le _, Lies.empty _ _ _⟩
  · refine ⟨(zs.take len).map fun n => UInt8.ofNat n.toNat, by rw [List.length_map, List.length_take]; omega, h1, h2, ?_⟩
    rcases Nat.eq_zero_or_pos len with h0 | h0
    · subst h0
      exact .inl (by simp [B8])
    · obtain ⟨b, o, spot⟩ := x
      have hc0 := h4 0 (by omega)
      have hspot : spot = none := by simpa [Addr.add] using World.cell?_spot hc0
      subst hspot
      have hadd : ∀ j, (⟨b, o, none⟩ : Addr).add j = ⟨b, o + j, none⟩ := by intro j; unfold Addr.add; split <;> simp_all
      rw [hadd] at hc0
      refine .inr ⟨b, o, rfl, World.block_lt_of_cell? w ⟨b, o + 0, none⟩ hc0, fun j u hu => ?_⟩
      have hj : j < ((zs.take len).map fun n => UInt8.ofNat n.toNat).length := by
        rw [← B8_length]
        exact (List.getElem?_eq_some_iff.1 hu).1
      rw [B8_get _ j hj] at hu
      injection hu with hu
      rw [List.length_map, List.length_take] at hj
      have hj2 : j < zs.length := by omega
      have hc := h4 j hj2
      rw [hadd] at hc
      rw [hc, ← hu]
      have hw := h5 zs[j] (List.getElem_mem hj2)
      simp [Lit.wf, IntKind.min, IntKind.max, IntKind.signed, IntKind.bits] at hw
      have hg : zs.getD j 0 = zs[j] := by simp [List.getD, hj2]
      have e : (UInt8.ofNat zs[j].toNat).toNat = zs[j].toNat := by
        rw [UInt8.toNat_ofNat']
        exact Nat.mod_eq_of_lt (by omega)
      congr 2
      simp only [List.getElem_map, List.getElem_take, hg]
      rw [e]
      omega
/-- numbers that came in -/
theorem ints_in {w : World} {a : Option Addr} {len cap : Nat} {zs : List Int}
    (h : (a = none ∧ len = 0 ∧ cap = 0 ∧ zs = []) ∨ ∃ x, a = some x ∧ len ≤ cap ∧ cap ≤ maxLen ∧ zs.length = cap ∧ (∀ i, i < zs.length → w.cell? (x.add i) = some (.int .i64 (zs.getD i 0))) ∧ ∀ n ∈ zs, (Lit.int .i64 n).wf = true) :
    ∃ l : List Int, l.length = len ∧ len ≤ cap ∧ cap ≤ maxLen ∧ Lies w w.heap.size a (l.map (Value.int .i64)) := by
  rcases h with ⟨rfl, rfl, rfl, rfl⟩ | ⟨x, rfl, h1, h2, h3, h4, _⟩
  · exact ⟨[], rfl, Nat.le_refl _, Nat.zero_le _, Lies.empty _ _ _⟩
  · refine ⟨zs.take len, by rw [List.length_take]; omega, h1, h2, ?_⟩
    rcases Nat.eq_zero_or_pos len with h0 | h0
    · subst h0
      exact .inl (by simp)
    · obtain ⟨b, o, spot⟩ := x
      have hc0 := h4 0 (by omega)
      have hspot : spot = none := by simpa [Addr.add] using World.cell?_spot hc0
      subst hspot
      have hadd : ∀ j, (⟨b, o, none⟩ : Addr).add j = ⟨b, o + j, none⟩ := by intro j; unfold Addr.add; split <;> simp_all
      rw [hadd] at hc0
      refine .inr ⟨b, o, rfl, World.block_lt_of_cell? w ⟨b, o + 0, none⟩ hc0, fun j u hu => ?_⟩
      obtain ⟨hj, hu⟩ := List.getElem?_eq_some_iff.1 hu
      have hj0 : j < (zs.take len).length := by simpa using hj
      rw [List.length_take] at hj0
      have hj2 : j < zs.length := by omega
      have hc := h4 j hj2
      rw [hadd] at hc
      rw [hc, ← hu]
      simp [List.getD, hj2]
end
section
open Go.RowKit

theorem u8_flip (a b : UInt8) : bits .xor .u8 (a.toNat : Int) (b.toNat : Int) = ((a ^^^ b).toNat : Int) := by
  rw [u8_xor_nat _ _ a.toNat_lt b.toNat_lt]
  rfl
/-- one octet turned -/
def flip (l : List UInt8) (j : Nat) (y : UInt8) : List UInt8 := l.set j (l.getD j 0 ^^^ y)
theorem flip_length (l : List UInt8) (j : Nat) (y : UInt8) : (flip l j y).length = l.length := by simp [flip]
theorem flip_lies {w : World} {B g o : Nat} {l : List UInt8} (h : Lies w B (some ⟨g, o, none⟩) (B8 l)) (j : Nat) (hj : j < l.length) (y : UInt8) :
    Lies (w.setCell ⟨g, o + j, none⟩ (.int .u8 ((l.getD j 0 ^^^ y).toNat : Int))) B (some ⟨g, o, none⟩) (B8 (flip l j y)) := by
  rcases h.octets with h | ⟨b, o', e, hb, hc⟩
  · rw [h] at hj; simp at hj
  · injection e with e
    injection e with e1 e2 e3
    subst e1 e2
    refine .inr ⟨g, o, rfl, hb, fun i u hu => ?_⟩
    have hi : i < (flip l j y).length := by
      rw [← B8_length]
      exact (List.getElem?_eq_some_iff.1 hu).1
    rw [B8_get _ i hi] at hu
    injection hu with hu
    rw [flip_length] at hi
    rw [← hu]
    by_cases hij : j = i
    · subst hij
      rw [World.cell?_setCell_same _ _ _ (hc j hj)]
      simp [flip]
    · rw [World.cell?_setCell_other _ _ _ _ (by intro h; injection h; omega), hc i hi]
      simp [flip, hij]
theorem own_head {w : World} {base : Nat} {e : TypeId} {n c : Nat} {A : Option Addr} {xs : List Value} (h : w.ownsRow base e 1 (.slice A n c) n xs) (hn : 0 < n) : ∃ g, A = some ⟨g, 0, none⟩ ∧ base ≤ g ∧ g < w.heap.size ∧ ∀ i, w.frozen? ⟨g, i, none⟩ = false := by
  rcases h.2 with ⟨_, h0⟩ | ⟨g, cap, cur, hv, hgb, hg, _⟩
  · omega
  · refine ⟨g, by injection hv, hgb, (Array.getElem?_eq_some_iff.1 hg).1, fun i => ?_⟩
    simp [World.frozen?, hg]
/-- which octet is turned -/
theorem turn_at (x : Int) (n : Nat) (hn : 0 < n) : ∃ j, j < n ∧ (bits .and .i64 x 65535).tmod (n : Int) = (j : Int) := by
  obtain ⟨q, _, _, eq⟩ := mask_is x 65535 16 (by omega) rfl
  refine ⟨q % n, Nat.mod_lt _ hn, ?_⟩
  rw [eq]
  exact (Int.ofNat_tmod q n).symm
end
section
open Go.RowKit

/-- a row that is newer than another lies in another block -/
theorem own_apart {w w' : World} {b1 b2 : Nat} {e1 e2 : TypeId} {s1 s2 n1 n2 : Nat} {v1 v2 : Value} {xs1 xs2 : List Value} (h1 : w.ownsRow b1 e1 s1 v1 n1 xs1) (h2 : w'.ownsRow b2 e2 s2 v2 n2 xs2) (hle : w'.heap.size ≤ b1) : v1.ownBlock = none ∨ v1.ownBlock ≠ v2.ownBlock := by
  cases hv : v1.ownBlock with
  | none => exact .inl rfl
  | some g =>
    right
    intro e
    have g1 := (h1.lt g hv).1
    have g2 := (h2.lt g e.symm).2
    omega
/-- append onto an owned row: nothing but its own block turns -/
theorem wpList_append_apart {P : Program} {w : World} {ops : Array Oper} {rest : List Oper} {o : Oper} {a : Act} {Q : Exit → Act → World → Prop} (hgd : o.guard = none) (s x : Operand) (t : TypeId)
    (ho : o.op = .call { callee := .builtin .append, args := #[s, x], argTypes := #[t, t] })
    (base : Nat) (e : TypeId) (i : TypeInfo) (z : Value) (size bytes : Nat) (ht : P.underlying t = some (.slice e)) (hi : P.info? e = some i) (hz : i.zero = some z)
    (hsize : i.size = size) (hby : i.bytes = bytes) (hzs : z.cells.size = size) (hsz : 0 < size)
    (v : Value) (n : Nat) (xs : List Value) (hs : a.eval s = v) (hown : w.ownsRow base e size v n xs)
    (B : Nat) (A : Option Addr) (m c : Nat) (ys : List Value) (hx : a.eval x = .slice A m c) (hl : Lies w B A ys) (hm : ys.length = m * size) (hone : ∀ u ∈ ys, u.oneCell' = true)
    (h63 : n + m ≤ maxLen) (hbytes : (n + m) * bytes ≤ 140737488355328) (hbase : base ≤ w.heap.size)
    (h : ∀ v' w', w'.ownsRow base e size v' (n + m) (xs ++ ys) → w.grownBy w' v.ownBlock → wpList P ops Q rest (a.put o.dst v') w') : wpList P ops Q (o :: rest) a w := by
  refine wpList_plain hgd fun K hK => ?_
  obtain ⟨v', w', hrun, h2, _, h4⟩ := run_append_cells (P := P) base t o.type e i z size bytes ht hi hz hsize hby hzs hsz v n xs hown B A m c ys hl hm hone h63 hbytes hbase
  unfold Oper.wp execOp
  simp only [ho, resolve, invoke, builtin, Sem.run_bind, Sem.run_pure, Result.andThen_ok, List.map_toArray, List.map_cons, List.map_nil, hs, hx, hrun]
  exact hK _ _ (h v' w' h2 h4)

theorem run_append_cells2 {P : Program} {w : World} (base t ty e : Nat) (i : TypeInfo) (z : Value) (size bytes : Nat) (ht : P.underlying t = some (.slice e)) (hi : P.info? e = some i) (hz : i.zero = some z)
    (hsize : i.size = size) (hby : i.bytes = bytes) (hzs : z.cells.size = size) (hsz : 0 < size)
    (v : Value) (n : Nat) (xs : List Value) (hown : w.ownsRow base e size v n xs)
    (B : Nat) (A : Option Addr) (m c : Nat) (ys : List Value) (hl : Lies w B A ys) (hm : ys.length = m * size) (hone : ∀ u ∈ ys, u.oneCell' = true)
    (h63 : n + m ≤ maxLen) (hbytes : (n + m) * bytes ≤ 140737488355328) (hbase : base ≤ w.heap.size) :
    ∃ v' w', (Builtin.append_ #[t, t] ty #[v, .slice A m c]).run P w = .ok v' w' ∧ w'.ownsRow base e size v' (n + m) (xs ++ ys) ∧ w.grownBy w' v.ownBlock ∧ (v'.ownBlock = v.ownBlock ∨ v'.ownBlock = some w.heap.size) := by
  rcases A with _ | a
  · rcases hl with rfl | ⟨b, o, e, _⟩
    · have h0 : m = 0 := by
        rcases Nat.eq_zero_or_pos m with h | h
        · exact h
        · have := Nat.mul_pos h hsz
          simp at hm; omega
      subst h0
      exact ⟨v, w, run_append_nothing base t ty e i size ht hi v n xs hown c, by simpa using hown, only_refl _ _, .inl rfl⟩
    · cases e
  · have hc : ∀ j u, ys[j]? = some u → w.cell? (a.add j) = some u := by
      intro j u hu
      rcases hl with rfl | ⟨b, o, e, _, hc⟩
      · simp at hu
      · injection e with e
        subst e
        have hadd : (⟨b, o, none⟩ : Addr).add j = ⟨b, o + j, none⟩ := by unfold Addr.add; split <;> simp_all
        rw [hadd]
        exact hc j u hu
    obtain ⟨v', w', hrun, h2, h3, _, h5⟩ := run_append_own_at (P := P) w base t ty e i z size bytes ht hi hz hsize hby hzs hsz v n xs hown a m c ys hm hc hone h63 hbytes hbase
    exact ⟨v', w', hrun, h2, h3, h5⟩
theorem wpList_append_own2 {P : Program} {w : World} {ops : Array Oper} {rest : List Oper} {o : Oper} {a : Act} {Q : Exit → Act → World → Prop} (hgd : o.guard = none) (s x : Operand) (t : TypeId)
    (ho : o.op = .call { callee := .builtin .append, args := #[s, x], argTypes := #[t, t] })
    (base : Nat) (e : TypeId) (i : TypeInfo) (z : Value) (size bytes : Nat) (ht : P.underlying t = some (.slice e)) (hi : P.info? e = some i) (hz : i.zero = some z)
    (hsize : i.size = size) (hby : i.bytes = bytes) (hzs : z.cells.size = size) (hsz : 0 < size)
    (v : Value) (n : Nat) (xs : List Value) (hs : a.eval s = v) (hown : w.ownsRow base e size v n xs)
    (B : Nat) (A : Option Addr) (m c : Nat) (ys : List Value) (hx : a.eval x = .slice A m c) (hl : Lies w B A ys) (hm : ys.length = m * size) (hone : ∀ u ∈ ys, u.oneCell' = true)
    (h63 : n + m ≤ maxLen) (hbytes : (n + m) * bytes ≤ 140737488355328) (hbase : base ≤ w.heap.size)
    (h : ∀ v' w', w'.ownsRow base e size v' (n + m) (xs ++ ys) → w.grownBy w' v.ownBlock → (v'.ownBlock = v.ownBlock ∨ v'.ownBlock = some w.heap.size) → wpList P ops Q rest (a.put o.dst v') w') : wpList P ops Q (o :: rest) a w := by
  refine wpList_plain hgd fun K hK => ?_
  obtain ⟨v', w', hrun, h2, h3, h4⟩ := run_append_cells2 (P := P) base t o.type e i z size bytes ht hi hz hsize hby hzs hsz v n xs hown B A m c ys hl hm hone h63 hbytes hbase
  unfold Oper.wp execOp
  simp only [ho, resolve, invoke, builtin, Sem.run_bind, Sem.run_pure, Result.andThen_ok, List.map_toArray, List.map_cons, List.map_nil, hs, hx, hrun]
  exact hK _ _ (h v' w' h2 h3 h4)
end
section
open Go.RowKit
theorem bytes_below (w : World) (e : TypeId) (s : ByteArray) : Below w.heap.size w (Lib.bytesWorld w e s) :=
  ⟨rfl, rfl, rfl, by rw [Lib.bytesWorld_size]; omega, fun k hk => Lib.bytesWorld_at_old w e s k hk⟩
theorem bytes_lie (w : World) (e : TypeId) (l : List UInt8) : Lies (Lib.bytesWorld w e ⟨l.toArray⟩) (w.heap.size + 1) (some ⟨w.heap.size, 0, none⟩) (B8 l) := by
  refine .inr ⟨w.heap.size, 0, rfl, by omega, fun j u hu => ?_⟩
  have hj : j < l.length := by
    rw [← B8_length]
    exact (List.getElem?_eq_some_iff.1 hu).1
  rw [B8_get l j hj] at hu
  injection hu with hu
  rw [Nat.zero_add, Lib.bytesWorld_cell w e ⟨l.toArray⟩ j hj, ← hu]
  simp [List.getD, hj]
end
end Go.Proofs.YtocombacjpjdbaaDoor
