/- More words: what is read of octets that are cut off. -/
import Derived.Test.YtplijhhjclfhaaaWords2
namespace Go.Proofs.Ytplijhhjclfhaaa

theorem tk_cut {n : Nat} {a r : List UInt8} {q : Nat} (ha : a.length = n) (h : n ≤ q) : tk n ((a ++ r).take q) = a ∧ rst n ((a ++ r).take q) = r.take (q - n) ∧ short n ((a ++ r).take q) = false := by
  have hl : n ≤ ((a ++ r).take q).length := by simp; omega
  refine ⟨?_, ?_, short_no hl⟩
  · rw [tk_yes hl, List.take_take, Nat.min_eq_left h, ← ha, List.take_left]
  · rw [rst_yes hl, List.drop_take, ← ha, List.drop_left]
theorem tk_less {n : Nat} {l : List UInt8} (h : l.length < n) : tk n l = [] ∧ rst n l = [] ∧ short n l = true := ⟨tk_no h, rst_no h, short_yes h⟩
theorem txt_cut {k : Nat} {S r : List UInt8} {q : Nat} (hn : S.length < 256 ^ k) (h : k + S.length ≤ q) :
    txt k ((be k S.length ++ (S ++ r)).take q) = S ∧ txtRest k ((be k S.length ++ (S ++ r)).take q) = r.take (q - k - S.length) ∧ txtShort k ((be k S.length ++ (S ++ r)).take q) = false := by
  obtain ⟨h1, h2, h3⟩ := tk_cut (a := be k S.length) (r := S ++ r) (q := q) (be_length k S.length) (by omega)
  unfold txt txtRest txtShort
  rw [h1, h2, h3, nat_be, Nat.mod_eq_of_lt hn]
  obtain ⟨h4, h5, h6⟩ := tk_cut (a := S) (r := r) (q := q - k) rfl (by omega)
  rw [h4, h5, h6]
  exact ⟨rfl, rfl, rfl⟩
theorem txt_nil (k : Nat) (hk : 0 < k) : txt k [] = [] ∧ txtRest k [] = [] ∧ txtShort k [] = true := by
  obtain ⟨h1, h2, h3⟩ := tk_less (n := k) (l := []) (by simpa using hk)
  unfold txt txtRest txtShort
  rw [h1, h2, h3, nat_nil]
  exact ⟨rfl, rfl, rfl⟩
theorem txt_less {k : Nat} {S r : List UInt8} {q : Nat} (_hk : 0 < k) (hn : S.length < 256 ^ k) (h : q < k + S.length) :
    txt k ((be k S.length ++ (S ++ r)).take q) = [] ∧ txtRest k ((be k S.length ++ (S ++ r)).take q) = [] ∧ txtShort k ((be k S.length ++ (S ++ r)).take q) = true := by
  rcases Nat.lt_or_ge q k with h0 | h0
  · obtain ⟨h1, h2, h3⟩ := tk_less (n := k) (l := (be k S.length ++ (S ++ r)).take q) (by simp; omega)
    unfold txt txtRest txtShort
    rw [h1, h2, h3, nat_nil]
    exact ⟨rfl, rfl, rfl⟩
  · obtain ⟨h1, h2, h3⟩ := tk_cut (a := be k S.length) (r := S ++ r) (q := q) (be_length k S.length) h0
    unfold txt txtRest txtShort
    rw [h1, h2, h3, nat_be, Nat.mod_eq_of_lt hn]
    obtain ⟨h4, h5, h6⟩ := tk_less (n := S.length) (l := (S ++ r).take (q - k)) (by simp; omega)
    rw [h4, h5, h6]
    exact ⟨rfl, rfl, rfl⟩

theorem tk_pre {n : Nat} {a : List UInt8} (r : List UInt8) (ha : a.length = n) : tk n (a ++ r) = a ∧ rst n (a ++ r) = r ∧ short n (a ++ r) = false := by
  have hl : n ≤ (a ++ r).length := by simp; omega
  refine ⟨?_, ?_, short_no hl⟩
  · rw [tk_yes hl, ← ha, List.take_left]
  · rw [rst_yes hl, ← ha, List.drop_left]
theorem txt_pre (k : Nat) (S r : List UInt8) (hn : S.length < 256 ^ k) :
    txt k (be k S.length ++ (S ++ r)) = S ∧ txtRest k (be k S.length ++ (S ++ r)) = r ∧ txtShort k (be k S.length ++ (S ++ r)) = false := by
  obtain ⟨h1, h2, h3⟩ := tk_pre (S ++ r) (be_length k S.length)
  unfold txt txtRest txtShort
  rw [h1, h2, h3, nat_be, Nat.mod_eq_of_lt hn]
  obtain ⟨h4, h5, h6⟩ := tk_pre (n := S.length) r rfl
  rw [h4, h5, h6]
  exact ⟨rfl, rfl, rfl⟩
/-- what is read of a number of four octets, a text behind one octet, and a text behind four, cut off behind q octets -/
structure CutReads (S : List UInt8) (v q : Nat) (M : Nat) (X Y R : List UInt8) (bad : Bool) : Prop where
  num : M = if 4 ≤ q then v % 4294967296 else 0
  one : X = if 5 + S.length ≤ q then S else []
  two : Y = if 9 + S.length + S.length ≤ q then S else []
  rest : R = []
  was : bad = !decide (9 + S.length + S.length ≤ q)
theorem cut_reads (S : List UInt8) (v q : Nat) (hS : S.length ≤ 200) (Q : List UInt8) (hQ : Q = (be 4 v ++ be 1 S.length ++ S ++ be 4 S.length ++ S).take q) :
    CutReads S v q (nat (tk 4 Q)) (txt 1 (rst 4 Q)) (txt 4 (txtRest 1 (rst 4 Q))) (txtRest 4 (txtRest 1 (rst 4 Q))) (((false || short 4 Q) || txtShort 1 (rst 4 Q)) || txtShort 4 (txtRest 1 (rst 4 Q))) := by
  have e : be 4 v ++ be 1 S.length ++ S ++ be 4 S.length ++ S = be 4 v ++ (be 1 S.length ++ (S ++ (be 4 S.length ++ (S ++ [])))) := by simp
  rw [e] at hQ
  subst hQ
  have h4 : (256 : Nat) ^ 4 = 4294967296 := by decide
  have h1 : (256 : Nat) ^ 1 = 256 := by decide
  rcases Nat.lt_or_ge q 4 with hq | hq
  · obtain ⟨a1, a2, a3⟩ := tk_less (n := 4) (l := (be 4 v ++ (be 1 S.length ++ (S ++ (be 4 S.length ++ (S ++ []))))).take q) (by simp; omega)
    rw [a1, a2, a3]
    obtain ⟨b1, b2, b3⟩ := txt_nil 1 (by omega)
    obtain ⟨c1, c2, c3⟩ := txt_nil 4 (by omega)
    rw [b1, b2, b3, c1, c2, c3]
    exact ⟨by rw [if_neg (by omega)]; rfl, by rw [if_neg (by omega)], by rw [if_neg (by omega)], rfl, by rw [decide_eq_false (by omega)]; rfl⟩
  · obtain ⟨a1, a2, a3⟩ := tk_cut (a := be 4 v) (r := be 1 S.length ++ (S ++ (be 4 S.length ++ (S ++ [])))) (q := q) (be_length 4 v) hq
    rw [a1, a2, a3, nat_be, h4]
    rcases Nat.lt_or_ge q (5 + S.length) with hq1 | hq1
    · obtain ⟨b1, b2, b3⟩ := txt_less (k := 1) (S := S) (r := be 4 S.length ++ (S ++ [])) (q := q - 4) (by omega) (by omega) (by omega)
      obtain ⟨c1, c2, c3⟩ := txt_nil 4 (by omega)
      rw [b1, b2, b3, c1, c2, c3]
      exact ⟨by rw [if_pos hq], by rw [if_neg (by omega)], by rw [if_neg (by omega)], rfl, by rw [decide_eq_false (by omega)]; rfl⟩
    · obtain ⟨b1, b2, b3⟩ := txt_cut (k := 1) (S := S) (r := be 4 S.length ++ (S ++ [])) (q := q - 4) (by omega) (by omega)
      rw [b1, b2, b3]
      rcases Nat.lt_or_ge q (9 + S.length + S.length) with hq2 | hq2
      · obtain ⟨c1, c2, c3⟩ := txt_less (k := 4) (S := S) (r := []) (q := q - 4 - 1 - S.length) (by omega) (by omega) (by omega)
        rw [c1, c2, c3]
        exact ⟨by rw [if_pos hq], by rw [if_pos hq1], by rw [if_neg (by omega)], rfl, by rw [decide_eq_false (by omega)]; rfl⟩
      · obtain ⟨c1, c2, c3⟩ := txt_cut (k := 4) (S := S) (r := []) (q := q - 4 - 1 - S.length) (by omega) (by omega)
        rw [c1, c2, c3]
        exact ⟨by rw [if_pos hq], by rw [if_pos hq1], by rw [if_pos hq2], by simp, by rw [decide_eq_true hq2]; rfl⟩
end Go.Proofs.Ytplijhhjclfhaaa
