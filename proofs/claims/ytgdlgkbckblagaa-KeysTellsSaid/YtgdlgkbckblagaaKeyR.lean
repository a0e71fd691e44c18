/- Layer 12, plain: keys that are made by hand; how texts of keys stand. -/
import Derived.Test.YtgdlgkbckblagaaKeyQ
namespace Go.Proofs.Ytgdlgkbckblagaa
open Go.RowKit
set_option maxRecDepth 100000
set_option linter.unusedSimpArgs false
set_option linter.unusedVariables false

theorem named_yes (c : UInt8) (S : List UInt8) (h : S.length ≤ 29) : namedB (c :: S) true = true := by
  unfold namedB
  rw [decide_eq_true (by simp; omega)]
  rfl
theorem ok5 (c : UInt8) (S : List UInt8) (id : Nat) (h : S.length ≤ 29) (hi : id ≠ 0) : okK 5 (c :: S) [] [] id = true := by
  unfold okK fitsB
  rw [show pkA 5 = true from rfl, show pkB 5 = false from rfl, show pkI 5 = true from rfl, named_yes c S h, decide_eq_true hi]; rfl
theorem ok4 (id : Nat) (hi : id ≠ 0) : okK 4 [] [] [] id = true := by
  unfold okK fitsB
  rw [show pkA 4 = false from rfl, show pkB 4 = false from rfl, show pkI 4 = true from rfl, decide_eq_true hi]; rfl
theorem less_pre (p : List UInt8) (a b : List UInt8) : Op.bytesLess (p ++ a) (p ++ b) = Op.bytesLess a b := by
  induction p with
  | nil => rfl
  | cons c p ih =>
    rw [List.cons_append, List.cons_append, Op.bytesLess, ih]
    simp
theorem less_lt : ∀ (l l' : List UInt8), Op.bytesLess l l' = decide (l < l') := by
  intro l
  induction l with
  | nil => intro l'; cases l' <;> simp [Op.bytesLess]
  | cons c l ih =>
    intro l'
    cases l' with
    | nil => simp [Op.bytesLess]
    | cons d l' =>
      rw [Op.bytesLess, ih, Bool.eq_iff_iff]
      simp [List.cons_lt_cons_iff]
theorem less_be8 (x y : Nat) (hx : x < 18446744073709551616) (hy : y < 18446744073709551616) : Op.bytesLess (be 8 x) (be 8 y) = decide (x < y) := by
  have e : (256 : Nat) ^ 8 = 18446744073709551616 := by decide
  rw [less_lt, Bool.eq_iff_iff, decide_eq_true_iff, decide_eq_true_iff, lt_nat _ _ (by rw [be_length, be_length]), nat_be, nat_be, Nat.mod_eq_of_lt (by omega), Nat.mod_eq_of_lt (by omega)]
/-- entries of one queue, and messages, stand by their numbers -/
theorem less5 (A : List UInt8) (x y : Nat) (hx : x < 18446744073709551616) (hy : y < 18446744073709551616) : Op.bytesLess (txK 5 A [] [] x) (txK 5 A [] [] y) = decide (x < y) := by
  rw [txK_gaps, txK_gaps]
  rw [show ∀ z, be 1 (5 : Int).toNat ++ (gapT (pkA 5) A ++ (gapT (pkB 5) [] ++ (gapT (pkB 5) [] ++ gapI (pkI 5) z))) = (be 1 5 ++ shortB A) ++ be 8 z from fun z => by simp [gapT, gapI, pkA, pkB, pkI]]
  rw [show ∀ z, be 1 (5 : Int).toNat ++ (gapT (pkA 5) A ++ (gapT (pkB 5) [] ++ (gapT (pkB 5) [] ++ gapI (pkI 5) z))) = (be 1 5 ++ shortB A) ++ be 8 z from fun z => by simp [gapT, gapI, pkA, pkB, pkI]]
  rw [less_pre, less_be8 x y hx hy]
theorem less4 (x y : Nat) (hx : x < 18446744073709551616) (hy : y < 18446744073709551616) : Op.bytesLess (txK 4 [] [] [] x) (txK 4 [] [] [] y) = decide (x < y) := by
  rw [txK_gaps, txK_gaps]
  rw [show ∀ z, be 1 (4 : Int).toNat ++ (gapT (pkA 4) [] ++ (gapT (pkB 4) [] ++ (gapT (pkB 4) [] ++ gapI (pkI 4) z))) = be 1 4 ++ be 8 z from fun z => by simp [gapT, gapI, pkA, pkB, pkI]]
  rw [show ∀ z, be 1 (4 : Int).toNat ++ (gapT (pkA 4) [] ++ (gapT (pkB 4) [] ++ (gapT (pkB 4) [] ++ gapI (pkI 4) z))) = be 1 4 ++ be 8 z from fun z => by simp [gapT, gapI, pkA, pkB, pkI]]
  rw [less_pre, less_be8 x y hx hy]
/-- texts of keys stand by their kinds -/
theorem less_kind (k k' : Nat) (A B C A' B' C' : List UInt8) (id id' : Nat) (h : k < k') (h' : k' < 256) : Op.bytesLess (txK k A B C id) (txK k' A' B' C' id') = true := by
  rw [txK_gaps, txK_gaps, Int.toNat_natCast, Int.toNat_natCast]
  have e : ∀ n, n < 256 → be 1 n = [UInt8.ofNat n] := fun n hn => by simp [be, List.range_succ]
  rw [e k (by omega), e k' h']
  apply bytesLess_cons
  rw [UInt8.lt_iff_toNat_lt, UInt8.toNat_ofNat', UInt8.toNat_ofNat', Nat.mod_eq_of_lt (by omega), Nat.mod_eq_of_lt (by omega)]
  exact h
end Go.Proofs.Ytgdlgkbckblagaa
