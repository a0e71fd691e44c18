/- More words: masks and bits. -/
import Derived.Test.YtplijhhjclfhaaaWords
namespace Go.Proofs.Ytplijhhjclfhaaa
open Go.RowKit

/-- the lowest bits of a number of either sign -/
theorem i64_mask (x : Int) (k : Nat) (hk : k < 63) : bits .and .i64 x ((2 ^ k - 1 : Nat) : Int) = x % 2 ^ k := by
  show IntKind.i64.wrap ((BitVec.ofInt 64 x &&& BitVec.ofInt 64 ((2 ^ k - 1 : Nat) : Int)).toNat : Int) = _
  have h2 : 2 ^ k ≤ 2 ^ 62 := Nat.pow_le_pow_right (by omega) (by omega)
  have h1 : 0 < 2 ^ k := Nat.pow_pos (by omega)
  have hm : (BitVec.ofInt 64 ((2 ^ k - 1 : Nat) : Int)).toNat = 2 ^ k - 1 := by
    rw [BitVec.ofInt_natCast, BitVec.toNat_ofNat]
    exact Nat.mod_eq_of_lt (by omega)
  have hx : (BitVec.ofInt 64 x).toNat % 2 ^ k = (x % ((2 ^ k : Nat) : Int)).toNat := by
    rw [BitVec.toNat_ofInt]
    have hd : ((2 ^ k : Nat) : Int) ∣ ((2 ^ 64 : Nat) : Int) := by
      apply Int.natCast_dvd_natCast.2
      exact Nat.pow_dvd_pow 2 (by omega)
    have h3 : 0 ≤ x % ((2 ^ 64 : Nat) : Int) := Int.emod_nonneg _ (by decide)
    have h4 := Int.emod_emod_of_dvd x hd
    rw [← h4]
    obtain ⟨y, hy⟩ := Int.eq_ofNat_of_zero_le h3
    rw [hy, ← Int.natCast_emod, Int.toNat_natCast, Int.toNat_natCast]
  rw [BitVec.toNat_and, hm, Nat.and_two_pow_sub_one_eq_mod, hx]
  have h5 : 0 ≤ x % ((2 ^ k : Nat) : Int) := Int.emod_nonneg _ (by omega)
  have h6 : x % ((2 ^ k : Nat) : Int) < ((2 ^ k : Nat) : Int) := Int.emod_lt_of_pos _ (by omega)
  rw [Int.toNat_of_nonneg h5]
  have h7 : x % ((2 ^ k : Nat) : Int) ≤ 4611686018427387904 := by omega
  rw [IntWalk.i64_in _ ⟨by omega, by omega⟩, Int.natCast_pow]
  rfl
theorem mask_is (x : Int) (m : Int) (k : Nat) (hk : k < 63) (hm : m = ((2 ^ k - 1 : Nat) : Int)) : ∃ n : Nat, n < 2 ^ k ∧ x % 2 ^ k = (n : Int) ∧ bits .and .i64 x m = (n : Int) := by
  subst hm
  have h1 : (0 : Int) < 2 ^ k := Int.pow_pos (by omega)
  obtain ⟨n, hn⟩ := Int.eq_ofNat_of_zero_le (Int.emod_nonneg x (show (2 : Int) ^ k ≠ 0 by omega))
  refine ⟨n, ?_, hn, by rw [i64_mask x k hk, hn]⟩
  have h2 := Int.emod_lt_of_pos x h1
  rw [hn] at h2
  have h3 : ((2 ^ k : Nat) : Int) = (2 : Int) ^ k := Int.natCast_pow 2 k
  omega

theorem u64_low (a : Nat) (h : a < 18446744073709551616) : bits .and .u64 (a : Int) 1 = ((a % 2 : Nat) : Int) := by
  have := u64_and_nat a 1 h (by omega)
  rw [Nat.and_one_is_mod] at this
  exact this
theorem u8_low (a : Nat) (h : a < 256) : bits .and .u8 (a : Int) 1 = ((a % 2 : Nat) : Int) := by
  have := u8_and_nat a 1 h (by omega)
  rw [Nat.and_one_is_mod] at this
  exact this
theorem mask_low (a k : Nat) (ha : a < 18446744073709551616) (hk : k < 8) : bits .and .u64 (a : Int) (IntKind.u64.wrap (IntKind.u64.wrap (2 ^ (8 * k)) - 1)) = ((a % 256 ^ k : Nat) : Int) := by
  have h1 : 2 ^ (8 * k) = 256 ^ k := by rw [Nat.pow_mul]
  have h2 : 256 ^ k ≤ 256 ^ 7 := Nat.pow_le_pow_right (by omega) (by omega)
  have h3 : (256 : Nat) ^ 7 = 72057594037927936 := by decide
  have h4 : 0 < 256 ^ k := Nat.pow_pos (by omega)
  have e1 : ((2 : Int) ^ (8 * k)) = ((256 ^ k : Nat) : Int) := by rw [← h1, Int.natCast_pow]; rfl
  have i1 : IntKind.u64.wrap ((256 ^ k : Nat) : Int) = ((256 ^ k : Nat) : Int) := IntWalk.u64_in _ ⟨by omega, by omega⟩
  have i2 : IntKind.u64.wrap (((256 ^ k : Nat) : Int) - 1) = ((256 ^ k : Nat) : Int) - 1 := IntWalk.u64_in _ ⟨by omega, by omega⟩
  rw [e1, i1, i2]
  have e2 : ((256 ^ k : Nat) : Int) - 1 = ((2 ^ (8 * k) - 1 : Nat) : Int) := by rw [h1]; omega
  rw [e2, u64_and_nat a _ ha (by rw [h1]; omega), Nat.and_two_pow_sub_one_eq_mod, h1]
theorem mask_low32 (a : Nat) (ha : a < 18446744073709551616) : bits .and .u64 (a : Int) 4294967295 = ((a % 4294967296 : Nat) : Int) := by
  have h := u64_and_nat a (2 ^ 32 - 1) ha (by decide)
  rw [Nat.and_two_pow_sub_one_eq_mod] at h
  exact h
theorem nat_be8 (x : Nat) (h : x < 18446744073709551616) : nat (be 8 x) = x := by
  rw [nat_be, show 256 ^ 8 = 18446744073709551616 from by decide, Nat.mod_eq_of_lt h]
/-- what is known of a number that came in -/
theorem wf_u64 {a : Int} (h : (Lit.int .u64 a).wf = true) : ∃ x : Nat, a = (x : Int) ∧ x < 18446744073709551616 := by
  simp [Lit.wf, IntKind.min, IntKind.max, IntKind.signed, IntKind.bits] at h
  obtain ⟨x, rfl⟩ := Int.eq_ofNat_of_zero_le h.1
  exact ⟨x, rfl, by omega⟩
theorem wf_i64 {a : Int} (h : (Lit.int .i64 a).wf = true) : -9223372036854775808 ≤ a ∧ a ≤ 9223372036854775807 := by
  simp [Lit.wf, IntKind.min, IntKind.max, IntKind.signed, IntKind.bits] at h
  exact ⟨by omega, by omega⟩
/-- a bit of an octet is that of the number -/
theorem bit_of_octet (x k : Nat) : x / 2 ^ (8 * (k / 8)) % 256 / 2 ^ (k % 8) % 2 = x / 2 ^ k % 2 := by
  have h1 : 2 ^ k = 2 ^ (8 * (k / 8)) * 2 ^ (k % 8) := by rw [← Nat.pow_add, Nat.div_add_mod]
  rw [h1, ← Nat.div_div_eq_div_mul]
  generalize x / 2 ^ (8 * (k / 8)) = y
  have h2 : k % 8 < 8 := Nat.mod_lt _ (by omega)
  have h3 : 256 = 2 ^ (k % 8) * 2 ^ (8 - k % 8) := by rw [← Nat.pow_add, show k % 8 + (8 - k % 8) = 8 from by omega]
  rw [h3, Nat.mod_mul_right_div_self]
  have h4 : 2 ^ (8 - k % 8) = 2 * 2 ^ (7 - k % 8) := by rw [show 8 - k % 8 = (7 - k % 8) + 1 from by omega, Nat.pow_succ, Nat.mul_comm]
  rw [h4, Nat.mod_mul_right_mod]
end Go.Proofs.Ytplijhhjclfhaaa
