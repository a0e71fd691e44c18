/- The walk of the law on a number's bits. -/
import Derived.Test.YtpfenhlclegalaaAwake
import Derived.Test.YtpfenhlclegalaaWords2
namespace Go.Proofs.Ytpfenhlclegalaa
open Go.RowKit

theorem nine_lit : B8 [9] = [.int .u8 9] := rfl
theorem tk_all (n x : Nat) : tk n (be n x) = be n x := by
  rw [tk_yes (by rw [be_length]; exact Nat.le_refl _), List.take_of_length_le (by rw [be_length]; exact Nat.le_refl _)]
theorem octsBits_any (x : Nat) (bit : Int) (w : World) (hx : x < 18446744073709551616) :
    Calls Try.prog 4 #[.int .u64 x, .int .i64 bit] w fun e w' => e = .returned (.bool true) ∧ Below w.heap.size w w' := by
  have h0 : Lies (w.alloc (.cells #[.int .u8 9] 5)) (w.heap.size + 1) (some ⟨w.heap.size, 0, none⟩) (B8 [9]) := by
    rw [nine_lit]; exact Lies.lit w 5 _
  have b0 : Below w.heap.size w (w.alloc (.cells #[.int .u8 9] 5)) := (Below.refl _ _).alloc (Nat.le_refl _) _
  obtain ⟨k, hk, _, ek⟩ := mask_is bit 63 6 (by omega) rfl
  rw [show 2 ^ 6 = 64 from rfl] at hk
  have H0 := Lib.hid h0
  have B0 := Lib.hid b0
  clear h0 b0
  go_enter Try.func4, Try.ntmps4
  go_wp2_with fail
  refine (int_any (some ⟨w.heap.size, 0, none⟩) 1 [9] (w.heap.size + 1) 8 x _ H0.out (by simp) (by simp)).mono ?_
  rintro e w1 ⟨v, rfl, ho, hb⟩
  rw [show wid 8 = 8 from rfl] at ho
  have B1 := Lib.hid (B0.out.trans (hb.mono (by simp)))
  obtain ⟨A, c, rfl, hc1, hc2⟩ := own_form ho
  have hl := Lies.own ho (Nat.le_refl _)
  have hlen : ([9] ++ be 8 x).length = 9 := by simp [be_length]
  have L1 := Lib.hid hl
  rw [hlen] at hc1 ⊢
  rcases hl.octets with hl | ⟨b, o, rfl, hbo, hc⟩
  · rw [hl] at hlen; cases hlen
  · have c0 : w1.cell? ⟨b, o, none⟩ = some (.int .u8 9) := hc 0 (by rw [hlen]; omega)
    have C := Lib.hid hc
    clear ho hb hc hlen
    have hcm : c ≤ 9223372036854775807 := by unfold maxLen at hc2; omega
    clear hc2
    go_wp2_with fail
    have HL : Hid (Lies w1 w1.heap.size (some ⟨b, o + 1, none⟩) (B8 (be 8 x))) := by
      have := L1.out.drop 1 (c) (by simp [B8_length, be_length]) (by simp [B8_length, be_length]; omega)
      rw [if_neg (by omega)] at this
      exact this
    refine (from_any (some ⟨b, o + 1, none⟩) (c - 1) (be 8 x) w1.heap.size _ HL.out (Nat.le_refl _) (by simp [be_length])).mono ?_
    rintro e w2 ⟨g, hg, rfl, hi, hb⟩
    have hg' : w.heap.size ≤ g := by have := B1.out.size; omega
    have B2 := Lib.hid (B1.out.trans (hb.mono B1.out.size))
    have I2 := Lib.hid hi
    have hk8 : k / 8 ≤ 7 := by omega
    have hcell : w2.cell? ⟨b, o + (8 - k / 8), none⟩ = some (.int .u8 ((x / 2 ^ (8 * (k / 8)) % 256 : Nat) : Int)) := by
      rw [hb.cell (p := ⟨b, o + (8 - k / 8), none⟩) hbo]
      refine (C.out (8 - k / 8) (by simp [be_length]; omega)).trans ?_
      congr 3
      have e1 : 8 - k / 8 = (7 - k / 8) + 1 := by omega
      simp only [e1, List.singleton_append, List.getElem_cons_succ, be, List.getElem_map, List.getElem_range]
      rw [show 8 - 1 - (7 - k / 8) = k / 8 from by omega]
      simp
    have h256 : x / 2 ^ (8 * (k / 8)) % 256 < 256 := Nat.mod_lt _ (by omega)
    have hbit := bit_of_octet x k
    generalize x / 2 ^ (8 * (k / 8)) % 256 = y at *
    have hy : (y : Int) / 2 ^ (k % 8) = ((y / 2 ^ (k % 8) : Nat) : Int) := by rw [Int.natCast_ediv, Int.natCast_pow]; rfl
    have hx2 : (x : Int) / 2 ^ k = ((x / 2 ^ k : Nat) : Int) := by rw [Int.natCast_ediv, Int.natCast_pow]; rfl
    have hy3 : y / 2 ^ (k % 8) ≤ y := Nat.div_le_self _ _
    have hx3 : x / 2 ^ k ≤ x := Nat.div_le_self _ _
    have e1 : bits .and .u8 ((y : Int) / 2 ^ (k % 8)) 1 = ((x / 2 ^ k % 2 : Nat) : Int) := by
      rw [hy, ← hbit]
      exact u8_low _ (by omega)
    have e2 : bits .and .u64 ((x : Int) / 2 ^ k) 1 = ((x / 2 ^ k % 2 : Nat) : Int) := by
      rw [hx2]
      exact u64_low _ (by omega)
    have ht : x / 2 ^ k % 2 < 2 := Nat.mod_lt _ (by omega)
    have hn : nat (be 8 x) = x := nat_be8 x hx
    have HN := Lib.hid hn
    generalize x / 2 ^ k % 2 = t at *
    clear hi hb hg hbit hy hx2 hy3 hx3 hn
    go_wp2_with (first
      | (go_at_call 13; refine (in_int g 8 _ _ _ I2.out).mono ?_; rintro e w3 ⟨rfl, hi3, hb3⟩; rw [show tk (wid 8) (be 8 x) = be 8 x from tk_all 8 x] ; rw [HN.out]; have B3 := Lib.hid (B2.out.trans (below_only hb3 hg' B2.out.size)); have I3 := Lib.hid hi3; clear hi3 hb3)
      | (go_at_call 16; refine (in_ok g _ _ _ I3.out).mono ?_; rintro e w' ⟨rfl, rfl⟩)
      | (go_at_call 8; refine (awake_any _).mono ?_; rintro e w4 ⟨rfl, hb4⟩))
    go_ret
    exact ⟨rfl, B3.out.trans (hb4.mono B3.out.size)⟩
end Go.Proofs.Ytpfenhlclegalaa
