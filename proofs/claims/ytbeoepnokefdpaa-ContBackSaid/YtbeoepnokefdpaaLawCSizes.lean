/- The law on a head's sizes: its walk. -/
import Derived.Test.YtbeoepnokefdpaaContC
import Derived.Test.YtbeoepnokefdpaaRef
namespace Go.Proofs.Ytbeoepnokefdpaa
open Go.RowKit
set_option maxRecDepth 100000
set_option linter.unusedSimpArgs false
set_option linter.unusedVariables false

theorem head_size (s : Nat) (m : Int) (t : List UInt8) (hs : s < 18446744073709551616) : nat (tk 8 ((headB s m t).drop 4)) = s ∧ short 8 ((headB s m t).drop 4) = false := by
  have m8 : s % 256 ^ 8 = s := Nat.mod_eq_of_lt (by rw [show (256 : Nat) ^ 8 = 18446744073709551616 from by decide]; exact hs)
  have e : (headB s m t).drop 4 = be 8 s ++ (be 2 (hflags t m) ++ (hpartT t ++ hpartM m)) := by
    unfold headB
    simp only [List.append_assoc]
    rw [List.drop_left' (be_length 4 _)]
  rw [e, tk_be, short_be, nat_be, m8]
  exact ⟨rfl, rfl⟩
theorem num_at (A : Option Addr) (c n B : Nat) (l : List UInt8) (p k x : Nat) (w : World) (hn : n = l.length) (hl : Lies w B A (B8 l)) (hp : p ≤ l.length) (hk : k ≤ 8) (hs : l.length ≤ 140737488355328) (hx : nat (tk k (l.drop p)) = x) (hy : short k (l.drop p) = false) :
    Calls Try.prog 10 #[.slice A n c, .int .i64 p, .int .i64 k] w fun e w' => e = .returned (.tuple #[.int .u64 x, .bool true]) ∧ w = w' := by
  subst hn
  refine (num_any A c B l p k w hl hp hk hs).mono ?_
  rw [hx, hy]
  exact fun e w' h => h
theorem mod3 (m : Int) : ∃ k : Nat, k ≤ 2 ∧ (m.tmod 3 + 3).tmod 3 = (k : Int) ∧ -3 ≤ m.tmod 3 ∧ m.tmod 3 ≤ 3 := by
  have h1 := Int.tmod_lt_of_pos m (show (0 : Int) < 3 by decide)
  have h2 : -3 < m.tmod 3 := by
    have := Int.lt_tmod_of_pos m (show (0 : Int) < 3 by decide)
    omega
  have h3 : 0 ≤ m.tmod 3 + 3 := by omega
  have h4 := Int.tmod_nonneg 3 h3
  have h5 := Int.tmod_lt_of_pos (m.tmod 3 + 3) (show (0 : Int) < 3 by decide)
  exact ⟨((m.tmod 3 + 3).tmod 3).toNat, by omega, by omega, by omega, by omega⟩

set_option maxHeartbeats 1000000 in
theorem csizes_a (s : Nat) (m : Int) (w : World) (hs : s < 18446744073709551616) (hm : (m.tmod 3 + 3).tmod 3 = 0) (hm1 : -3 ≤ m.tmod 3) (hm2 : m.tmod 3 ≤ 3) :
    Calls Try.prog 3 #[.int .u64 s, .string ⟨#[]⟩, .int .i64 m] w fun e w' => e = .returned (.bool true) ∧ Below w.heap.size w w' := by
  obtain ⟨Z, hZ⟩ : ∃ Z, Z = headB s 0 [] := ⟨_, rfl⟩
  have hok : headOk 0 [] = true := by unfold headOk; exact decide_eq_true ⟨by omega, by omega, by simp⟩
  
  have hZl : Z.length = 14 := by rw [hZ, headB_length, if_pos rfl, if_pos rfl]
  have hZc : cappB [] s 0 [] = Z := by rw [hZ]; unfold cappB; rw [hok, if_pos rfl]; rfl
  have hP : headP Z = some (s, 0, []) := by rw [hZ]; exact head_back s 0 [] hs hok
  have hN := head_size s 0 [] hs
  rw [← hZ] at hN
  have HZL := Lib.hid hZl
  have HZC := Lib.hid hZc
  have HP := Lib.hid hP
  have HN := Lib.hid hN
  have HOK := Lib.hid hok
  
  clear hZ hZl hZc hP hN hok
  obtain ⟨W, hW⟩ : ∃ W, W = w.alloc (.cells #[.int .u64 s, .int .i64 0, .string ⟨#[]⟩] 25) := ⟨_, rfl⟩
  have hb : Below w.heap.size w W := by rw [hW]; exact (Below.refl _ _).alloc (Nat.le_refl _) _
  have hz : W.heap.size = w.heap.size + 1 := by rw [hW]; simp
  have K0 : Hid (Whole W w.heap.size 25 #[.int .u64 s, .int .i64 0, .string ⟨#[]⟩]) := Lib.hid (by rw [hW]; exact Whole.new _ _ _)
  have B0 := Lib.hid hb
  have Z0 := Lib.hid hz
  have HW := Lib.hid hW
  clear hb hz hW
  go_enter Try.func3, Try.ntmps3
  go_wp2_with fail
  rw [← HW.out]
  refine (cappend_at none 0 0 [] 0 s 0 [] _ true Z rfl (Lies.empty _ _ _) (Nat.zero_le _) (by simp) (by simp) HOK.out HZC.out).mono ?_
  rintro e w1 ⟨v1, rfl, ho, hb⟩
  rw [HZL.out] at ho
  obtain ⟨A1, c1, rfl, hc1, hm1'⟩ := own_form ho
  have L1 := Lib.hid (Lies.own ho (Nat.le_refl _))
  have K1 := Lib.hid (K0.out.below hb (by rw [Z0.out]; omega))
  have B1 := Lib.hid (B0.out.trans (hb.mono (by rw [Z0.out]; omega)))
  have z1 := B1.out.size
  have x1 : w1.cell? ⟨w.heap.size, 1, none⟩ = some (.int .i64 0) := K1.out.cell 1
  clear ho hb
  go_wp2_with fail
  refine (cparse_yes A1 c1 (14) Z w1.heap.size _ s 0 [] HZL.out.symm L1.out (Nat.le_refl _) (by rw [HZL.out]; omega) HP.out).mono ?_
  rintro e w2 ⟨rfl, hb⟩
  have z2 := hb.size
  obtain ⟨w3, hw3⟩ : ∃ w3, w3 = w2.alloc (.cells #[.int .u64 s, .int .i64 0, .string ⟨#[]⟩] 25) := ⟨_, rfl⟩
  have hb3 : Below w1.heap.size w1 w3 := by rw [hw3]; exact hb.alloc hb.size _
  have K3 : Hid (Whole w3 w2.heap.size 25 #[.int .u64 s, .int .i64 0, .string ⟨#[]⟩]) := Lib.hid (by rw [hw3]; exact Whole.new _ _ _)
  have L3 := Lib.hid (L1.out.below hb3)
  have G3 := Lib.hid (K1.out.below hb3 K1.out.lt)
  have B3 := Lib.hid (B1.out.trans (hb3.mono z1))
  have HW3 := Lib.hid hw3
  clear hb hb3 hw3 x1
  go_wp2_with fail
  rw [show w2.alloc (.cells #[.int .u64 s, .int .i64 0, .string ⟨#[]⟩] 25) = w3 from HW3.out.symm]
  refine (num_at A1 c1 (14) w1.heap.size Z 4 8 s _ HZL.out.symm L3.out (by rw [HZL.out]; omega) (by omega) (by rw [HZL.out]; omega) HN.out.1 HN.out.2).mono ?_
  rintro e w4 ⟨rfl, rfl⟩
  have q0 : w3.cell? ⟨w2.heap.size, 0, none⟩ = some (.int .u64 s) := K3.out.cell 0
  have q1 : w3.cell? ⟨w2.heap.size, 1, none⟩ = some (.int .i64 0) := K3.out.cell 1
  have q2 : w3.cell? ⟨w2.heap.size, 2, none⟩ = some (.string ⟨#[]⟩) := K3.out.cell 2
  have p0 : w3.cell? ⟨w.heap.size, 0, none⟩ = some (.int .u64 s) := G3.out.cell 0
  have p1 : w3.cell? ⟨w.heap.size, 1, none⟩ = some (.int .i64 0) := G3.out.cell 1
  have p2 : w3.cell? ⟨w.heap.size, 2, none⟩ = some (.string ⟨#[]⟩) := G3.out.cell 2
  go_wp2_with fail
  refine (awake5_any _).mono ?_
  rintro e w5 ⟨rfl, hb5⟩
  have C6 := Lib.hid (B3.out.trans (hb5.mono B3.out.size))
  clear hb5
  go_wp2_with fail
  go_ret
  exact ⟨rfl, C6.out⟩

set_option maxHeartbeats 1000000 in
theorem csizes_b (s : Nat) (m : Int) (k : Nat) (w : World) (hs : s < 18446744073709551616) (hk0 : ¬ k = 0) (hk2 : k ≤ 2) (hm : (m.tmod 3 + 3).tmod 3 = (k : Int)) (hm1 : -3 ≤ m.tmod 3) (hm2 : m.tmod 3 ≤ 3) :
    Calls Try.prog 3 #[.int .u64 s, .string ⟨#[]⟩, .int .i64 m] w fun e w' => e = .returned (.bool true) ∧ Below w.heap.size w w' := by
  obtain ⟨Z, hZ⟩ : ∃ Z, Z = headB s (k : Int) [] := ⟨_, rfl⟩
  have hok : headOk (k : Int) [] = true := by unfold headOk; exact decide_eq_true ⟨by omega, by omega, by simp⟩
  have hki : ¬ ((k : Int) = 0) := by omega
  have hZl : Z.length = 15 := by rw [hZ, headB_length, if_pos rfl, if_neg hki]
  have hZc : cappB [] s (k : Int) [] = Z := by rw [hZ]; unfold cappB; rw [hok, if_pos rfl]; rfl
  have hP : headP Z = some (s, k, []) := by rw [hZ]; exact head_back s (k : Int) [] hs hok
  have hN := head_size s (k : Int) [] hs
  rw [← hZ] at hN
  have HZL := Lib.hid hZl
  have HZC := Lib.hid hZc
  have HP := Lib.hid hP
  have HN := Lib.hid hN
  have HOK := Lib.hid hok
  
  clear hZ hZl hZc hP hN hok
  obtain ⟨W, hW⟩ : ∃ W, W = w.alloc (.cells #[.int .u64 s, .int .i64 (k : Int), .string ⟨#[]⟩] 25) := ⟨_, rfl⟩
  have hb : Below w.heap.size w W := by rw [hW]; exact (Below.refl _ _).alloc (Nat.le_refl _) _
  have hz : W.heap.size = w.heap.size + 1 := by rw [hW]; simp
  have K0 : Hid (Whole W w.heap.size 25 #[.int .u64 s, .int .i64 (k : Int), .string ⟨#[]⟩]) := Lib.hid (by rw [hW]; exact Whole.new _ _ _)
  have B0 := Lib.hid hb
  have Z0 := Lib.hid hz
  have HW := Lib.hid hW
  clear hb hz hW
  go_enter Try.func3, Try.ntmps3
  go_wp2_with fail
  rw [← HW.out]
  refine (cappend_at none 0 0 [] 0 s (k : Int) [] _ true Z rfl (Lies.empty _ _ _) (Nat.zero_le _) (by simp) (by simp) HOK.out HZC.out).mono ?_
  rintro e w1 ⟨v1, rfl, ho, hb⟩
  rw [HZL.out] at ho
  obtain ⟨A1, c1, rfl, hc1, hm1'⟩ := own_form ho
  have L1 := Lib.hid (Lies.own ho (Nat.le_refl _))
  have K1 := Lib.hid (K0.out.below hb (by rw [Z0.out]; omega))
  have B1 := Lib.hid (B0.out.trans (hb.mono (by rw [Z0.out]; omega)))
  have z1 := B1.out.size
  have x1 : w1.cell? ⟨w.heap.size, 1, none⟩ = some (.int .i64 (k : Int)) := K1.out.cell 1
  clear ho hb
  go_wp2_with fail
  refine (cparse_yes A1 c1 (15) Z w1.heap.size _ s k [] HZL.out.symm L1.out (Nat.le_refl _) (by rw [HZL.out]; omega) HP.out).mono ?_
  rintro e w2 ⟨rfl, hb⟩
  have z2 := hb.size
  obtain ⟨w3, hw3⟩ : ∃ w3, w3 = w2.alloc (.cells #[.int .u64 s, .int .i64 (k : Int), .string ⟨#[]⟩] 25) := ⟨_, rfl⟩
  have hb3 : Below w1.heap.size w1 w3 := by rw [hw3]; exact hb.alloc hb.size _
  have K3 : Hid (Whole w3 w2.heap.size 25 #[.int .u64 s, .int .i64 (k : Int), .string ⟨#[]⟩]) := Lib.hid (by rw [hw3]; exact Whole.new _ _ _)
  have L3 := Lib.hid (L1.out.below hb3)
  have G3 := Lib.hid (K1.out.below hb3 K1.out.lt)
  have B3 := Lib.hid (B1.out.trans (hb3.mono z1))
  have HW3 := Lib.hid hw3
  clear hb hb3 hw3 x1
  go_wp2_with fail
  rw [show w2.alloc (.cells #[.int .u64 s, .int .i64 (k : Int), .string ⟨#[]⟩] 25) = w3 from HW3.out.symm]
  refine (num_at A1 c1 (15) w1.heap.size Z 4 8 s _ HZL.out.symm L3.out (by rw [HZL.out]; omega) (by omega) (by rw [HZL.out]; omega) HN.out.1 HN.out.2).mono ?_
  rintro e w4 ⟨rfl, rfl⟩
  have q0 : w3.cell? ⟨w2.heap.size, 0, none⟩ = some (.int .u64 s) := K3.out.cell 0
  have q1 : w3.cell? ⟨w2.heap.size, 1, none⟩ = some (.int .i64 (k : Int)) := K3.out.cell 1
  have q2 : w3.cell? ⟨w2.heap.size, 2, none⟩ = some (.string ⟨#[]⟩) := K3.out.cell 2
  have p0 : w3.cell? ⟨w.heap.size, 0, none⟩ = some (.int .u64 s) := G3.out.cell 0
  have p1 : w3.cell? ⟨w.heap.size, 1, none⟩ = some (.int .i64 (k : Int)) := G3.out.cell 1
  have p2 : w3.cell? ⟨w.heap.size, 2, none⟩ = some (.string ⟨#[]⟩) := G3.out.cell 2
  go_wp2_with fail
  refine (awake5_any _).mono ?_
  rintro e w5 ⟨rfl, hb5⟩
  have C6 := Lib.hid (B3.out.trans (hb5.mono B3.out.size))
  clear hb5
  go_wp2_with fail
  go_ret
  exact ⟨rfl, C6.out⟩

set_option maxHeartbeats 1000000 in
theorem csizes_c (s : Nat) (t : List UInt8) (m : Int) (w : World) (hs : s < 18446744073709551616) (ht : t ≠ []) (h255 : t.length ≤ 255) (hm : (m.tmod 3 + 3).tmod 3 = 0) (hm1 : -3 ≤ m.tmod 3) (hm2 : m.tmod 3 ≤ 3) :
    Calls Try.prog 3 #[.int .u64 s, .string ⟨t.toArray⟩, .int .i64 m] w fun e w' => e = .returned (.bool true) ∧ Below w.heap.size w w' := by
  obtain ⟨Z, hZ⟩ : ∃ Z, Z = headB s 0 t := ⟨_, rfl⟩
  have hok : headOk 0 t = true := by unfold headOk; exact decide_eq_true ⟨by omega, by omega, by exact h255⟩
  
  have hZl : Z.length = 14 + 1 + t.length := by rw [hZ, headB_length, if_neg ht, if_pos rfl]; omega
  have hZc : cappB [] s 0 t = Z := by rw [hZ]; unfold cappB; rw [hok, if_pos rfl]; rfl
  have hP : headP Z = some (s, 0, t) := by rw [hZ]; exact head_back s 0 t hs hok
  have hN := head_size s 0 t hs
  rw [← hZ] at hN
  have HZL := Lib.hid hZl
  have HZC := Lib.hid hZc
  have HP := Lib.hid hP
  have HN := Lib.hid hN
  have HOK := Lib.hid hok
  have he := not_empty ht
  clear hZ hZl hZc hP hN hok
  obtain ⟨W, hW⟩ : ∃ W, W = w.alloc (.cells #[.int .u64 s, .int .i64 0, .string ⟨t.toArray⟩] 25) := ⟨_, rfl⟩
  have hb : Below w.heap.size w W := by rw [hW]; exact (Below.refl _ _).alloc (Nat.le_refl _) _
  have hz : W.heap.size = w.heap.size + 1 := by rw [hW]; simp
  have K0 : Hid (Whole W w.heap.size 25 #[.int .u64 s, .int .i64 0, .string ⟨t.toArray⟩]) := Lib.hid (by rw [hW]; exact Whole.new _ _ _)
  have B0 := Lib.hid hb
  have Z0 := Lib.hid hz
  have HW := Lib.hid hW
  clear hb hz hW
  go_enter Try.func3, Try.ntmps3
  go_wp2_with fail
  rw [← HW.out]
  refine (cappend_at none 0 0 [] 0 s 0 t _ true Z rfl (Lies.empty _ _ _) (Nat.zero_le _) (by simp) (by unfold maxLen; omega) HOK.out HZC.out).mono ?_
  rintro e w1 ⟨v1, rfl, ho, hb⟩
  rw [HZL.out] at ho
  obtain ⟨A1, c1, rfl, hc1, hm1'⟩ := own_form ho
  have L1 := Lib.hid (Lies.own ho (Nat.le_refl _))
  have K1 := Lib.hid (K0.out.below hb (by rw [Z0.out]; omega))
  have B1 := Lib.hid (B0.out.trans (hb.mono (by rw [Z0.out]; omega)))
  have z1 := B1.out.size
  have x1 : w1.cell? ⟨w.heap.size, 1, none⟩ = some (.int .i64 0) := K1.out.cell 1
  clear ho hb
  go_wp2_with fail
  refine (cparse_yes A1 c1 (14 + 1 + t.length) Z w1.heap.size _ s 0 t HZL.out.symm L1.out (Nat.le_refl _) (by rw [HZL.out]; omega) HP.out).mono ?_
  rintro e w2 ⟨rfl, hb⟩
  have z2 := hb.size
  obtain ⟨w3, hw3⟩ : ∃ w3, w3 = w2.alloc (.cells #[.int .u64 s, .int .i64 0, .string ⟨t.toArray⟩] 25) := ⟨_, rfl⟩
  have hb3 : Below w1.heap.size w1 w3 := by rw [hw3]; exact hb.alloc hb.size _
  have K3 : Hid (Whole w3 w2.heap.size 25 #[.int .u64 s, .int .i64 0, .string ⟨t.toArray⟩]) := Lib.hid (by rw [hw3]; exact Whole.new _ _ _)
  have L3 := Lib.hid (L1.out.below hb3)
  have G3 := Lib.hid (K1.out.below hb3 K1.out.lt)
  have B3 := Lib.hid (B1.out.trans (hb3.mono z1))
  have HW3 := Lib.hid hw3
  clear hb hb3 hw3 x1
  go_wp2_with fail
  rw [show w2.alloc (.cells #[.int .u64 s, .int .i64 0, .string ⟨t.toArray⟩] 25) = w3 from HW3.out.symm]
  refine (num_at A1 c1 (14 + 1 + t.length) w1.heap.size Z 4 8 s _ HZL.out.symm L3.out (by rw [HZL.out]; omega) (by omega) (by rw [HZL.out]; omega) HN.out.1 HN.out.2).mono ?_
  rintro e w4 ⟨rfl, rfl⟩
  have q0 : w3.cell? ⟨w2.heap.size, 0, none⟩ = some (.int .u64 s) := K3.out.cell 0
  have q1 : w3.cell? ⟨w2.heap.size, 1, none⟩ = some (.int .i64 0) := K3.out.cell 1
  have q2 : w3.cell? ⟨w2.heap.size, 2, none⟩ = some (.string ⟨t.toArray⟩) := K3.out.cell 2
  have p0 : w3.cell? ⟨w.heap.size, 0, none⟩ = some (.int .u64 s) := G3.out.cell 0
  have p1 : w3.cell? ⟨w.heap.size, 1, none⟩ = some (.int .i64 0) := G3.out.cell 1
  have p2 : w3.cell? ⟨w.heap.size, 2, none⟩ = some (.string ⟨t.toArray⟩) := G3.out.cell 2
  go_wp2_with fail
  refine (awake5_any _).mono ?_
  rintro e w5 ⟨rfl, hb5⟩
  have C6 := Lib.hid (B3.out.trans (hb5.mono B3.out.size))
  clear hb5
  go_wp2_with fail
  go_ret
  exact ⟨rfl, C6.out⟩

set_option maxHeartbeats 1000000 in
theorem csizes_d (s : Nat) (t : List UInt8) (m : Int) (k : Nat) (w : World) (hs : s < 18446744073709551616) (ht : t ≠ []) (h255 : t.length ≤ 255) (hk0 : ¬ k = 0) (hk2 : k ≤ 2) (hm : (m.tmod 3 + 3).tmod 3 = (k : Int)) (hm1 : -3 ≤ m.tmod 3) (hm2 : m.tmod 3 ≤ 3) :
    Calls Try.prog 3 #[.int .u64 s, .string ⟨t.toArray⟩, .int .i64 m] w fun e w' => e = .returned (.bool true) ∧ Below w.heap.size w w' := by
  obtain ⟨Z, hZ⟩ : ∃ Z, Z = headB s (k : Int) t := ⟨_, rfl⟩
  have hok : headOk (k : Int) t = true := by unfold headOk; exact decide_eq_true ⟨by omega, by omega, by exact h255⟩
  have hki : ¬ ((k : Int) = 0) := by omega
  have hZl : Z.length = 14 + 1 + t.length + 1 := by rw [hZ, headB_length, if_neg ht, if_neg hki]; omega
  have hZc : cappB [] s (k : Int) t = Z := by rw [hZ]; unfold cappB; rw [hok, if_pos rfl]; rfl
  have hP : headP Z = some (s, k, t) := by rw [hZ]; exact head_back s (k : Int) t hs hok
  have hN := head_size s (k : Int) t hs
  rw [← hZ] at hN
  have HZL := Lib.hid hZl
  have HZC := Lib.hid hZc
  have HP := Lib.hid hP
  have HN := Lib.hid hN
  have HOK := Lib.hid hok
  have he := not_empty ht
  clear hZ hZl hZc hP hN hok
  obtain ⟨W, hW⟩ : ∃ W, W = w.alloc (.cells #[.int .u64 s, .int .i64 (k : Int), .string ⟨t.toArray⟩] 25) := ⟨_, rfl⟩
  have hb : Below w.heap.size w W := by rw [hW]; exact (Below.refl _ _).alloc (Nat.le_refl _) _
  have hz : W.heap.size = w.heap.size + 1 := by rw [hW]; simp
  have K0 : Hid (Whole W w.heap.size 25 #[.int .u64 s, .int .i64 (k : Int), .string ⟨t.toArray⟩]) := Lib.hid (by rw [hW]; exact Whole.new _ _ _)
  have B0 := Lib.hid hb
  have Z0 := Lib.hid hz
  have HW := Lib.hid hW
  clear hb hz hW
  go_enter Try.func3, Try.ntmps3
  go_wp2_with fail
  rw [← HW.out]
  refine (cappend_at none 0 0 [] 0 s (k : Int) t _ true Z rfl (Lies.empty _ _ _) (Nat.zero_le _) (by simp) (by unfold maxLen; omega) HOK.out HZC.out).mono ?_
  rintro e w1 ⟨v1, rfl, ho, hb⟩
  rw [HZL.out] at ho
  obtain ⟨A1, c1, rfl, hc1, hm1'⟩ := own_form ho
  have L1 := Lib.hid (Lies.own ho (Nat.le_refl _))
  have K1 := Lib.hid (K0.out.below hb (by rw [Z0.out]; omega))
  have B1 := Lib.hid (B0.out.trans (hb.mono (by rw [Z0.out]; omega)))
  have z1 := B1.out.size
  have x1 : w1.cell? ⟨w.heap.size, 1, none⟩ = some (.int .i64 (k : Int)) := K1.out.cell 1
  clear ho hb
  go_wp2_with fail
  refine (cparse_yes A1 c1 (14 + 1 + t.length + 1) Z w1.heap.size _ s k t HZL.out.symm L1.out (Nat.le_refl _) (by rw [HZL.out]; omega) HP.out).mono ?_
  rintro e w2 ⟨rfl, hb⟩
  have z2 := hb.size
  obtain ⟨w3, hw3⟩ : ∃ w3, w3 = w2.alloc (.cells #[.int .u64 s, .int .i64 (k : Int), .string ⟨t.toArray⟩] 25) := ⟨_, rfl⟩
  have hb3 : Below w1.heap.size w1 w3 := by rw [hw3]; exact hb.alloc hb.size _
  have K3 : Hid (Whole w3 w2.heap.size 25 #[.int .u64 s, .int .i64 (k : Int), .string ⟨t.toArray⟩]) := Lib.hid (by rw [hw3]; exact Whole.new _ _ _)
  have L3 := Lib.hid (L1.out.below hb3)
  have G3 := Lib.hid (K1.out.below hb3 K1.out.lt)
  have B3 := Lib.hid (B1.out.trans (hb3.mono z1))
  have HW3 := Lib.hid hw3
  clear hb hb3 hw3 x1
  go_wp2_with fail
  rw [show w2.alloc (.cells #[.int .u64 s, .int .i64 (k : Int), .string ⟨t.toArray⟩] 25) = w3 from HW3.out.symm]
  refine (num_at A1 c1 (14 + 1 + t.length + 1) w1.heap.size Z 4 8 s _ HZL.out.symm L3.out (by rw [HZL.out]; omega) (by omega) (by rw [HZL.out]; omega) HN.out.1 HN.out.2).mono ?_
  rintro e w4 ⟨rfl, rfl⟩
  have q0 : w3.cell? ⟨w2.heap.size, 0, none⟩ = some (.int .u64 s) := K3.out.cell 0
  have q1 : w3.cell? ⟨w2.heap.size, 1, none⟩ = some (.int .i64 (k : Int)) := K3.out.cell 1
  have q2 : w3.cell? ⟨w2.heap.size, 2, none⟩ = some (.string ⟨t.toArray⟩) := K3.out.cell 2
  have p0 : w3.cell? ⟨w.heap.size, 0, none⟩ = some (.int .u64 s) := G3.out.cell 0
  have p1 : w3.cell? ⟨w.heap.size, 1, none⟩ = some (.int .i64 (k : Int)) := G3.out.cell 1
  have p2 : w3.cell? ⟨w.heap.size, 2, none⟩ = some (.string ⟨t.toArray⟩) := G3.out.cell 2
  go_wp2_with fail
  refine (awake5_any _).mono ?_
  rintro e w5 ⟨rfl, hb5⟩
  have C6 := Lib.hid (B3.out.trans (hb5.mono B3.out.size))
  clear hb5
  go_wp2_with fail
  go_ret
  exact ⟨rfl, C6.out⟩

theorem csizes_any (s : Nat) (t : List UInt8) (m : Int) (w : World) (hs : s < 18446744073709551616) (hl : t.length ≤ maxLen) :
    Calls Try.prog 3 #[.int .u64 s, .string ⟨t.toArray⟩, .int .i64 m] w fun e w' => e = .returned (.bool true) ∧ Below w.heap.size w w' := by
  by_cases h255 : t.length ≤ 255
  · obtain ⟨k, hk, hm, h1, h2⟩ := mod3 m
    by_cases ht : t = []
    · subst ht
      by_cases hk0 : k = 0
      · subst hk0
        exact csizes_a s m w hs hm h1 h2
      · exact csizes_b s m k w hs hk0 hk hm h1 h2
    · by_cases hk0 : k = 0
      · subst hk0
        exact csizes_c s t m w hs ht h255 hm h1 h2
      · exact csizes_d s t m k w hs ht h255 hk0 hk hm h1 h2
  · have hlt : (255 : Int) < t.length := by omega
    unfold maxLen at hl
    go_enter Try.func3, Try.ntmps3
    go_wp2_with fail
    refine (awake5_any _).mono ?_
    rintro e w5 ⟨rfl, hb5⟩
    have C6 := Lib.hid hb5
    clear hb5
    go_wp2_with fail
    go_ret
    exact ⟨rfl, C6.out⟩
theorem csizes_all (a : Int) (s : ByteArray) (m : Int) (w : World) (ha : (Lit.int .u64 a).wf = true) (hl : s.size ≤ maxLen) :
    Calls Try.prog 3 #[.int .u64 a, .string s, .int .i64 m] w fun e w' => e = .returned (.bool true) ∧ Below w.heap.size w w' := by
  obtain ⟨n, rfl, hn⟩ := wf_u64 ha
  have e : s.data.toList.length = s.size := by rw [Array.length_toList]; rfl
  exact csizes_any n s.data.toList m w hn (by rw [e]; exact hl)
end Go.Proofs.Ytbeoepnokefdpaa
