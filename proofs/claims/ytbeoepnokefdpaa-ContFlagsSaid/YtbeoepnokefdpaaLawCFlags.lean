/- The law on a head's flags: its walk. -/
import Derived.Test.YtbeoepnokefdpaaContC
import Derived.Test.YtbeoepnokefdpaaRefW
import Derived.Test.YtbeoepnokefdpaaConv2
namespace Go.Proofs.Ytbeoepnokefdpaa
open Go.RowKit
set_option maxRecDepth 100000
set_option linter.unusedSimpArgs false
set_option linter.unusedVariables false

theorem i64_and_nat (x y : Nat) (hx : x < 9223372036854775808) (hy : y < 9223372036854775808) : bits .and .i64 (x : Int) (y : Int) = ((x &&& y : Nat) : Int) := by
  show IntKind.i64.wrap ((BitVec.ofInt 64 (x : Int) &&& BitVec.ofInt 64 (y : Int)).toNat : Int) = _
  rw [BitVec.ofInt_natCast, BitVec.ofInt_natCast, BitVec.toNat_and, BitVec.toNat_ofNat, BitVec.toNat_ofNat, Nat.mod_eq_of_lt (by omega), Nat.mod_eq_of_lt (by omega)]
  have h : x &&& y ≤ x := Nat.and_le_left
  exact IntWalk.i64_in _ ⟨by omega, by omega⟩
theorem headQ_flags {c s f : Nat} {r : List UInt8} {bad : Bool} {x : Nat × Nat × List UInt8} (h : headQ c s f r bad = some x) : ∃ m t, x = (s, m, t) ∧ f = hflags t (m : Int) := by
  unfold headQ at h
  split at h
  · rename_i h1
    injection h with h
    exact ⟨_, _, h.symm, h1.2.2.2.1⟩
  · cases h
theorem put_at (A : Option Addr) (c m : Nat) (l : List UInt8) (B n x : Nat) (w : World) (hm : m = l.length) (hl : Lies w B A (B8 l)) (hB : B ≤ w.heap.size) (hn1 : 1 ≤ n) (hn8 : n ≤ 8) (hs : l.length + 8 ≤ 140737488355328) :
    Calls Try.prog 17 #[.slice A m c, .int .i64 n, .int .u64 x] w (NewOcts w.heap.size (l ++ be n x) w) := by
  subst hm
  exact put_any A c l B n x w hl hB hn1 hn8 hs
theorem flags_front (f s : Nat) (r : List UInt8) (hs : s < 18446744073709551616) (hf : f < 65536) : headP (be 2 60 ++ be 2 0 ++ be 8 s ++ be 2 f ++ r) = headQ 3932160 s f r false := by
  rw [show be 2 60 ++ be 2 0 = be 4 3932160 from by decide]
  exact head_front 3932160 s f r (by decide) hs hf

set_option maxHeartbeats 1000000 in
theorem cflags_a (x : Int) (f s : Nat) (A : Option Addr) (l : List UInt8) (cap : Nat) (w : World) (hf : f < 65536) (hx : bits .and .i64 x 65535 = (f : Int)) (hs : s < 18446744073709551616) (hl : Lies w w.heap.size A (B8 l)) (h300 : l.length ≤ 300) (hcm : cap ≤ maxLen) (hlc : l.length ≤ cap) (q : Nat) (hq : bits .and .i64 (f : Int) 28671 = (q : Int)) (hq0 : q = 0) (hQ : headQ 3932160 s f l false = none) :
    Calls Try.prog 6 #[.int .i64 x, .slice A l.length cap, .int .u64 s] w fun e w' => e = .returned (.bool true) ∧ Below w.heap.size w w' := by
  have kw := u64_nat f (by omega)
  obtain ⟨X1, hX1⟩ : ∃ X1, X1 = be 2 60 := ⟨_, rfl⟩
  obtain ⟨X2, hX2⟩ : ∃ X2, X2 = X1 ++ be 2 0 := ⟨_, rfl⟩
  obtain ⟨X3, hX3⟩ : ∃ X3, X3 = X2 ++ be 8 s := ⟨_, rfl⟩
  obtain ⟨X4, hX4⟩ : ∃ X4, X4 = X3 ++ be 2 f := ⟨_, rfl⟩
  obtain ⟨X5, hX5⟩ : ∃ X5, X5 = X4 ++ l := ⟨_, rfl⟩
  have x1 : X1.length = 2 := by rw [hX1, be_length]
  have x2 : X2.length = 4 := by rw [hX2, List.length_append, be_length, x1]
  have x3 : X3.length = 12 := by rw [hX3, List.length_append, be_length, x2]
  have x4 : X4.length = 14 := by rw [hX4, List.length_append, be_length, x3]
  have x5 : X5.length = 14 + l.length := by rw [hX5, List.length_append, x4]
  have hfr : headP X5 = headQ 3932160 s f l false := by rw [hX5, hX4, hX3, hX2, hX1]; exact flags_front f s l hs hf
  have HX1 := Lib.hid hX1
  have HX2 := Lib.hid hX2
  have HX3 := Lib.hid hX3
  have HX4 := Lib.hid hX4
  have HX5 := Lib.hid hX5
  have E1 := Lib.hid x1
  have E2 := Lib.hid x2
  have E3 := Lib.hid x3
  have E4 := Lib.hid x4
  have E5 := Lib.hid x5
  have HFR := Lib.hid hfr
  have HL := Lib.hid hl
  obtain ⟨i0, hi, hz0, hz1, hz2⟩ := info_parts u8_info
  have HI := Lib.hid hi
  have G0 := Lib.hid hz0
  have G1 := Lib.hid hz1
  have G2 := Lib.hid hz2
  unfold maxLen at hcm
  clear hX1 hX2 hX3 hX4 hX5 x1 x2 x3 x4 x5 hfr hl hi hz0 hz1 hz2
  subst hq0
  have HQ := Lib.hid hQ
  clear hQ
  go_enter Try.func6, Try.ntmps6
  go_wp2_with fail
  refine (put_at none 0 0 [] 0 2 60 _ rfl (Lies.empty _ _ _) (Nat.zero_le _) (by omega) (by omega) (by simp)).mono ?_
  rintro e w1 ⟨v1, rfl, ho, hb⟩
  rw [List.nil_append, ← HX1.out, E1.out] at ho
  obtain ⟨A1, c1, rfl, _, _⟩ := own_form ho
  have M1 := Lib.hid (Lies.own ho (Nat.le_refl _))
  have B1 := Lib.hid hb
  have z1 := B1.out.size
  clear ho hb
  go_wp2_with fail
  refine (put_at A1 c1 2 X1 _ 2 0 _ E1.out.symm M1.out (Nat.le_refl _) (by omega) (by omega) (by rw [E1.out]; omega)).mono ?_
  rintro e w2 ⟨v2, rfl, ho, hb⟩
  rw [← HX2.out, E2.out] at ho
  obtain ⟨A2, c2, rfl, _, _⟩ := own_form ho
  have M2 := Lib.hid (Lies.own ho (Nat.le_refl _))
  have B2 := Lib.hid (B1.out.trans (hb.mono z1))
  have z2 := B2.out.size
  clear ho hb
  go_wp2_with fail
  refine (put_at A2 c2 4 X2 _ 8 s _ E2.out.symm M2.out (Nat.le_refl _) (by omega) (by omega) (by rw [E2.out]; omega)).mono ?_
  rintro e w3 ⟨v3, rfl, ho, hb⟩
  rw [← HX3.out, E3.out] at ho
  obtain ⟨A3, c3, rfl, _, _⟩ := own_form ho
  have M3 := Lib.hid (Lies.own ho (Nat.le_refl _))
  have B3 := Lib.hid (B2.out.trans (hb.mono z2))
  have z3 := B3.out.size
  clear ho hb
  go_wp2_with fail
  refine (put_at A3 c3 12 X3 _ 2 f _ E3.out.symm M3.out (Nat.le_refl _) (by omega) (by omega) (by rw [E3.out]; omega)).mono ?_
  rintro e w4 ⟨v4, rfl, ho, hb⟩
  rw [← HX4.out, E4.out] at ho
  have O4 := Lib.hid (own_at_base (b' := w.heap.size) ho z3)
  obtain ⟨A4, c4, rfl, _, _⟩ := own_form ho
  have B4 := Lib.hid (B3.out.trans (hb.mono z3))
  have z4 := B4.out.size
  have L4 := Lib.hid (HL.out.below B4.out)
  have hs' : 14 + l.length ≤ 140737488355328 := by omega
  clear ho hb
  go_wp2_with (at_builtin; refine wpList_append_cells rfl _ _ 26 rfl w.heap.size 5 i0 (.int .u8 0) 1 1 Try.underlying26 HI.out G0.out G1.out G2.out rfl (by omega) _ 14 _ rfl O4.out w.heap.size A l.length cap (B8 l) rfl L4.out (B8_len1 l) (B8_one l) (room63 hs') (room1 hs') z4 ?_; intro v5 w5 hown5 hb5; rw [← B8_append, ← HX5.out] at hown5; obtain ⟨A5, c5, rfl, hc5, hm5⟩ := own_form hown5; have HO5 := Lib.hid hown5; have HB5 := Lib.hid (B4.out.trans hb5); clear hown5 hb5)
  have L5 := Lib.hid (Lies.own HO5.out (Nat.le_refl _))
  have z5 := HB5.out.size
  refine (cparse_no A5 c5 (14 + l.length) X5 w5.heap.size _ E5.out.symm L5.out (Nat.le_refl _) (by rw [E5.out]; omega) (by rw [HFR.out]; exact HQ.out)).mono ?_
  rintro e w6 ⟨rfl, hb⟩
  obtain ⟨w7, hw7⟩ : ∃ w7, w7 = w6.alloc (.cells #[.int .u64 0, .int .i64 0, .string ⟨#[]⟩] 25) := ⟨_, rfl⟩
  have K7 : Hid (Whole w7 w6.heap.size 25 #[.int .u64 0, .int .i64 0, .string ⟨#[]⟩]) := Lib.hid (by rw [hw7]; exact Whole.new _ _ _)
  have B7 : Hid (Below w.heap.size w w7) := Lib.hid (by rw [hw7]; exact (HB5.out.trans (hb.mono z5)).alloc (by have := hb.size; omega) _)
  have q0 : w7.cell? ⟨w6.heap.size, 0, none⟩ = some (.int .u64 0) := K7.out.cell 0
  have q1 : w7.cell? ⟨w6.heap.size, 1, none⟩ = some (.int .i64 0) := K7.out.cell 1
  have q2 : w7.cell? ⟨w6.heap.size, 2, none⟩ = some (.string ⟨#[]⟩) := K7.out.cell 2
  have HW7 := Lib.hid hw7
  clear hb
  rw [hw7] at q0 q1 q2
  clear hw7
  go_wp2_with fail
  rw [show w6.alloc (.cells #[.int .u64 0, .int .i64 0, .string ⟨#[]⟩] 25) = w7 from HW7.out.symm]
  refine (awake5_any _).mono ?_
  rintro e w8 ⟨rfl, hb8⟩
  have C8 := Lib.hid (B7.out.trans (hb8.mono B7.out.size))
  clear hb8
  go_wp2_with fail
  go_ret
  exact ⟨rfl, C8.out⟩

set_option maxHeartbeats 1000000 in
theorem cflags_b (x : Int) (f s : Nat) (A : Option Addr) (l : List UInt8) (cap : Nat) (w : World) (hf : f < 65536) (hx : bits .and .i64 x 65535 = (f : Int)) (hs : s < 18446744073709551616) (hl : Lies w w.heap.size A (B8 l)) (h300 : l.length ≤ 300) (hcm : cap ≤ maxLen) (hlc : l.length ≤ cap) (q : Nat) (hq : bits .and .i64 (f : Int) 28671 = (q : Int)) (hq0 : ¬ q = 0) (hQ : headQ 3932160 s f l false = none) :
    Calls Try.prog 6 #[.int .i64 x, .slice A l.length cap, .int .u64 s] w fun e w' => e = .returned (.bool true) ∧ Below w.heap.size w w' := by
  have kw := u64_nat f (by omega)
  obtain ⟨X1, hX1⟩ : ∃ X1, X1 = be 2 60 := ⟨_, rfl⟩
  obtain ⟨X2, hX2⟩ : ∃ X2, X2 = X1 ++ be 2 0 := ⟨_, rfl⟩
  obtain ⟨X3, hX3⟩ : ∃ X3, X3 = X2 ++ be 8 s := ⟨_, rfl⟩
  obtain ⟨X4, hX4⟩ : ∃ X4, X4 = X3 ++ be 2 f := ⟨_, rfl⟩
  obtain ⟨X5, hX5⟩ : ∃ X5, X5 = X4 ++ l := ⟨_, rfl⟩
  have x1 : X1.length = 2 := by rw [hX1, be_length]
  have x2 : X2.length = 4 := by rw [hX2, List.length_append, be_length, x1]
  have x3 : X3.length = 12 := by rw [hX3, List.length_append, be_length, x2]
  have x4 : X4.length = 14 := by rw [hX4, List.length_append, be_length, x3]
  have x5 : X5.length = 14 + l.length := by rw [hX5, List.length_append, x4]
  have hfr : headP X5 = headQ 3932160 s f l false := by rw [hX5, hX4, hX3, hX2, hX1]; exact flags_front f s l hs hf
  have HX1 := Lib.hid hX1
  have HX2 := Lib.hid hX2
  have HX3 := Lib.hid hX3
  have HX4 := Lib.hid hX4
  have HX5 := Lib.hid hX5
  have E1 := Lib.hid x1
  have E2 := Lib.hid x2
  have E3 := Lib.hid x3
  have E4 := Lib.hid x4
  have E5 := Lib.hid x5
  have HFR := Lib.hid hfr
  have HL := Lib.hid hl
  obtain ⟨i0, hi, hz0, hz1, hz2⟩ := info_parts u8_info
  have HI := Lib.hid hi
  have G0 := Lib.hid hz0
  have G1 := Lib.hid hz1
  have G2 := Lib.hid hz2
  unfold maxLen at hcm
  clear hX1 hX2 hX3 hX4 hX5 x1 x2 x3 x4 x5 hfr hl hi hz0 hz1 hz2
  have HQ := Lib.hid hQ
  have hqi : ¬ ((q : Int) = 0) := by omega
  clear hQ
  go_enter Try.func6, Try.ntmps6
  go_wp2_with fail
  refine (put_at none 0 0 [] 0 2 60 _ rfl (Lies.empty _ _ _) (Nat.zero_le _) (by omega) (by omega) (by simp)).mono ?_
  rintro e w1 ⟨v1, rfl, ho, hb⟩
  rw [List.nil_append, ← HX1.out, E1.out] at ho
  obtain ⟨A1, c1, rfl, _, _⟩ := own_form ho
  have M1 := Lib.hid (Lies.own ho (Nat.le_refl _))
  have B1 := Lib.hid hb
  have z1 := B1.out.size
  clear ho hb
  go_wp2_with fail
  refine (put_at A1 c1 2 X1 _ 2 0 _ E1.out.symm M1.out (Nat.le_refl _) (by omega) (by omega) (by rw [E1.out]; omega)).mono ?_
  rintro e w2 ⟨v2, rfl, ho, hb⟩
  rw [← HX2.out, E2.out] at ho
  obtain ⟨A2, c2, rfl, _, _⟩ := own_form ho
  have M2 := Lib.hid (Lies.own ho (Nat.le_refl _))
  have B2 := Lib.hid (B1.out.trans (hb.mono z1))
  have z2 := B2.out.size
  clear ho hb
  go_wp2_with fail
  refine (put_at A2 c2 4 X2 _ 8 s _ E2.out.symm M2.out (Nat.le_refl _) (by omega) (by omega) (by rw [E2.out]; omega)).mono ?_
  rintro e w3 ⟨v3, rfl, ho, hb⟩
  rw [← HX3.out, E3.out] at ho
  obtain ⟨A3, c3, rfl, _, _⟩ := own_form ho
  have M3 := Lib.hid (Lies.own ho (Nat.le_refl _))
  have B3 := Lib.hid (B2.out.trans (hb.mono z2))
  have z3 := B3.out.size
  clear ho hb
  go_wp2_with fail
  refine (put_at A3 c3 12 X3 _ 2 f _ E3.out.symm M3.out (Nat.le_refl _) (by omega) (by omega) (by rw [E3.out]; omega)).mono ?_
  rintro e w4 ⟨v4, rfl, ho, hb⟩
  rw [← HX4.out, E4.out] at ho
  have O4 := Lib.hid (own_at_base (b' := w.heap.size) ho z3)
  obtain ⟨A4, c4, rfl, _, _⟩ := own_form ho
  have B4 := Lib.hid (B3.out.trans (hb.mono z3))
  have z4 := B4.out.size
  have L4 := Lib.hid (HL.out.below B4.out)
  have hs' : 14 + l.length ≤ 140737488355328 := by omega
  clear ho hb
  go_wp2_with (at_builtin; refine wpList_append_cells rfl _ _ 26 rfl w.heap.size 5 i0 (.int .u8 0) 1 1 Try.underlying26 HI.out G0.out G1.out G2.out rfl (by omega) _ 14 _ rfl O4.out w.heap.size A l.length cap (B8 l) rfl L4.out (B8_len1 l) (B8_one l) (room63 hs') (room1 hs') z4 ?_; intro v5 w5 hown5 hb5; rw [← B8_append, ← HX5.out] at hown5; obtain ⟨A5, c5, rfl, hc5, hm5⟩ := own_form hown5; have HO5 := Lib.hid hown5; have HB5 := Lib.hid (B4.out.trans hb5); clear hown5 hb5)
  have L5 := Lib.hid (Lies.own HO5.out (Nat.le_refl _))
  have z5 := HB5.out.size
  refine (cparse_no A5 c5 (14 + l.length) X5 w5.heap.size _ E5.out.symm L5.out (Nat.le_refl _) (by rw [E5.out]; omega) (by rw [HFR.out]; exact HQ.out)).mono ?_
  rintro e w6 ⟨rfl, hb⟩
  obtain ⟨w7, hw7⟩ : ∃ w7, w7 = w6.alloc (.cells #[.int .u64 0, .int .i64 0, .string ⟨#[]⟩] 25) := ⟨_, rfl⟩
  have K7 : Hid (Whole w7 w6.heap.size 25 #[.int .u64 0, .int .i64 0, .string ⟨#[]⟩]) := Lib.hid (by rw [hw7]; exact Whole.new _ _ _)
  have B7 : Hid (Below w.heap.size w w7) := Lib.hid (by rw [hw7]; exact (HB5.out.trans (hb.mono z5)).alloc (by have := hb.size; omega) _)
  have q0 : w7.cell? ⟨w6.heap.size, 0, none⟩ = some (.int .u64 0) := K7.out.cell 0
  have q1 : w7.cell? ⟨w6.heap.size, 1, none⟩ = some (.int .i64 0) := K7.out.cell 1
  have q2 : w7.cell? ⟨w6.heap.size, 2, none⟩ = some (.string ⟨#[]⟩) := K7.out.cell 2
  have HW7 := Lib.hid hw7
  clear hb
  rw [hw7] at q0 q1 q2
  clear hw7
  go_wp2_with fail
  rw [show w6.alloc (.cells #[.int .u64 0, .int .i64 0, .string ⟨#[]⟩] 25) = w7 from HW7.out.symm]
  refine (awake5_any _).mono ?_
  rintro e w8 ⟨rfl, hb8⟩
  have C8 := Lib.hid (B7.out.trans (hb8.mono B7.out.size))
  clear hb8
  go_wp2_with fail
  go_ret
  exact ⟨rfl, C8.out⟩

set_option maxHeartbeats 1000000 in
theorem cflags_c (x : Int) (f s : Nat) (A : Option Addr) (l : List UInt8) (cap : Nat) (w : World) (hf : f < 65536) (hx : bits .and .i64 x 65535 = (f : Int)) (hs : s < 18446744073709551616) (hl : Lies w w.heap.size A (B8 l)) (h300 : l.length ≤ 300) (hcm : cap ≤ maxLen) (hlc : l.length ≤ cap) (hff : f = 0) (hQ : headQ 3932160 s f l false = some (s, 0, [])) :
    Calls Try.prog 6 #[.int .i64 x, .slice A l.length cap, .int .u64 s] w fun e w' => e = .returned (.bool true) ∧ Below w.heap.size w w' := by
  have kw := u64_nat f (by omega)
  obtain ⟨X1, hX1⟩ : ∃ X1, X1 = be 2 60 := ⟨_, rfl⟩
  obtain ⟨X2, hX2⟩ : ∃ X2, X2 = X1 ++ be 2 0 := ⟨_, rfl⟩
  obtain ⟨X3, hX3⟩ : ∃ X3, X3 = X2 ++ be 8 s := ⟨_, rfl⟩
  obtain ⟨X4, hX4⟩ : ∃ X4, X4 = X3 ++ be 2 f := ⟨_, rfl⟩
  obtain ⟨X5, hX5⟩ : ∃ X5, X5 = X4 ++ l := ⟨_, rfl⟩
  have x1 : X1.length = 2 := by rw [hX1, be_length]
  have x2 : X2.length = 4 := by rw [hX2, List.length_append, be_length, x1]
  have x3 : X3.length = 12 := by rw [hX3, List.length_append, be_length, x2]
  have x4 : X4.length = 14 := by rw [hX4, List.length_append, be_length, x3]
  have x5 : X5.length = 14 + l.length := by rw [hX5, List.length_append, x4]
  have hfr : headP X5 = headQ 3932160 s f l false := by rw [hX5, hX4, hX3, hX2, hX1]; exact flags_front f s l hs hf
  have HX1 := Lib.hid hX1
  have HX2 := Lib.hid hX2
  have HX3 := Lib.hid hX3
  have HX4 := Lib.hid hX4
  have HX5 := Lib.hid hX5
  have E1 := Lib.hid x1
  have E2 := Lib.hid x2
  have E3 := Lib.hid x3
  have E4 := Lib.hid x4
  have E5 := Lib.hid x5
  have HFR := Lib.hid hfr
  have HL := Lib.hid hl
  obtain ⟨i0, hi, hz0, hz1, hz2⟩ := info_parts u8_info
  have HI := Lib.hid hi
  have G0 := Lib.hid hz0
  have G1 := Lib.hid hz1
  have G2 := Lib.hid hz2
  unfold maxLen at hcm
  clear hX1 hX2 hX3 hX4 hX5 x1 x2 x3 x4 x5 hfr hl hi hz0 hz1 hz2
  have HQ := Lib.hid hQ
  have b1 : bits .and .i64 (f : Int) 28671 = 0 := by rw [hff]; exact i64_and_nat 0 28671 (by decide) (by decide)
  have b2 : bits .and .i64 (f : Int) 32768 = 0 := by rw [hff]; exact i64_and_nat 0 32768 (by decide) (by decide)
  have b3 : bits .and .i64 (f : Int) 4096 = 0 := by rw [hff]; exact i64_and_nat 0 4096 (by decide) (by decide)
  clear hff hQ
  go_enter Try.func6, Try.ntmps6
  go_wp2_with fail
  refine (put_at none 0 0 [] 0 2 60 _ rfl (Lies.empty _ _ _) (Nat.zero_le _) (by omega) (by omega) (by simp)).mono ?_
  rintro e w1 ⟨v1, rfl, ho, hb⟩
  rw [List.nil_append, ← HX1.out, E1.out] at ho
  obtain ⟨A1, c1, rfl, _, _⟩ := own_form ho
  have M1 := Lib.hid (Lies.own ho (Nat.le_refl _))
  have B1 := Lib.hid hb
  have z1 := B1.out.size
  clear ho hb
  go_wp2_with fail
  refine (put_at A1 c1 2 X1 _ 2 0 _ E1.out.symm M1.out (Nat.le_refl _) (by omega) (by omega) (by rw [E1.out]; omega)).mono ?_
  rintro e w2 ⟨v2, rfl, ho, hb⟩
  rw [← HX2.out, E2.out] at ho
  obtain ⟨A2, c2, rfl, _, _⟩ := own_form ho
  have M2 := Lib.hid (Lies.own ho (Nat.le_refl _))
  have B2 := Lib.hid (B1.out.trans (hb.mono z1))
  have z2 := B2.out.size
  clear ho hb
  go_wp2_with fail
  refine (put_at A2 c2 4 X2 _ 8 s _ E2.out.symm M2.out (Nat.le_refl _) (by omega) (by omega) (by rw [E2.out]; omega)).mono ?_
  rintro e w3 ⟨v3, rfl, ho, hb⟩
  rw [← HX3.out, E3.out] at ho
  obtain ⟨A3, c3, rfl, _, _⟩ := own_form ho
  have M3 := Lib.hid (Lies.own ho (Nat.le_refl _))
  have B3 := Lib.hid (B2.out.trans (hb.mono z2))
  have z3 := B3.out.size
  clear ho hb
  go_wp2_with fail
  refine (put_at A3 c3 12 X3 _ 2 f _ E3.out.symm M3.out (Nat.le_refl _) (by omega) (by omega) (by rw [E3.out]; omega)).mono ?_
  rintro e w4 ⟨v4, rfl, ho, hb⟩
  rw [← HX4.out, E4.out] at ho
  have O4 := Lib.hid (own_at_base (b' := w.heap.size) ho z3)
  obtain ⟨A4, c4, rfl, _, _⟩ := own_form ho
  have B4 := Lib.hid (B3.out.trans (hb.mono z3))
  have z4 := B4.out.size
  have L4 := Lib.hid (HL.out.below B4.out)
  have hs' : 14 + l.length ≤ 140737488355328 := by omega
  clear ho hb
  go_wp2_with (at_builtin; refine wpList_append_cells rfl _ _ 26 rfl w.heap.size 5 i0 (.int .u8 0) 1 1 Try.underlying26 HI.out G0.out G1.out G2.out rfl (by omega) _ 14 _ rfl O4.out w.heap.size A l.length cap (B8 l) rfl L4.out (B8_len1 l) (B8_one l) (room63 hs') (room1 hs') z4 ?_; intro v5 w5 hown5 hb5; rw [← B8_append, ← HX5.out] at hown5; obtain ⟨A5, c5, rfl, hc5, hm5⟩ := own_form hown5; have HO5 := Lib.hid hown5; have HB5 := Lib.hid (B4.out.trans hb5); clear hown5 hb5)
  have L5 := Lib.hid (Lies.own HO5.out (Nat.le_refl _))
  have z5 := HB5.out.size
  refine (cparse_yes A5 c5 (14 + l.length) X5 w5.heap.size _ s 0 [] E5.out.symm L5.out (Nat.le_refl _) (by rw [E5.out]; omega) (by rw [HFR.out]; exact HQ.out)).mono ?_
  rintro e w6 ⟨rfl, hb⟩
  obtain ⟨w7, hw7⟩ : ∃ w7, w7 = w6.alloc (.cells #[.int .u64 s, .int .i64 0, .string ⟨#[]⟩] 25) := ⟨_, rfl⟩
  have K7 : Hid (Whole w7 w6.heap.size 25 #[.int .u64 s, .int .i64 0, .string ⟨#[]⟩]) := Lib.hid (by rw [hw7]; exact Whole.new _ _ _)
  have B7 : Hid (Below w.heap.size w w7) := Lib.hid (by rw [hw7]; exact (HB5.out.trans (hb.mono z5)).alloc (by have := hb.size; omega) _)
  have q0 : w7.cell? ⟨w6.heap.size, 0, none⟩ = some (.int .u64 s) := K7.out.cell 0
  have q1 : w7.cell? ⟨w6.heap.size, 1, none⟩ = some (.int .i64 0) := K7.out.cell 1
  have q2 : w7.cell? ⟨w6.heap.size, 2, none⟩ = some (.string ⟨#[]⟩) := K7.out.cell 2
  have HW7 := Lib.hid hw7
  clear hb
  rw [hw7] at q0 q1 q2
  clear hw7
  go_wp2_with fail
  rw [show w6.alloc (.cells #[.int .u64 s, .int .i64 0, .string ⟨#[]⟩] 25) = w7 from HW7.out.symm]
  refine (awake5_any _).mono ?_
  rintro e w8 ⟨rfl, hb8⟩
  have C8 := Lib.hid (B7.out.trans (hb8.mono B7.out.size))
  clear hb8
  go_wp2_with fail
  go_ret
  exact ⟨by first | rfl | (simp; omega), C8.out⟩

set_option maxHeartbeats 1000000 in
theorem cflags_d (x : Int) (f s : Nat) (A : Option Addr) (l : List UInt8) (cap : Nat) (w : World) (hf : f < 65536) (hx : bits .and .i64 x 65535 = (f : Int)) (hs : s < 18446744073709551616) (hl : Lies w w.heap.size A (B8 l)) (h300 : l.length ≤ 300) (hcm : cap ≤ maxLen) (hlc : l.length ≤ cap) (m : Nat) (hm : ¬ m = 0) (hff : f = 4096) (hQ : headQ 3932160 s f l false = some (s, m, [])) :
    Calls Try.prog 6 #[.int .i64 x, .slice A l.length cap, .int .u64 s] w fun e w' => e = .returned (.bool true) ∧ Below w.heap.size w w' := by
  have kw := u64_nat f (by omega)
  obtain ⟨X1, hX1⟩ : ∃ X1, X1 = be 2 60 := ⟨_, rfl⟩
  obtain ⟨X2, hX2⟩ : ∃ X2, X2 = X1 ++ be 2 0 := ⟨_, rfl⟩
  obtain ⟨X3, hX3⟩ : ∃ X3, X3 = X2 ++ be 8 s := ⟨_, rfl⟩
  obtain ⟨X4, hX4⟩ : ∃ X4, X4 = X3 ++ be 2 f := ⟨_, rfl⟩
  obtain ⟨X5, hX5⟩ : ∃ X5, X5 = X4 ++ l := ⟨_, rfl⟩
  have x1 : X1.length = 2 := by rw [hX1, be_length]
  have x2 : X2.length = 4 := by rw [hX2, List.length_append, be_length, x1]
  have x3 : X3.length = 12 := by rw [hX3, List.length_append, be_length, x2]
  have x4 : X4.length = 14 := by rw [hX4, List.length_append, be_length, x3]
  have x5 : X5.length = 14 + l.length := by rw [hX5, List.length_append, x4]
  have hfr : headP X5 = headQ 3932160 s f l false := by rw [hX5, hX4, hX3, hX2, hX1]; exact flags_front f s l hs hf
  have HX1 := Lib.hid hX1
  have HX2 := Lib.hid hX2
  have HX3 := Lib.hid hX3
  have HX4 := Lib.hid hX4
  have HX5 := Lib.hid hX5
  have E1 := Lib.hid x1
  have E2 := Lib.hid x2
  have E3 := Lib.hid x3
  have E4 := Lib.hid x4
  have E5 := Lib.hid x5
  have HFR := Lib.hid hfr
  have HL := Lib.hid hl
  obtain ⟨i0, hi, hz0, hz1, hz2⟩ := info_parts u8_info
  have HI := Lib.hid hi
  have G0 := Lib.hid hz0
  have G1 := Lib.hid hz1
  have G2 := Lib.hid hz2
  unfold maxLen at hcm
  clear hX1 hX2 hX3 hX4 hX5 x1 x2 x3 x4 x5 hfr hl hi hz0 hz1 hz2
  have HQ := Lib.hid hQ
  have b1 : bits .and .i64 (f : Int) 28671 = 0 := by rw [hff]; exact i64_and_nat 4096 28671 (by decide) (by decide)
  have b2 : bits .and .i64 (f : Int) 32768 = 0 := by rw [hff]; exact i64_and_nat 4096 32768 (by decide) (by decide)
  have b3 : bits .and .i64 (f : Int) 4096 = 4096 := by rw [hff]; exact i64_and_nat 4096 4096 (by decide) (by decide)
  clear hff hQ
  have hmi : ¬ ((m : Int) = 0) := by omega
  go_enter Try.func6, Try.ntmps6
  go_wp2_with fail
  refine (put_at none 0 0 [] 0 2 60 _ rfl (Lies.empty _ _ _) (Nat.zero_le _) (by omega) (by omega) (by simp)).mono ?_
  rintro e w1 ⟨v1, rfl, ho, hb⟩
  rw [List.nil_append, ← HX1.out, E1.out] at ho
  obtain ⟨A1, c1, rfl, _, _⟩ := own_form ho
  have M1 := Lib.hid (Lies.own ho (Nat.le_refl _))
  have B1 := Lib.hid hb
  have z1 := B1.out.size
  clear ho hb
  go_wp2_with fail
  refine (put_at A1 c1 2 X1 _ 2 0 _ E1.out.symm M1.out (Nat.le_refl _) (by omega) (by omega) (by rw [E1.out]; omega)).mono ?_
  rintro e w2 ⟨v2, rfl, ho, hb⟩
  rw [← HX2.out, E2.out] at ho
  obtain ⟨A2, c2, rfl, _, _⟩ := own_form ho
  have M2 := Lib.hid (Lies.own ho (Nat.le_refl _))
  have B2 := Lib.hid (B1.out.trans (hb.mono z1))
  have z2 := B2.out.size
  clear ho hb
  go_wp2_with fail
  refine (put_at A2 c2 4 X2 _ 8 s _ E2.out.symm M2.out (Nat.le_refl _) (by omega) (by omega) (by rw [E2.out]; omega)).mono ?_
  rintro e w3 ⟨v3, rfl, ho, hb⟩
  rw [← HX3.out, E3.out] at ho
  obtain ⟨A3, c3, rfl, _, _⟩ := own_form ho
  have M3 := Lib.hid (Lies.own ho (Nat.le_refl _))
  have B3 := Lib.hid (B2.out.trans (hb.mono z2))
  have z3 := B3.out.size
  clear ho hb
  go_wp2_with fail
  refine (put_at A3 c3 12 X3 _ 2 f _ E3.out.symm M3.out (Nat.le_refl _) (by omega) (by omega) (by rw [E3.out]; omega)).mono ?_
  rintro e w4 ⟨v4, rfl, ho, hb⟩
  rw [← HX4.out, E4.out] at ho
  have O4 := Lib.hid (own_at_base (b' := w.heap.size) ho z3)
  obtain ⟨A4, c4, rfl, _, _⟩ := own_form ho
  have B4 := Lib.hid (B3.out.trans (hb.mono z3))
  have z4 := B4.out.size
  have L4 := Lib.hid (HL.out.below B4.out)
  have hs' : 14 + l.length ≤ 140737488355328 := by omega
  clear ho hb
  go_wp2_with (at_builtin; refine wpList_append_cells rfl _ _ 26 rfl w.heap.size 5 i0 (.int .u8 0) 1 1 Try.underlying26 HI.out G0.out G1.out G2.out rfl (by omega) _ 14 _ rfl O4.out w.heap.size A l.length cap (B8 l) rfl L4.out (B8_len1 l) (B8_one l) (room63 hs') (room1 hs') z4 ?_; intro v5 w5 hown5 hb5; rw [← B8_append, ← HX5.out] at hown5; obtain ⟨A5, c5, rfl, hc5, hm5⟩ := own_form hown5; have HO5 := Lib.hid hown5; have HB5 := Lib.hid (B4.out.trans hb5); clear hown5 hb5)
  have L5 := Lib.hid (Lies.own HO5.out (Nat.le_refl _))
  have z5 := HB5.out.size
  refine (cparse_yes A5 c5 (14 + l.length) X5 w5.heap.size _ s m [] E5.out.symm L5.out (Nat.le_refl _) (by rw [E5.out]; omega) (by rw [HFR.out]; exact HQ.out)).mono ?_
  rintro e w6 ⟨rfl, hb⟩
  obtain ⟨w7, hw7⟩ : ∃ w7, w7 = w6.alloc (.cells #[.int .u64 s, .int .i64 m, .string ⟨#[]⟩] 25) := ⟨_, rfl⟩
  have K7 : Hid (Whole w7 w6.heap.size 25 #[.int .u64 s, .int .i64 m, .string ⟨#[]⟩]) := Lib.hid (by rw [hw7]; exact Whole.new _ _ _)
  have B7 : Hid (Below w.heap.size w w7) := Lib.hid (by rw [hw7]; exact (HB5.out.trans (hb.mono z5)).alloc (by have := hb.size; omega) _)
  have q0 : w7.cell? ⟨w6.heap.size, 0, none⟩ = some (.int .u64 s) := K7.out.cell 0
  have q1 : w7.cell? ⟨w6.heap.size, 1, none⟩ = some (.int .i64 m) := K7.out.cell 1
  have q2 : w7.cell? ⟨w6.heap.size, 2, none⟩ = some (.string ⟨#[]⟩) := K7.out.cell 2
  have HW7 := Lib.hid hw7
  clear hb
  rw [hw7] at q0 q1 q2
  clear hw7
  go_wp2_with fail
  rw [show w6.alloc (.cells #[.int .u64 s, .int .i64 m, .string ⟨#[]⟩] 25) = w7 from HW7.out.symm]
  refine (awake5_any _).mono ?_
  rintro e w8 ⟨rfl, hb8⟩
  have C8 := Lib.hid (B7.out.trans (hb8.mono B7.out.size))
  clear hb8
  go_wp2_with fail
  go_ret
  exact ⟨by first | rfl | (simp; omega), C8.out⟩

set_option maxHeartbeats 1000000 in
theorem cflags_e (x : Int) (f s : Nat) (A : Option Addr) (l : List UInt8) (cap : Nat) (w : World) (hf : f < 65536) (hx : bits .and .i64 x 65535 = (f : Int)) (hs : s < 18446744073709551616) (hl : Lies w w.heap.size A (B8 l)) (h300 : l.length ≤ 300) (hcm : cap ≤ maxLen) (hlc : l.length ≤ cap) (t : List UInt8) (ht : t ≠ []) (hff : f = 32768) (hQ : headQ 3932160 s f l false = some (s, 0, t)) :
    Calls Try.prog 6 #[.int .i64 x, .slice A l.length cap, .int .u64 s] w fun e w' => e = .returned (.bool true) ∧ Below w.heap.size w w' := by
  have kw := u64_nat f (by omega)
  obtain ⟨X1, hX1⟩ : ∃ X1, X1 = be 2 60 := ⟨_, rfl⟩
  obtain ⟨X2, hX2⟩ : ∃ X2, X2 = X1 ++ be 2 0 := ⟨_, rfl⟩
  obtain ⟨X3, hX3⟩ : ∃ X3, X3 = X2 ++ be 8 s := ⟨_, rfl⟩
  obtain ⟨X4, hX4⟩ : ∃ X4, X4 = X3 ++ be 2 f := ⟨_, rfl⟩
  obtain ⟨X5, hX5⟩ : ∃ X5, X5 = X4 ++ l := ⟨_, rfl⟩
  have x1 : X1.length = 2 := by rw [hX1, be_length]
  have x2 : X2.length = 4 := by rw [hX2, List.length_append, be_length, x1]
  have x3 : X3.length = 12 := by rw [hX3, List.length_append, be_length, x2]
  have x4 : X4.length = 14 := by rw [hX4, List.length_append, be_length, x3]
  have x5 : X5.length = 14 + l.length := by rw [hX5, List.length_append, x4]
  have hfr : headP X5 = headQ 3932160 s f l false := by rw [hX5, hX4, hX3, hX2, hX1]; exact flags_front f s l hs hf
  have HX1 := Lib.hid hX1
  have HX2 := Lib.hid hX2
  have HX3 := Lib.hid hX3
  have HX4 := Lib.hid hX4
  have HX5 := Lib.hid hX5
  have E1 := Lib.hid x1
  have E2 := Lib.hid x2
  have E3 := Lib.hid x3
  have E4 := Lib.hid x4
  have E5 := Lib.hid x5
  have HFR := Lib.hid hfr
  have HL := Lib.hid hl
  obtain ⟨i0, hi, hz0, hz1, hz2⟩ := info_parts u8_info
  have HI := Lib.hid hi
  have G0 := Lib.hid hz0
  have G1 := Lib.hid hz1
  have G2 := Lib.hid hz2
  unfold maxLen at hcm
  clear hX1 hX2 hX3 hX4 hX5 x1 x2 x3 x4 x5 hfr hl hi hz0 hz1 hz2
  have HQ := Lib.hid hQ
  have b1 : bits .and .i64 (f : Int) 28671 = 0 := by rw [hff]; exact i64_and_nat 32768 28671 (by decide) (by decide)
  have b2 : bits .and .i64 (f : Int) 32768 = 32768 := by rw [hff]; exact i64_and_nat 32768 32768 (by decide) (by decide)
  have b3 : bits .and .i64 (f : Int) 4096 = 0 := by rw [hff]; exact i64_and_nat 32768 4096 (by decide) (by decide)
  clear hff hQ
  have he := not_empty ht
  go_enter Try.func6, Try.ntmps6
  go_wp2_with fail
  refine (put_at none 0 0 [] 0 2 60 _ rfl (Lies.empty _ _ _) (Nat.zero_le _) (by omega) (by omega) (by simp)).mono ?_
  rintro e w1 ⟨v1, rfl, ho, hb⟩
  rw [List.nil_append, ← HX1.out, E1.out] at ho
  obtain ⟨A1, c1, rfl, _, _⟩ := own_form ho
  have M1 := Lib.hid (Lies.own ho (Nat.le_refl _))
  have B1 := Lib.hid hb
  have z1 := B1.out.size
  clear ho hb
  go_wp2_with fail
  refine (put_at A1 c1 2 X1 _ 2 0 _ E1.out.symm M1.out (Nat.le_refl _) (by omega) (by omega) (by rw [E1.out]; omega)).mono ?_
  rintro e w2 ⟨v2, rfl, ho, hb⟩
  rw [← HX2.out, E2.out] at ho
  obtain ⟨A2, c2, rfl, _, _⟩ := own_form ho
  have M2 := Lib.hid (Lies.own ho (Nat.le_refl _))
  have B2 := Lib.hid (B1.out.trans (hb.mono z1))
  have z2 := B2.out.size
  clear ho hb
  go_wp2_with fail
  refine (put_at A2 c2 4 X2 _ 8 s _ E2.out.symm M2.out (Nat.le_refl _) (by omega) (by omega) (by rw [E2.out]; omega)).mono ?_
  rintro e w3 ⟨v3, rfl, ho, hb⟩
  rw [← HX3.out, E3.out] at ho
  obtain ⟨A3, c3, rfl, _, _⟩ := own_form ho
  have M3 := Lib.hid (Lies.own ho (Nat.le_refl _))
  have B3 := Lib.hid (B2.out.trans (hb.mono z2))
  have z3 := B3.out.size
  clear ho hb
  go_wp2_with fail
  refine (put_at A3 c3 12 X3 _ 2 f _ E3.out.symm M3.out (Nat.le_refl _) (by omega) (by omega) (by rw [E3.out]; omega)).mono ?_
  rintro e w4 ⟨v4, rfl, ho, hb⟩
  rw [← HX4.out, E4.out] at ho
  have O4 := Lib.hid (own_at_base (b' := w.heap.size) ho z3)
  obtain ⟨A4, c4, rfl, _, _⟩ := own_form ho
  have B4 := Lib.hid (B3.out.trans (hb.mono z3))
  have z4 := B4.out.size
  have L4 := Lib.hid (HL.out.below B4.out)
  have hs' : 14 + l.length ≤ 140737488355328 := by omega
  clear ho hb
  go_wp2_with (at_builtin; refine wpList_append_cells rfl _ _ 26 rfl w.heap.size 5 i0 (.int .u8 0) 1 1 Try.underlying26 HI.out G0.out G1.out G2.out rfl (by omega) _ 14 _ rfl O4.out w.heap.size A l.length cap (B8 l) rfl L4.out (B8_len1 l) (B8_one l) (room63 hs') (room1 hs') z4 ?_; intro v5 w5 hown5 hb5; rw [← B8_append, ← HX5.out] at hown5; obtain ⟨A5, c5, rfl, hc5, hm5⟩ := own_form hown5; have HO5 := Lib.hid hown5; have HB5 := Lib.hid (B4.out.trans hb5); clear hown5 hb5)
  have L5 := Lib.hid (Lies.own HO5.out (Nat.le_refl _))
  have z5 := HB5.out.size
  refine (cparse_yes A5 c5 (14 + l.length) X5 w5.heap.size _ s 0 t E5.out.symm L5.out (Nat.le_refl _) (by rw [E5.out]; omega) (by rw [HFR.out]; exact HQ.out)).mono ?_
  rintro e w6 ⟨rfl, hb⟩
  obtain ⟨w7, hw7⟩ : ∃ w7, w7 = w6.alloc (.cells #[.int .u64 s, .int .i64 0, .string ⟨t.toArray⟩] 25) := ⟨_, rfl⟩
  have K7 : Hid (Whole w7 w6.heap.size 25 #[.int .u64 s, .int .i64 0, .string ⟨t.toArray⟩]) := Lib.hid (by rw [hw7]; exact Whole.new _ _ _)
  have B7 : Hid (Below w.heap.size w w7) := Lib.hid (by rw [hw7]; exact (HB5.out.trans (hb.mono z5)).alloc (by have := hb.size; omega) _)
  have q0 : w7.cell? ⟨w6.heap.size, 0, none⟩ = some (.int .u64 s) := K7.out.cell 0
  have q1 : w7.cell? ⟨w6.heap.size, 1, none⟩ = some (.int .i64 0) := K7.out.cell 1
  have q2 : w7.cell? ⟨w6.heap.size, 2, none⟩ = some (.string ⟨t.toArray⟩) := K7.out.cell 2
  have HW7 := Lib.hid hw7
  clear hb
  rw [hw7] at q0 q1 q2
  clear hw7
  go_wp2_with fail
  rw [show w6.alloc (.cells #[.int .u64 s, .int .i64 0, .string ⟨t.toArray⟩] 25) = w7 from HW7.out.symm]
  refine (awake5_any _).mono ?_
  rintro e w8 ⟨rfl, hb8⟩
  have C8 := Lib.hid (B7.out.trans (hb8.mono B7.out.size))
  clear hb8
  go_wp2_with fail
  go_ret
  exact ⟨by first | rfl | (simp; omega), C8.out⟩

set_option maxHeartbeats 1000000 in
theorem cflags_f (x : Int) (f s : Nat) (A : Option Addr) (l : List UInt8) (cap : Nat) (w : World) (hf : f < 65536) (hx : bits .and .i64 x 65535 = (f : Int)) (hs : s < 18446744073709551616) (hl : Lies w w.heap.size A (B8 l)) (h300 : l.length ≤ 300) (hcm : cap ≤ maxLen) (hlc : l.length ≤ cap) (m : Nat) (hm : ¬ m = 0) (t : List UInt8) (ht : t ≠ []) (hff : f = 36864) (hQ : headQ 3932160 s f l false = some (s, m, t)) :
    Calls Try.prog 6 #[.int .i64 x, .slice A l.length cap, .int .u64 s] w fun e w' => e = .returned (.bool true) ∧ Below w.heap.size w w' := by
  have kw := u64_nat f (by omega)
  obtain ⟨X1, hX1⟩ : ∃ X1, X1 = be 2 60 := ⟨_, rfl⟩
  obtain ⟨X2, hX2⟩ : ∃ X2, X2 = X1 ++ be 2 0 := ⟨_, rfl⟩
  obtain ⟨X3, hX3⟩ : ∃ X3, X3 = X2 ++ be 8 s := ⟨_, rfl⟩
  obtain ⟨X4, hX4⟩ : ∃ X4, X4 = X3 ++ be 2 f := ⟨_, rfl⟩
  obtain ⟨X5, hX5⟩ : ∃ X5, X5 = X4 ++ l := ⟨_, rfl⟩
  have x1 : X1.length = 2 := by rw [hX1, be_length]
  have x2 : X2.length = 4 := by rw [hX2, List.length_append, be_length, x1]
  have x3 : X3.length = 12 := by rw [hX3, List.length_append, be_length, x2]
  have x4 : X4.length = 14 := by rw [hX4, List.length_append, be_length, x3]
  have x5 : X5.length = 14 + l.length := by rw [hX5, List.length_append, x4]
  have hfr : headP X5 = headQ 3932160 s f l false := by rw [hX5, hX4, hX3, hX2, hX1]; exact flags_front f s l hs hf
  have HX1 := Lib.hid hX1
  have HX2 := Lib.hid hX2
  have HX3 := Lib.hid hX3
  have HX4 := Lib.hid hX4
  have HX5 := Lib.hid hX5
  have E1 := Lib.hid x1
  have E2 := Lib.hid x2
  have E3 := Lib.hid x3
  have E4 := Lib.hid x4
  have E5 := Lib.hid x5
  have HFR := Lib.hid hfr
  have HL := Lib.hid hl
  obtain ⟨i0, hi, hz0, hz1, hz2⟩ := info_parts u8_info
  have HI := Lib.hid hi
  have G0 := Lib.hid hz0
  have G1 := Lib.hid hz1
  have G2 := Lib.hid hz2
  unfold maxLen at hcm
  clear hX1 hX2 hX3 hX4 hX5 x1 x2 x3 x4 x5 hfr hl hi hz0 hz1 hz2
  have HQ := Lib.hid hQ
  have b1 : bits .and .i64 (f : Int) 28671 = 0 := by rw [hff]; exact i64_and_nat 36864 28671 (by decide) (by decide)
  have b2 : bits .and .i64 (f : Int) 32768 = 32768 := by rw [hff]; exact i64_and_nat 36864 32768 (by decide) (by decide)
  have b3 : bits .and .i64 (f : Int) 4096 = 4096 := by rw [hff]; exact i64_and_nat 36864 4096 (by decide) (by decide)
  clear hff hQ
  have hmi : ¬ ((m : Int) = 0) := by omega
  have he := not_empty ht
  go_enter Try.func6, Try.ntmps6
  go_wp2_with fail
  refine (put_at none 0 0 [] 0 2 60 _ rfl (Lies.empty _ _ _) (Nat.zero_le _) (by omega) (by omega) (by simp)).mono ?_
  rintro e w1 ⟨v1, rfl, ho, hb⟩
  rw [List.nil_append, ← HX1.out, E1.out] at ho
  obtain ⟨A1, c1, rfl, _, _⟩ := own_form ho
  have M1 := Lib.hid (Lies.own ho (Nat.le_refl _))
  have B1 := Lib.hid hb
  have z1 := B1.out.size
  clear ho hb
  go_wp2_with fail
  refine (put_at A1 c1 2 X1 _ 2 0 _ E1.out.symm M1.out (Nat.le_refl _) (by omega) (by omega) (by rw [E1.out]; omega)).mono ?_
  rintro e w2 ⟨v2, rfl, ho, hb⟩
  rw [← HX2.out, E2.out] at ho
  obtain ⟨A2, c2, rfl, _, _⟩ := own_form ho
  have M2 := Lib.hid (Lies.own ho (Nat.le_refl _))
  have B2 := Lib.hid (B1.out.trans (hb.mono z1))
  have z2 := B2.out.size
  clear ho hb
  go_wp2_with fail
  refine (put_at A2 c2 4 X2 _ 8 s _ E2.out.symm M2.out (Nat.le_refl _) (by omega) (by omega) (by rw [E2.out]; omega)).mono ?_
  rintro e w3 ⟨v3, rfl, ho, hb⟩
  rw [← HX3.out, E3.out] at ho
  obtain ⟨A3, c3, rfl, _, _⟩ := own_form ho
  have M3 := Lib.hid (Lies.own ho (Nat.le_refl _))
  have B3 := Lib.hid (B2.out.trans (hb.mono z2))
  have z3 := B3.out.size
  clear ho hb
  go_wp2_with fail
  refine (put_at A3 c3 12 X3 _ 2 f _ E3.out.symm M3.out (Nat.le_refl _) (by omega) (by omega) (by rw [E3.out]; omega)).mono ?_
  rintro e w4 ⟨v4, rfl, ho, hb⟩
  rw [← HX4.out, E4.out] at ho
  have O4 := Lib.hid (own_at_base (b' := w.heap.size) ho z3)
  obtain ⟨A4, c4, rfl, _, _⟩ := own_form ho
  have B4 := Lib.hid (B3.out.trans (hb.mono z3))
  have z4 := B4.out.size
  have L4 := Lib.hid (HL.out.below B4.out)
  have hs' : 14 + l.length ≤ 140737488355328 := by omega
  clear ho hb
  go_wp2_with (at_builtin; refine wpList_append_cells rfl _ _ 26 rfl w.heap.size 5 i0 (.int .u8 0) 1 1 Try.underlying26 HI.out G0.out G1.out G2.out rfl (by omega) _ 14 _ rfl O4.out w.heap.size A l.length cap (B8 l) rfl L4.out (B8_len1 l) (B8_one l) (room63 hs') (room1 hs') z4 ?_; intro v5 w5 hown5 hb5; rw [← B8_append, ← HX5.out] at hown5; obtain ⟨A5, c5, rfl, hc5, hm5⟩ := own_form hown5; have HO5 := Lib.hid hown5; have HB5 := Lib.hid (B4.out.trans hb5); clear hown5 hb5)
  have L5 := Lib.hid (Lies.own HO5.out (Nat.le_refl _))
  have z5 := HB5.out.size
  refine (cparse_yes A5 c5 (14 + l.length) X5 w5.heap.size _ s m t E5.out.symm L5.out (Nat.le_refl _) (by rw [E5.out]; omega) (by rw [HFR.out]; exact HQ.out)).mono ?_
  rintro e w6 ⟨rfl, hb⟩
  obtain ⟨w7, hw7⟩ : ∃ w7, w7 = w6.alloc (.cells #[.int .u64 s, .int .i64 m, .string ⟨t.toArray⟩] 25) := ⟨_, rfl⟩
  have K7 : Hid (Whole w7 w6.heap.size 25 #[.int .u64 s, .int .i64 m, .string ⟨t.toArray⟩]) := Lib.hid (by rw [hw7]; exact Whole.new _ _ _)
  have B7 : Hid (Below w.heap.size w w7) := Lib.hid (by rw [hw7]; exact (HB5.out.trans (hb.mono z5)).alloc (by have := hb.size; omega) _)
  have q0 : w7.cell? ⟨w6.heap.size, 0, none⟩ = some (.int .u64 s) := K7.out.cell 0
  have q1 : w7.cell? ⟨w6.heap.size, 1, none⟩ = some (.int .i64 m) := K7.out.cell 1
  have q2 : w7.cell? ⟨w6.heap.size, 2, none⟩ = some (.string ⟨t.toArray⟩) := K7.out.cell 2
  have HW7 := Lib.hid hw7
  clear hb
  rw [hw7] at q0 q1 q2
  clear hw7
  go_wp2_with fail
  rw [show w6.alloc (.cells #[.int .u64 s, .int .i64 m, .string ⟨t.toArray⟩] 25) = w7 from HW7.out.symm]
  refine (awake5_any _).mono ?_
  rintro e w8 ⟨rfl, hb8⟩
  have C8 := Lib.hid (B7.out.trans (hb8.mono B7.out.size))
  clear hb8
  go_wp2_with fail
  go_ret
  exact ⟨by first | rfl | (simp; omega), C8.out⟩

theorem cflags_any (x : Int) (f s : Nat) (A : Option Addr) (l : List UInt8) (cap : Nat) (w : World) (hf : f < 65536) (hx : bits .and .i64 x 65535 = (f : Int)) (hs : s < 18446744073709551616) (hl : Lies w w.heap.size A (B8 l)) (h300 : l.length ≤ 300) (hcm : cap ≤ maxLen) (hlc : l.length ≤ cap) :
    Calls Try.prog 6 #[.int .i64 x, .slice A l.length cap, .int .u64 s] w fun e w' => e = .returned (.bool true) ∧ Below w.heap.size w w' := by
  cases hQ : headQ 3932160 s f l false with
  | none =>
    have hq := i64_and_nat f 28671 (by omega) (by omega)
    by_cases hq0 : f &&& 28671 = 0
    · exact cflags_a x f s A l cap w hf hx hs hl h300 hcm hlc _ hq hq0 hQ
    · exact cflags_b x f s A l cap w hf hx hs hl h300 hcm hlc _ hq hq0 hQ
  | some y =>
    obtain ⟨m, t, rfl, hff⟩ := headQ_flags hQ
    by_cases ht : t = []
    · subst ht
      by_cases hm : m = 0
      · subst hm
        exact cflags_c x f s A l cap w hf hx hs hl h300 hcm hlc (by rw [hff]; decide) hQ
      · exact cflags_d x f s A l cap w hf hx hs hl h300 hcm hlc m hm (by rw [hff]; unfold hflags; rw [if_pos rfl, if_neg (by omega)]) hQ
    · by_cases hm : m = 0
      · subst hm
        exact cflags_e x f s A l cap w hf hx hs hl h300 hcm hlc t ht (by rw [hff]; unfold hflags; rw [if_neg ht]; rfl) hQ
      · exact cflags_f x f s A l cap w hf hx hs hl h300 hcm hlc m hm t ht (by rw [hff]; unfold hflags; rw [if_neg ht, if_neg (by omega)]) hQ
theorem cflags_all (x : Int) (A : Option Addr) (l : List UInt8) (cap : Nat) (a : Int) (w : World) (ha : (Lit.int .u64 a).wf = true) (hlc : l.length ≤ cap) (hcm : cap ≤ maxLen) (hl : Lies w w.heap.size A (B8 l)) :
    Calls Try.prog 6 #[.int .i64 x, .slice A l.length cap, .int .u64 a] w fun e w' => e = .returned (.bool true) ∧ Below w.heap.size w w' := by
  obtain ⟨s, rfl, hs⟩ := wf_u64 ha
  by_cases h300 : l.length ≤ 300
  · obtain ⟨f, hf, _, hx⟩ := mask_is x 65535 16 (by omega) rfl
    exact cflags_any x f s A l cap w hf hx hs hl h300 hcm hlc
  · have hlt : (300 : Int) < l.length := by omega
    unfold maxLen at hcm
    clear hl ha
    go_enter Try.func6, Try.ntmps6
    go_wp2_with fail
    refine (awake5_any _).mono ?_
    rintro e w5 ⟨rfl, hb5⟩
    have C6 := Lib.hid hb5
    clear hb5
    go_wp2_with fail
    go_ret
    exact ⟨rfl, C6.out⟩
end Go.Proofs.Ytbeoepnokefdpaa
