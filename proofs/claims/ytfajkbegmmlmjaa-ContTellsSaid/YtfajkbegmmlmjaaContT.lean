/- Contracts of the document's own answer for layer 5: a head's octets. -/
import Derived.Test.YtfajkbegmmlmjaaContR
import Derived.Deep.RegionWith
namespace Go.Proofs.Ytfajkbegmmlmjaa
open Go.RowKit
set_option maxRecDepth 100000
set_option linter.unusedSimpArgs false
set_option linter.unusedVariables false

/-- a head's first three numbers are written -/
def Front (w : World) (X : List UInt8) (s : Nat) (m : Int) (t : List UInt8) (v : Value) (wx : World) : Prop :=
  ∃ A c, v = .slice A X.length c ∧ Lies wx wx.heap.size A (B8 X) ∧ Below w.heap.size w wx ∧ Whole wx w.heap.size 25 #[.int .u64 s, .int .i64 m, .string ⟨t.toArray⟩]

set_option maxHeartbeats 1000000 in
theorem rhead_a (A : Option Addr) (c : Nat) (l : List UInt8) (B s : Nat) (w : World) (hl : Lies w B A (B8 l)) (hB : B ≤ w.heap.size) (hs : l.length ≤ 70368744170000) :
    Calls Try.prog 12 #[.slice A l.length c, .agg #[.int .u64 s, .int .i64 0, .string ⟨#[]⟩]] w (NewOcts w.heap.size (l ++ headB s 0 []) w) := by
  obtain ⟨W, hW⟩ : ∃ W, W = w.alloc (.cells #[.int .u64 s, .int .i64 0, .string ⟨#[]⟩] 25) := ⟨_, rfl⟩
  have hb : Below w.heap.size w W := by rw [hW]; exact (Below.refl _ _).alloc (Nat.le_refl _) _
  have hz : W.heap.size = w.heap.size + 1 := by rw [hW]; simp
  have K0 : Hid (Whole W w.heap.size 25 #[.int .u64 s, .int .i64 0, .string ⟨#[]⟩]) := Lib.hid (by rw [hW]; exact Whole.new _ _ _)
  have B0 := Lib.hid hb
  have Z0 := Lib.hid hz
  have HL := Lib.hid (hl.below (hb.mono hB))
  have HW := Lib.hid hW
  have DR : Hid (Below W.heap.size W W.drew) := Lib.hid (Below.refl _ _).drew
  obtain ⟨X1, hX1⟩ : ∃ X1, X1 = l ++ be 2 60 := ⟨_, rfl⟩
  obtain ⟨X2, hX2⟩ : ∃ X2, X2 = X1 ++ be 2 0 := ⟨_, rfl⟩
  obtain ⟨X3, hX3⟩ : ∃ X3, X3 = X2 ++ be 8 s := ⟨_, rfl⟩
  obtain ⟨X4, hX4⟩ : ∃ X4, X4 = X3 ++ be 2 0 := ⟨_, rfl⟩
  have x1 : X1.length = l.length + 2 := by rw [hX1, List.length_append, be_length]
  have x2 : X2.length = l.length + 4 := by rw [hX2, List.length_append, be_length, x1]
  have x3 : X3.length = l.length + 12 := by rw [hX3, List.length_append, be_length, x2]
  have x4 : X4.length = l.length + 14 := by rw [hX4, List.length_append, be_length, x3]
  have HX1 := Lib.hid hX1
  have HX2 := Lib.hid hX2
  have HX3 := Lib.hid hX3
  have HX4 := Lib.hid hX4
  have E1 := Lib.hid x1
  have E2 := Lib.hid x2
  have E3 := Lib.hid x3
  have E4 := Lib.hid x4
  have HZ : Hid (l ++ headB s 0 [] = X4) := Lib.hid (by
    rw [hX4, hX3, hX2, hX1]
    unfold headB hpartT hpartM hflags
    rw [show be 4 3932160 = be 2 60 ++ be 2 0 from by decide]
    simp only [if_pos rfl, if_true, if_false, List.append_assoc, List.append_nil, List.nil_append, Nat.zero_add, Nat.add_zero, Nat.reduceAdd])
  obtain ⟨Z, hZ⟩ : ∃ Z, Z = l ++ headB s 0 [] := ⟨_, rfl⟩
  rw [← hZ] at HZ ⊢
  
  
  
  clear hb hz hW hX1 hX2 hX3 hX4 x1 x2 x3 x4 hl hZ
  go_enter Try.func12, Try.ntmps12
  go_upto_region 1 with fail
  rw [← HW.out]
  go_cut [0] (fun s0 wx => Front w X3 s 0 [] s0 wx)
  case first =>
    have c0 : W.cell? ⟨w.heap.size, 0, none⟩ = some (.int .u64 s) := K0.out.cell 0
    have c0' : W.drew.cell? ⟨w.heap.size, 0, none⟩ = some (.int .u64 s) := c0
    go_region_with (first
      | (go_at_call_of 17 (Value.int .u64 60); refine (put_at' A c l.length l B 2 60 _ rfl (HL.out.below (DR.out.mono (by have := Z0.out; omega))) (by show B ≤ W.heap.size; have := Z0.out; omega) (by omega) (by omega) (by omega)).mono ?_; rintro e w1 ⟨v1, rfl, ho, hb1⟩; rw [← HX1.out] at ho; obtain ⟨A1, c1, rfl, _, _⟩ := own_form ho; have L1 := Lib.hid (Lies.own ho (Nat.le_refl _)); have B1 := Lib.hid (DR.out.trans hb1); have p1 : w1.cell? ⟨w.heap.size, 0, none⟩ = some (.int .u64 s) := (B1.out.cell (p := ⟨w.heap.size, 0, none⟩) (by show w.heap.size < W.heap.size; have := Z0.out; omega)).trans c0; clear ho hb1)
      | (go_at_call_of 17 (Value.int .u64 0); refine (put_at' A1 c1 X1.length X1 w1.heap.size 2 0 _ rfl L1.out (Nat.le_refl _) (by omega) (by omega) (by have := E1.out; omega)).mono ?_; rintro e w2 ⟨v2, rfl, ho, hb2⟩; rw [← HX2.out] at ho; obtain ⟨A2, c2, rfl, _, _⟩ := own_form ho; have L2 := Lib.hid (Lies.own ho (Nat.le_refl _)); have B2 := Lib.hid (B1.out.trans (hb2.mono B1.out.size)); have p2 : w2.cell? ⟨w.heap.size, 0, none⟩ = some (.int .u64 s) := (B2.out.cell (p := ⟨w.heap.size, 0, none⟩) (by show w.heap.size < W.heap.size; have := Z0.out; omega)).trans c0; clear ho hb2)
      | (go_at_call_of 17 (Value.int .u64 (s : Int)); refine (put_at' A2 c2 X2.length X2 w2.heap.size 8 s _ rfl L2.out (Nat.le_refl _) (by omega) (by omega) (by have := E2.out; omega)).mono ?_; rintro e w3 ⟨v3, rfl, ho, hb3⟩; rw [← HX3.out] at ho; obtain ⟨A3, c3, rfl, _, _⟩ := own_form ho; have L3 := Lib.hid (Lies.own ho (Nat.le_refl _)); have B3 := Lib.hid (B2.out.trans (hb3.mono B2.out.size)); clear ho hb3))
    all_goals (go_wp2_with fail; go_meet; exact ⟨_, _, rfl, L3.out, B0.out.trans (B3.out.mono (by have := Z0.out; omega)), K0.out.below B3.out (by have := Z0.out; omega)⟩)
  case rest =>
    obtain ⟨w3, hw3⟩ : ∃ w3 : World, w3 = wc := ⟨_, rfl⟩
    subst hw3
    obtain ⟨A3, c3, rfl, hl3, hb3, hk3⟩ := hcut
    have L3 := Lib.hid hl3
    have B3 := Lib.hid hb3
    have K3 := Lib.hid hk3
    have z3 := hb3.size
    have p1 : w3.cell? ⟨w.heap.size, 1, none⟩ = some (.int .i64 0) := hk3.cell 1
    have p2 : w3.cell? ⟨w.heap.size, 2, none⟩ = some (.string ⟨#[]⟩) := hk3.cell 2
    clear hl3 hb3 hk3
    go_wp2_with fail
    refine (put_at' A3 c3 X3.length X3 w3.heap.size 2 0 _ rfl L3.out (Nat.le_refl _) (by omega) (by omega) (by have := E3.out; omega)).mono ?_
    rintro e w4 ⟨v4, rfl, ho, hb4⟩
    rw [← HX4.out] at ho
    have O4 := Lib.hid (own_at_base (b' := w.heap.size) ho z3)
    obtain ⟨A4, c4, rfl, _, _⟩ := own_form ho
    have L4 := Lib.hid (Lies.own ho (Nat.le_refl _))
    have B4 := Lib.hid (B3.out.trans (hb4.mono z3))
    have K4 := Lib.hid (K3.out.below hb4 K3.out.lt)
    have z4 := B4.out.size
    have q1 : w4.cell? ⟨w.heap.size, 1, none⟩ = some (.int .i64 0) := K4.out.cell 1
    have q2 : w4.cell? ⟨w.heap.size, 2, none⟩ = some (.string ⟨#[]⟩) := K4.out.cell 2
    clear ho hb4 p1 p2
    go_wp2_with fail
    go_ret
    exact ⟨_, rfl, by rw [HZ.out]; exact O4.out, B4.out⟩

set_option maxHeartbeats 1000000 in
theorem rhead_b (A : Option Addr) (c : Nat) (l : List UInt8) (B s : Nat) (k : Nat) (w : World) (hl : Lies w B A (B8 l)) (hB : B ≤ w.heap.size) (hs : l.length ≤ 70368744170000) (hk0 : ¬ k = 0) (hk2 : k ≤ 2) :
    Calls Try.prog 12 #[.slice A l.length c, .agg #[.int .u64 s, .int .i64 (k : Int), .string ⟨#[]⟩]] w (NewOcts w.heap.size (l ++ headB s (k : Int) []) w) := by
  obtain ⟨W, hW⟩ : ∃ W, W = w.alloc (.cells #[.int .u64 s, .int .i64 (k : Int), .string ⟨#[]⟩] 25) := ⟨_, rfl⟩
  have hb : Below w.heap.size w W := by rw [hW]; exact (Below.refl _ _).alloc (Nat.le_refl _) _
  have hz : W.heap.size = w.heap.size + 1 := by rw [hW]; simp
  have K0 : Hid (Whole W w.heap.size 25 #[.int .u64 s, .int .i64 (k : Int), .string ⟨#[]⟩]) := Lib.hid (by rw [hW]; exact Whole.new _ _ _)
  have B0 := Lib.hid hb
  have Z0 := Lib.hid hz
  have HL := Lib.hid (hl.below (hb.mono hB))
  have HW := Lib.hid hW
  have DR : Hid (Below W.heap.size W W.drew) := Lib.hid (Below.refl _ _).drew
  obtain ⟨X1, hX1⟩ : ∃ X1, X1 = l ++ be 2 60 := ⟨_, rfl⟩
  obtain ⟨X2, hX2⟩ : ∃ X2, X2 = X1 ++ be 2 0 := ⟨_, rfl⟩
  obtain ⟨X3, hX3⟩ : ∃ X3, X3 = X2 ++ be 8 s := ⟨_, rfl⟩
  obtain ⟨X4, hX4⟩ : ∃ X4, X4 = X3 ++ be 2 4096 := ⟨_, rfl⟩
  have x1 : X1.length = l.length + 2 := by rw [hX1, List.length_append, be_length]
  have x2 : X2.length = l.length + 4 := by rw [hX2, List.length_append, be_length, x1]
  have x3 : X3.length = l.length + 12 := by rw [hX3, List.length_append, be_length, x2]
  have x4 : X4.length = l.length + 14 := by rw [hX4, List.length_append, be_length, x3]
  have HX1 := Lib.hid hX1
  have HX2 := Lib.hid hX2
  have HX3 := Lib.hid hX3
  have HX4 := Lib.hid hX4
  have E1 := Lib.hid x1
  have E2 := Lib.hid x2
  have E3 := Lib.hid x3
  have E4 := Lib.hid x4
  have HZ : Hid (l ++ headB s (k : Int) [] = X4 ++ be 1 k) := Lib.hid (by
    rw [hX4, hX3, hX2, hX1]
    unfold headB hpartT hpartM hflags
    rw [show be 4 3932160 = be 2 60 ++ be 2 0 from by decide]
    simp only [if_pos rfl, Int.natCast_eq_zero, hk0, Int.toNat_natCast, if_true, if_false, List.append_assoc, List.append_nil, List.nil_append, Nat.zero_add, Nat.add_zero, Nat.reduceAdd])
  obtain ⟨Z, hZ⟩ : ∃ Z, Z = l ++ headB s (k : Int) [] := ⟨_, rfl⟩
  rw [← hZ] at HZ ⊢
  
  have hmi : ¬ ((k : Int) = 0) := by omega
  have kw := u64_nat k (by omega)
  clear hb hz hW hX1 hX2 hX3 hX4 x1 x2 x3 x4 hl hZ
  go_enter Try.func12, Try.ntmps12
  go_upto_region 1 with fail
  rw [← HW.out]
  go_cut [0] (fun s0 wx => Front w X3 s (k : Int) [] s0 wx)
  case first =>
    have c0 : W.cell? ⟨w.heap.size, 0, none⟩ = some (.int .u64 s) := K0.out.cell 0
    have c0' : W.drew.cell? ⟨w.heap.size, 0, none⟩ = some (.int .u64 s) := c0
    go_region_with (first
      | (go_at_call_of 17 (Value.int .u64 60); refine (put_at' A c l.length l B 2 60 _ rfl (HL.out.below (DR.out.mono (by have := Z0.out; omega))) (by show B ≤ W.heap.size; have := Z0.out; omega) (by omega) (by omega) (by omega)).mono ?_; rintro e w1 ⟨v1, rfl, ho, hb1⟩; rw [← HX1.out] at ho; obtain ⟨A1, c1, rfl, _, _⟩ := own_form ho; have L1 := Lib.hid (Lies.own ho (Nat.le_refl _)); have B1 := Lib.hid (DR.out.trans hb1); have p1 : w1.cell? ⟨w.heap.size, 0, none⟩ = some (.int .u64 s) := (B1.out.cell (p := ⟨w.heap.size, 0, none⟩) (by show w.heap.size < W.heap.size; have := Z0.out; omega)).trans c0; clear ho hb1)
      | (go_at_call_of 17 (Value.int .u64 0); refine (put_at' A1 c1 X1.length X1 w1.heap.size 2 0 _ rfl L1.out (Nat.le_refl _) (by omega) (by omega) (by have := E1.out; omega)).mono ?_; rintro e w2 ⟨v2, rfl, ho, hb2⟩; rw [← HX2.out] at ho; obtain ⟨A2, c2, rfl, _, _⟩ := own_form ho; have L2 := Lib.hid (Lies.own ho (Nat.le_refl _)); have B2 := Lib.hid (B1.out.trans (hb2.mono B1.out.size)); have p2 : w2.cell? ⟨w.heap.size, 0, none⟩ = some (.int .u64 s) := (B2.out.cell (p := ⟨w.heap.size, 0, none⟩) (by show w.heap.size < W.heap.size; have := Z0.out; omega)).trans c0; clear ho hb2)
      | (go_at_call_of 17 (Value.int .u64 (s : Int)); refine (put_at' A2 c2 X2.length X2 w2.heap.size 8 s _ rfl L2.out (Nat.le_refl _) (by omega) (by omega) (by have := E2.out; omega)).mono ?_; rintro e w3 ⟨v3, rfl, ho, hb3⟩; rw [← HX3.out] at ho; obtain ⟨A3, c3, rfl, _, _⟩ := own_form ho; have L3 := Lib.hid (Lies.own ho (Nat.le_refl _)); have B3 := Lib.hid (B2.out.trans (hb3.mono B2.out.size)); clear ho hb3))
    all_goals (go_wp2_with fail; go_meet; exact ⟨_, _, rfl, L3.out, B0.out.trans (B3.out.mono (by have := Z0.out; omega)), K0.out.below B3.out (by have := Z0.out; omega)⟩)
  case rest =>
    obtain ⟨w3, hw3⟩ : ∃ w3 : World, w3 = wc := ⟨_, rfl⟩
    subst hw3
    obtain ⟨A3, c3, rfl, hl3, hb3, hk3⟩ := hcut
    have L3 := Lib.hid hl3
    have B3 := Lib.hid hb3
    have K3 := Lib.hid hk3
    have z3 := hb3.size
    have p1 : w3.cell? ⟨w.heap.size, 1, none⟩ = some (.int .i64 (k : Int)) := hk3.cell 1
    have p2 : w3.cell? ⟨w.heap.size, 2, none⟩ = some (.string ⟨#[]⟩) := hk3.cell 2
    clear hl3 hb3 hk3
    go_wp2_with fail
    refine (put_at' A3 c3 X3.length X3 w3.heap.size 2 4096 _ rfl L3.out (Nat.le_refl _) (by omega) (by omega) (by have := E3.out; omega)).mono ?_
    rintro e w4 ⟨v4, rfl, ho, hb4⟩
    rw [← HX4.out] at ho
    have O4 := Lib.hid (own_at_base (b' := w.heap.size) ho z3)
    obtain ⟨A4, c4, rfl, _, _⟩ := own_form ho
    have L4 := Lib.hid (Lies.own ho (Nat.le_refl _))
    have B4 := Lib.hid (B3.out.trans (hb4.mono z3))
    have K4 := Lib.hid (K3.out.below hb4 K3.out.lt)
    have z4 := B4.out.size
    have q1 : w4.cell? ⟨w.heap.size, 1, none⟩ = some (.int .i64 (k : Int)) := K4.out.cell 1
    have q2 : w4.cell? ⟨w.heap.size, 2, none⟩ = some (.string ⟨#[]⟩) := K4.out.cell 2
    clear ho hb4 p1 p2
    go_wp2_with fail
    refine (put_at' A4 c4 X4.length X4 w4.heap.size 1 k _ rfl L4.out (Nat.le_refl _) (by omega) (by omega) (by have := E4.out; omega)).mono ?_
    rintro e w6 ⟨v6, rfl, ho, hb6⟩
    have O6 := Lib.hid (own_at_base (b' := w.heap.size) ho z4)
    have B6 := Lib.hid (B4.out.trans (hb6.mono z4))
    clear ho hb6
    go_wp2_with fail
    go_ret
    exact ⟨_, rfl, by rw [HZ.out]; exact O6.out, B6.out⟩

set_option maxHeartbeats 1000000 in
theorem rhead_c (A : Option Addr) (c : Nat) (l : List UInt8) (B s : Nat) (t : List UInt8) (w : World) (hl : Lies w B A (B8 l)) (hB : B ≤ w.heap.size) (hs : l.length ≤ 70368744170000) (ht : t ≠ []) (h255 : t.length ≤ 255) :
    Calls Try.prog 12 #[.slice A l.length c, .agg #[.int .u64 s, .int .i64 0, .string ⟨t.toArray⟩]] w (NewOcts w.heap.size (l ++ headB s 0 t) w) := by
  obtain ⟨W, hW⟩ : ∃ W, W = w.alloc (.cells #[.int .u64 s, .int .i64 0, .string ⟨t.toArray⟩] 25) := ⟨_, rfl⟩
  have hb : Below w.heap.size w W := by rw [hW]; exact (Below.refl _ _).alloc (Nat.le_refl _) _
  have hz : W.heap.size = w.heap.size + 1 := by rw [hW]; simp
  have K0 : Hid (Whole W w.heap.size 25 #[.int .u64 s, .int .i64 0, .string ⟨t.toArray⟩]) := Lib.hid (by rw [hW]; exact Whole.new _ _ _)
  have B0 := Lib.hid hb
  have Z0 := Lib.hid hz
  have HL := Lib.hid (hl.below (hb.mono hB))
  have HW := Lib.hid hW
  have DR : Hid (Below W.heap.size W W.drew) := Lib.hid (Below.refl _ _).drew
  obtain ⟨X1, hX1⟩ : ∃ X1, X1 = l ++ be 2 60 := ⟨_, rfl⟩
  obtain ⟨X2, hX2⟩ : ∃ X2, X2 = X1 ++ be 2 0 := ⟨_, rfl⟩
  obtain ⟨X3, hX3⟩ : ∃ X3, X3 = X2 ++ be 8 s := ⟨_, rfl⟩
  obtain ⟨X4, hX4⟩ : ∃ X4, X4 = X3 ++ be 2 32768 := ⟨_, rfl⟩
  have x1 : X1.length = l.length + 2 := by rw [hX1, List.length_append, be_length]
  have x2 : X2.length = l.length + 4 := by rw [hX2, List.length_append, be_length, x1]
  have x3 : X3.length = l.length + 12 := by rw [hX3, List.length_append, be_length, x2]
  have x4 : X4.length = l.length + 14 := by rw [hX4, List.length_append, be_length, x3]
  have HX1 := Lib.hid hX1
  have HX2 := Lib.hid hX2
  have HX3 := Lib.hid hX3
  have HX4 := Lib.hid hX4
  have E1 := Lib.hid x1
  have E2 := Lib.hid x2
  have E3 := Lib.hid x3
  have E4 := Lib.hid x4
  have HZ : Hid (l ++ headB s 0 t = X4 ++ (be 1 t.length ++ t)) := Lib.hid (by
    rw [hX4, hX3, hX2, hX1]
    unfold headB hpartT hpartM hflags
    rw [show be 4 3932160 = be 2 60 ++ be 2 0 from by decide]
    simp only [ht, if_true, if_false, List.append_assoc, List.append_nil, List.nil_append, Nat.zero_add, Nat.add_zero, Nat.reduceAdd])
  obtain ⟨Z, hZ⟩ : ∃ Z, Z = l ++ headB s 0 t := ⟨_, rfl⟩
  rw [← hZ] at HZ ⊢
  have he := not_empty ht
  
  
  clear hb hz hW hX1 hX2 hX3 hX4 x1 x2 x3 x4 hl hZ
  go_enter Try.func12, Try.ntmps12
  go_upto_region 1 with fail
  rw [← HW.out]
  go_cut [0] (fun s0 wx => Front w X3 s 0 t s0 wx)
  case first =>
    have c0 : W.cell? ⟨w.heap.size, 0, none⟩ = some (.int .u64 s) := K0.out.cell 0
    have c0' : W.drew.cell? ⟨w.heap.size, 0, none⟩ = some (.int .u64 s) := c0
    go_region_with (first
      | (go_at_call_of 17 (Value.int .u64 60); refine (put_at' A c l.length l B 2 60 _ rfl (HL.out.below (DR.out.mono (by have := Z0.out; omega))) (by show B ≤ W.heap.size; have := Z0.out; omega) (by omega) (by omega) (by omega)).mono ?_; rintro e w1 ⟨v1, rfl, ho, hb1⟩; rw [← HX1.out] at ho; obtain ⟨A1, c1, rfl, _, _⟩ := own_form ho; have L1 := Lib.hid (Lies.own ho (Nat.le_refl _)); have B1 := Lib.hid (DR.out.trans hb1); have p1 : w1.cell? ⟨w.heap.size, 0, none⟩ = some (.int .u64 s) := (B1.out.cell (p := ⟨w.heap.size, 0, none⟩) (by show w.heap.size < W.heap.size; have := Z0.out; omega)).trans c0; clear ho hb1)
      | (go_at_call_of 17 (Value.int .u64 0); refine (put_at' A1 c1 X1.length X1 w1.heap.size 2 0 _ rfl L1.out (Nat.le_refl _) (by omega) (by omega) (by have := E1.out; omega)).mono ?_; rintro e w2 ⟨v2, rfl, ho, hb2⟩; rw [← HX2.out] at ho; obtain ⟨A2, c2, rfl, _, _⟩ := own_form ho; have L2 := Lib.hid (Lies.own ho (Nat.le_refl _)); have B2 := Lib.hid (B1.out.trans (hb2.mono B1.out.size)); have p2 : w2.cell? ⟨w.heap.size, 0, none⟩ = some (.int .u64 s) := (B2.out.cell (p := ⟨w.heap.size, 0, none⟩) (by show w.heap.size < W.heap.size; have := Z0.out; omega)).trans c0; clear ho hb2)
      | (go_at_call_of 17 (Value.int .u64 (s : Int)); refine (put_at' A2 c2 X2.length X2 w2.heap.size 8 s _ rfl L2.out (Nat.le_refl _) (by omega) (by omega) (by have := E2.out; omega)).mono ?_; rintro e w3 ⟨v3, rfl, ho, hb3⟩; rw [← HX3.out] at ho; obtain ⟨A3, c3, rfl, _, _⟩ := own_form ho; have L3 := Lib.hid (Lies.own ho (Nat.le_refl _)); have B3 := Lib.hid (B2.out.trans (hb3.mono B2.out.size)); clear ho hb3))
    all_goals (go_wp2_with fail; go_meet; exact ⟨_, _, rfl, L3.out, B0.out.trans (B3.out.mono (by have := Z0.out; omega)), K0.out.below B3.out (by have := Z0.out; omega)⟩)
  case rest =>
    obtain ⟨w3, hw3⟩ : ∃ w3 : World, w3 = wc := ⟨_, rfl⟩
    subst hw3
    obtain ⟨A3, c3, rfl, hl3, hb3, hk3⟩ := hcut
    have L3 := Lib.hid hl3
    have B3 := Lib.hid hb3
    have K3 := Lib.hid hk3
    have z3 := hb3.size
    have p1 : w3.cell? ⟨w.heap.size, 1, none⟩ = some (.int .i64 0) := hk3.cell 1
    have p2 : w3.cell? ⟨w.heap.size, 2, none⟩ = some (.string ⟨t.toArray⟩) := hk3.cell 2
    clear hl3 hb3 hk3
    go_wp2_with fail
    refine (put_at' A3 c3 X3.length X3 w3.heap.size 2 32768 _ rfl L3.out (Nat.le_refl _) (by omega) (by omega) (by have := E3.out; omega)).mono ?_
    rintro e w4 ⟨v4, rfl, ho, hb4⟩
    rw [← HX4.out] at ho
    have O4 := Lib.hid (own_at_base (b' := w.heap.size) ho z3)
    obtain ⟨A4, c4, rfl, _, _⟩ := own_form ho
    have L4 := Lib.hid (Lies.own ho (Nat.le_refl _))
    have B4 := Lib.hid (B3.out.trans (hb4.mono z3))
    have K4 := Lib.hid (K3.out.below hb4 K3.out.lt)
    have z4 := B4.out.size
    have q1 : w4.cell? ⟨w.heap.size, 1, none⟩ = some (.int .i64 0) := K4.out.cell 1
    have q2 : w4.cell? ⟨w.heap.size, 2, none⟩ = some (.string ⟨t.toArray⟩) := K4.out.cell 2
    clear ho hb4 p1 p2
    obtain ⟨X5, hX5⟩ : ∃ X5, X5 = X4 ++ be 1 t.length ++ t := ⟨_, rfl⟩
    have x5 : X5.length = l.length + 15 + t.length := by rw [hX5, List.length_append, List.length_append, be_length, E4.out]
    have HX5 := Lib.hid hX5
    have E5 := Lib.hid x5
    clear hX5 x5
    go_wp2_with fail
    refine (rshort_any A4 c4 X4.length X4 w4.heap.size t _ rfl L4.out (Nat.le_refl _) (by have := E4.out; omega) h255).mono ?_
    rintro e w5 ⟨v5, rfl, ho, hb5⟩
    rw [← HX5.out] at ho
    have O5 := Lib.hid (own_at_base (b' := w.heap.size) ho z4)
    obtain ⟨A5, c5, rfl, _, _⟩ := own_form ho
    have L5 := Lib.hid (Lies.own ho (Nat.le_refl _))
    have B5 := Lib.hid (B4.out.trans (hb5.mono z4))
    have K5 := Lib.hid (K4.out.below hb5 K4.out.lt)
    have z5 := B5.out.size
    have r1 : w5.cell? ⟨w.heap.size, 1, none⟩ = some (.int .i64 0) := K5.out.cell 1
    clear ho hb5 q1 q2
    go_wp2_with fail
    go_ret
    exact ⟨_, rfl, by rw [HZ.out, ← List.append_assoc, ← HX5.out]; exact O5.out, B5.out⟩

set_option maxHeartbeats 1000000 in
theorem rhead_d (A : Option Addr) (c : Nat) (l : List UInt8) (B s : Nat) (k : Nat) (t : List UInt8) (w : World) (hl : Lies w B A (B8 l)) (hB : B ≤ w.heap.size) (hs : l.length ≤ 70368744170000) (hk0 : ¬ k = 0) (hk2 : k ≤ 2) (ht : t ≠ []) (h255 : t.length ≤ 255) :
    Calls Try.prog 12 #[.slice A l.length c, .agg #[.int .u64 s, .int .i64 (k : Int), .string ⟨t.toArray⟩]] w (NewOcts w.heap.size (l ++ headB s (k : Int) t) w) := by
  obtain ⟨W, hW⟩ : ∃ W, W = w.alloc (.cells #[.int .u64 s, .int .i64 (k : Int), .string ⟨t.toArray⟩] 25) := ⟨_, rfl⟩
  have hb : Below w.heap.size w W := by rw [hW]; exact (Below.refl _ _).alloc (Nat.le_refl _) _
  have hz : W.heap.size = w.heap.size + 1 := by rw [hW]; simp
  have K0 : Hid (Whole W w.heap.size 25 #[.int .u64 s, .int .i64 (k : Int), .string ⟨t.toArray⟩]) := Lib.hid (by rw [hW]; exact Whole.new _ _ _)
  have B0 := Lib.hid hb
  have Z0 := Lib.hid hz
  have HL := Lib.hid (hl.below (hb.mono hB))
  have HW := Lib.hid hW
  have DR : Hid (Below W.heap.size W W.drew) := Lib.hid (Below.refl _ _).drew
  obtain ⟨X1, hX1⟩ : ∃ X1, X1 = l ++ be 2 60 := ⟨_, rfl⟩
  obtain ⟨X2, hX2⟩ : ∃ X2, X2 = X1 ++ be 2 0 := ⟨_, rfl⟩
  obtain ⟨X3, hX3⟩ : ∃ X3, X3 = X2 ++ be 8 s := ⟨_, rfl⟩
  obtain ⟨X4, hX4⟩ : ∃ X4, X4 = X3 ++ be 2 36864 := ⟨_, rfl⟩
  have x1 : X1.length = l.length + 2 := by rw [hX1, List.length_append, be_length]
  have x2 : X2.length = l.length + 4 := by rw [hX2, List.length_append, be_length, x1]
  have x3 : X3.length = l.length + 12 := by rw [hX3, List.length_append, be_length, x2]
  have x4 : X4.length = l.length + 14 := by rw [hX4, List.length_append, be_length, x3]
  have HX1 := Lib.hid hX1
  have HX2 := Lib.hid hX2
  have HX3 := Lib.hid hX3
  have HX4 := Lib.hid hX4
  have E1 := Lib.hid x1
  have E2 := Lib.hid x2
  have E3 := Lib.hid x3
  have E4 := Lib.hid x4
  have HZ : Hid (l ++ headB s (k : Int) t = X4 ++ (be 1 t.length ++ t) ++ be 1 k) := Lib.hid (by
    rw [hX4, hX3, hX2, hX1]
    unfold headB hpartT hpartM hflags
    rw [show be 4 3932160 = be 2 60 ++ be 2 0 from by decide]
    simp only [ht, Int.natCast_eq_zero, hk0, Int.toNat_natCast, if_true, if_false, List.append_assoc, List.append_nil, List.nil_append, Nat.zero_add, Nat.add_zero, Nat.reduceAdd])
  obtain ⟨Z, hZ⟩ : ∃ Z, Z = l ++ headB s (k : Int) t := ⟨_, rfl⟩
  rw [← hZ] at HZ ⊢
  have he := not_empty ht
  have hmi : ¬ ((k : Int) = 0) := by omega
  have kw := u64_nat k (by omega)
  clear hb hz hW hX1 hX2 hX3 hX4 x1 x2 x3 x4 hl hZ
  go_enter Try.func12, Try.ntmps12
  go_upto_region 1 with fail
  rw [← HW.out]
  go_cut [0] (fun s0 wx => Front w X3 s (k : Int) t s0 wx)
  case first =>
    have c0 : W.cell? ⟨w.heap.size, 0, none⟩ = some (.int .u64 s) := K0.out.cell 0
    have c0' : W.drew.cell? ⟨w.heap.size, 0, none⟩ = some (.int .u64 s) := c0
    go_region_with (first
      | (go_at_call_of 17 (Value.int .u64 60); refine (put_at' A c l.length l B 2 60 _ rfl (HL.out.below (DR.out.mono (by have := Z0.out; omega))) (by show B ≤ W.heap.size; have := Z0.out; omega) (by omega) (by omega) (by omega)).mono ?_; rintro e w1 ⟨v1, rfl, ho, hb1⟩; rw [← HX1.out] at ho; obtain ⟨A1, c1, rfl, _, _⟩ := own_form ho; have L1 := Lib.hid (Lies.own ho (Nat.le_refl _)); have B1 := Lib.hid (DR.out.trans hb1); have p1 : w1.cell? ⟨w.heap.size, 0, none⟩ = some (.int .u64 s) := (B1.out.cell (p := ⟨w.heap.size, 0, none⟩) (by show w.heap.size < W.heap.size; have := Z0.out; omega)).trans c0; clear ho hb1)
      | (go_at_call_of 17 (Value.int .u64 0); refine (put_at' A1 c1 X1.length X1 w1.heap.size 2 0 _ rfl L1.out (Nat.le_refl _) (by omega) (by omega) (by have := E1.out; omega)).mono ?_; rintro e w2 ⟨v2, rfl, ho, hb2⟩; rw [← HX2.out] at ho; obtain ⟨A2, c2, rfl, _, _⟩ := own_form ho; have L2 := Lib.hid (Lies.own ho (Nat.le_refl _)); have B2 := Lib.hid (B1.out.trans (hb2.mono B1.out.size)); have p2 : w2.cell? ⟨w.heap.size, 0, none⟩ = some (.int .u64 s) := (B2.out.cell (p := ⟨w.heap.size, 0, none⟩) (by show w.heap.size < W.heap.size; have := Z0.out; omega)).trans c0; clear ho hb2)
      | (go_at_call_of 17 (Value.int .u64 (s : Int)); refine (put_at' A2 c2 X2.length X2 w2.heap.size 8 s _ rfl L2.out (Nat.le_refl _) (by omega) (by omega) (by have := E2.out; omega)).mono ?_; rintro e w3 ⟨v3, rfl, ho, hb3⟩; rw [← HX3.out] at ho; obtain ⟨A3, c3, rfl, _, _⟩ := own_form ho; have L3 := Lib.hid (Lies.own ho (Nat.le_refl _)); have B3 := Lib.hid (B2.out.trans (hb3.mono B2.out.size)); clear ho hb3))
    all_goals (go_wp2_with fail; go_meet; exact ⟨_, _, rfl, L3.out, B0.out.trans (B3.out.mono (by have := Z0.out; omega)), K0.out.below B3.out (by have := Z0.out; omega)⟩)
  case rest =>
    obtain ⟨w3, hw3⟩ : ∃ w3 : World, w3 = wc := ⟨_, rfl⟩
    subst hw3
    obtain ⟨A3, c3, rfl, hl3, hb3, hk3⟩ := hcut
    have L3 := Lib.hid hl3
    have B3 := Lib.hid hb3
    have K3 := Lib.hid hk3
    have z3 := hb3.size
    have p1 : w3.cell? ⟨w.heap.size, 1, none⟩ = some (.int .i64 (k : Int)) := hk3.cell 1
    have p2 : w3.cell? ⟨w.heap.size, 2, none⟩ = some (.string ⟨t.toArray⟩) := hk3.cell 2
    clear hl3 hb3 hk3
    go_wp2_with fail
    refine (put_at' A3 c3 X3.length X3 w3.heap.size 2 36864 _ rfl L3.out (Nat.le_refl _) (by omega) (by omega) (by have := E3.out; omega)).mono ?_
    rintro e w4 ⟨v4, rfl, ho, hb4⟩
    rw [← HX4.out] at ho
    have O4 := Lib.hid (own_at_base (b' := w.heap.size) ho z3)
    obtain ⟨A4, c4, rfl, _, _⟩ := own_form ho
    have L4 := Lib.hid (Lies.own ho (Nat.le_refl _))
    have B4 := Lib.hid (B3.out.trans (hb4.mono z3))
    have K4 := Lib.hid (K3.out.below hb4 K3.out.lt)
    have z4 := B4.out.size
    have q1 : w4.cell? ⟨w.heap.size, 1, none⟩ = some (.int .i64 (k : Int)) := K4.out.cell 1
    have q2 : w4.cell? ⟨w.heap.size, 2, none⟩ = some (.string ⟨t.toArray⟩) := K4.out.cell 2
    clear ho hb4 p1 p2
    obtain ⟨X5, hX5⟩ : ∃ X5, X5 = X4 ++ be 1 t.length ++ t := ⟨_, rfl⟩
    have x5 : X5.length = l.length + 15 + t.length := by rw [hX5, List.length_append, List.length_append, be_length, E4.out]
    have HX5 := Lib.hid hX5
    have E5 := Lib.hid x5
    clear hX5 x5
    go_wp2_with fail
    refine (rshort_any A4 c4 X4.length X4 w4.heap.size t _ rfl L4.out (Nat.le_refl _) (by have := E4.out; omega) h255).mono ?_
    rintro e w5 ⟨v5, rfl, ho, hb5⟩
    rw [← HX5.out] at ho
    have O5 := Lib.hid (own_at_base (b' := w.heap.size) ho z4)
    obtain ⟨A5, c5, rfl, _, _⟩ := own_form ho
    have L5 := Lib.hid (Lies.own ho (Nat.le_refl _))
    have B5 := Lib.hid (B4.out.trans (hb5.mono z4))
    have K5 := Lib.hid (K4.out.below hb5 K4.out.lt)
    have z5 := B5.out.size
    have r1 : w5.cell? ⟨w.heap.size, 1, none⟩ = some (.int .i64 (k : Int)) := K5.out.cell 1
    clear ho hb5 q1 q2
    go_wp2_with fail
    refine (put_at' A5 c5 X5.length X5 w5.heap.size 1 k _ rfl L5.out (Nat.le_refl _) (by omega) (by omega) (by have := E5.out; omega)).mono ?_
    rintro e w6 ⟨v6, rfl, ho, hb6⟩
    have O6 := Lib.hid (own_at_base (b' := w.heap.size) ho z5)
    have B6 := Lib.hid (B5.out.trans (hb6.mono z5))
    clear ho hb6
    go_wp2_with fail
    go_ret
    exact ⟨_, rfl, by rw [HZ.out, ← List.append_assoc, ← HX5.out]; exact O6.out, B6.out⟩

theorem rhead_any (A : Option Addr) (c n : Nat) (l : List UInt8) (B s : Nat) (m : Int) (t : List UInt8) (w : World) (hn : n = l.length) (hl : Lies w B A (B8 l)) (hB : B ≤ w.heap.size) (hs : l.length ≤ 70368744170000) (hok : headOk m t = true) :
    Calls Try.prog 12 #[.slice A n c, .agg #[.int .u64 s, .int .i64 m, .string ⟨t.toArray⟩]] w (NewOcts w.heap.size (l ++ headB s m t) w) := by
  subst hn
  unfold headOk at hok
  simp only [decide_eq_true_eq] at hok
  obtain ⟨h0, h2, h255⟩ := hok
  by_cases hm : m = 0
  · subst hm
    by_cases ht : t = []
    · subst ht
      exact rhead_a A c l B s w hl hB hs
    · exact rhead_c A c l B s t w hl hB hs ht h255
  · obtain ⟨k, rfl⟩ : ∃ k : Nat, m = (k : Int) := ⟨m.toNat, by omega⟩
    by_cases ht : t = []
    · subst ht
      exact rhead_b A c l B s k w hl hB hs (by omega) (by omega)
    · exact rhead_d A c l B s k t w hl hB hs (by omega) (by omega) ht h255
end Go.Proofs.Ytfajkbegmmlmjaa
