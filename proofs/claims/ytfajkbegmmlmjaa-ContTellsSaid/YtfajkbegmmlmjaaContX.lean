/- Contracts of package cont: a head is written. -/
import Derived.Test.YtfajkbegmmlmjaaContW
import Derived.Test.YtfajkbegmmlmjaaFramB
namespace Go.Proofs.Ytfajkbegmmlmjaa
open Go.RowKit
set_option maxRecDepth 100000
set_option linter.unusedSimpArgs false
set_option linter.unusedVariables false

/-- what write tells -/
def CWrite (s : Nat) (m : Int) (t : List UInt8) (w : World) (e : Ending) (w' : World) : Prop :=
  if headOk m t = true then NewOctsOk w.heap.size (headB s m t) true w e w' else e = .returned (.tuple #[.slice none 0 0, .bool false]) ∧ Below w.heap.size w w'
theorem CWrite.no {s : Nat} {m : Int} {t : List UInt8} {w w' : World} (h : headOk m t = false) (hb : Below w.heap.size w w') : CWrite s m t w (.returned (.tuple #[.slice none 0 0, .bool false])) w' := by
  unfold CWrite
  rw [h, if_neg (by decide)]
  exact ⟨rfl, hb⟩
theorem CWrite.yes {s : Nat} {m : Int} {t Z : List UInt8} {w w' : World} {v : Value} {n : Nat} (h : headOk m t = true) (hZ : headB s m t = Z) (hn : n = Z.length) (ho : w'.ownsRow w.heap.size 5 1 v n (B8 Z)) (hb : Below w.heap.size w w') : CWrite s m t w (.returned (.tuple #[v, .bool true])) w' := by
  unfold CWrite
  rw [h, if_pos rfl, hZ]
  subst hn
  exact ⟨v, rfl, ho, hb⟩
theorem short_at (A : Option Addr) (c n : Nat) (l : List UInt8) (B : Nat) (t : List UInt8) (w : World) (hn : n = l.length) (hl : Lies w B A (B8 l)) (hB : B ≤ w.heap.size) (hs : l.length + 264 ≤ 140737488355328) (h255 : t.length ≤ 255) :
    Calls Try.prog 33 #[.slice A n c, .string ⟨t.toArray⟩] w (NewOctsOk w.heap.size (l ++ be 1 t.length ++ t) true w) := by
  subst hn
  have e : (⟨t.toArray⟩ : ByteArray).size = t.length := by simp [ByteArray.size]
  have h := short_any A c l B ⟨t.toArray⟩ w hl hB hs (by rw [e]; exact h255)
  rw [e] at h
  exact h
theorem short_not_at (A : Option Addr) (c n : Nat) (l : List UInt8) (B : Nat) (t : List UInt8) (w : World) (hn : n = l.length) (hl : Lies w B A (B8 l)) (hB : B ≤ w.heap.size) (hs : l.length ≤ 140737488355328) (h255 : 255 < t.length) (hm : t.length ≤ maxLen) :
    Calls Try.prog 33 #[.slice A n c, .string ⟨t.toArray⟩] w (NewOctsOk w.heap.size l false w) := by
  subst hn
  have e : (⟨t.toArray⟩ : ByteArray).size = t.length := by simp [ByteArray.size]
  exact short_not A c l B ⟨t.toArray⟩ w hl hB hs (by rw [e]; exact h255) (by rw [e]; exact hm)
theorem int_at (A : Option Addr) (c m : Nat) (l : List UInt8) (B : Nat) (n k : Nat) (x : Nat) (w : World) (hm : m = l.length) (hk : k = wid n) (hl : Lies w B A (B8 l)) (hB : B ≤ w.heap.size) (hs : l.length + 8 ≤ 140737488355328) :
    Calls Try.prog 32 #[.slice A m c, .int .i64 n, .int .u64 x] w (NewOcts w.heap.size (l ++ be k x) w) := by
  subst hm
  subst hk
  exact int_any A c l B n x w hl hB hs
theorem u64_nat (k : Nat) (h : k < 18446744073709551616) : IntKind.u64.wrap (k : Int) = (k : Int) := IntWalk.u64_in _ ⟨by omega, by omega⟩

set_option maxHeartbeats 400000 in
theorem cwrite_a (s : Nat) (w : World)  :
    Calls Try.prog 18 #[.agg #[.int .u64 s, .int .i64 0, .string ⟨#[]⟩]] w (CWrite s 0 [] w) := by
  obtain ⟨W, hW⟩ : ∃ W, W = w.alloc (.cells #[.int .u64 s, .int .i64 0, .string ⟨#[]⟩] 25) := ⟨_, rfl⟩
  have hb : Below w.heap.size w W := by rw [hW]; exact (Below.refl _ _).alloc (Nat.le_refl _) _
  have hz : W.heap.size = w.heap.size + 1 := by rw [hW]; simp
  have W0 : Hid (Whole W w.heap.size 25 #[.int .u64 s, .int .i64 0, .string ⟨#[]⟩]) := Lib.hid (by rw [hW]; exact Whole.new _ _ _)
  have HB := Lib.hid hb
  have HZ := Lib.hid hz
  have HW := Lib.hid hW
  obtain ⟨f, hf⟩ : ∃ f, f = hflags [] 0 := ⟨_, rfl⟩
  obtain ⟨X1, hX1⟩ : ∃ X1, X1 = be 4 3932160 := ⟨_, rfl⟩
  obtain ⟨X2, hX2⟩ : ∃ X2, X2 = X1 ++ be 8 s := ⟨_, rfl⟩
  obtain ⟨X3, hX3⟩ : ∃ X3, X3 = X2 ++ be 2 f := ⟨_, rfl⟩
  have x1 : X1.length = 4 := by rw [hX1, be_length]
  have x2 : X2.length = 12 := by rw [hX2, List.length_append, be_length, x1]
  have x3 : X3.length = 14 := by rw [hX3, List.length_append, be_length, x2]
  have HF := Lib.hid hf
  have HX1 := Lib.hid hX1
  have HX2 := Lib.hid hX2
  have HX3 := Lib.hid hX3
  have L1 := Lib.hid x1
  have L2 := Lib.hid x2
  have L3 := Lib.hid x3
  clear hb hz hW hf hX1 hX2 hX3 x1 x2 x3
  have hok : Hid (headOk 0 [] = true) := Lib.hid (by decide)
  go_enter Try.func18, Try.ntmps18
  go_wp2_with fail
  rw [← HW.out]
  refine (int_at none 0 0 [] 0 4 4 3932160 _ rfl rfl (Lies.empty _ _ _) (Nat.zero_le _) (by simp)).mono ?_
  rintro e w1 ⟨v1, rfl, ho, hb1⟩
  rw [List.nil_append, ← HX1.out, L1.out] at ho
  obtain ⟨A1, c1, rfl, _, _⟩ := own_form ho
  have M1 := Lib.hid (Lies.own ho (Nat.le_refl _))
  have W1 := Lib.hid (W0.out.below hb1 (by rw [HZ.out]; omega))
  have B1 := Lib.hid (HB.out.trans (hb1.mono (by rw [HZ.out]; omega)))
  have z1 := B1.out.size
  clear ho hb1
  have p0 : w1.cell? ⟨w.heap.size, 0, none⟩ = some (.int .u64 s) := W1.out.cell 0
  go_wp2_with fail
  refine (int_at A1 c1 4 X1 w1.heap.size 8 8 s _ L1.out.symm rfl M1.out (Nat.le_refl _) (by have := L1.out; omega)).mono ?_
  rintro e w2 ⟨v2, rfl, ho, hb2⟩
  rw [← HX2.out, L2.out] at ho
  obtain ⟨A2, c2, rfl, _, _⟩ := own_form ho
  have M2 := Lib.hid (Lies.own ho (Nat.le_refl _))
  have W2 := Lib.hid (W1.out.below hb2 W1.out.lt)
  have B2 := Lib.hid (B1.out.trans (hb2.mono z1))
  have z2 := B2.out.size
  clear ho hb2 p0
  have q0 : w2.cell? ⟨w.heap.size, 0, none⟩ = some (.int .u64 s) := W2.out.cell 0
  have q1 : w2.cell? ⟨w.heap.size, 1, none⟩ = some (.int .i64 0) := W2.out.cell 1
  have q2 : w2.cell? ⟨w.heap.size, 2, none⟩ = some (.string ⟨#[]⟩) := W2.out.cell 2
  go_wp2_with fail
  refine (flags_any s 0 [] _).mono ?_
  rintro e w3 ⟨rfl, hb3⟩
  rw [← HF.out]
  have M3 := Lib.hid (M2.out.below hb3)
  have z23 := hb3.size
  have W3 := Lib.hid (W2.out.below hb3 W2.out.lt)
  have B3 := Lib.hid (B2.out.trans (hb3.mono z2))
  clear hb3 q0 q1 q2
  go_wp2_with fail
  refine (int_at A2 c2 12 X2 w2.heap.size 2 2 f _ L2.out.symm rfl M3.out z23 (by have := L2.out; omega)).mono ?_
  rintro e w4 ⟨v4, rfl, ho, hb4⟩
  rw [← HX3.out, L3.out] at ho
  have O4 := Lib.hid (own_at_base (b' := w.heap.size) ho (by have := B3.out.size; omega))
  obtain ⟨A4, c4, rfl, _, _⟩ := own_form ho
  have M4 := Lib.hid (Lies.own ho (Nat.le_refl _))
  have W4 := Lib.hid (W3.out.below hb4 W3.out.lt)
  have B4 := Lib.hid (B3.out.trans (hb4.mono B3.out.size))
  have z4 := B4.out.size
  clear ho hb4
  have r0 : w4.cell? ⟨w.heap.size, 0, none⟩ = some (.int .u64 s) := W4.out.cell 0
  have r1 : w4.cell? ⟨w.heap.size, 1, none⟩ = some (.int .i64 0) := W4.out.cell 1
  have r2 : w4.cell? ⟨w.heap.size, 2, none⟩ = some (.string ⟨#[]⟩) := W4.out.cell 2

  go_wp2_with fail
  go_ret2
  exact CWrite.yes hok.out (by rw [HX3.out, HX2.out, HX1.out, HF.out]; unfold headB hpartT hpartM; simp) L3.out.symm O4.out B4.out

set_option maxHeartbeats 400000 in
theorem cwrite_b (s : Nat) (m : Nat) (w : World) (hm : ¬ m = 0) (h2 : m ≤ 2) :
    Calls Try.prog 18 #[.agg #[.int .u64 s, .int .i64 (m : Int), .string ⟨#[]⟩]] w (CWrite s (m : Int) [] w) := by
  obtain ⟨W, hW⟩ : ∃ W, W = w.alloc (.cells #[.int .u64 s, .int .i64 (m : Int), .string ⟨#[]⟩] 25) := ⟨_, rfl⟩
  have hb : Below w.heap.size w W := by rw [hW]; exact (Below.refl _ _).alloc (Nat.le_refl _) _
  have hz : W.heap.size = w.heap.size + 1 := by rw [hW]; simp
  have W0 : Hid (Whole W w.heap.size 25 #[.int .u64 s, .int .i64 (m : Int), .string ⟨#[]⟩]) := Lib.hid (by rw [hW]; exact Whole.new _ _ _)
  have HB := Lib.hid hb
  have HZ := Lib.hid hz
  have HW := Lib.hid hW
  obtain ⟨f, hf⟩ : ∃ f, f = hflags [] (m : Int) := ⟨_, rfl⟩
  obtain ⟨X1, hX1⟩ : ∃ X1, X1 = be 4 3932160 := ⟨_, rfl⟩
  obtain ⟨X2, hX2⟩ : ∃ X2, X2 = X1 ++ be 8 s := ⟨_, rfl⟩
  obtain ⟨X3, hX3⟩ : ∃ X3, X3 = X2 ++ be 2 f := ⟨_, rfl⟩
  have x1 : X1.length = 4 := by rw [hX1, be_length]
  have x2 : X2.length = 12 := by rw [hX2, List.length_append, be_length, x1]
  have x3 : X3.length = 14 := by rw [hX3, List.length_append, be_length, x2]
  have HF := Lib.hid hf
  have HX1 := Lib.hid hX1
  have HX2 := Lib.hid hX2
  have HX3 := Lib.hid hX3
  have L1 := Lib.hid x1
  have L2 := Lib.hid x2
  have L3 := Lib.hid x3
  clear hb hz hW hf hX1 hX2 hX3 x1 x2 x3
  have hok : Hid (headOk (m : Int) [] = true) := Lib.hid (by unfold headOk; exact decide_eq_true ⟨by omega, by omega, by simp⟩)
  have hmi : ¬ ((m : Int) = 0) := by omega
  have kw := u64_nat m (by omega)
  go_enter Try.func18, Try.ntmps18
  go_wp2_with fail
  rw [← HW.out]
  refine (int_at none 0 0 [] 0 4 4 3932160 _ rfl rfl (Lies.empty _ _ _) (Nat.zero_le _) (by simp)).mono ?_
  rintro e w1 ⟨v1, rfl, ho, hb1⟩
  rw [List.nil_append, ← HX1.out, L1.out] at ho
  obtain ⟨A1, c1, rfl, _, _⟩ := own_form ho
  have M1 := Lib.hid (Lies.own ho (Nat.le_refl _))
  have W1 := Lib.hid (W0.out.below hb1 (by rw [HZ.out]; omega))
  have B1 := Lib.hid (HB.out.trans (hb1.mono (by rw [HZ.out]; omega)))
  have z1 := B1.out.size
  clear ho hb1
  have p0 : w1.cell? ⟨w.heap.size, 0, none⟩ = some (.int .u64 s) := W1.out.cell 0
  go_wp2_with fail
  refine (int_at A1 c1 4 X1 w1.heap.size 8 8 s _ L1.out.symm rfl M1.out (Nat.le_refl _) (by have := L1.out; omega)).mono ?_
  rintro e w2 ⟨v2, rfl, ho, hb2⟩
  rw [← HX2.out, L2.out] at ho
  obtain ⟨A2, c2, rfl, _, _⟩ := own_form ho
  have M2 := Lib.hid (Lies.own ho (Nat.le_refl _))
  have W2 := Lib.hid (W1.out.below hb2 W1.out.lt)
  have B2 := Lib.hid (B1.out.trans (hb2.mono z1))
  have z2 := B2.out.size
  clear ho hb2 p0
  have q0 : w2.cell? ⟨w.heap.size, 0, none⟩ = some (.int .u64 s) := W2.out.cell 0
  have q1 : w2.cell? ⟨w.heap.size, 1, none⟩ = some (.int .i64 (m : Int)) := W2.out.cell 1
  have q2 : w2.cell? ⟨w.heap.size, 2, none⟩ = some (.string ⟨#[]⟩) := W2.out.cell 2
  go_wp2_with fail
  refine (flags_any s (m : Int) [] _).mono ?_
  rintro e w3 ⟨rfl, hb3⟩
  rw [← HF.out]
  have M3 := Lib.hid (M2.out.below hb3)
  have z23 := hb3.size
  have W3 := Lib.hid (W2.out.below hb3 W2.out.lt)
  have B3 := Lib.hid (B2.out.trans (hb3.mono z2))
  clear hb3 q0 q1 q2
  go_wp2_with fail
  refine (int_at A2 c2 12 X2 w2.heap.size 2 2 f _ L2.out.symm rfl M3.out z23 (by have := L2.out; omega)).mono ?_
  rintro e w4 ⟨v4, rfl, ho, hb4⟩
  rw [← HX3.out, L3.out] at ho
  have O4 := Lib.hid (own_at_base (b' := w.heap.size) ho (by have := B3.out.size; omega))
  obtain ⟨A4, c4, rfl, _, _⟩ := own_form ho
  have M4 := Lib.hid (Lies.own ho (Nat.le_refl _))
  have W4 := Lib.hid (W3.out.below hb4 W3.out.lt)
  have B4 := Lib.hid (B3.out.trans (hb4.mono B3.out.size))
  have z4 := B4.out.size
  clear ho hb4
  have r0 : w4.cell? ⟨w.heap.size, 0, none⟩ = some (.int .u64 s) := W4.out.cell 0
  have r1 : w4.cell? ⟨w.heap.size, 1, none⟩ = some (.int .i64 (m : Int)) := W4.out.cell 1
  have r2 : w4.cell? ⟨w.heap.size, 2, none⟩ = some (.string ⟨#[]⟩) := W4.out.cell 2

  go_wp2_with fail
  refine (int_at A4 c4 (14) X3 w4.heap.size 1 1 m _ L3.out.symm rfl M4.out (Nat.le_refl _) (by have := L3.out; omega)).mono ?_
  rintro e w6 ⟨v6, rfl, ho, hb6⟩
  have O6 := Lib.hid (own_at_base (b' := w.heap.size) ho z4)
  have B6 := Lib.hid (B4.out.trans (hb6.mono z4))
  clear ho hb6
  go_wp2_with fail
  go_ret2
  exact CWrite.yes hok.out (by rw [HX3.out, HX2.out, HX1.out, HF.out]; unfold headB hpartT hpartM; simp only [Int.toNat_natCast, List.append_assoc, List.append_nil, if_true, if_false, hm, hmi]) rfl O6.out B6.out

set_option maxHeartbeats 400000 in
theorem cwrite_c (s : Nat) (m : Nat) (t : List UInt8) (w : World) (ht : t ≠ []) (h2 : m ≤ 2) (h255 : 255 < t.length) (hl : t.length ≤ maxLen) :
    Calls Try.prog 18 #[.agg #[.int .u64 s, .int .i64 (m : Int), .string ⟨t.toArray⟩]] w (CWrite s (m : Int) t w) := by
  obtain ⟨W, hW⟩ : ∃ W, W = w.alloc (.cells #[.int .u64 s, .int .i64 (m : Int), .string ⟨t.toArray⟩] 25) := ⟨_, rfl⟩
  have hb : Below w.heap.size w W := by rw [hW]; exact (Below.refl _ _).alloc (Nat.le_refl _) _
  have hz : W.heap.size = w.heap.size + 1 := by rw [hW]; simp
  have W0 : Hid (Whole W w.heap.size 25 #[.int .u64 s, .int .i64 (m : Int), .string ⟨t.toArray⟩]) := Lib.hid (by rw [hW]; exact Whole.new _ _ _)
  have HB := Lib.hid hb
  have HZ := Lib.hid hz
  have HW := Lib.hid hW
  obtain ⟨f, hf⟩ : ∃ f, f = hflags t (m : Int) := ⟨_, rfl⟩
  obtain ⟨X1, hX1⟩ : ∃ X1, X1 = be 4 3932160 := ⟨_, rfl⟩
  obtain ⟨X2, hX2⟩ : ∃ X2, X2 = X1 ++ be 8 s := ⟨_, rfl⟩
  obtain ⟨X3, hX3⟩ : ∃ X3, X3 = X2 ++ be 2 f := ⟨_, rfl⟩
  have x1 : X1.length = 4 := by rw [hX1, be_length]
  have x2 : X2.length = 12 := by rw [hX2, List.length_append, be_length, x1]
  have x3 : X3.length = 14 := by rw [hX3, List.length_append, be_length, x2]
  have HF := Lib.hid hf
  have HX1 := Lib.hid hX1
  have HX2 := Lib.hid hX2
  have HX3 := Lib.hid hX3
  have L1 := Lib.hid x1
  have L2 := Lib.hid x2
  have L3 := Lib.hid x3
  clear hb hz hW hf hX1 hX2 hX3 x1 x2 x3
  have he := not_empty ht
  have hok : Hid (headOk (m : Int) t = false) := Lib.hid (by unfold headOk; exact decide_eq_false (by omega))
  go_enter Try.func18, Try.ntmps18
  go_wp2_with fail
  rw [← HW.out]
  refine (int_at none 0 0 [] 0 4 4 3932160 _ rfl rfl (Lies.empty _ _ _) (Nat.zero_le _) (by simp)).mono ?_
  rintro e w1 ⟨v1, rfl, ho, hb1⟩
  rw [List.nil_append, ← HX1.out, L1.out] at ho
  obtain ⟨A1, c1, rfl, _, _⟩ := own_form ho
  have M1 := Lib.hid (Lies.own ho (Nat.le_refl _))
  have W1 := Lib.hid (W0.out.below hb1 (by rw [HZ.out]; omega))
  have B1 := Lib.hid (HB.out.trans (hb1.mono (by rw [HZ.out]; omega)))
  have z1 := B1.out.size
  clear ho hb1
  have p0 : w1.cell? ⟨w.heap.size, 0, none⟩ = some (.int .u64 s) := W1.out.cell 0
  go_wp2_with fail
  refine (int_at A1 c1 4 X1 w1.heap.size 8 8 s _ L1.out.symm rfl M1.out (Nat.le_refl _) (by have := L1.out; omega)).mono ?_
  rintro e w2 ⟨v2, rfl, ho, hb2⟩
  rw [← HX2.out, L2.out] at ho
  obtain ⟨A2, c2, rfl, _, _⟩ := own_form ho
  have M2 := Lib.hid (Lies.own ho (Nat.le_refl _))
  have W2 := Lib.hid (W1.out.below hb2 W1.out.lt)
  have B2 := Lib.hid (B1.out.trans (hb2.mono z1))
  have z2 := B2.out.size
  clear ho hb2 p0
  have q0 : w2.cell? ⟨w.heap.size, 0, none⟩ = some (.int .u64 s) := W2.out.cell 0
  have q1 : w2.cell? ⟨w.heap.size, 1, none⟩ = some (.int .i64 (m : Int)) := W2.out.cell 1
  have q2 : w2.cell? ⟨w.heap.size, 2, none⟩ = some (.string ⟨t.toArray⟩) := W2.out.cell 2
  go_wp2_with fail
  refine (flags_any s (m : Int) t _).mono ?_
  rintro e w3 ⟨rfl, hb3⟩
  rw [← HF.out]
  have M3 := Lib.hid (M2.out.below hb3)
  have z23 := hb3.size
  have W3 := Lib.hid (W2.out.below hb3 W2.out.lt)
  have B3 := Lib.hid (B2.out.trans (hb3.mono z2))
  clear hb3 q0 q1 q2
  go_wp2_with fail
  refine (int_at A2 c2 12 X2 w2.heap.size 2 2 f _ L2.out.symm rfl M3.out z23 (by have := L2.out; omega)).mono ?_
  rintro e w4 ⟨v4, rfl, ho, hb4⟩
  rw [← HX3.out, L3.out] at ho
  have O4 := Lib.hid (own_at_base (b' := w.heap.size) ho (by have := B3.out.size; omega))
  obtain ⟨A4, c4, rfl, _, _⟩ := own_form ho
  have M4 := Lib.hid (Lies.own ho (Nat.le_refl _))
  have W4 := Lib.hid (W3.out.below hb4 W3.out.lt)
  have B4 := Lib.hid (B3.out.trans (hb4.mono B3.out.size))
  have z4 := B4.out.size
  clear ho hb4
  have r0 : w4.cell? ⟨w.heap.size, 0, none⟩ = some (.int .u64 s) := W4.out.cell 0
  have r1 : w4.cell? ⟨w.heap.size, 1, none⟩ = some (.int .i64 (m : Int)) := W4.out.cell 1
  have r2 : w4.cell? ⟨w.heap.size, 2, none⟩ = some (.string ⟨t.toArray⟩) := W4.out.cell 2

  go_wp2_with fail
  refine (short_not_at A4 c4 14 X3 w4.heap.size t _ L3.out.symm M4.out (Nat.le_refl _) (by have := L3.out; omega) h255 hl).mono ?_
  rintro e w5 ⟨v5, rfl, ho, hb5⟩
  have B5 := Lib.hid (B4.out.trans (hb5.mono z4))
  clear ho hb5
  go_wp2_with fail
  go_ret2
  exact CWrite.no hok.out B5.out

set_option maxHeartbeats 400000 in
theorem cwrite_d (s : Nat) (t : List UInt8) (w : World) (ht : t ≠ []) (h255 : t.length ≤ 255) :
    Calls Try.prog 18 #[.agg #[.int .u64 s, .int .i64 0, .string ⟨t.toArray⟩]] w (CWrite s 0 t w) := by
  obtain ⟨W, hW⟩ : ∃ W, W = w.alloc (.cells #[.int .u64 s, .int .i64 0, .string ⟨t.toArray⟩] 25) := ⟨_, rfl⟩
  have hb : Below w.heap.size w W := by rw [hW]; exact (Below.refl _ _).alloc (Nat.le_refl _) _
  have hz : W.heap.size = w.heap.size + 1 := by rw [hW]; simp
  have W0 : Hid (Whole W w.heap.size 25 #[.int .u64 s, .int .i64 0, .string ⟨t.toArray⟩]) := Lib.hid (by rw [hW]; exact Whole.new _ _ _)
  have HB := Lib.hid hb
  have HZ := Lib.hid hz
  have HW := Lib.hid hW
  obtain ⟨f, hf⟩ : ∃ f, f = hflags t 0 := ⟨_, rfl⟩
  obtain ⟨X1, hX1⟩ : ∃ X1, X1 = be 4 3932160 := ⟨_, rfl⟩
  obtain ⟨X2, hX2⟩ : ∃ X2, X2 = X1 ++ be 8 s := ⟨_, rfl⟩
  obtain ⟨X3, hX3⟩ : ∃ X3, X3 = X2 ++ be 2 f := ⟨_, rfl⟩
  have x1 : X1.length = 4 := by rw [hX1, be_length]
  have x2 : X2.length = 12 := by rw [hX2, List.length_append, be_length, x1]
  have x3 : X3.length = 14 := by rw [hX3, List.length_append, be_length, x2]
  have HF := Lib.hid hf
  have HX1 := Lib.hid hX1
  have HX2 := Lib.hid hX2
  have HX3 := Lib.hid hX3
  have L1 := Lib.hid x1
  have L2 := Lib.hid x2
  have L3 := Lib.hid x3
  clear hb hz hW hf hX1 hX2 hX3 x1 x2 x3
  have he := not_empty ht
  have hok : Hid (headOk 0 t = true) := Lib.hid (by unfold headOk; exact decide_eq_true ⟨by omega, by omega, h255⟩)
  go_enter Try.func18, Try.ntmps18
  go_wp2_with fail
  rw [← HW.out]
  refine (int_at none 0 0 [] 0 4 4 3932160 _ rfl rfl (Lies.empty _ _ _) (Nat.zero_le _) (by simp)).mono ?_
  rintro e w1 ⟨v1, rfl, ho, hb1⟩
  rw [List.nil_append, ← HX1.out, L1.out] at ho
  obtain ⟨A1, c1, rfl, _, _⟩ := own_form ho
  have M1 := Lib.hid (Lies.own ho (Nat.le_refl _))
  have W1 := Lib.hid (W0.out.below hb1 (by rw [HZ.out]; omega))
  have B1 := Lib.hid (HB.out.trans (hb1.mono (by rw [HZ.out]; omega)))
  have z1 := B1.out.size
  clear ho hb1
  have p0 : w1.cell? ⟨w.heap.size, 0, none⟩ = some (.int .u64 s) := W1.out.cell 0
  go_wp2_with fail
  refine (int_at A1 c1 4 X1 w1.heap.size 8 8 s _ L1.out.symm rfl M1.out (Nat.le_refl _) (by have := L1.out; omega)).mono ?_
  rintro e w2 ⟨v2, rfl, ho, hb2⟩
  rw [← HX2.out, L2.out] at ho
  obtain ⟨A2, c2, rfl, _, _⟩ := own_form ho
  have M2 := Lib.hid (Lies.own ho (Nat.le_refl _))
  have W2 := Lib.hid (W1.out.below hb2 W1.out.lt)
  have B2 := Lib.hid (B1.out.trans (hb2.mono z1))
  have z2 := B2.out.size
  clear ho hb2 p0
  have q0 : w2.cell? ⟨w.heap.size, 0, none⟩ = some (.int .u64 s) := W2.out.cell 0
  have q1 : w2.cell? ⟨w.heap.size, 1, none⟩ = some (.int .i64 0) := W2.out.cell 1
  have q2 : w2.cell? ⟨w.heap.size, 2, none⟩ = some (.string ⟨t.toArray⟩) := W2.out.cell 2
  go_wp2_with fail
  refine (flags_any s 0 t _).mono ?_
  rintro e w3 ⟨rfl, hb3⟩
  rw [← HF.out]
  have M3 := Lib.hid (M2.out.below hb3)
  have z23 := hb3.size
  have W3 := Lib.hid (W2.out.below hb3 W2.out.lt)
  have B3 := Lib.hid (B2.out.trans (hb3.mono z2))
  clear hb3 q0 q1 q2
  go_wp2_with fail
  refine (int_at A2 c2 12 X2 w2.heap.size 2 2 f _ L2.out.symm rfl M3.out z23 (by have := L2.out; omega)).mono ?_
  rintro e w4 ⟨v4, rfl, ho, hb4⟩
  rw [← HX3.out, L3.out] at ho
  have O4 := Lib.hid (own_at_base (b' := w.heap.size) ho (by have := B3.out.size; omega))
  obtain ⟨A4, c4, rfl, _, _⟩ := own_form ho
  have M4 := Lib.hid (Lies.own ho (Nat.le_refl _))
  have W4 := Lib.hid (W3.out.below hb4 W3.out.lt)
  have B4 := Lib.hid (B3.out.trans (hb4.mono B3.out.size))
  have z4 := B4.out.size
  clear ho hb4
  have r0 : w4.cell? ⟨w.heap.size, 0, none⟩ = some (.int .u64 s) := W4.out.cell 0
  have r1 : w4.cell? ⟨w.heap.size, 1, none⟩ = some (.int .i64 0) := W4.out.cell 1
  have r2 : w4.cell? ⟨w.heap.size, 2, none⟩ = some (.string ⟨t.toArray⟩) := W4.out.cell 2

  go_wp2_with fail
  refine (short_at A4 c4 14 X3 w4.heap.size t _ L3.out.symm M4.out (Nat.le_refl _) (by have := L3.out; omega) h255).mono ?_
  rintro e w5 ⟨v5, rfl, ho, hb5⟩
  obtain ⟨X5, hX5⟩ : ∃ X5, X5 = X3 ++ be 1 t.length ++ t := ⟨_, rfl⟩
  rw [← hX5] at ho
  have x5 : X5.length = 15 + t.length := by rw [hX5, List.length_append, List.length_append, be_length, L3.out]
  rw [x5] at ho
  have HX5 := Lib.hid hX5
  have L5 := Lib.hid x5
  have O5 := Lib.hid (own_at_base (b' := w.heap.size) ho z4)
  obtain ⟨A5, c5, rfl, _, _⟩ := own_form ho
  have M5 := Lib.hid (Lies.own ho (Nat.le_refl _))
  have W5 := Lib.hid (W4.out.below hb5 W4.out.lt)
  have B5 := Lib.hid (B4.out.trans (hb5.mono z4))
  have z5 := B5.out.size
  clear ho hb5 r0 r1 r2 hX5 x5
  have s1 : w5.cell? ⟨w.heap.size, 1, none⟩ = some (.int .i64 0) := W5.out.cell 1

  go_wp2_with fail
  go_ret2
  exact CWrite.yes hok.out (by rw [HX5.out]; rw [HX3.out, HX2.out, HX1.out, HF.out]; unfold headB hpartT hpartM; simp [ht]) L5.out.symm O5.out B5.out

set_option maxHeartbeats 400000 in
theorem cwrite_e (s : Nat) (m : Nat) (t : List UInt8) (w : World) (ht : t ≠ []) (hm : ¬ m = 0) (h2 : m ≤ 2) (h255 : t.length ≤ 255) :
    Calls Try.prog 18 #[.agg #[.int .u64 s, .int .i64 (m : Int), .string ⟨t.toArray⟩]] w (CWrite s (m : Int) t w) := by
  obtain ⟨W, hW⟩ : ∃ W, W = w.alloc (.cells #[.int .u64 s, .int .i64 (m : Int), .string ⟨t.toArray⟩] 25) := ⟨_, rfl⟩
  have hb : Below w.heap.size w W := by rw [hW]; exact (Below.refl _ _).alloc (Nat.le_refl _) _
  have hz : W.heap.size = w.heap.size + 1 := by rw [hW]; simp
  have W0 : Hid (Whole W w.heap.size 25 #[.int .u64 s, .int .i64 (m : Int), .string ⟨t.toArray⟩]) := Lib.hid (by rw [hW]; exact Whole.new _ _ _)
  have HB := Lib.hid hb
  have HZ := Lib.hid hz
  have HW := Lib.hid hW
  obtain ⟨f, hf⟩ : ∃ f, f = hflags t (m : Int) := ⟨_, rfl⟩
  obtain ⟨X1, hX1⟩ : ∃ X1, X1 = be 4 3932160 := ⟨_, rfl⟩
  obtain ⟨X2, hX2⟩ : ∃ X2, X2 = X1 ++ be 8 s := ⟨_, rfl⟩
  obtain ⟨X3, hX3⟩ : ∃ X3, X3 = X2 ++ be 2 f := ⟨_, rfl⟩
  have x1 : X1.length = 4 := by rw [hX1, be_length]
  have x2 : X2.length = 12 := by rw [hX2, List.length_append, be_length, x1]
  have x3 : X3.length = 14 := by rw [hX3, List.length_append, be_length, x2]
  have HF := Lib.hid hf
  have HX1 := Lib.hid hX1
  have HX2 := Lib.hid hX2
  have HX3 := Lib.hid hX3
  have L1 := Lib.hid x1
  have L2 := Lib.hid x2
  have L3 := Lib.hid x3
  clear hb hz hW hf hX1 hX2 hX3 x1 x2 x3
  have he := not_empty ht
  have hok : Hid (headOk (m : Int) t = true) := Lib.hid (by unfold headOk; exact decide_eq_true ⟨by omega, by omega, h255⟩)
  have hmi : ¬ ((m : Int) = 0) := by omega
  have kw := u64_nat m (by omega)
  go_enter Try.func18, Try.ntmps18
  go_wp2_with fail
  rw [← HW.out]
  refine (int_at none 0 0 [] 0 4 4 3932160 _ rfl rfl (Lies.empty _ _ _) (Nat.zero_le _) (by simp)).mono ?_
  rintro e w1 ⟨v1, rfl, ho, hb1⟩
  rw [List.nil_append, ← HX1.out, L1.out] at ho
  obtain ⟨A1, c1, rfl, _, _⟩ := own_form ho
  have M1 := Lib.hid (Lies.own ho (Nat.le_refl _))
  have W1 := Lib.hid (W0.out.below hb1 (by rw [HZ.out]; omega))
  have B1 := Lib.hid (HB.out.trans (hb1.mono (by rw [HZ.out]; omega)))
  have z1 := B1.out.size
  clear ho hb1
  have p0 : w1.cell? ⟨w.heap.size, 0, none⟩ = some (.int .u64 s) := W1.out.cell 0
  go_wp2_with fail
  refine (int_at A1 c1 4 X1 w1.heap.size 8 8 s _ L1.out.symm rfl M1.out (Nat.le_refl _) (by have := L1.out; omega)).mono ?_
  rintro e w2 ⟨v2, rfl, ho, hb2⟩
  rw [← HX2.out, L2.out] at ho
  obtain ⟨A2, c2, rfl, _, _⟩ := own_form ho
  have M2 := Lib.hid (Lies.own ho (Nat.le_refl _))
  have W2 := Lib.hid (W1.out.below hb2 W1.out.lt)
  have B2 := Lib.hid (B1.out.trans (hb2.mono z1))
  have z2 := B2.out.size
  clear ho hb2 p0
  have q0 : w2.cell? ⟨w.heap.size, 0, none⟩ = some (.int .u64 s) := W2.out.cell 0
  have q1 : w2.cell? ⟨w.heap.size, 1, none⟩ = some (.int .i64 (m : Int)) := W2.out.cell 1
  have q2 : w2.cell? ⟨w.heap.size, 2, none⟩ = some (.string ⟨t.toArray⟩) := W2.out.cell 2
  go_wp2_with fail
  refine (flags_any s (m : Int) t _).mono ?_
  rintro e w3 ⟨rfl, hb3⟩
  rw [← HF.out]
  have M3 := Lib.hid (M2.out.below hb3)
  have z23 := hb3.size
  have W3 := Lib.hid (W2.out.below hb3 W2.out.lt)
  have B3 := Lib.hid (B2.out.trans (hb3.mono z2))
  clear hb3 q0 q1 q2
  go_wp2_with fail
  refine (int_at A2 c2 12 X2 w2.heap.size 2 2 f _ L2.out.symm rfl M3.out z23 (by have := L2.out; omega)).mono ?_
  rintro e w4 ⟨v4, rfl, ho, hb4⟩
  rw [← HX3.out, L3.out] at ho
  have O4 := Lib.hid (own_at_base (b' := w.heap.size) ho (by have := B3.out.size; omega))
  obtain ⟨A4, c4, rfl, _, _⟩ := own_form ho
  have M4 := Lib.hid (Lies.own ho (Nat.le_refl _))
  have W4 := Lib.hid (W3.out.below hb4 W3.out.lt)
  have B4 := Lib.hid (B3.out.trans (hb4.mono B3.out.size))
  have z4 := B4.out.size
  clear ho hb4
  have r0 : w4.cell? ⟨w.heap.size, 0, none⟩ = some (.int .u64 s) := W4.out.cell 0
  have r1 : w4.cell? ⟨w.heap.size, 1, none⟩ = some (.int .i64 (m : Int)) := W4.out.cell 1
  have r2 : w4.cell? ⟨w.heap.size, 2, none⟩ = some (.string ⟨t.toArray⟩) := W4.out.cell 2

  go_wp2_with fail
  refine (short_at A4 c4 14 X3 w4.heap.size t _ L3.out.symm M4.out (Nat.le_refl _) (by have := L3.out; omega) h255).mono ?_
  rintro e w5 ⟨v5, rfl, ho, hb5⟩
  obtain ⟨X5, hX5⟩ : ∃ X5, X5 = X3 ++ be 1 t.length ++ t := ⟨_, rfl⟩
  rw [← hX5] at ho
  have x5 : X5.length = 15 + t.length := by rw [hX5, List.length_append, List.length_append, be_length, L3.out]
  rw [x5] at ho
  have HX5 := Lib.hid hX5
  have L5 := Lib.hid x5
  have O5 := Lib.hid (own_at_base (b' := w.heap.size) ho z4)
  obtain ⟨A5, c5, rfl, _, _⟩ := own_form ho
  have M5 := Lib.hid (Lies.own ho (Nat.le_refl _))
  have W5 := Lib.hid (W4.out.below hb5 W4.out.lt)
  have B5 := Lib.hid (B4.out.trans (hb5.mono z4))
  have z5 := B5.out.size
  clear ho hb5 r0 r1 r2 hX5 x5
  have s1 : w5.cell? ⟨w.heap.size, 1, none⟩ = some (.int .i64 (m : Int)) := W5.out.cell 1

  go_wp2_with fail
  refine (int_at A5 c5 (15 + t.length) X5 w5.heap.size 1 1 m _ L5.out.symm rfl M5.out (Nat.le_refl _) (by have := L5.out; omega)).mono ?_
  rintro e w6 ⟨v6, rfl, ho, hb6⟩
  have O6 := Lib.hid (own_at_base (b' := w.heap.size) ho z5)
  have B6 := Lib.hid (B5.out.trans (hb6.mono z5))
  clear ho hb6
  go_wp2_with fail
  go_ret2
  exact CWrite.yes hok.out (by rw [HX5.out]; rw [HX3.out, HX2.out, HX1.out, HF.out]; unfold headB hpartT hpartM; simp only [Int.toNat_natCast, List.append_assoc, List.append_nil, if_true, if_false, hm, HX5.out, ht, hmi]) rfl O6.out B6.out

theorem cwrite_any (s : Nat) (m : Int) (t : List UInt8) (w : World) (hl : t.length ≤ maxLen) :
    Calls Try.prog 18 #[.agg #[.int .u64 s, .int .i64 m, .string ⟨t.toArray⟩]] w (CWrite s m t w) := by
  by_cases hr : 0 ≤ m ∧ m ≤ 2
  · by_cases hm : m = 0
    · subst hm
      by_cases ht : t = []
      · subst ht
        exact cwrite_a s w
      · by_cases h255 : t.length ≤ 255
        · exact cwrite_d s t w ht h255
        · exact cwrite_c s 0 t w ht (by omega) (by omega) hl
    · obtain ⟨k, rfl⟩ : ∃ k : Nat, m = (k : Int) := ⟨m.toNat, by omega⟩
      have h2 : k ≤ 2 := by omega
      have hk : ¬ k = 0 := by omega
      by_cases ht : t = []
      · subst ht
        exact cwrite_b s k w hk h2
      · by_cases h255 : t.length ≤ 255
        · exact cwrite_e s k t w ht hk h2 h255
        · exact cwrite_c s k t w ht h2 (by omega) hl
  · have hok : headOk m t = false := by unfold headOk; exact decide_eq_false (by omega)
    have HK := Lib.hid hok
    have hb : Below w.heap.size w (w.alloc (.cells #[.int .u64 s, .int .i64 m, .string ⟨t.toArray⟩] 25)) := (Below.refl _ _).alloc (Nat.le_refl _) _
    have HB := Lib.hid hb
    clear hok hb
    by_cases h0 : m < 0
    · go_enter Try.func18, Try.ntmps18
      go_wp2_with fail
      go_ret2
      exact CWrite.no HK.out HB.out
    · have h1 : 0 ≤ m := by omega
      have h2 : 2 < m := by omega
      clear hr
      go_enter Try.func18, Try.ntmps18
      go_wp2_with fail
      go_ret2
      exact CWrite.no HK.out HB.out
end Go.Proofs.Ytfajkbegmmlmjaa
