/- The fixed call that every statement of layer 5 asks. -/
import Derived.Test.YtfajkbegmmlmjaaContP
namespace Go.Proofs.Ytfajkbegmmlmjaa
open Go.RowKit
set_option maxRecDepth 100000
set_option linter.unusedSimpArgs false
set_option linter.unusedVariables false

theorem cappend_at (A : Option Addr) (c n : Nat) (l : List UInt8) (B : Nat) (s : Nat) (m : Int) (t : List UInt8) (w : World) (ok : Bool) (Z : List UInt8) (hn : n = l.length) (hl : Lies w B A (B8 l)) (hB : B ≤ w.heap.size) (hs : l.length ≤ 70368744177664) (ht : t.length ≤ maxLen) (hok : headOk m t = ok) (hZ : cappB l s m t = Z) :
    Calls Try.prog 8 #[.slice A n c, .agg #[.int .u64 s, .int .i64 m, .string ⟨t.toArray⟩]] w (NewOctsOk w.heap.size Z ok w) := by
  subst hok hZ
  exact cappend_any A c n l B s m t w hn hl hB hs ht
theorem cparse_yes (A : Option Addr) (c n : Nat) (b : List UInt8) (B : Nat) (w : World) (s m : Nat) (t : List UInt8) (hn : n = b.length) (hl : Lies w B A (B8 b)) (hB : B ≤ w.heap.size) (hs : b.length ≤ 140737488355328) (hP : headP b = some (s, m, t)) :
    Calls Try.prog 9 #[.slice A n c] w fun e w' => e = .returned (.tuple #[.agg #[.int .u64 s, .int .i64 m, .string ⟨t.toArray⟩], .int .i64 0]) ∧ Below w.heap.size w w' := by
  refine (cparse_any A c n b B w hn hl hB hs).mono ?_
  rw [hP]
  rintro e w' ⟨h1, h2⟩
  exact ⟨h2, h1⟩
theorem cparse_no (A : Option Addr) (c n : Nat) (b : List UInt8) (B : Nat) (w : World) (hn : n = b.length) (hl : Lies w B A (B8 b)) (hB : B ≤ w.heap.size) (hs : b.length ≤ 140737488355328) (hP : headP b = none) :
    Calls Try.prog 9 #[.slice A n c] w fun e w' => e = .returned (.tuple #[.agg #[.int .u64 0, .int .i64 0, .string ⟨#[]⟩], .int .i64 4]) ∧ Below w.heap.size w w' := by
  refine (cparse_any A c n b B w hn hl hB hs).mono ?_
  rw [hP]
  rintro e w' ⟨h1, h2⟩
  exact ⟨h2, h1⟩
theorem hone_ok : headOk 2 [] = true := by decide
theorem hone_back : headP (headB 5 2 []) = some (5, 2, []) := head_back 5 2 [] (by decide) hone_ok
theorem hnil_none : headP [] = none := by
  unfold headP hBad3
  rw [short_yes (by simp)]
  unfold headQ
  rw [if_neg]
  rintro ⟨h, _⟩
  unfold hBad5 hBad4 at h
  split at h <;> split at h <;> simp at h
set_option maxHeartbeats 400000 in
theorem awake5_any (w : World) : Calls Try.prog 7 #[] w fun e w' => e = .returned (.bool true) ∧ Below w.heap.size w w' := by
  obtain ⟨Z, hZ⟩ : ∃ Z, Z = headB 5 2 [] := ⟨_, rfl⟩
  have hZl : Z.length = 15 := by rw [hZ]; rfl
  have hZc : cappB [] 5 2 [] = Z := by rw [hZ]; rfl
  have z12 : (B8 Z)[12]? = some (.int .u8 16) := by rw [hZ]; rfl
  have z14 : (B8 Z)[14]? = some (.int .u8 2) := by rw [hZ]; rfl
  have hP : headP Z = some (5, 2, []) := by rw [hZ]; exact hone_back
  have HZL := Lib.hid hZl
  have HZC := Lib.hid hZc
  have HZ12 := Lib.hid z12
  have HZ14 := Lib.hid z14
  have HP := Lib.hid hP
  clear hZ hZl hZc z12 z14 hP
  go_enter Try.func7, Try.ntmps7
  go_wp2_with fail
  refine (cappend_at none 0 0 [] 0 5 2 [] _ true Z rfl (Lies.empty _ _ _) (Nat.zero_le _) (by simp) (by simp) hone_ok HZC.out).mono ?_
  rintro e w1 ⟨v1, rfl, ho, hb⟩
  rw [HZL.out] at ho
  obtain ⟨A1, c1, rfl, hc1, hm1⟩ := own_form ho
  have L1 := Lib.hid (Lies.own ho (Nat.le_refl _))
  have B1 := Lib.hid hb
  have z1 := B1.out.size
  clear ho hb
  go_wp2_with fail
  refine (cparse_yes A1 c1 15 Z w1.heap.size _ 5 2 [] HZL.out.symm L1.out (Nat.le_refl _) (by rw [HZL.out]; decide) HP.out).mono ?_
  rintro e w2 ⟨rfl, hb⟩
  have L2 := Lib.hid (L1.out.below hb)
  have B2 := Lib.hid (B1.out.trans (hb.mono z1))
  have z2 := hb.size
  obtain ⟨w3, hw3⟩ : ∃ w3, w3 = w2.alloc (.cells #[.int .u64 5, .int .i64 2, .string ⟨#[]⟩] 25) := ⟨_, rfl⟩
  have hb3 : Below w2.heap.size w2 w3 := by rw [hw3]; exact (Below.refl _ _).alloc (Nat.le_refl _) _
  have hs3 : w3.heap.size = w2.heap.size + 1 := by rw [hw3]; simp
  have K3 : Hid (Whole w3 w2.heap.size 25 #[.int .u64 5, .int .i64 2, .string ⟨#[]⟩]) := Lib.hid (by rw [hw3]; exact Whole.new _ _ _)
  have L3 := Lib.hid (L2.out.below (hb3.mono (by omega)))
  have B3 := Lib.hid (B2.out.trans (hb3.mono (by omega)))
  have HW3 := Lib.hid hw3
  have HS3 := Lib.hid hs3
  clear hb hb3 hs3 hw3
  go_wp2_with fail
  refine (cparse_no none 0 0 [] 0 _ rfl (Lies.empty _ _ _) (Nat.zero_le _) (by simp) hnil_none).mono ?_
  rw [show w2.alloc (.cells #[.int .u64 5, .int .i64 2, .string ⟨#[]⟩] 25) = w3 from HW3.out.symm]
  rintro e w4 ⟨rfl, hb⟩
  obtain ⟨w5, hw5⟩ : ∃ w5, w5 = w4.alloc (.cells #[.int .u64 0, .int .i64 0, .string ⟨#[]⟩] 25) := ⟨_, rfl⟩
  have hb5 : Below w3.heap.size w3 w5 := by rw [hw5]; exact hb.alloc hb.size _
  have L5 := Lib.hid (L3.out.below (hb5.mono (by have := HS3.out; omega)))
  have K5 := Lib.hid (K3.out.below hb5 (by have := HS3.out; omega))
  have B5 := Lib.hid (B3.out.trans (hb5.mono (by have := HS3.out; omega)))
  have HW5 := Lib.hid hw5
  clear hb hb5
  obtain ⟨bz, oz, rfl, _, hz⟩ := L5.out.resolve_left (by intro h; have := congrArg List.length h; rw [B8_length, HZL.out] at this; simp at this)
  have p12 : w5.cell? ⟨bz, oz + 12, none⟩ = some (.int .u8 16) := hz 12 _ HZ12.out
  have p14 : w5.cell? ⟨bz, oz + 14, none⟩ = some (.int .u8 2) := hz 14 _ HZ14.out
  have q0 : w5.cell? ⟨w2.heap.size, 0, none⟩ = some (.int .u64 5) := K5.out.cell 0
  have q1 : w5.cell? ⟨w2.heap.size, 1, none⟩ = some (.int .i64 2) := K5.out.cell 1
  have q2 : w5.cell? ⟨w2.heap.size, 2, none⟩ = some (.string ⟨#[]⟩) := K5.out.cell 2
  unfold maxLen at hm1
  clear hz
  rw [hw5] at p12 p14 q0 q1 q2
  clear hw5
  go_wp2_with fail
  go_ret
  exact ⟨rfl, by rw [← HW5.out]; exact B5.out⟩
end Go.Proofs.Ytfajkbegmmlmjaa
