/- Contracts of package cont: a head behind other octets. -/
import Derived.Test.YtfajkbegmmlmjaaContX
namespace Go.Proofs.Ytfajkbegmmlmjaa
open Go.RowKit
set_option maxRecDepth 100000
set_option linter.unusedSimpArgs false
set_option linter.unusedVariables false

def cappB (l : List UInt8) (s : Nat) (m : Int) (t : List UInt8) : List UInt8 := if headOk m t then l ++ headB s m t else l
theorem cappend_any (A : Option Addr) (c n : Nat) (l : List UInt8) (B : Nat) (s : Nat) (m : Int) (t : List UInt8) (w : World) (hn : n = l.length) (hl : Lies w B A (B8 l)) (hB : B ≤ w.heap.size) (hs : l.length ≤ 70368744177664) (ht : t.length ≤ maxLen) :
    Calls Try.prog 8 #[.slice A n c, .agg #[.int .u64 s, .int .i64 m, .string ⟨t.toArray⟩]] w (NewOctsOk w.heap.size (cappB l s m t) (headOk m t) w) := by
  subst hn
  obtain ⟨W, hW⟩ : ∃ W, W = w.alloc (.cells #[.int .u64 s, .int .i64 m, .string ⟨t.toArray⟩] 25) := ⟨_, rfl⟩
  have hb : Below w.heap.size w W := by rw [hW]; exact (Below.refl _ _).alloc (Nat.le_refl _) _
  have hz : W.heap.size = w.heap.size + 1 := by rw [hW]; simp
  have HL := Lib.hid (hl.below (hb.mono hB))
  have HB := Lib.hid hb
  have HZ := Lib.hid hz
  have HW := Lib.hid hW
  obtain ⟨i0, hi, hz0, hz1, hz2⟩ := info_parts u8_info
  have HI := Lib.hid hi
  have H0 := Lib.hid hz0
  have H1 := Lib.hid hz1
  have H2 := Lib.hid hz2
  obtain ⟨Z, hZ⟩ : ∃ Z, Z = headB s m t := ⟨_, rfl⟩
  have hZl : Z.length ≤ 15 + t.length + 1 := by
    rw [hZ, headB_length]
    split <;> split <;> omega
  obtain ⟨ok, hok⟩ : ∃ ok, ok = headOk m t := ⟨_, rfl⟩
  have h255 : ok = true → t.length ≤ 255 := by
    rw [hok]
    unfold headOk
    intro h
    simp only [decide_eq_true_eq] at h
    omega
  obtain ⟨R, hR⟩ : ∃ R, R = cappB l s m t := ⟨_, rfl⟩
  have HC : Hid (R = if ok = true then l ++ Z else l) := Lib.hid (by rw [hR]; unfold cappB; rw [hok, hZ])
  have HOK := Lib.hid hok
  have HZZ := Lib.hid hZ
  have HZL := Lib.hid hZl
  have H255 := Lib.hid h255
  rw [← hR, ← hok]
  clear hb hz hW hi hz0 hz1 hz2 hZ hZl hok h255 hl hR
  go_enter Try.func8, Try.ntmps8
  go_wp2_with fail
  rw [← HW.out]
  refine (cwrite_any s m t _ ht).mono ?_
  intro e w1 h
  unfold CWrite at h
  rw [← HOK.out, ← HZZ.out] at h
  cases ok with
  | true =>
    rw [if_pos rfl] at h
    have HC1 : Hid (R = l ++ Z) := Lib.hid (by rw [HC.out, if_pos rfl])
    clear HC
    obtain ⟨v, rfl, ho, hb1⟩ := h
    obtain ⟨A1, c1, rfl, _, _⟩ := own_form ho
    have M1 := Lib.hid (Lies.own ho (Nat.le_refl _))
    have B1 := Lib.hid (HB.out.trans (hb1.mono (by rw [HZ.out]; omega)))
    have L1 := Lib.hid (HL.out.below (hb1.mono (by rw [HZ.out]; omega)))
    have z1 := B1.out.size
    clear ho hb1
    go_wp2_with fail
    refine (clone_any A c l B _ L1.out (by omega) (by omega)).mono ?_
    rintro e w2 ⟨v2, rfl, ho2, hb2⟩
    have O2 := Lib.hid (own_at_base (b' := w.heap.size) ho2 z1)
    have M2 := Lib.hid (M1.out.below hb2)
    have B2 := Lib.hid (B1.out.trans (hb2.mono z1))
    have z2 := B2.out.size
    have hlen : l.length + Z.length ≤ 140737488355328 := by
      have h1 := HZL.out
      have h2 := H255.out trivial
      omega
    have HLen := Lib.hid hlen
    clear ho2 hb2 hlen
    go_wp2_with (at_builtin; refine wpList_append_cells rfl _ _ 26 rfl w.heap.size 5 i0 (.int .u8 0) 1 1 Try.underlying26 HI.out H0.out H1.out H2.out rfl (by omega) _ l.length _ rfl O2.out w1.heap.size A1 Z.length c1 (B8 Z) rfl M2.out (B8_len1 Z) (B8_one Z) (room63 HLen.out) (room1 HLen.out) z2 ?_; intro v' w3 hown3 hbel3)
    rw [← B8_append, ← List.length_append, ← HC1.out] at hown3
    have B3 := B2.out.trans hbel3
    go_ret2
    exact ⟨_, rfl, hown3, B3⟩
  | false =>
    rw [if_neg (by decide)] at h
    have HC1 : Hid (R = l) := Lib.hid (by rw [HC.out, if_neg (by decide)])
    clear HC
    obtain ⟨rfl, hb1⟩ := h
    have B1 := Lib.hid (HB.out.trans (hb1.mono (by rw [HZ.out]; omega)))
    have L1 := Lib.hid (HL.out.below (hb1.mono (by rw [HZ.out]; omega)))
    have z1 := B1.out.size
    clear hb1
    go_wp2_with fail
    refine (clone_any A c l B _ L1.out (by omega) (by omega)).mono ?_
    rintro e w2 ⟨v2, rfl, ho2, hb2⟩
    have O2 := Lib.hid (own_at_base (b' := w.heap.size) ho2 z1)
    have B2 := Lib.hid (B1.out.trans (hb2.mono z1))
    have z2 := B2.out.size
    have hlen : l.length + 0 ≤ 140737488355328 := by omega
    have HLen := Lib.hid hlen
    clear ho2 hb2 hlen
    go_wp2_with (at_builtin; refine wpList_append_cells rfl _ _ 26 rfl w.heap.size 5 i0 (.int .u8 0) 1 1 Try.underlying26 HI.out H0.out H1.out H2.out rfl (by omega) _ l.length _ rfl O2.out 0 none 0 0 [] rfl (Lies.empty _ _ _) rfl (by simp) (room63 HLen.out) (room1 HLen.out) z2 ?_; intro v' w3 hown3 hbel3)
    rw [List.append_nil, Nat.add_zero, ← HC1.out] at hown3
    have B3 := B2.out.trans hbel3
    go_ret2
    exact ⟨_, rfl, hown3, B3⟩
end Go.Proofs.Ytfajkbegmmlmjaa
