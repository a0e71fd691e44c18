/- Contracts of the document's own answer: numbers and texts that are written. -/
import Derived.Test.YtfajkbegmmlmjaaRef
namespace Go.Proofs.Ytfajkbegmmlmjaa
open Go.RowKit
set_option maxRecDepth 100000

set_option maxHeartbeats 400000 in
theorem put_any (A : Option Addr) (c : Nat) (l : List UInt8) (B n x : Nat) (w : World) (hl : Lies w B A (B8 l)) (hB : B ≤ w.heap.size) (hn1 : 1 ≤ n) (hn8 : n ≤ 8) (hs : l.length + 8 ≤ 140737488355328) :
    Calls Try.prog 17 #[.slice A l.length c, .int .i64 n, .int .u64 x] w (NewOcts w.heap.size (l ++ be n x) w) := by
  obtain ⟨i0, hi, hz0, hz1, hz2⟩ := info_parts u8_info
  have hown0 : (w.alloc (.cells #[] 5)).ownsRow w.heap.size 5 1 (.slice (some ⟨w.heap.size, 0, none⟩) 0 0) 0 [] := World.ownsRow_made w #[] 0 (Nat.le_refl _) (Nat.zero_le _) rfl
  have hl' := hl.alloc hB (.cells #[] 5)
  have hs' : 0 + l.length ≤ 140737488355328 := by omega
  have hb0 : Below w.heap.size w (w.alloc (.cells #[] 5)) := (Below.refl _ _).alloc (Nat.le_refl _) _
  have hz : w.heap.size ≤ (w.alloc (.cells #[] 5)).heap.size := by simp
  have HI := Lib.hid hi
  have H0 := Lib.hid hz0
  have H1 := Lib.hid hz1
  have H2 := Lib.hid hz2
  have HL := Lib.hid hl'
  have HO := Lib.hid hown0
  have HB := Lib.hid hb0
  have HZ := Lib.hid hz
  clear hi hz0 hz1 hz2 hl' hown0 hb0 hz hl
  go_enter Try.func17, Try.ntmps17
  go_wp2_with (at_builtin; refine wpList_append_cells rfl _ _ 26 rfl w.heap.size 5 i0 (.int .u8 0) 1 1 Try.underlying26 HI.out H0.out H1.out H2.out rfl (by omega) _ 0 [] rfl HO.out B _ l.length c (B8 l) rfl HL.out (B8_len1 l) (B8_one l) (room63 hs') (room1 hs') HZ.out ?_; intro v1 w1 hown1 hb1; rw [Nat.zero_add, List.nil_append] at hown1; have HO1 := Lib.hid hown1; have HB1 := Lib.hid (HB.out.trans hb1); clear hown1 hb1)
  go_loopw [7, 8] (fun b i wr => ∃ j : Nat, j ≤ n ∧ i = .int .i64 ((n : Int) - 1 - j) ∧ Below w.heap.size w wr ∧ wr.ownsRow w.heap.size 5 1 b (l.length + j) (B8 (l ++ (be n x).take j))) (fun _ i _ => (intOf i + 1).toNat)
  case atStart => exact ⟨0, Nat.zero_le _, by go_num, HB1.out, by simpa using HO1.out⟩
  case round =>
    obtain ⟨j, hj, rfl, hbel, hown⟩ := hrel
    have HBR := Lib.hid hbel
    have HOR := Lib.hid hown
    have hsz := hbel.size
    clear hbel hown
    by_cases hlt : j < n
    · have hone : ∀ u ∈ [Value.int .u8 ((x : Int) / 2 ^ (8 * (n - 1 - j)) % 256)], u.oneCell' = true := by simp [Value.oneCell']
      have HN := Lib.hid hone
      have hbs : w.heap.size ≤ (wr.alloc (.cells #[.int .u8 ((x : Int) / 2 ^ (8 * (n - 1 - j)) % 256)] 5)).heap.size := by simp; omega
      have HBS := Lib.hid hbs
      have hs2 : l.length + j + 1 ≤ 140737488355328 := by omega
      clear hone hbs
      go_wp2_with (at_builtin; refine wpList_append_cells rfl _ _ 26 rfl w.heap.size 5 i0 (.int .u8 0) 1 1 Try.underlying26 HI.out H0.out H1.out H2.out rfl (by omega) _ (l.length + j) _ rfl (HOR.out.alloc _) _ _ 1 1 _ rfl (Lies.one wr 5 _) rfl HN.out (room63 hs2) (room1 hs2) HBS.out ?_; intro v' w2 hown2 hbel2)
      have hbel3 := (HBR.out.alloc (by omega) _).trans hbel2
      rw [← be_next l n x j hlt] at hown2
      have HB3 := Lib.hid hbel3
      have HO2 := Lib.hid hown2
      clear hbel2 hown2 hbel3
      go_wp2_with fail
      go_roundw
      case rel => exact ⟨j + 1, by omega, by go_num, HB3.out, HO2.out⟩
      case measure => simp [intOf]; omega
    · obtain rfl : j = n := by omega
      go_wp2_with fail
      go_ret
      refine ⟨_, rfl, ?_, HBR.out⟩
      have h := HOR.out
      rw [List.take_of_length_le (by rw [be_length]; exact Nat.le_refl _)] at h
      rw [List.length_append, be_length]
      exact h

theorem rlong_any (A : Option Addr) (c : Nat) (l : List UInt8) (B : Nat) (A' : Option Addr) (c' : Nat) (s : List UInt8) (w : World) (hl : Lies w B A (B8 l)) (hl' : Lies w B A' (B8 s)) (hB : B ≤ w.heap.size) (hs : l.length + s.length + 8 ≤ 140737488355328) :
    Calls Try.prog 38 #[.slice A l.length c, .slice A' s.length c'] w (NewOcts w.heap.size (l ++ be 4 s.length ++ s) w) := by
  obtain ⟨i0, hi, hz0, hz1, hz2⟩ := info_parts u8_info
  have HI := Lib.hid hi
  have H0 := Lib.hid hz0
  have H1 := Lib.hid hz1
  have H2 := Lib.hid hz2
  have HL := Lib.hid hl
  have HL' := Lib.hid hl'
  clear hi hz0 hz1 hz2 hl hl'
  go_enter Try.func38, Try.ntmps38
  go_wp2_with fail
  refine (put_any A c l B 4 s.length _ HL.out hB (by omega) (by omega) (by omega)).mono ?_
  rintro e w1 ⟨v1, rfl, hown, hb1⟩
  have HO := Lib.hid hown
  have HB := Lib.hid hb1
  have hz := hb1.size
  have hlen : (l ++ be 4 s.length).length + s.length ≤ 140737488355328 := by rw [List.length_append, be_length]; omega
  have HLen := Lib.hid hlen
  have HL2 := Lib.hid (HL'.out.below (HB.out.mono hB))
  clear hown hb1 hlen
  go_wp2_with (at_builtin; refine wpList_append_cells rfl _ _ 26 rfl w.heap.size 5 i0 (.int .u8 0) 1 1 Try.underlying26 HI.out H0.out H1.out H2.out rfl (by omega) _ _ _ rfl HO.out B A' s.length c' (B8 s) rfl HL2.out (B8_len1 s) (B8_one s) (room63 HLen.out) (room1 HLen.out) hz ?_; intro v' w3 hown3 hbel3)
  rw [← B8_append] at hown3
  go_ret
  refine ⟨_, rfl, ?_, HB.out.trans hbel3⟩
  rw [List.length_append]
  exact hown3
end Go.Proofs.Ytfajkbegmmlmjaa
