/- The document's answer: long texts that are written. -/
import Derived.Test.YtflbjmpbkcjdhaaRef
namespace Go.Proofs.Ytflbjmpbkcjdhaa
open Go.RowKit
set_option maxRecDepth 100000

theorem rlong_any (A : Option Addr) (c : Nat) (l : List UInt8) (B : Nat) (A' : Option Addr) (c' : Nat) (s : List UInt8) (w : World) (hl : Lies w B A (B8 l)) (hl' : Lies w B A' (B8 s)) (hB : B ≤ w.heap.size) (hs : l.length + s.length + 8 ≤ 140737488355328) :
    Calls Try.prog 22 #[.slice A l.length c, .slice A' s.length c'] w (NewOcts w.heap.size (l ++ be 4 s.length ++ s) w) := by
  obtain ⟨i0, hi, hz0, hz1, hz2⟩ := info_parts u8_info
  have HI := Lib.hid hi
  have H0 := Lib.hid hz0
  have H1 := Lib.hid hz1
  have H2 := Lib.hid hz2
  have HL := Lib.hid hl
  have HL' := Lib.hid hl'
  clear hi hz0 hz1 hz2 hl hl'
  go_enter Try.func22, Try.ntmps22
  go_wp2_with fail
  refine (put_any A c l B 4 s.length _ HL.out hB (by omega) (by omega) (by omega)).mono ?_
  rintro e w1 ⟨v1, rfl, hown, hb1⟩
  have HO := Lib.hid hown
  have HB := Lib.hid hb1
  have hz := hb1.size
  have hlen : (l ++ be 4 s.length).length + s.length ≤ 140737488355328 := by rw [List.length_append, be_length]; omega
  have HLen := Lib.hid hlen
  have HL2 := Lib.hid (HL'.out.below (HB.out.mono hB))
  clear hown hb1 hlen
  go_wp2_with (at_builtin; refine wpList_append_cells rfl _ _ 22 rfl w.heap.size 5 i0 (.int .u8 0) 1 1 Try.underlying22 HI.out H0.out H1.out H2.out rfl (by omega) _ _ _ rfl HO.out B A' s.length c' (B8 s) rfl HL2.out (B8_len1 s) (B8_one s) (room63 HLen.out) (room1 HLen.out) hz ?_; intro v' w3 hown3 hbel3)
  rw [← B8_append] at hown3
  go_ret
  refine ⟨_, rfl, ?_, HB.out.trans hbel3⟩
  rw [List.length_append]
  exact hown3
end Go.Proofs.Ytflbjmpbkcjdhaa
