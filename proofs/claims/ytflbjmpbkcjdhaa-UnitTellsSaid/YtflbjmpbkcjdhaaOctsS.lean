/- Contracts of package octs: texts that are written. -/
import Derived.Test.YtflbjmpbkcjdhaaOctsW
namespace Go.Proofs.Ytflbjmpbkcjdhaa
open Go.RowKit
set_option maxRecDepth 100000
theorem strCells_B8 (s : ByteArray) : Lib.strCells s = B8 s.data.toList := by
  simp [Lib.strCells, B8]
theorem short_any (A : Option Addr) (c : Nat) (l : List UInt8) (B : Nat) (s : ByteArray) (w : World) (hl : Lies w B A (B8 l)) (hB : B ≤ w.heap.size) (hs : l.length + 264 ≤ 140737488355328) (h255 : s.size ≤ 255) :
    Calls Try.prog 35 #[.slice A l.length c, .string s] w (NewOctsOk w.heap.size (l ++ be 1 s.size ++ s.data.toList) true w) := by
  obtain ⟨i0, hi, hz0, hz1, hz2⟩ := info_parts u8_info
  have HI := Lib.hid hi
  have H0 := Lib.hid hz0
  have H1 := Lib.hid hz1
  have H2 := Lib.hid hz2
  have HL := Lib.hid hl
  clear hi hz0 hz1 hz2 hl
  go_enter Try.func35, Try.ntmps35
  go_wp2_with fail
  rw [show ((1 : Int) + (s.size : Int)) = ((1 + s.size : Nat) : Int) from by omega]
  refine (roomy_any A c l B (1 + s.size) _ HL.out hB (by omega)).mono ?_
  rintro e w1 ⟨v, rfl, hown, hbel⟩
  have HO := Lib.hid hown
  have HB := Lib.hid hbel
  have hsz := hbel.size
  clear hown hbel
  go_wp2_with fail
  refine (addInt_any w.heap.size v l 1 s.size _ HO.out hsz (by omega) (by omega) (by omega)).mono ?_
  rintro e w2 ⟨v2, rfl, hown2, hbel2⟩
  have HO2 := Lib.hid hown2
  have HB2 := Lib.hid (HB.out.trans hbel2)
  have hsz2 := hbel2.size
  have hsz3 : w.heap.size ≤ w2.heap.size := by omega
  have hlen : (l ++ be 1 s.size).length + s.size ≤ 140737488355328 := by rw [List.length_append, be_length]; omega
  have HLen := Lib.hid hlen
  clear hown2 hbel2 hlen
  go_wp2_with (at_builtin; refine Lib.wpList_append_own_string _ rfl _ _ 22 9 rfl w.heap.size 5 i0 Try.underlying22 Try.underlying9 HI.out H0.out H1.out H2.out _ _ _ rfl HO2.out s rfl (room63 HLen.out) HLen.out hsz3 ?_; intro v3 w3 hown3 hg _)
  rw [strCells_B8, ← B8_append] at hown3
  have hbel3 := HB2.out.grown hg hsz3 (fun k hk => (HO2.out.lt k hk).1)
  go_ret2
  refine ⟨_, rfl, ?_, hbel3⟩
  rw [List.length_append]
  exact hown3
theorem short_not (A : Option Addr) (c : Nat) (l : List UInt8) (B : Nat) (s : ByteArray) (w : World) (hl : Lies w B A (B8 l)) (hB : B ≤ w.heap.size) (hs : l.length ≤ 140737488355328) (h255 : 255 < s.size) (hm : s.size ≤ maxLen) :
    Calls Try.prog 35 #[.slice A l.length c, .string s] w (NewOctsOk w.heap.size l false w) := by
  have HL := Lib.hid hl
  unfold maxLen at hm
  clear hl
  go_enter Try.func35, Try.ntmps35
  go_wp2_with fail
  refine (clone_any A c l B _ HL.out hB hs).mono ?_
  rintro e w1 ⟨v, rfl, hown, hbel⟩
  have HO := Lib.hid hown
  have HB := Lib.hid hbel
  clear hown hbel
  go_wp2_with fail
  go_ret2
  exact ⟨_, rfl, HO.out, HB.out⟩

end Go.Proofs.Ytflbjmpbkcjdhaa
