/- Contracts of the document's own answer for layer 2: what is written. -/
import Derived.Test.YtlfppfknelddcaaDoorTablV0
import Derived.Test.YtlfppfknelddcaaDoorRef
namespace Go.Proofs.YtlfppfknelddcaaDoor
open Go.RowKit
set_option maxRecDepth 100000

theorem rshort_any (A : Option Addr) (c : Nat) (l : List UInt8) (B : Nat) (s : List UInt8) (w : World) (hl : Lies w B A (B8 l)) (hB : B ≤ w.heap.size) (hs : l.length + s.length + 8 ≤ 140737488355328) :
    Calls Tryd.prog 27 #[.slice A l.length c, .string ⟨s.toArray⟩] w (NewOcts w.heap.size (l ++ be 1 s.length ++ s) w) := by
  obtain ⟨i0, hi, hz0, hz1, hz2⟩ := info_parts u8_info
  have HI := Lib.hid hi
  have H0 := Lib.hid hz0
  have H1 := Lib.hid hz1
  have H2 := Lib.hid hz2
  have HL := Lib.hid hl
  clear hi hz0 hz1 hz2 hl
  go_enter Tryd.func27, Tryd.ntmps27
  go_wp2_with fail
  refine (put_any A c l B 1 s.length _ HL.out hB (by omega) (by omega) (by omega)).mono ?_
  rintro e w1 ⟨v1, rfl, hown, hb1⟩
  have HO := Lib.hid hown
  have HB := Lib.hid hb1
  have hz := hb1.size
  have hlen : (l ++ be 1 s.length).length + (⟨s.toArray⟩ : ByteArray).size ≤ 140737488355328 := by rw [bsize, List.length_append, be_length]; omega
  have HLen := Lib.hid hlen
  clear hown hb1 hlen
  go_wp2_with (at_builtin; refine Lib.wpList_append_own_string _ rfl _ _ 24 9 rfl w.heap.size 5 i0 Tryd.underlying24 Tryd.underlying9 HI.out H0.out H1.out H2.out _ _ _ rfl HO.out ⟨s.toArray⟩ rfl (room63 HLen.out) HLen.out hz ?_; intro v3 w3 hown3 hg _)
  rw [strCells_B8, ← B8_append] at hown3
  have hbel3 := HB.out.trans ((Below.refl w.heap.size w1).grown hg hz (fun k hk => (HO.out.lt k hk).1))
  go_ret
  refine ⟨_, rfl, ?_, hbel3⟩
  rw [List.length_append]
  exact hown3
end Go.Proofs.YtlfppfknelddcaaDoor
