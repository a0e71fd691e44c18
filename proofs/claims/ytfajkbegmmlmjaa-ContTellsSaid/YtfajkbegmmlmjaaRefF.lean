/- Contracts of the document's own answer: a frame is written; a number beyond the end. -/
import Derived.Test.YtfajkbegmmlmjaaFramB
import Derived.Test.YtfajkbegmmlmjaaRefW
import Derived.Deep.RegionWith
namespace Go.Proofs.Ytfajkbegmmlmjaa
open Go.RowKit
set_option maxRecDepth 100000

set_option maxRecDepth 100000 in
theorem rframe_any (A : Option Addr) (c n : Nat) (l : List UInt8) (B : Nat) (k ch : Nat) (A2 : Option Addr) (b : List UInt8) (c2 : Nat) (w : World) (hn : n = l.length) (hl : Lies w B A (B8 l)) (hB : B ≤ w.heap.size) (hs : l.length ≤ 70368744177664) (hb : Lies w B A2 (B8 b)) (h3 : b.length ≤ 5000) (hk8 : k ≤ 8) (hch : ch ≤ 65535) :
    Calls Try.prog 30 #[.slice A n c, .agg #[.int .i64 k, .int .i64 ch, .slice A2 b.length c2]] w (NewOcts w.heap.size (l ++ frameB k ch b) w) := by
  subst hn
  obtain ⟨wa, hwa⟩ : ∃ wa, wa = w.alloc (.cells #[.int .i64 k, .int .i64 ch, .slice A2 b.length c2] 44) := ⟨_, rfl⟩
  have hb0 : Below w.heap.size w wa := by rw [hwa]; exact (Below.refl _ _).alloc (Nat.le_refl _) _
  have HL := Lib.hid (hl.below (hb0.mono hB))
  have HLB := Lib.hid (hb.below (hb0.mono hB))
  have W0 : Hid (Whole wa w.heap.size 44 #[.int .i64 k, .int .i64 ch, .slice A2 b.length c2]) := Lib.hid (by rw [hwa]; exact Whole.new _ _ _)
  have hsz : wa.heap.size = w.heap.size + 1 := by rw [hwa]; simp
  have HB0 := Lib.hid hb0
  have HQ := Lib.hid hsz
  have HWA := Lib.hid hwa
  obtain ⟨Z, hZ⟩ : ∃ Z, Z = l ++ frameB k ch b := ⟨_, rfl⟩
  rw [← hZ]
  have HZB := Lib.hid hZ
  clear hl hb hb0 hsz hwa hZ
  go_enter Try.func30, Try.ntmps30
  go_wp2_with fail
  rw [← HWA.out]
  refine (put_any A c l B 1 k _ HL.out (by rw [HQ.out]; omega) (by omega) (by omega) (by omega)).mono ?_
  rintro e w1 ⟨v1, rfl, ho, hb1⟩
  obtain ⟨X1, hX1⟩ : ∃ X1, X1 = l ++ be 1 k := ⟨_, rfl⟩
  rw [← hX1] at ho
  have x1l : X1.length = l.length + 1 := by rw [hX1, List.length_append, be_length]
  obtain ⟨A3, c3, rfl, _, _⟩ := own_form ho
  have M1 := Lib.hid (Lies.own ho (Nat.le_refl _))
  have W1 := Lib.hid (W0.out.below hb1 (by rw [HQ.out]; omega))
  have B1 := Lib.hid (HB0.out.trans (hb1.mono (by rw [HQ.out]; omega)))
  have L1 := Lib.hid (HLB.out.below (hb1.mono (by rw [HQ.out]; omega)))
  have HX1 := Lib.hid hX1
  have X1L := Lib.hid x1l
  have z1 := B1.out.size
  clear ho hb1 hX1 x1l
  have k1 : w1.cell? ⟨w.heap.size, 1, none⟩ = some (.int .i64 ch) := W1.out.cell 1
  go_wp2_with fail
  refine (put_any A3 c3 X1 _ 2 ch _ M1.out (Nat.le_refl _) (by omega) (by omega) (by have := X1L.out; omega)).mono ?_
  rintro e w2 ⟨v2, rfl, ho, hb2⟩
  obtain ⟨X2, hX2⟩ : ∃ X2, X2 = X1 ++ be 2 ch := ⟨_, rfl⟩
  rw [← hX2] at ho
  have x2l : X2.length = l.length + 3 := by rw [hX2, List.length_append, be_length, X1L.out]
  obtain ⟨A4, c4, rfl, _, _⟩ := own_form ho
  have M2 := Lib.hid (Lies.own ho (Nat.le_refl _))
  have W2 := Lib.hid (W1.out.below hb2 W1.out.lt)
  have B2 := Lib.hid (B1.out.trans (hb2.mono z1))
  have L2 := Lib.hid (L1.out.below (hb2.mono (by omega)))
  have HX2 := Lib.hid hX2
  have X2L := Lib.hid x2l
  have z2 := B2.out.size
  clear ho hb2 hX2 x2l k1
  have k2 : w2.cell? ⟨w.heap.size, 2, none⟩ = some (.slice A2 b.length c2) := W2.out.cell 2
  go_wp2_with fail
  refine (rlong_any A4 c4 X2 w2.heap.size A2 c2 b _ M2.out (L2.out.more (by omega)) (Nat.le_refl _) (by have := X2L.out; omega)).mono ?_
  rintro e w3 ⟨v3, rfl, ho, hb3⟩
  obtain ⟨X3, hX3⟩ : ∃ X3, X3 = X2 ++ be 4 b.length ++ b := ⟨_, rfl⟩
  rw [← hX3] at ho
  have x3l : X3.length = l.length + b.length + 7 := by rw [hX3, List.length_append, List.length_append, be_length, X2L.out]; omega
  have HO3 := Lib.hid (own_at_base (b' := w.heap.size) ho z2)
  have B3 := Lib.hid (B2.out.trans (hb3.mono z2))
  have z3 := B3.out.size
  have HZ4 : Hid (X3 ++ [206] = Z) := Lib.hid (by
    rw [hX3, HX2.out, HX1.out, HZB.out]
    unfold frameB
    simp only [List.append_assoc])
  have X3L := Lib.hid x3l
  obtain ⟨i0, hi, hz0, hz1, hz2⟩ := info_parts u8_info
  have HI := Lib.hid hi
  have H0 := Lib.hid hz0
  have H1 := Lib.hid hz1
  have H2 := Lib.hid hz2
  have hs' : X3.length + 1 ≤ 140737488355328 := by omega
  have HS := Lib.hid hs'
  clear ho hb3 hX3 x3l hi hz0 hz1 hz2 hs' k2
  go_wp2_with (at_builtin; refine wpList_append_cells rfl _ _ 26 rfl w.heap.size 5 i0 (.int .u8 0) 1 1 Try.underlying26 HI.out H0.out H1.out H2.out rfl (by omega) _ X3.length _ rfl (HO3.out.alloc _) _ _ 1 1 _ rfl (Lies.one w3 5 _) rfl (by simp [Value.oneCell']) (room63 HS.out) (room1 HS.out) (by simp; omega) ?_; intro v4 w4 hown4 hb4; have HO4 := Lib.hid hown4; have HB4 := Lib.hid ((B3.out.alloc z3 _).trans hb4); clear hown4 hb4)
  go_ret
  refine ⟨_, rfl, ?_, HB4.out⟩
  have h := HO4.out
  rw [show B8 X3 ++ [Value.int .u8 206] = B8 (X3 ++ [206]) from by rw [B8_append]; rfl, HZ4.out, show X3.length + 1 = Z.length from by rw [← HZ4.out, List.length_append]; rfl] at h
  exact h

set_option maxRecDepth 100000 in
theorem num_out (A : Option Addr) (c n p k : Nat) (w : World) (hn : n ≤ 9223372036854775807) (h : n < p + k) (hp : p ≤ 100) (hk : k ≤ 8) :
    Calls Try.prog 10 #[.slice A n c, .int .i64 p, .int .i64 k] w fun e w' => e = .returned (.tuple #[.int .u64 0, .bool false]) ∧ w = w' := by
  have h1 : (n : Int) - (p : Int) < (k : Int) := by omega
  go_enter Try.func10, Try.ntmps10
  go_wp2_with fail
  go_ret2
  exact ⟨rfl, rfl⟩
end Go.Proofs.Ytfajkbegmmlmjaa
