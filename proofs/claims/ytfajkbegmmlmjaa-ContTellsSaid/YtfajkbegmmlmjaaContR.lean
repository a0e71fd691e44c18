/- Contracts of the document's own answer for layer 5: may a head be; its octets. -/
import Derived.Test.YtfajkbegmmlmjaaContC
import Derived.Test.YtfajkbegmmlmjaaRefW
import Derived.Deep.RegionWith
namespace Go.Proofs.Ytfajkbegmmlmjaa
open Go.RowKit
set_option maxRecDepth 100000
set_option linter.unusedSimpArgs false
set_option linter.unusedVariables false

theorem rheadok_any (s : Nat) (m : Int) (t : List UInt8) (w : World) (hl : t.length ≤ maxLen) :
    Calls Try.prog 11 #[.agg #[.int .u64 s, .int .i64 m, .string ⟨t.toArray⟩]] w fun e w' => e = .returned (.bool (headOk m t)) ∧ Below w.heap.size w w' := by
  unfold maxLen at hl
  have hb : Below w.heap.size w (w.alloc (.cells #[.int .u64 s, .int .i64 m, .string ⟨t.toArray⟩] 25)) := (Below.refl _ _).alloc (Nat.le_refl _) _
  have HB := Lib.hid hb
  clear hb
  have hc : m < 0 ∨ (0 ≤ m ∧ 2 < m) ∨ (0 ≤ m ∧ m ≤ 2) := by omega
  rcases hc with h | ⟨h, h2⟩ | ⟨h, h2⟩
  · have D : Hid (headOk m t = false) := Lib.hid (by unfold headOk; exact decide_eq_false (by omega))
    go_enter Try.func11, Try.ntmps11
    go_wp2_with fail
    go_ret
    exact ⟨by rw [D.out] <;> first | rfl | (simp; omega), HB.out⟩
  · have D : Hid (headOk m t = false) := Lib.hid (by unfold headOk; exact decide_eq_false (by omega))
    go_enter Try.func11, Try.ntmps11
    go_wp2_with fail
    go_ret
    exact ⟨by rw [D.out] <;> first | rfl | (simp; omega), HB.out⟩
  · have D : Hid (headOk m t = decide ((t.length : Int) ≤ 255)) := Lib.hid (by unfold headOk; rw [Bool.eq_iff_iff]; simp; omega)
    go_enter Try.func11, Try.ntmps11
    go_wp2_with fail
    go_ret
    exact ⟨by rw [D.out] <;> first | rfl | (simp; omega), HB.out⟩

theorem put_at' (A : Option Addr) (c m : Nat) (l : List UInt8) (B n x : Nat) (w : World) (hm : m = l.length) (hl : Lies w B A (B8 l)) (hB : B ≤ w.heap.size) (hn1 : 1 ≤ n) (hn8 : n ≤ 8) (hs : l.length + 8 ≤ 140737488355328) :
    Calls Try.prog 17 #[.slice A m c, .int .i64 n, .int .u64 x] w (NewOcts w.heap.size (l ++ be n x) w) := by
  subst hm
  exact put_any A c l B n x w hl hB hn1 hn8 hs

set_option maxHeartbeats 400000 in
theorem rshort_any (A : Option Addr) (c n : Nat) (l : List UInt8) (B : Nat) (t : List UInt8) (w : World) (hn : n = l.length) (hl : Lies w B A (B8 l)) (hB : B ≤ w.heap.size) (hs : l.length ≤ 70368744177664) (ht : t.length ≤ 255) :
    Calls Try.prog 26 #[.slice A n c, .string ⟨t.toArray⟩] w (NewOcts w.heap.size (l ++ be 1 t.length ++ t) w) := by
  subst hn
  obtain ⟨i0, hi, hz0, hz1, hz2⟩ := info_parts u8_info
  have HI := Lib.hid hi
  have H0 := Lib.hid hz0
  have H1 := Lib.hid hz1
  have H2 := Lib.hid hz2
  have HL := Lib.hid hl
  have kw := u64_nat t.length (by omega)
  have e1 : (⟨t.toArray⟩ : ByteArray).size = t.length := by simp [ByteArray.size]
  have E1 := Lib.hid e1
  clear hi hz0 hz1 hz2 hl e1
  go_enter Try.func26, Try.ntmps26
  go_wp2_with fail
  refine (put_at' A c l.length l B 1 t.length _ rfl HL.out hB (by omega) (by omega) (by omega)).mono ?_
  rintro e w2 ⟨v2, rfl, hown2, hbel2⟩
  have HO2 := Lib.hid hown2
  have HB2 := Lib.hid hbel2
  have hsz3 : w.heap.size ≤ w2.heap.size := hbel2.size
  have hlen : (l ++ be 1 t.length).length + (⟨t.toArray⟩ : ByteArray).size ≤ 140737488355328 := by rw [E1.out, List.length_append, be_length]; omega
  have HLen := Lib.hid hlen
  clear hown2 hbel2 hlen
  go_wp2_with (at_builtin; refine Lib.wpList_append_own_string _ rfl _ _ 26 9 rfl w.heap.size 5 i0 Try.underlying26 Try.underlying9 HI.out H0.out H1.out H2.out _ _ _ rfl HO2.out ⟨t.toArray⟩ rfl (room63 HLen.out) HLen.out hsz3 ?_; intro v3 w3 hown3 hg _)
  rw [strCells_B8, ← B8_append, E1.out, ← List.length_append] at hown3
  have hbel3 := HB2.out.grown hg hsz3 (fun k hk => (HO2.out.lt k hk).1)
  go_ret
  exact ⟨_, rfl, hown3, hbel3⟩
end Go.Proofs.Ytfajkbegmmlmjaa
