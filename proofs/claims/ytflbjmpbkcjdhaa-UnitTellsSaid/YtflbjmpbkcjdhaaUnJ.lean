/- Layer 13: the fixed call. -/
import Derived.Test.YtflbjmpbkcjdhaaUnI
import Derived.Test.YtflbjmpbkcjdhaaConv2
import Derived.Laws.StructEq
import Derived.Lib.SlBytesConst
namespace Go.Proofs.Ytflbjmpbkcjdhaa
open Go.RowKit
set_option maxRecDepth 100000
set_option linter.unusedSimpArgs false
set_option linter.unusedVariables false

def plV (t : Tl) : Value := .agg #[.string ⟨t.o.key.toArray⟩, .bool t.o.del, .int .i64 t.pos, .int .i64 t.o.val.length]
theorem neq_place (k : ByteArray) (d : Bool) (p n : Int) (w : World) : (binOp .neq 39 (.agg #[.string k, .bool d, .int .i64 p, .int .i64 n]) (.agg #[.string k, .bool d, .int .i64 p, .int .i64 n])).run Try.prog w = .ok (.bool false) w := by
  have u3 := Try.underlying3
  have u9 := Try.underlying9
  have u4 := Try.underlying4
  have a3 := Try.isAgg3
  have z3 := Try.sizeOf3
  have a9 := Try.isAgg9
  have z9 := Try.sizeOf9
  have a4 := Try.isAgg4
  have z4 := Try.sizeOf4
  have hS : Try.prog.underlying 39 = some (.struct (Try.prog.fieldsOf 39)) := by kernel_rfl
  have hp : Try.prog.stoodInHeld 39 = false := by kernel_rfl
  rw [run_neq_struct, show (10000 : Nat) = 9999 + 1 from rfl, run_equalIn_agg w 9999 39 _ _ hS hp]
  simp only [Program.fieldsOf, Try.underlying39]
  go_simp
theorem eql_place (k : ByteArray) (d : Bool) (p n : Int) (w : World) : (binOp .eql 39 (.agg #[.string k, .bool d, .int .i64 p, .int .i64 n]) (.agg #[.string k, .bool d, .int .i64 p, .int .i64 n])).run Try.prog w = .ok (.bool true) w := by
  have u3 := Try.underlying3
  have u9 := Try.underlying9
  have u4 := Try.underlying4
  have a3 := Try.isAgg3
  have z3 := Try.sizeOf3
  have a9 := Try.isAgg9
  have z9 := Try.sizeOf9
  have a4 := Try.isAgg4
  have z4 := Try.sizeOf4
  have hS : Try.prog.underlying 39 = some (.struct (Try.prog.fieldsOf 39)) := by kernel_rfl
  have hp : Try.prog.stoodInHeld 39 = false := by kernel_rfl
  rw [run_eql_struct, show (10000 : Nat) = 9999 + 1 from rfl, run_equalIn_agg w 9999 39 _ _ hS hp]
  simp only [Program.fieldsOf, Try.underlying39]
  go_simp
theorem guard_place (op : BinOp) (x y : Operand) (xs ys : Array Value) (w : World) : (eqGuard op 39 x y (.agg xs) (.agg ys)).run Try.prog w = .ok () w :=
  run_eqGuard_agg w op 39 x y xs ys (by kernel_rfl)
def awkA : Opx := ⟨[97], false, [120]⟩
def awkB : Opx := ⟨[98], true, []⟩
theorem awk_ok : unitOk [awkA, awkB] = true := by decide
theorem awk_octets : opsB [awkA, awkB] = [1, 1, 97, 0, 0, 0, 1, 120, 2, 1, 98] := by decide
theorem awk_tell : unitP (opsB [awkA, awkB]) = some (tellO 11 [awkA, awkB]) := by
  have h : (opsB [awkA, awkB]).length = 11 := by rw [awk_octets]; rfl
  unfold unitP
  rw [h, if_neg (by omega)]
  exact opsP_back 11 [awkA, awkB] (by decide)
theorem awk_no : unitP [9] = none := by
  unfold unitP
  rw [if_neg (by simp)]
  exact opsP_no (by simp) (by decide)
theorem tell_awk : (tellO 11 [awkA, awkB]).map (·.o) = [awkA, awkB] := rfl
/-- Append of ops that are a unit -/
theorem uappend_yes (l : List Om) (A : Option Addr) (n c B : Nat) (w : World) (Z : List UInt8) (hn : n = l.length) (ht : OpsAt w B l A c) (hB : B ≤ w.heap.size) (hf : Few l) (hok : unitOk (pl l) = true) (hZ : opsB (pl l) = Z) :
    Calls Try.prog 7 #[.slice A n c] w fun e w' => ∃ A' c', e = .returned (.tuple #[.slice A' Z.length c', .bool true]) ∧ w'.ownsRow w.heap.size 5 1 (.slice A' Z.length c') Z.length (B8 Z) ∧ Below w.heap.size w w' := by
  refine (uappend_any l A n c B w hn ht hB hf).mono ?_
  rintro e w' ⟨hb, h⟩
  rw [hok, if_pos rfl, hZ] at h
  obtain ⟨v, rfl, ho⟩ := h
  obtain ⟨A', c', rfl, _, _⟩ := own_form ho
  exact ⟨A', c', rfl, ho, hb⟩
theorem uparse_yes (A : Option Addr) (n c B : Nat) (b : List UInt8) (w : World) (ts : List Tl) (hn : n = b.length) (hl : Lies w B A (B8 b)) (hB : B ≤ w.heap.size) (hc : n ≤ c) (hm : c ≤ maxLen) (hu : unitP b = some ts) :
    Calls Try.prog 11 #[.slice A n c] w fun e w' => ∃ acc A' c', pl acc = ts.map (·.o) ∧ e = .returned (.tuple #[.slice A' acc.length c', .bool true]) ∧ OpsAt w' w'.heap.size acc A' c' ∧ Below w.heap.size w w' := by
  refine (uparse_any A n c B b w hn hl hB hc hm).mono ?_
  rintro e w' ⟨hb, h⟩
  rw [hu] at h
  obtain ⟨acc, A', c', h1, h2, h3⟩ := h
  exact ⟨acc, A', c', h1, h2, h3, hb⟩
theorem uparse_no (A : Option Addr) (n c B : Nat) (b : List UInt8) (w : World) (hn : n = b.length) (hl : Lies w B A (B8 b)) (hB : B ≤ w.heap.size) (hc : n ≤ c) (hm : c ≤ maxLen) (hu : unitP b = none) :
    Calls Try.prog 11 #[.slice A n c] w fun e w' => e = .returned (.tuple #[.slice none 0 0, .bool false]) ∧ Below w.heap.size w w' := by
  refine (uparse_any A n c B b w hn hl hB hc hm).mono ?_
  rintro e w' ⟨hb, h⟩
  rw [hu] at h
  exact ⟨h, hb⟩
theorem uplaces_yes (A : Option Addr) (n c B : Nat) (b : List UInt8) (w : World) (ts : List Tl) (hn : n = b.length) (hl : Lies w B A (B8 b)) (hB : B ≤ w.heap.size) (hc : n ≤ c) (hm : c ≤ maxLen) (hu : unitP b = some ts) :
    Calls Try.prog 13 #[.slice A n c] w fun e w' => ∃ A' c', e = .returned (.tuple #[.slice A' ts.length c', .bool true]) ∧ ts.length ≤ c' ∧ c' ≤ maxLen ∧ Lies w' w'.heap.size A' (cellsPls ts) ∧ Below w.heap.size w w' := by
  refine (uplaces_any A n c B b w hn hl hB hc hm).mono ?_
  rintro e w' ⟨hb, h⟩
  rw [hu] at h
  obtain ⟨A', c', h1, h2, h3, h4⟩ := h
  exact ⟨A', c', h1, h2, h3, h4, hb⟩
set_option maxHeartbeats 1000000 in
theorem uawake_any (w : World) : Calls Try.prog 8 #[] w fun e w' => e = .returned (.bool true) ∧ Below w.heap.size w w' := by
  have cvt := Lib.run_convert_bytes_const (P := Try.prog) w 22 5 #[.int .u8 120] 1 1 Try.underlying22 Try.underlying5
  obtain ⟨W0, hW0⟩ : ∃ w0, w0 = w.alloc (.cells #[.int .u8 120] 5 (1, 2)) := ⟨_, rfl⟩
  have h0 : Lies W0 (w.heap.size + 1) (some ⟨w.heap.size, 0, none⟩) (B8 [120]) := by rw [hW0]; exact Lies.litm w 5 [.int .u8 120] _
  have b0 : Below w.heap.size w W0 := by rw [hW0]; exact (Below.refl _ _).alloc (Nat.le_refl _) _
  have s0 : W0.heap.size = w.heap.size + 1 := by rw [hW0]; simp
  obtain ⟨mA, hmA⟩ : ∃ m : Om, m = ⟨awkA, some ⟨w.heap.size, 0, none⟩, 1⟩ := ⟨_, rfl⟩
  obtain ⟨mB, hmB⟩ : ∃ m : Om, m = ⟨awkB, none, 0⟩ := ⟨_, rfl⟩
  obtain ⟨W1, hW1⟩ : ∃ W, W = W0.alloc (.cells #[.string ⟨#[97]⟩, .bool false, .slice (some ⟨w.heap.size, 0, none⟩) 1 1, .string ⟨#[98]⟩, .bool true, .slice none 0 0] 24) := ⟨_, rfl⟩
  have hcells : cellsOms [mA, mB] = [.string ⟨#[97]⟩, .bool false, .slice (some ⟨w.heap.size, 0, none⟩) 1 1, .string ⟨#[98]⟩, .bool true, .slice none 0 0] := by rw [hmA, hmB]; rfl
  have b1 : Below w.heap.size w W1 := by rw [hW1]; exact b0.alloc b0.size _
  have T1 : OpsAt W1 W1.heap.size [mA, mB] (some ⟨w.heap.size + 1, 0, none⟩) 2 := by
    rw [← s0]
    refine ⟨Nat.le_refl _, by decide, ?_, ?_⟩
    · rw [hcells, hW1]
      exact (Lies.lit W0 24 _).more (by simp)
    · intro m hm
      rcases List.mem_cons.1 hm with rfl | hm
      · rw [hmA]
        refine ⟨?_, Nat.le_refl _, room63 (show 1 ≤ 140737488355328 by omega)⟩
        rw [hW1]
        exact ((h0.more (show w.heap.size + 1 ≤ W0.heap.size by omega)).alloc (Nat.le_refl _) _).more (by simp)
      · rw [List.mem_singleton] at hm
        subst hm
        rw [hmB]
        exact ⟨.inl rfl, Nat.le_refl _, by decide⟩
  have hpl : pl [mA, mB] = [awkA, awkB] := by rw [hmA, hmB]; rfl
  have hfew : Few [mA, mB] := by
    refine ⟨by simp, fun m hm => ?_⟩
    rcases List.mem_cons.1 hm with rfl | hm
    · rw [hmA]; simp [awkA]
    · rw [List.mem_singleton] at hm
      subst hm
      rw [hmB]; simp [awkB]
  have HT1 := Lib.hid T1
  have HB1 := Lib.hid b1
  have HPL := Lib.hid hpl
  have HFEW := Lib.hid hfew
  obtain ⟨Z, hZ⟩ : ∃ Z, Z = opsB [awkA, awkB] := ⟨_, rfl⟩
  have hZl : Z.length = 11 := by rw [hZ, awk_octets]; rfl
  have HZ := Lib.hid hZ
  have HZL := Lib.hid hZl
  have NP := fun k d p n w => eql_place k d p n w
  have GP := fun op x y xs ys w => guard_place op x y xs ys w
  clear h0 b0 b1 s0 hmA hmB hcells T1 hpl hfew hZ hZl
  go_enter Try.func8, Try.ntmps8
  go_upto_region 2 with fail
  rw [← hW0, ← hW1]
  clear hW0 hW1 cvt
  go_wp2_with fail
  refine (uappend_yes [mA, mB] _ _ _ _ _ Z rfl HT1.out (Nat.le_refl _) HFEW.out (by rw [HPL.out]; exact awk_ok) (by rw [HPL.out, HZ.out])).mono ?_
  rintro e w2 ⟨A2, c2, rfl, o2, hb2⟩
  rw [HZL.out] at o2 ⊢
  obtain ⟨_, _, e2, hc2, hm2⟩ := own_form o2
  injection e2 with ea eb ec
  subst ec
  have B2 := Lib.hid (HB1.out.trans (hb2.mono HB1.out.size))
  have L2 := Lib.hid (own_lies o2 (Nat.le_refl _))
  have T2 := Lib.hid ((HT1.out.below hb2).more hb2.size)
  have hm2' := hm2
  unfold maxLen at hm2'
  clear o2 hb2 ea eb
  go_wp2_with fail
  refine (uparse_yes A2 _ c2 _ Z _ _ HZL.out.symm L2.out (Nat.le_refl _) hc2 hm2 (by rw [HZ.out]; exact awk_tell)).mono ?_
  rintro e w3 ⟨acc, A3, c3, h3, rfl, t3, hb3⟩
  have hal : acc.length = 2 := by rw [← pl_length, h3]; rfl
  have B3 := Lib.hid (B2.out.trans (hb3.mono B2.out.size))
  have L3 := Lib.hid ((L2.out.below hb3).more hb3.size)
  have T3 := Lib.hid ((T2.out.below hb3).more hb3.size)
  have U3 := Lib.hid t3
  have P3 := Lib.hid h3
  have HAL := Lib.hid hal
  rw [hal]
  clear t3 hb3 h3 hal
  go_wp2_with fail
  refine (uplaces_yes A2 _ c2 _ Z _ _ HZL.out.symm L3.out (Nat.le_refl _) hc2 hm2 (by rw [HZ.out]; exact awk_tell)).mono ?_
  rintro e w4 ⟨A4, c4, rfl, hc4, hm4, l4, hb4⟩
  rw [show (tellO 11 [awkA, awkB]).length = 2 from rfl] at hc4 ⊢
  have B4 := Lib.hid (B3.out.trans (hb4.mono B3.out.size))
  have T4 := Lib.hid ((T3.out.below hb4).more hb4.size)
  have U4 := Lib.hid ((U3.out.below hb4).more hb4.size)
  have hl4 : cellsPls (tellO 11 [awkA, awkB]) = [.string ⟨#[97]⟩, .bool false, .int .i64 7, .int .i64 1, .string ⟨#[98]⟩, .bool true, .int .i64 0, .int .i64 0] := by kernel_rfl
  rw [hl4] at l4
  have L4 := Lib.hid l4
  clear l4 hb4 hl4
  obtain ⟨W5, hW5⟩ : ∃ W, W = w4.alloc (.cells #[.int .u8 9] 5) := ⟨_, rfl⟩
  have b5 : Below w4.heap.size w4 W5 := by rw [hW5]; exact (Below.refl _ _).alloc (Nat.le_refl _) _
  have L5 : Hid (Lies W5 W5.heap.size (some ⟨w4.heap.size, 0, none⟩) (B8 [9])) := Lib.hid (by rw [hW5]; exact (Lies.lit w4 5 [.int .u8 9]).more (by simp))
  have HB5 := Lib.hid b5
  clear b5
  go_wp2_with fail
  rw [← hW5]
  clear hW5
  refine (uparse_no _ 1 1 _ [9] _ rfl L5.out (Nat.le_refl _) (Nat.le_refl _) (by decide) awk_no).mono ?_
  rintro e w6 ⟨rfl, hb6⟩
  have b6 := HB5.out.trans (hb6.mono HB5.out.size)
  have B6 := Lib.hid (B4.out.trans (b6.mono B4.out.size))
  have T6 := Lib.hid ((T4.out.below b6).more b6.size)
  have U6 := Lib.hid ((U4.out.below b6).more b6.size)
  have l6 := (L4.out.below b6).more b6.size
  have L6 := Lib.hid l6
  clear hb6 b6 l6
  go_wp2_with fail
  refine (same_ops [mA, mB] acc _ _ _ _ _ _ _ _ rfl HAL.out.symm T6.out U6.out (Nat.le_refl _) (by simp) (by rw [HPL.out, P3.out]; rfl)).mono ?_
  rintro e w7 ⟨rfl, hb7⟩
  have B7 := Lib.hid (B6.out.trans (hb7.mono B6.out.size))
  have l7 := (L6.out.below hb7)
  rcases l7 with l7 | ⟨b, o, rfl, hb, hc⟩
  · cases l7
  have d0 := hc 0 _ rfl
  have d1 := hc 1 _ rfl
  have d2 := hc 2 _ rfl
  have d3 := hc 3 _ rfl
  have d4 := hc 4 _ rfl
  have d5 := hc 5 _ rfl
  have d6 := hc 6 _ rfl
  have d7 := hc 7 _ rfl
  rw [Nat.add_zero] at d0
  clear hc hb7
  go_wp2_with fail
  go_ret
  exact ⟨rfl, B7.out⟩
end Go.Proofs.Ytflbjmpbkcjdhaa
