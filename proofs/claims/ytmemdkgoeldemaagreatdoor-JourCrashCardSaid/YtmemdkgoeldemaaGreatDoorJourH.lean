/- Layer 8: heads of sectors: least, begins, headOf. -/
import Derived.Test.YtmemdkgoeldemaaGreatDoorJourN
import Derived.Test.YtmemdkgoeldemaaGreatDoorOctsW
import Derived.Test.YtmemdkgoeldemaaGreatDoorSectE0
import Derived.Deep.RegionHeld
namespace Go.Proofs.YtmemdkgoeldemaaGreatDoor
open Go.RowKit Go.Maps
set_option maxRecDepth 100000
set_option linter.unusedSimpArgs false
set_option linter.unusedVariables false
def hdV (h : Hd) : Value := .agg #[.int .u64 (h.seq : Int), .int .i64 (h.place : Int), .int .i64 (h.count : Int), .int .i64 (h.kind : Int), .int .i64 (h.size : Int)]
set_option maxHeartbeats 4000000 in
theorem least_any (h : Hd) (f : h.fit) (w : World) : Calls Tryz.prog 123 #[hdV h] w fun e w' => e = .returned (.int .i64 (h.least : Int)) ∧ Below w.heap.size w w' := by
  obtain ⟨f1, f2, f3, f4, f5⟩ := f
  obtain ⟨seq, place, count, kind, size⟩ := h
  simp only at f1 f2 f3 f4 f5
  unfold Hd.least hdV
  simp only []
  have hw : IntKind.i64.wrap ((count : Int) - 1) = (count : Int) - 1 := IntWalk.i64_in _ ⟨by omega, by omega⟩
  by_cases h1 : place + 1 < count
  · have h1' : (place : Int) < (count : Int) - 1 := by omega
    rw [if_pos h1]
    clear h1
    go_enter Tryz.func123, Tryz.ntmps123
    go_wp2
    go_ret
    exact ⟨rfl, (Below.refl _ _).alloc (Nat.le_refl _) _⟩
  · have h1' : ¬ (place : Int) < (count : Int) - 1 := by omega
    rw [if_neg h1]
    clear h1
    by_cases h2 : 0 < place
    · have h2' : (0 : Int) < (place : Int) := by omega
      rw [if_pos h2]
      go_enter Tryz.func123, Tryz.ntmps123
      go_wp2
      go_ret
      exact ⟨rfl, (Below.refl _ _).alloc (Nat.le_refl _) _⟩
    · have h2' : ¬ (0 : Int) < (place : Int) := by omega
      rw [if_neg h2]
      go_enter Tryz.func123, Tryz.ntmps123
      go_wp2
      go_ret
      exact ⟨rfl, (Below.refl _ _).alloc (Nat.le_refl _) _⟩
set_option maxHeartbeats 4000000 in
theorem begins_any (h : Hd) (f : h.fit) (w : World) : Calls Tryz.prog 95 #[hdV h] w fun e w' => e = .returned (.bool (decide h.begins)) ∧ Below w.heap.size w w' := by
  obtain ⟨f1, f2, f3, f4, f5⟩ := f
  obtain ⟨seq, place, count, kind, size⟩ := h
  simp only at f1 f2 f3 f4 f5
  rcases (show seq = 0 ∨ (0 < seq ∧ kind = 0) ∨ (0 < seq ∧ 0 < kind ∧ place ≠ 0) ∨ (0 < seq ∧ 0 < kind ∧ place = 0 ∧ count < 1) ∨ (0 < seq ∧ 0 < kind ∧ place = 0 ∧ 1 ≤ count ∧ 4096 < count) ∨ (0 < seq ∧ 0 < kind ∧ place = 0 ∧ 1 ≤ count ∧ count ≤ 4096) by omega) with h | h | h | h | h | h
  · have e : decide (Hd.begins ⟨seq, place, count, kind, size⟩) = false := by exact decide_eq_false (fun ⟨b1, b2, b3, b4, b5⟩ => by simp only at b1 b2 b3 b4 b5; omega)
    rw [e]
    unfold hdV
    simp only []
    clear e
    have g1 : ¬ (0 : Int) < (seq : Int) := by omega
    go_enter Tryz.func95, Tryz.ntmps95
    go_wp2
    go_ret
    exact ⟨rfl, (Below.refl _ _).alloc (Nat.le_refl _) _⟩
  · have e : decide (Hd.begins ⟨seq, place, count, kind, size⟩) = false := by exact decide_eq_false (fun ⟨b1, b2, b3, b4, b5⟩ => by simp only at b1 b2 b3 b4 b5; omega)
    rw [e]
    unfold hdV
    simp only []
    clear e
    have g1 : (0 : Int) < (seq : Int) := by omega
    have g2 : ¬ (0 : Int) < (kind : Int) := by omega
    go_enter Tryz.func95, Tryz.ntmps95
    go_wp2
    go_ret
    exact ⟨rfl, (Below.refl _ _).alloc (Nat.le_refl _) _⟩
  · have e : decide (Hd.begins ⟨seq, place, count, kind, size⟩) = false := by exact decide_eq_false (fun ⟨b1, b2, b3, b4, b5⟩ => by simp only at b1 b2 b3 b4 b5; omega)
    rw [e]
    unfold hdV
    simp only []
    clear e
    have g1 : (0 : Int) < (seq : Int) := by omega
    have g2 : (0 : Int) < (kind : Int) := by omega
    have g3 : ¬ (place : Int) = 0 := by omega
    go_enter Tryz.func95, Tryz.ntmps95
    go_wp2
    go_ret
    exact ⟨rfl, (Below.refl _ _).alloc (Nat.le_refl _) _⟩
  · have e : decide (Hd.begins ⟨seq, place, count, kind, size⟩) = false := by exact decide_eq_false (fun ⟨b1, b2, b3, b4, b5⟩ => by simp only at b1 b2 b3 b4 b5; omega)
    rw [e]
    unfold hdV
    simp only []
    clear e
    have g1 : (0 : Int) < (seq : Int) := by omega
    have g2 : (0 : Int) < (kind : Int) := by omega
    have g3 : (place : Int) = 0 := by omega
    have g4 : ¬ (1 : Int) ≤ (count : Int) := by omega
    go_enter Tryz.func95, Tryz.ntmps95
    go_wp2
    go_ret
    exact ⟨rfl, (Below.refl _ _).alloc (Nat.le_refl _) _⟩
  · have e : decide (Hd.begins ⟨seq, place, count, kind, size⟩) = false := by exact decide_eq_false (fun ⟨b1, b2, b3, b4, b5⟩ => by simp only at b1 b2 b3 b4 b5; omega)
    rw [e]
    unfold hdV
    simp only []
    clear e
    have g1 : (0 : Int) < (seq : Int) := by omega
    have g2 : (0 : Int) < (kind : Int) := by omega
    have g3 : (place : Int) = 0 := by omega
    have g4 : (1 : Int) ≤ (count : Int) := by omega
    have g5 : ¬ (count : Int) ≤ 4096 := by omega
    go_enter Tryz.func95, Tryz.ntmps95
    go_wp2
    go_ret
    exact ⟨rfl, (Below.refl _ _).alloc (Nat.le_refl _) _⟩
  · have e : decide (Hd.begins ⟨seq, place, count, kind, size⟩) = true := by exact decide_eq_true (show 0 < seq ∧ 0 < kind ∧ place = 0 ∧ 1 ≤ count ∧ count ≤ 4096 by omega)
    rw [e]
    unfold hdV
    simp only []
    clear e
    have g1 : (0 : Int) < (seq : Int) := by omega
    have g2 : (0 : Int) < (kind : Int) := by omega
    have g3 : (place : Int) = 0 := by omega
    have g4 : (1 : Int) ≤ (count : Int) := by omega
    have g5 : (count : Int) ≤ 4096 := by omega
    go_enter Tryz.func95, Tryz.ntmps95
    go_wp2
    go_ret
    exact ⟨rfl, (Below.refl _ _).alloc (Nat.le_refl _) _⟩
theorem load_hd (w : World) (g : Nat) (cs : Array Value) (hg : Whole w g 127 cs) (hs : cs.size = 5) : (loadVar 127 ⟨g, 0, none⟩).run Tryz.prog w = .ok (.agg cs) w :=
  run_loadVar_row (P := Tryz.prog) w g _ _ cs (0, 0) _ hg Tryz.underlying127 rfl (by rw [hs]; kernel_rfl)
theorem headOf_end {w : World} {b : Nat} {cs : Array Value} (hg : Whole w b 127 cs) (hs : cs.size = 5) (tmps : Array Value) (ds) (h2 : tmps.getD 2 undef = ptr b)
    (R : Ending → World → Prop) (hR : R (.returned (.agg cs)) w) (hd : ds = []) : bodyPost Tryz.prog Tryz.f94 R .ret { tmps := tmps, defers := ds } w := by
  refine bodyPost_ret (v := .agg cs) ?_ hd hR
  have hres : Tryz.f94.results = #[.cell 2 127] := rfl
  simp only [results, hres]
  have h2' : tmps[2]?.getD undef = ptr b := by simpa using h2
  simp [Sem.run_bind, Result.andThen, h2', asAddr, load_hd w b cs hg hs]
set_option maxHeartbeats 4000000 in
theorem headOf_any (s : Sec) (w : World) : Calls Tryz.prog 94 #[.agg (csF s)] w fun e w' => e = .returned (hdV (hdOf s.1)) ∧ Below w.heap.size w w' := by
  have hsl := s.2
  go_enter Tryz.func94, Tryz.ntmps94
  go_upto_region 1 with (fail)
  refine wp_rename (fun W => Below w.heap.size w W ∧ Lies W W.heap.size (some ⟨w.heap.size, 0, none⟩) (B8 (s.1.take 16)) ∧ Whole W (w.heap.size + 1) 127 #[.int .u64 0, .int .i64 0, .int .i64 0, .int .i64 0, .int .i64 0]) ⟨((Below.refl _ _).alloc (Nat.le_refl _) _).alloc (by simp) _, ?_, by have := Whole.new (w.alloc (.cells (csF s) 41)) 127 #[.int .u64 0, .int .i64 0, .int .i64 0, .int .i64 0, .int .i64 0]; simpa using this⟩ ?_
  · refine .inr ⟨w.heap.size, 0, rfl, by simp; omega, fun i u hu => ?_⟩
    have h1 : ((w.alloc (.cells (csF s) 41)).alloc (Obj.cells #[Value.int IntKind.u64 0, Value.int IntKind.i64 0, Value.int IntKind.i64 0, Value.int IntKind.i64 0, Value.int IntKind.i64 0] 127)).heap[w.heap.size]? = some (.cells (csF s) 41 (0, 0)) := by
      rw [Below.heap_alloc _ _ _ (by simp)]
      exact heap_alloc_new w _
    rw [Nat.zero_add, cell_of_row _ _ _ _ _ _ h1]
    have : (B8 s.1)[i]? = some u := by
      rw [show B8 (s.1.take 16) = (B8 s.1).take 16 by simp [B8]] at hu
      rw [List.getElem?_take] at hu
      split at hu
      · exact hu
      · cases hu
    simpa [csF] using this
  rintro W1 ⟨hb1, hl1, hr1⟩
  have B1 := Lib.hid hb1
  have L1 := Lib.hid hl1
  have R1 := Lib.hid hr1
  have l16 : (s.1.take 16).length = 16 := by rw [List.length_take, hsl]; rfl
  obtain ⟨l, hl⟩ : ∃ l, l = s.1.take 16 := ⟨_, rfl⟩
  rw [← hl] at L1 l16
  have HL := Lib.hid hl
  have hw8 : wid 8 = 8 := by decide
  clear hb1 hl1 hr1 hl
  go_upto_region 3 with (first
    | (go_at_call 121; go_must (refine (show Calls _ _ #[.slice _ 16 64] _ _ from by rw [← l16]; exact from_any _ 64 l W1.heap.size _ L1.out (Nat.le_refl _) (by omega)).mono ?_); rintro e w2 ⟨g, hg, rfl, hI, hB⟩; have G2 := Lib.hid hg; have I2 := Lib.hid hI; have B2 := Lib.hid hB; clear hg hI hB)
    | (go_at_call 122; (have hmk := I3); clear hmk; go_must (refine (in_int g 8 _ _ _ I3.out).mono ?_); rintro e w4 ⟨rfl, hI, hB⟩; rw [hw8]; have B4 := Lib.hid hB; clear hI hB)
    | (go_at_call 122; go_must (refine (in_int g 8 l false _ I2.out).mono ?_); rintro e w3 ⟨rfl, hI, hB⟩; rw [hw8] at hI; rw [hw8]; have I3 := Lib.hid hI; have B3 := Lib.hid hB; clear hI hB))
  have hg1 : w.heap.size + 1 < W1.heap.size := Whole.lt R1.out
  have hne : some (w.heap.size + 1) ≠ some g := fun e => by have := G2.out; injection e with e; omega
  have R4 : Whole w4 (w.heap.size + 1) 127 #[.int .u64 0, .int .i64 0, .int .i64 0, .int .i64 0, .int .i64 0] := ((Whole.below R1.out B2.out hg1).grown B3.out hne).grown B4.out hne
  have c0 := Whole.cell R4 0
  have c1 := Whole.cell R4 1
  have c2 := Whole.cell R4 2
  have c3 := Whole.cell R4 3
  have c4 := Whole.cell R4 4
  have fz := Whole.frozen R4
  have HB4 : Hid (Below w.heap.size w w4) := Lib.hid (((B1.out.trans (B2.out.mono B1.out.size)).grown B3.out (by have := B1.out.size; have := B2.out.size; omega) (fun i hi => by have := Option.some.inj hi; have := G2.out; have := B1.out.size; omega)).grown B4.out (by have := B1.out.size; have := B2.out.size; have := B3.out.size; omega) (fun i hi => by have := Option.some.inj hi; have := G2.out; have := B1.out.size; omega))
  have hA : nat (tk 8 l) < 18446744073709551616 := by have := nat_lt (tk 8 l); unfold tk at this ⊢; rw [if_pos (by omega)] at this ⊢; rw [List.length_take, l16] at this; exact this
  have R4h := Lib.hid R4
  clear hg1 hne R4
  obtain ⟨A, hAe⟩ : ∃ A, A = nat (tk 8 l) := ⟨_, rfl⟩
  obtain ⟨V, hVe⟩ : ∃ V, V = nat (tk 8 (rst 8 l)) := ⟨_, rfl⟩
  rw [← hAe] at hA ⊢
  rw [← hVe]
  have HA := Lib.hid hAe
  have HV := Lib.hid hVe
  clear hAe hVe
  go_wp2
  have hV : V < 18446744073709551616 := by
    rw [HV.out]
    have h1 := nat_lt (tk 8 (rst 8 l))
    have h2 := tk_le 8 (rst 8 l)
    have h3 : 256 ^ (tk 8 (rst 8 l)).length ≤ 256 ^ 8 := Nat.pow_le_pow_right (by omega) h2
    omega
  have e1 : wrap64 (IntKind.u16.wrap ((V : Int) / 281474976710656)) = ((V / 281474976710656 % 65536 : Nat) : Int) := by
    have : IntKind.u16.wrap ((V : Int) / 281474976710656) = ((V / 281474976710656 % 65536 : Nat) : Int) := by simp [IntKind.wrap, IntKind.signed, IntKind.bits]
    rw [this]
    exact IntWalk.wrap64_in _ ⟨by omega, by omega⟩
  have e2 : wrap64 (IntKind.u16.wrap ((V : Int) / 4294967296)) = ((V / 4294967296 % 65536 : Nat) : Int) := by
    have : IntKind.u16.wrap ((V : Int) / 4294967296) = ((V / 4294967296 % 65536 : Nat) : Int) := by simp [IntKind.wrap, IntKind.signed, IntKind.bits]
    rw [this]
    exact IntWalk.wrap64_in _ ⟨by omega, by omega⟩
  have e3 : wrap64 (IntKind.u16.wrap (V : Int)) = ((V % 65536 : Nat) : Int) := by
    have : IntKind.u16.wrap (V : Int) = ((V % 65536 : Nat) : Int) := by simp [IntKind.wrap, IntKind.signed, IntKind.bits]
    rw [this]
    exact IntWalk.wrap64_in _ ⟨by omega, by omega⟩
  rw [e1, e2, e3]
  have R5 := Whole.put (Whole.put (Whole.put (Whole.put (Whole.put R4h.out 0 (.int .u64 (A : Int))) 1 (.int .i64 ((V / 281474976710656 % 65536 : Nat) : Int))) 2 (.int .i64 ((V / 4294967296 % 65536 : Nat) : Int))) 3 (.int .i64 ((V : Int) / 16777216 % 256))) 4 (.int .i64 ((V % 65536 : Nat) : Int))
  have hB : w.heap.size ≤ w.heap.size + 1 := by omega
  have B5 := ((((HB4.out.setCell (p := ⟨w.heap.size + 1, 0, none⟩) hB (.int .u64 (A : Int))).setCell (p := ⟨w.heap.size + 1, 1, none⟩) hB (.int .i64 ((V / 281474976710656 % 65536 : Nat) : Int))).setCell (p := ⟨w.heap.size + 1, 2, none⟩) hB (.int .i64 ((V / 4294967296 % 65536 : Nat) : Int))).setCell (p := ⟨w.heap.size + 1, 3, none⟩) hB (.int .i64 ((V : Int) / 16777216 % 256))).setCell (p := ⟨w.heap.size + 1, 4, none⟩) hB (.int .i64 ((V % 65536 : Nat) : Int))
  have hval : hdV (hdOf s.1) = .agg #[.int .u64 (A : Int), .int .i64 ((V / 281474976710656 % 65536 : Nat) : Int), .int .i64 ((V / 4294967296 % 65536 : Nat) : Int), .int .i64 ((V : Int) / 16777216 % 256), .int .i64 ((V % 65536 : Nat) : Int)] := by
    have a1 : A = nat (s.1.take 8) := by
      rw [HA.out, HL.out]
      unfold tk
      rw [if_pos (by rw [List.length_take, hsl]; decide), List.take_take]
      rfl
    have a2 : V = nat ((s.1.drop 8).take 8) := by
      rw [HV.out, HL.out]
      have ra : rst 8 (s.1.take 16) = (s.1.take 16).drop 8 := if_pos (by rw [List.length_take, hsl]; decide)
      rw [ra]
      unfold tk
      rw [if_pos (by rw [List.length_drop, List.length_take, hsl]; decide), List.drop_take, List.take_take]
      rfl
    unfold hdV hdOf
    simp only []
    rw [← a1, ← a2]
    rfl
  obtain ⟨W5, hW5⟩ : ∃ W5 : World, W5 = (((((w4.setCell ⟨w.heap.size + 1, 0, none⟩ (.int .u64 (A : Int))).setCell ⟨w.heap.size + 1, 1, none⟩ (.int .i64 ((V / 281474976710656 % 65536 : Nat) : Int))).setCell ⟨w.heap.size + 1, 2, none⟩ (.int .i64 ((V / 4294967296 % 65536 : Nat) : Int))).setCell ⟨w.heap.size + 1, 3, none⟩ (.int .i64 ((V : Int) / 16777216 % 256))).setCell ⟨w.heap.size + 1, 4, none⟩ (.int .i64 ((V % 65536 : Nat) : Int))) := ⟨_, rfl⟩
  rw [← hW5] at R5 B5 ⊢
  rw [hval]
  exact headOf_end (b := w.heap.size + 1) R5 rfl _ _ rfl _ ⟨rfl, B5⟩ rfl
end Go.Proofs.YtmemdkgoeldemaaGreatDoor
