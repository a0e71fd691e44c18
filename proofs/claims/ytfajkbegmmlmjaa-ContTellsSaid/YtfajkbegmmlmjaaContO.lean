/- Heads that came in; the law on what any octets and heads tell, where what came in is too long; all of it. -/
import Derived.Test.YtfajkbegmmlmjaaFramO
import Derived.Test.YtfajkbegmmlmjaaLawCTells
namespace Go.Proofs.Ytfajkbegmmlmjaa
open Go.RowKit Go.ChangeShapes Go.WideShapes
set_option maxRecDepth 100000
set_option linter.unusedSimpArgs false
set_option linter.unusedVariables false

theorem open_head {H : Type} {enc : TypeId × Value → H} {w : World} {base : Nat} {spare : Nat → Bool} {held : Bool} {fuel : Nat} {cs : List Value} {x : DataW H × List MemPlace} (h : DataW.trod enc Try.prog w base spare held fuel 25 cs = some x) :
    ∃ (s : Nat) (m : Int) (t : List UInt8), cs = [.int .u64 s, .int .i64 m, .string ⟨t.toArray⟩] ∧ s < 18446744073709551616 ∧ t.length ≤ maxLen := by
  obtain ⟨zs, n, _, _, hcl, hzl, hfs⟩ := DataW.trod_struct Try.underlying25 h
  have k3 : Try.prog.cellsOf 3 = 1 := by kernel_rfl
  have ku : Try.prog.cellsOf 22 = 1 := by kernel_rfl
  have ks : Try.prog.cellsOf 9 = 1 := by kernel_rfl
  have kf : Try.prog.cellsOf 25 = 3 := by kernel_rfl
  rw [kf] at hcl
  match cs, hcl with
  | [c0, c1, c2], _ =>
    have f0 : DataW.trod enc Try.prog w base spare held n 22 ((([c0, c1, c2] : List Value).drop 0).take (Try.prog.cellsOf 22)) = zs[0]? := hfs 0 _ rfl
    have f1 : DataW.trod enc Try.prog w base spare held n 3 ((([c0, c1, c2] : List Value).drop 1).take (Try.prog.cellsOf 3)) = zs[1]? := hfs 1 _ rfl
    have f2 : DataW.trod enc Try.prog w base spare held n 9 ((([c0, c1, c2] : List Value).drop 2).take (Try.prog.cellsOf 9)) = zs[2]? := hfs 2 _ rfl
    rw [k3] at f1
    rw [ku] at f0
    rw [ks] at f2
    have hz3 : zs.length = 3 := hzl
    obtain ⟨n0, e0, _, hw0⟩ := DataW.trod_int (cs := [c0]) Try.underlying22 (f0.trans (List.getElem?_eq_getElem (by omega)))
    obtain ⟨n1, e1, _, _⟩ := DataW.trod_int (cs := [c1]) Try.underlying3 (f1.trans (List.getElem?_eq_getElem (by omega)))
    obtain ⟨t, e2, _, ht⟩ := DataW.trod_string (cs := [c2]) Try.underlying9 (f2.trans (List.getElem?_eq_getElem (by omega)))
    injection e0 with e0
    injection e1 with e1
    injection e2 with e2
    simp [Lit.wf, IntKind.min, IntKind.max, IntKind.signed, IntKind.bits] at hw0
    refine ⟨n0.toNat, n1, t.data.toList, ?_, by omega, by simpa using ht⟩
    rw [e0, e1, e2]
    have : ((n0.toNat : Nat) : Int) = n0 := by omega
    rw [this]
set_option maxHeartbeats 2000000 in
theorem ctells_early (s : Nat) (m0 : Int) (t raw body : List UInt8) (AR AB : Option Addr) (cR cB : Nat) (x z ch0 : Int) (y : UInt8) (w : World) (hl : 400 < raw.length ∨ 400 < t.length ∨ 11000 < body.length) :
    Calls Try.prog 4 #[.slice AR raw.length cR, .agg #[.int .u64 s, .int .i64 m0, .string ⟨t.toArray⟩], .int .i64 x, .int .u8 (y.toNat : Int), .int .i64 z, .int .i64 ch0, .slice AB body.length cB] w fun e w' => e = .returned (.bool true) ∧ Below w.heap.size w w' := by
  obtain ⟨wa, hwa⟩ : ∃ wa, wa = w.alloc (.cells #[.int .u64 s, .int .i64 m0, .string ⟨t.toArray⟩] 25) := ⟨_, rfl⟩
  have hb0 : Below w.heap.size w wa := by rw [hwa]; exact (Below.refl _ _).alloc (Nat.le_refl _) _
  have hk0 : Whole wa w.heap.size 25 #[.int .u64 s, .int .i64 m0, .string ⟨t.toArray⟩] := by rw [hwa]; exact Whole.new _ _ _
  have a2 : wa.cell? ⟨w.heap.size, 2, none⟩ = some (.string ⟨t.toArray⟩) := hk0.cell 2
  have B0 := Lib.hid hb0
  have HWA := Lib.hid hwa
  rw [hwa] at a2
  clear hb0 hk0 hwa
  have d : decide ((400 : Int) < (raw.length : Int)) = true ∨ (decide ((400 : Int) < (raw.length : Int)) = false ∧ decide ((400 : Int) < (t.length : Int)) = true) ∨ (decide ((400 : Int) < (raw.length : Int)) = false ∧ decide ((400 : Int) < (t.length : Int)) = false ∧ decide ((11000 : Int) < (body.length : Int)) = true) := by
    simp only [decide_eq_true_eq, decide_eq_false_iff_not]
    omega
  clear hl
  rcases d with d1 | ⟨d1, d2⟩ | ⟨d1, d2, d3⟩
  all_goals
    go_enter Try.func4, Try.ntmps4
    go_wp2_with fail
    rw [← HWA.out]
    refine (awake5_any _).mono ?_
    rintro e w9 ⟨rfl, hb9⟩
    have C9 := Lib.hid (B0.out.trans (hb9.mono B0.out.size))
    clear hb9
    go_wp2_with fail
    go_ret
    exact ⟨rfl, C9.out⟩
theorem ctells_all (s : Nat) (m0 : Int) (t raw body : List UInt8) (AR AB : Option Addr) (cR cB : Nat) (x z ch0 : Int) (y : UInt8) (w : World) (hs : s < 18446744073709551616) (hr : Lies w w.heap.size AR (B8 raw)) (hrc : raw.length ≤ cR) (hrm : cR ≤ maxLen) (hbl : Lies w w.heap.size AB (B8 body)) (hbc : body.length ≤ cB) (hbm : cB ≤ maxLen) :
    Calls Try.prog 4 #[.slice AR raw.length cR, .agg #[.int .u64 s, .int .i64 m0, .string ⟨t.toArray⟩], .int .i64 x, .int .u8 (y.toNat : Int), .int .i64 z, .int .i64 ch0, .slice AB body.length cB] w fun e w' => e = .returned (.bool true) ∧ Below w.heap.size w w' := by
  by_cases h : 400 < raw.length ∨ 400 < t.length ∨ 11000 < body.length
  · exact ctells_early s m0 t raw body AR AB cR cB x z ch0 y w h
  · exact ctells_any s m0 t raw body AR AB cR cB x z ch0 y w hs (by omega) hr (by omega) hrc hrm hbl (by omega) hbc hbm
end Go.Proofs.Ytfajkbegmmlmjaa
