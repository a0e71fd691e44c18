/- The law on forms: its walk. -/
import Derived.Test.YtfbodmlllgaipaaDoorMethC
import Derived.Test.YtfbodmlllgaipaaDoorMethR
import Derived.Test.YtfbodmlllgaipaaDoorWords2
namespace Go.Proofs.YtfbodmlllgaipaaDoor
open Go.RowKit
set_option maxRecDepth 100000
set_option linter.unusedSimpArgs false
set_option linter.unusedVariables false

def cntI (c : Int) (k : Nat) : Nat := ((List.range k).filter fun (i : Nat) => (formB c (i : Int)).isSome).length
def cntO (a : Nat) : Nat := ((List.range a).map fun (x : Nat) => cntI (10 * (x : Int)) 130).sum
theorem cntI_succ (c : Int) (k : Nat) : cntI c (k + 1) = cntI c k + if (formB c (k : Int)).isSome then 1 else 0 := by
  unfold cntI
  rw [List.range_succ, List.filter_append, List.length_append]
  by_cases h : (formB c (k : Int)).isSome
  · rw [if_pos h, List.filter_cons_of_pos (by simpa using h)]; rfl
  · rw [if_neg h, List.filter_cons_of_neg (by simpa using h)]; rfl
theorem cntO_succ (a : Nat) : cntO (a + 1) = cntO a + cntI (10 * (a : Int)) 130 := by
  unfold cntO
  rw [List.range_succ, List.map_append, List.sum_append]
  simp
theorem cntI_le (c : Int) (k : Nat) : cntI c k ≤ k := by
  unfold cntI
  refine Nat.le_trans (List.length_filter_le _ _) ?_
  simp
theorem cntO_all : cntO 10 = 49 := by decide +kernel
theorem cntO_le (a : Nat) (h : a ≤ 10) : cntO a ≤ 1300 := by
  induction a with
  | zero => simp [cntO]
  | succ a ih =>
    have h1 : cntO (a + 1) ≤ 130 * (a + 1) := by
      clear ih
      induction a with
      | zero => rw [cntO_succ]; have := cntI_le (10 * ((0 : Nat) : Int)) 130; simp only [cntO, List.range_zero, List.map_nil, List.sum_nil]; omega
      | succ a ih2 => rw [cntO_succ]; have := cntI_le (10 * ((a + 1 : Nat) : Int)) 130; have := ih2 (by omega); omega
    omega
set_option maxHeartbeats 2000000 in
theorem mforms_any (c0 i0 : Int) (w : World) (hc0 : (Lit.int .i64 c0).wf = true) (hi0 : (Lit.int .i64 i0).wf = true) :
    Calls Tryd.prog 7 #[.int .i64 c0, .int .i64 i0] w fun e w' => e = .returned (.bool true) ∧ Below w.heap.size w w' := by
  have HC0 := Lib.hid hc0
  have HI0 := Lib.hid hi0
  clear hc0 hi0
  go_enter Tryd.func7, Tryd.ntmps7
  go_wp2_with fail
  go_loopw [0, 1, 5] (fun vc vi vj wr => ∃ (j : Nat) (c i : Int), j ≤ 2 ∧ vj = .int .i64 j ∧ vc = .int .i64 c ∧ vi = .int .i64 i ∧ Hid ((Lit.int .i64 c).wf = true ∧ (Lit.int .i64 i).wf = true) ∧ Hid (Below w.heap.size w wr)) (fun _ _ vj _ => 2 - (intOf vj).toNat)
  case atStart => exact ⟨0, c0, i0, by omega, rfl, rfl, rfl, Lib.hid ⟨HC0.out, HI0.out⟩, Lib.hid (Below.refl _ _)⟩
  case round =>
    obtain ⟨j, c, i, hj, rfl, rfl, rfl, HWF, HB⟩ := hrel
    by_cases hlt : j < 2
    · obtain ⟨s, b, hsb⟩ : ∃ s b, formV c i = .tuple #[.string s, .bool b] := by unfold formV; split <;> exact ⟨_, _, rfl⟩
      have HSB := Lib.hid hsb
      clear hsb
      go_wp2_with fail
      refine (form_any c i wr HWF.out.1 HWF.out.2).mono ?_
      rw [HSB.out]
      rintro e w1 ⟨rfl, hb1⟩
      have HB1 := Lib.hid (HB.out.trans (hb1.mono HB.out.size))
      clear hb1
      go_wp2_with fail
      refine (rform_any c i w1).mono ?_
      rw [HSB.out]
      rintro e w2 ⟨rfl, rfl⟩
      obtain ⟨q1, _, h1, e1⟩ := mask_is c 255 8 (by omega) rfl
      obtain ⟨q2, _, h2, e2⟩ := mask_is i 255 8 (by omega) rfl
      have HM : Hid ((Lit.int .i64 (bits .and .i64 c 255)).wf = true ∧ (Lit.int .i64 (bits .and .i64 i 255)).wf = true) := Lib.hid (by
        rw [e1, e2]
        exact ⟨wf64 (by omega) (by omega), wf64 (by omega) (by omega)⟩)
      clear h1 e1 h2 e2
      go_wp2_with fail
      go_roundw
      case rel => exact ⟨j + 1, _, _, by omega, by go_num, rfl, rfl, HM, HB1⟩
      case measure => simp [intOf]; omega
    · obtain rfl : j = 2 := by omega
      rw [show ((2 : Nat) : Int) = 2 from rfl]
      obtain ⟨wo, hwo⟩ : ∃ wo : World, wo = wr := ⟨_, rfl⟩
      subst hwo
      go_wp2_with fail
      go_loopw [10, 11] (fun vn vc wr => ∃ a : Nat, a ≤ 10 ∧ vn = .int .i64 (cntO a : Nat) ∧ vc = .int .i64 (10 * (a : Int)) ∧ Hid (Below w.heap.size w wr)) (fun _ vc _ => 100 - (intOf vc).toNat)
      case atStart => exact ⟨0, by omega, rfl, rfl, HB⟩
      case round =>
        obtain ⟨a, ha, rfl, rfl, HB⟩ := hrel
        by_cases hlt : a < 10
        · obtain ⟨wo, hwo⟩ : ∃ wo : World, wo = wr := ⟨_, rfl⟩
          subst hwo
          have HW1 := Lib.hid (wf64 (a := 10 * (a : Int)) (by omega) (by omega))
          go_wp2_with fail
          rw [show decide (10 * (a : Int) < 100) = true from decide_eq_true (by omega)]
          go_loopw [10, 12] (fun vn vi wr => ∃ k : Nat, k ≤ 130 ∧ vn = .int .i64 ((cntO a : Int) + (cntI (10 * (a : Int)) k : Int)) ∧ vi = .int .i64 (k : Nat) ∧ Hid (Below w.heap.size w wr)) (fun _ vi _ => 130 - (intOf vi).toNat)
          case atStart => exact ⟨0, by omega, rfl, rfl, HB⟩
          case round =>
            obtain ⟨k, hk, rfl, rfl, HB⟩ := hrel
            by_cases hlt2 : k < 130
            · have HW2 := Lib.hid (wf64 (a := (k : Int)) (by omega) (by omega))
              have hs := cntI_succ (10 * (a : Int)) k
              have hl1 := cntI_le (10 * (a : Int)) k
              have hl2 := cntO_le a (by omega)
              cases hfb : formB (10 * (a : Int)) (k : Int) with
              | none =>
                rw [hfb] at hs
                obtain ⟨s, hsb⟩ : ∃ s, formV (10 * (a : Int)) (k : Int) = .tuple #[.string s, .bool false] := by unfold formV; rw [hfb]; exact ⟨_, rfl⟩
                have HSB := Lib.hid hsb
                clear hsb hfb
                have hs' : cntI (10 * (a : Int)) (k + 1) = cntI (10 * (a : Int)) k := by simpa using hs
                clear hs
                go_wp2_with fail
                refine (form_any _ _ wr HW1.out HW2.out).mono ?_
                rw [HSB.out]
                rintro e w1 ⟨rfl, hb1⟩
                have HB1 := Lib.hid (HB.out.trans (hb1.mono HB.out.size))
                clear hb1
                go_wp2_with fail
                go_roundw
                case rel => exact ⟨k + 1, by omega, by rw [hs'], by go_num, HB1⟩
                case measure => simp [intOf]; omega
              | some f =>
                rw [hfb] at hs
                obtain ⟨s, hsb⟩ : ∃ s, formV (10 * (a : Int)) (k : Int) = .tuple #[.string s, .bool true] := by unfold formV; rw [hfb]; exact ⟨_, rfl⟩
                have HSB := Lib.hid hsb
                clear hsb hfb
                have hs' : cntI (10 * (a : Int)) (k + 1) = cntI (10 * (a : Int)) k + 1 := by simpa using hs
                clear hs
                go_wp2_with fail
                refine (form_any _ _ wr HW1.out HW2.out).mono ?_
                rw [HSB.out]
                rintro e w1 ⟨rfl, hb1⟩
                have HB1 := Lib.hid (HB.out.trans (hb1.mono HB.out.size))
                clear hb1
                go_wp2_with fail
                go_roundw
                case rel => exact ⟨k + 1, by omega, by rw [hs']; go_num, by go_num, HB1⟩
                case measure => simp [intOf]; omega
            · obtain rfl : k = 130 := by omega
              have hs := cntO_succ a
              go_wp2_with fail
              go_roundw
              case rel => exact ⟨a + 1, by omega, by rw [hs]; go_num, by go_num, HB⟩
              case measure => simp [intOf]; omega
        · obtain rfl : a = 10 := by omega
          rw [cntO_all]
          go_wp2_with fail
          refine (awake4_any _).mono ?_
          rintro e w1 ⟨rfl, hb1⟩
          have HB1 := Lib.hid (HB.out.trans (hb1.mono HB.out.size))
          clear hb1
          go_wp2_with fail
          go_ret
          exact ⟨rfl, HB1.out⟩
end Go.Proofs.YtfbodmlllgaipaaDoor
