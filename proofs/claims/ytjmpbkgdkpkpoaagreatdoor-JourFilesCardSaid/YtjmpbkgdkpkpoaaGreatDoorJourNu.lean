/- Layer 8: the number of a name, as the document tells it; names under the table. -/
import Derived.Test.YtjmpbkgdkpkpoaaGreatDoorJourN
import Derived.Lib.SmallJoins
import Derived.Lib.AppendIntMem
namespace Go.Proofs.YtjmpbkgdkpkpoaaGreatDoor
open Go.RowKit Go.Maps
set_option maxRecDepth 100000
set_option linter.unusedSimpArgs false
set_option linter.unusedVariables false
def Tab (w : World) : Prop := Lib.TabIs Tryz.prog w "internal/strconv.uint64pow10" .u64 Lib.pow10Tab
theorem tab_named : ∃ g, Tryz.prog.globalNamed "internal/strconv.uint64pow10" = some g := Option.isSome_iff_exists.1 (by kernel_rfl)
theorem Tab.below {w w' : World} (h : Tab w) (hb : Below w.heap.size w w') : Tab w' := by
  obtain ⟨g, hg⟩ := tab_named
  exact Joins.tab_stays hg h hb (Nat.le_refl _)
theorem itoas_tab {n : Int} (h : 1 ≤ n ∧ n ≤ 999999) {w : World} (ht : Tab w) : Itoas n w :=
  (jl_strconv_Itoa n (by omega) (by omega) w ht).mono fun e w' ⟨h1, k, os, h2⟩ => by
    subst h2
    refine ⟨?_, Lib.below_grow _ _ (Nat.le_refl _) _ _⟩
    rw [h1]
    obtain ⟨u, rfl⟩ : ∃ u : Nat, n = (u : Int) := ⟨n.toNat, by omega⟩
    rw [Lib.itoa_nonneg, Int.toNat_natCast]
theorem dig_i (n : Nat) : ((dig n).toNat : Int) = 48 + ((n % 10 : Nat) : Int) := by rw [dig_val]; omega
set_option maxHeartbeats 8000000 in
theorem number7 (n : Nat) (h1 : 1 ≤ n) (h2 : n ≤ 999999) (w : World) :
    Calls Tryz.prog 38 #[.string ⟨(nmJ (n : Int)).toArray⟩] w fun e w' => e = .returned (.int .i64 (n : Int)) ∧ w = w' := by
  rw [nmJ_in (by omega), Int.toNat_natCast]
  obtain ⟨a, ha⟩ : ∃ a, a = dig (n / 100000) := ⟨_, rfl⟩
  obtain ⟨b, hb⟩ : ∃ b, b = dig (n / 10000) := ⟨_, rfl⟩
  obtain ⟨c, hc⟩ : ∃ c, c = dig (n / 1000) := ⟨_, rfl⟩
  obtain ⟨d, hd⟩ : ∃ d, d = dig (n / 100) := ⟨_, rfl⟩
  obtain ⟨f, hf⟩ : ∃ f, f = dig (n / 10) := ⟨_, rfl⟩
  obtain ⟨g, hg⟩ : ∃ g, g = dig n := ⟨_, rfl⟩
  have va := dig_i (n / 100000)
  have vb := dig_i (n / 10000)
  have vc := dig_i (n / 1000)
  have vd := dig_i (n / 100)
  have vf := dig_i (n / 10)
  have vg := dig_i n
  rw [← ha] at va
  rw [← hb] at vb
  rw [← hc] at vc
  rw [← hd] at vd
  rw [← hf] at vf
  rw [← hg] at vg
  rw [← ha, ← hb, ← hc, ← hd, ← hf, ← hg]
  have VA := Lib.hid va
  have VB := Lib.hid vb
  have VC := Lib.hid vc
  have VD := Lib.hid vd
  have VF := Lib.hid vf
  have VG := Lib.hid vg
  clear ha hb hc hd hf hg va vb vc vd vf vg
  have e0 : ((((⟨#[106, a, b, c, d, f, g]⟩ : ByteArray)[0]'(by show 0 < 7; omega)).toNat : Int) != 106) = false := rfl
  go_enter Tryz.func38, Tryz.ntmps38
  go_wp2_with fail
  go_loopw [3, 4] (fun v3 v4 wr => wr = w ∧ ∃ j V : Nat, 1 ≤ j ∧ j ≤ 7 ∧ v4 = .int .i64 (j : Int) ∧ v3 = .int .i64 (V : Int) ∧ V = n / 10 ^ (7 - j)) (fun _ v4 _ => 7 - (intOf v4).toNat)
  case atStart => exact ⟨rfl, 1, 0, by omega, by omega, rfl, rfl, by rw [Nat.div_eq_of_lt (by omega)]⟩
  case round =>
    obtain ⟨rfl, j, V, hj1, hj2, rfl, rfl, hV⟩ := hrel
    rcases (show j = 1 ∨ j = 2 ∨ j = 3 ∨ j = 4 ∨ j = 5 ∨ j = 6 ∨ j = 7 by omega) with rfl | rfl | rfl | rfl | rfl | rfl | rfl
    · have hV2 : V = n / 1000000 := hV
      have HV := Lib.hid hV2
      obtain ⟨x, hx⟩ : ∃ x, x = n / 100000 % 10 := ⟨_, rfl⟩
      have hx10 : x < 10 := by omega
      have v := VA.out
      rw [← hx] at v
      have HX := Lib.hid hx
      have hVl : V ≤ 99999 := by omega
      have e : ((⟨#[106, a, b, c, d, f, g]⟩ : ByteArray)[1]'(by show 1 < 7; omega)) = a := rfl
      have l1 : ¬ (((⟨#[106, a, b, c, d, f, g]⟩ : ByteArray)[1]'(by show 1 < 7; omega)).toNat : Int) < 48 := by rw [e]; omega
      have l2 : ¬ (57 : Int) < (((⟨#[106, a, b, c, d, f, g]⟩ : ByteArray)[1]'(by show 1 < 7; omega)).toNat : Int) := by rw [e]; omega
      have l3 : IntKind.u8.wrap ((((⟨#[106, a, b, c, d, f, g]⟩ : ByteArray)[1]'(by show 1 < 7; omega)).toNat : Int) - 48) = (x : Int) := by
        rw [e, v]
        have : IntKind.u8.wrap (48 + (x : Int) - 48) = (48 + (x : Int) - 48) % 256 := by simp [IntKind.wrap, IntKind.signed, IntKind.bits]
        rw [this]
        omega
      have l4 : IntKind.i64.wrap (10 * (V : Int)) = 10 * (V : Int) := IntWalk.i64_in _ ⟨by omega, by omega⟩
      have l5 : IntKind.i64.wrap (10 * (V : Int) + (x : Int)) = 10 * (V : Int) + (x : Int) := IntWalk.i64_in _ ⟨by omega, by omega⟩
      have l6 : IntKind.i64.wrap (x : Int) = (x : Int) := IntWalk.i64_in _ ⟨by omega, by omega⟩
      clear hV hV2 hx v e
      go_wp2_with fail
      go_roundw
      case rel => exact ⟨trivial, 2, 10 * V + x, by omega, by omega, rfl, by go_num, by have := HV.out; have := HX.out; show 10 * V + x = n / 100000; omega⟩
      case measure => simp [intOf]
    · have hV2 : V = n / 100000 := hV
      have HV := Lib.hid hV2
      obtain ⟨x, hx⟩ : ∃ x, x = n / 10000 % 10 := ⟨_, rfl⟩
      have hx10 : x < 10 := by omega
      have v := VB.out
      rw [← hx] at v
      have HX := Lib.hid hx
      have hVl : V ≤ 99999 := by omega
      have e : ((⟨#[106, a, b, c, d, f, g]⟩ : ByteArray)[2]'(by show 2 < 7; omega)) = b := rfl
      have l1 : ¬ (((⟨#[106, a, b, c, d, f, g]⟩ : ByteArray)[2]'(by show 2 < 7; omega)).toNat : Int) < 48 := by rw [e]; omega
      have l2 : ¬ (57 : Int) < (((⟨#[106, a, b, c, d, f, g]⟩ : ByteArray)[2]'(by show 2 < 7; omega)).toNat : Int) := by rw [e]; omega
      have l3 : IntKind.u8.wrap ((((⟨#[106, a, b, c, d, f, g]⟩ : ByteArray)[2]'(by show 2 < 7; omega)).toNat : Int) - 48) = (x : Int) := by
        rw [e, v]
        have : IntKind.u8.wrap (48 + (x : Int) - 48) = (48 + (x : Int) - 48) % 256 := by simp [IntKind.wrap, IntKind.signed, IntKind.bits]
        rw [this]
        omega
      have l4 : IntKind.i64.wrap (10 * (V : Int)) = 10 * (V : Int) := IntWalk.i64_in _ ⟨by omega, by omega⟩
      have l5 : IntKind.i64.wrap (10 * (V : Int) + (x : Int)) = 10 * (V : Int) + (x : Int) := IntWalk.i64_in _ ⟨by omega, by omega⟩
      have l6 : IntKind.i64.wrap (x : Int) = (x : Int) := IntWalk.i64_in _ ⟨by omega, by omega⟩
      clear hV hV2 hx v e
      go_wp2_with fail
      go_roundw
      case rel => exact ⟨trivial, 3, 10 * V + x, by omega, by omega, rfl, by go_num, by have := HV.out; have := HX.out; show 10 * V + x = n / 10000; omega⟩
      case measure => simp [intOf]
    · have hV2 : V = n / 10000 := hV
      have HV := Lib.hid hV2
      obtain ⟨x, hx⟩ : ∃ x, x = n / 1000 % 10 := ⟨_, rfl⟩
      have hx10 : x < 10 := by omega
      have v := VC.out
      rw [← hx] at v
      have HX := Lib.hid hx
      have hVl : V ≤ 99999 := by omega
      have e : ((⟨#[106, a, b, c, d, f, g]⟩ : ByteArray)[3]'(by show 3 < 7; omega)) = c := rfl
      have l1 : ¬ (((⟨#[106, a, b, c, d, f, g]⟩ : ByteArray)[3]'(by show 3 < 7; omega)).toNat : Int) < 48 := by rw [e]; omega
      have l2 : ¬ (57 : Int) < (((⟨#[106, a, b, c, d, f, g]⟩ : ByteArray)[3]'(by show 3 < 7; omega)).toNat : Int) := by rw [e]; omega
      have l3 : IntKind.u8.wrap ((((⟨#[106, a, b, c, d, f, g]⟩ : ByteArray)[3]'(by show 3 < 7; omega)).toNat : Int) - 48) = (x : Int) := by
        rw [e, v]
        have : IntKind.u8.wrap (48 + (x : Int) - 48) = (48 + (x : Int) - 48) % 256 := by simp [IntKind.wrap, IntKind.signed, IntKind.bits]
        rw [this]
        omega
      have l4 : IntKind.i64.wrap (10 * (V : Int)) = 10 * (V : Int) := IntWalk.i64_in _ ⟨by omega, by omega⟩
      have l5 : IntKind.i64.wrap (10 * (V : Int) + (x : Int)) = 10 * (V : Int) + (x : Int) := IntWalk.i64_in _ ⟨by omega, by omega⟩
      have l6 : IntKind.i64.wrap (x : Int) = (x : Int) := IntWalk.i64_in _ ⟨by omega, by omega⟩
      clear hV hV2 hx v e
      go_wp2_with fail
      go_roundw
      case rel => exact ⟨trivial, 4, 10 * V + x, by omega, by omega, rfl, by go_num, by have := HV.out; have := HX.out; show 10 * V + x = n / 1000; omega⟩
      case measure => simp [intOf]
    · have hV2 : V = n / 1000 := hV
      have HV := Lib.hid hV2
      obtain ⟨x, hx⟩ : ∃ x, x = n / 100 % 10 := ⟨_, rfl⟩
      have hx10 : x < 10 := by omega
      have v := VD.out
      rw [← hx] at v
      have HX := Lib.hid hx
      have hVl : V ≤ 99999 := by omega
      have e : ((⟨#[106, a, b, c, d, f, g]⟩ : ByteArray)[4]'(by show 4 < 7; omega)) = d := rfl
      have l1 : ¬ (((⟨#[106, a, b, c, d, f, g]⟩ : ByteArray)[4]'(by show 4 < 7; omega)).toNat : Int) < 48 := by rw [e]; omega
      have l2 : ¬ (57 : Int) < (((⟨#[106, a, b, c, d, f, g]⟩ : ByteArray)[4]'(by show 4 < 7; omega)).toNat : Int) := by rw [e]; omega
      have l3 : IntKind.u8.wrap ((((⟨#[106, a, b, c, d, f, g]⟩ : ByteArray)[4]'(by show 4 < 7; omega)).toNat : Int) - 48) = (x : Int) := by
        rw [e, v]
        have : IntKind.u8.wrap (48 + (x : Int) - 48) = (48 + (x : Int) - 48) % 256 := by simp [IntKind.wrap, IntKind.signed, IntKind.bits]
        rw [this]
        omega
      have l4 : IntKind.i64.wrap (10 * (V : Int)) = 10 * (V : Int) := IntWalk.i64_in _ ⟨by omega, by omega⟩
      have l5 : IntKind.i64.wrap (10 * (V : Int) + (x : Int)) = 10 * (V : Int) + (x : Int) := IntWalk.i64_in _ ⟨by omega, by omega⟩
      have l6 : IntKind.i64.wrap (x : Int) = (x : Int) := IntWalk.i64_in _ ⟨by omega, by omega⟩
      clear hV hV2 hx v e
      go_wp2_with fail
      go_roundw
      case rel => exact ⟨trivial, 5, 10 * V + x, by omega, by omega, rfl, by go_num, by have := HV.out; have := HX.out; show 10 * V + x = n / 100; omega⟩
      case measure => simp [intOf]
    · have hV2 : V = n / 100 := hV
      have HV := Lib.hid hV2
      obtain ⟨x, hx⟩ : ∃ x, x = n / 10 % 10 := ⟨_, rfl⟩
      have hx10 : x < 10 := by omega
      have v := VF.out
      rw [← hx] at v
      have HX := Lib.hid hx
      have hVl : V ≤ 99999 := by omega
      have e : ((⟨#[106, a, b, c, d, f, g]⟩ : ByteArray)[5]'(by show 5 < 7; omega)) = f := rfl
      have l1 : ¬ (((⟨#[106, a, b, c, d, f, g]⟩ : ByteArray)[5]'(by show 5 < 7; omega)).toNat : Int) < 48 := by rw [e]; omega
      have l2 : ¬ (57 : Int) < (((⟨#[106, a, b, c, d, f, g]⟩ : ByteArray)[5]'(by show 5 < 7; omega)).toNat : Int) := by rw [e]; omega
      have l3 : IntKind.u8.wrap ((((⟨#[106, a, b, c, d, f, g]⟩ : ByteArray)[5]'(by show 5 < 7; omega)).toNat : Int) - 48) = (x : Int) := by
        rw [e, v]
        have : IntKind.u8.wrap (48 + (x : Int) - 48) = (48 + (x : Int) - 48) % 256 := by simp [IntKind.wrap, IntKind.signed, IntKind.bits]
        rw [this]
        omega
      have l4 : IntKind.i64.wrap (10 * (V : Int)) = 10 * (V : Int) := IntWalk.i64_in _ ⟨by omega, by omega⟩
      have l5 : IntKind.i64.wrap (10 * (V : Int) + (x : Int)) = 10 * (V : Int) + (x : Int) := IntWalk.i64_in _ ⟨by omega, by omega⟩
      have l6 : IntKind.i64.wrap (x : Int) = (x : Int) := IntWalk.i64_in _ ⟨by omega, by omega⟩
      clear hV hV2 hx v e
      go_wp2_with fail
      go_roundw
      case rel => exact ⟨trivial, 6, 10 * V + x, by omega, by omega, rfl, by go_num, by have := HV.out; have := HX.out; show 10 * V + x = n / 10; omega⟩
      case measure => simp [intOf]
    · have hV2 : V = n / 10 := hV
      have HV := Lib.hid hV2
      obtain ⟨x, hx⟩ : ∃ x, x = n % 10 := ⟨_, rfl⟩
      have hx10 : x < 10 := by omega
      have v := VG.out
      rw [← hx] at v
      have HX := Lib.hid hx
      have hVl : V ≤ 99999 := by omega
      have e : ((⟨#[106, a, b, c, d, f, g]⟩ : ByteArray)[6]'(by show 6 < 7; omega)) = g := rfl
      have l1 : ¬ (((⟨#[106, a, b, c, d, f, g]⟩ : ByteArray)[6]'(by show 6 < 7; omega)).toNat : Int) < 48 := by rw [e]; omega
      have l2 : ¬ (57 : Int) < (((⟨#[106, a, b, c, d, f, g]⟩ : ByteArray)[6]'(by show 6 < 7; omega)).toNat : Int) := by rw [e]; omega
      have l3 : IntKind.u8.wrap ((((⟨#[106, a, b, c, d, f, g]⟩ : ByteArray)[6]'(by show 6 < 7; omega)).toNat : Int) - 48) = (x : Int) := by
        rw [e, v]
        have : IntKind.u8.wrap (48 + (x : Int) - 48) = (48 + (x : Int) - 48) % 256 := by simp [IntKind.wrap, IntKind.signed, IntKind.bits]
        rw [this]
        omega
      have l4 : IntKind.i64.wrap (10 * (V : Int)) = 10 * (V : Int) := IntWalk.i64_in _ ⟨by omega, by omega⟩
      have l5 : IntKind.i64.wrap (10 * (V : Int) + (x : Int)) = 10 * (V : Int) + (x : Int) := IntWalk.i64_in _ ⟨by omega, by omega⟩
      have l6 : IntKind.i64.wrap (x : Int) = (x : Int) := IntWalk.i64_in _ ⟨by omega, by omega⟩
      clear hV hV2 hx v e
      go_wp2_with fail
      go_roundw
      case rel => exact ⟨trivial, 7, 10 * V + x, by omega, by omega, rfl, by go_num, by have := HV.out; have := HX.out; show 10 * V + x = n / 1; omega⟩
      case measure => simp [intOf]
    · have hVn : V = n := by rw [hV]; simp
      subst hVn
      clear hV
      go_wp2_with fail
      go_ret
      exact ⟨rfl, rfl⟩
end Go.Proofs.YtjmpbkgdkpkpoaaGreatDoor
