/- Contracts of package node: octets that are nothing but noughts. -/
import Derived.Test.YtdjkkppefgppmaaNodeB
import Derived.Test.YtdjkkppefgppmaaOctsRr
import Derived.IntWalk
namespace Go.Proofs.Ytdjkkppefgppmaa
open Go.RowKit
set_option maxRecDepth 100000
set_option linter.unusedSimpArgs false
set_option linter.unusedVariables false

theorem not_nought (c : UInt8) (w : World) : Calls Try.prog 43 #[.int .u8 (c.toNat : Int)] w fun e w' => e = .returned (.bool (!(c == 0))) ∧ w = w' := by
  have hc : (c == 0) = decide ((c.toNat : Int) = 0) := by
    rw [Bool.eq_iff_iff]
    simp only [beq_iff_eq, decide_eq_true_eq]
    exact ⟨fun h => by subst h; rfl, fun h => UInt8.toNat_inj.1 (by simpa using h)⟩
  have HC := Lib.hid hc
  clear hc
  go_enter Try.func43, Try.ntmps43
  go_wp2_with fail
  go_ret
  refine ⟨?_, rfl⟩
  rw [HC.out]
  congr 2
/-- where the first octet is that is not nought, or -1 -/
def firstB (b : List UInt8) : Int := match b.findIdx? (fun c => !(c == 0)) with
  | some i => i
  | none => -1
theorem first_is (b : List UInt8) (j : Nat) (hj : j < b.length) (h : ∀ k, (h : k < b.length) → k < j → (!(b[k] == 0)) = false) (h0 : (!(b[j] == 0)) = true) : firstB b = (j : Int) := by
  have e : b.findIdx? (fun c => !(c == 0)) = some j := by
    rw [List.findIdx?_eq_some_iff_getElem]
    exact ⟨hj, h0, fun k hk => by rw [h k (by omega) hk]; simp⟩
  simp only [firstB, e]
theorem first_none (b : List UInt8) (h : ∀ k, (h : k < b.length) → (!(b[k] == 0)) = false) : firstB b = -1 := by
  have e : b.findIdx? (fun c => !(c == 0)) = none := by
    rw [List.findIdx?_eq_none_iff]
    intro x hx
    obtain ⟨k, hk, rfl⟩ := List.mem_iff_getElem.1 hx
    exact h k hk
  simp only [firstB, e]
theorem first_blank (b : List UInt8) : blankB b = decide (firstB b < 0) := by
  unfold firstB
  cases e : b.findIdx? (fun c => !(c == 0)) with
  | none =>
    rw [List.findIdx?_eq_none_iff] at e
    have h : blankB b = true := by
      unfold blankB
      rw [List.all_eq_true]
      intro x hx
      simpa using e x hx
    rw [h]; rfl
  | some i =>
    obtain ⟨hi, h1, _⟩ := List.findIdx?_eq_some_iff_getElem.1 e
    have h : blankB b = false := by
      unfold blankB
      rw [List.all_eq_false]
      exact ⟨b[i], List.getElem_mem hi, by simpa using h1⟩
    rw [h]
    simp
theorem first_any (A : Option Addr) (c B : Nat) (b : List UInt8) (w : World) (hl : Lies w B A (B8 b)) (hs : b.length ≤ 140737488355328) :
    Calls Try.prog 47 #[.slice A b.length c, .func (.func 43) #[] #[]] w fun e w' => e = .returned (.int .i64 (firstB b)) ∧ w = w' := by
  have HL := Lib.hid hl
  clear hl
  go_enter Try.func47, Try.ntmps47
  go_wp2_with fail
  go_loop [5, 8] (fun _ i => ∃ j : Nat, j ≤ b.length ∧ i = .int .i64 j ∧ ∀ k, (h : k < b.length) → k < j → (!(b[k] == 0)) = false) (fun _ i => b.length - (intOf i).toNat)
  case atStart => exact ⟨0, Nat.zero_le _, rfl, fun k _ h => by omega⟩
  case round =>
    obtain ⟨j, hj, rfl, hall⟩ := hrel
    have HA := Lib.hid hall
    clear hall
    by_cases hlt : j < b.length
    · rcases HL.out.octets with rfl | ⟨g, o, rfl, hg, hcell⟩
      · simp at hlt
      have hc := hcell j hlt
      clear hcell
      go_wp2_with fail
      refine (not_nought b[j] _).mono ?_
      rintro e w' ⟨rfl, rfl⟩
      by_cases h0 : (!(b[j] == 0)) = true
      · have e : firstB b = (j : Int) := first_is b j hlt HA.out h0
        have E := Lib.hid e
        clear e
        rw [h0]
        go_wp2_with fail
        go_ret
        rw [E.out]
        exact ⟨rfl, rfl⟩
      · have h0' : (!(b[j] == 0)) = false := by simpa using h0
        have HN : Hid (∀ k, (h : k < b.length) → k < j + 1 → (!(b[k] == 0)) = false) := Lib.hid (by
          intro k h hk
          by_cases e : k = j
          · subst e; exact h0'
          · exact HA.out k h (by omega))
        rw [h0']
        clear h0
        go_wp2_with fail
        go_round
        case rel => exact ⟨j + 1, by omega, by go_num, HN.out⟩
        case measure => simp [intOf]; omega
    · obtain rfl : j = b.length := by omega
      have e : firstB b = -1 := first_none b fun k h => HA.out k h h
      have E := Lib.hid e
      clear e
      go_wp2_with fail
      go_ret
      rw [E.out]
      exact ⟨rfl, rfl⟩
theorem contains_any (A : Option Addr) (c B : Nat) (b : List UInt8) (w : World) (hl : Lies w B A (B8 b)) (hs : b.length ≤ 140737488355328) :
    Calls Try.prog 42 #[.slice A b.length c, .func (.func 43) #[] #[]] w fun e w' => e = .returned (.bool (!blankB b)) ∧ w = w' := by
  have hb := first_blank b
  have HL := Lib.hid hl
  obtain ⟨f, hf⟩ : ∃ f, f = firstB b := ⟨_, rfl⟩
  have HF := Lib.hid hf
  clear hl
  by_cases h : 0 ≤ f
  · have hb' : blankB b = false := by rw [hb, ← hf]; simpa using h
    have HB := Lib.hid hb'
    clear hb hb' hf
    go_enter Try.func42, Try.ntmps42
    go_wp2_with fail
    refine (first_any A c B b _ HL.out hs).mono ?_
    rintro e w' ⟨rfl, rfl⟩
    rw [← HF.out]
    go_wp2_with fail
    go_ret
    rw [HB.out]
    exact ⟨rfl, rfl⟩
  · have hb' : blankB b = true := by rw [hb, ← hf]; simpa using h
    have HB := Lib.hid hb'
    clear hb hb' hf
    go_enter Try.func42, Try.ntmps42
    go_wp2_with fail
    refine (first_any A c B b _ HL.out hs).mono ?_
    rintro e w' ⟨rfl, rfl⟩
    rw [← HF.out]
    go_wp2_with fail
    go_ret
    rw [HB.out]
    refine ⟨?_, rfl⟩
    show Ending.returned (.bool (decide (0 ≤ f))) = .returned (.bool (!true))
    rw [decide_eq_false (by omega)]
    rfl
theorem blank_any (A : Option Addr) (c B : Nat) (b : List UInt8) (w : World) (hl : Lies w B A (B8 b)) (hs : b.length ≤ 140737488355328) :
    Calls Try.prog 30 #[.slice A b.length c] w fun e w' => e = .returned (.bool (blankB b)) ∧ w = w' := by
  have HL := Lib.hid hl
  clear hl
  go_enter Try.func30, Try.ntmps30
  go_wp2_with fail
  refine (contains_any A c B b _ HL.out hs).mono ?_
  rintro e w' ⟨rfl, rfl⟩
  obtain ⟨q, hq⟩ : ∃ q, q = blankB b := ⟨_, rfl⟩
  rw [← hq]
  have HQ := Lib.hid hq
  clear hq
  go_wp2_with fail
  go_ret
  rw [← HQ.out]
  refine ⟨?_, rfl⟩
  show Ending.returned (.bool _) = .returned (.bool q)
  simp
end Go.Proofs.Ytdjkkppefgppmaa
