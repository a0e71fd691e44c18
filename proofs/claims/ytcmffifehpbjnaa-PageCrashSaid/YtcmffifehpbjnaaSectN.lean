/- Layer 7: New; the octets of a number's sector. -/
import Derived.Test.YtcmffifehpbjnaaSectF
import Derived.Test.YtcmffifehpbjnaaWords2
import Derived.LoopTactic
namespace Go.Proofs.Ytcmffifehpbjnaa
open Go.RowKit Go.Maps
set_option maxRecDepth 100000
set_option linter.unusedSimpArgs false
set_option linter.unusedVariables false
def newDv (most : Int) : Dv := { most := (min (max most 0) 100000).toNat, left := -1, fs := [] }
theorem newDv_ok (m : Int) : Ok (newDv m) where
  rising := List.Pairwise.nil
  names := fun nm F h => by cases h
  few := Nat.zero_le _
  room := Nat.zero_le _
  most := by simp [newDv]; omega
  left := by simp [newDv]
  once := fun nm F h => by cases h
  full := fun nm F h => by cases h
theorem dev_new (m : Int) (w : World) (mo : Int) (h : mo = ((newDv m).most : Int)) :
    Dev (fun i => w.heap.size ≤ i ∧ i < w.heap.size + 4) ((((w.alloc (.map #[] 0)).alloc (.map #[] 0)).alloc (.map #[] 0)).alloc (.cells #[.int .i64 mo, .int .i64 0, .map (some w.heap.size), .map (some (w.heap.size + 1)), .map (some (w.heap.size + 1 + 1)), .int .i64 (-1)] 75)) (w.heap.size + 1 + 1 + 1) (newDv m) := by
  have M1 := MapF.made (P := Try.prog) (kt := 9) (ok := nmOk) (kl := nmL) w
  have M2 := MapF.made (P := Try.prog) (kt := 86) (ok := plOk) (kl := plL) (w.alloc (.map #[] 0))
  have M3 := MapF.made (P := Try.prog) (kt := 86) (ok := plOk) (kl := plL) ((w.alloc (.map #[] 0)).alloc (.map #[] 0))
  rw [show (w.alloc (.map #[] 0)).heap.size = w.heap.size + 1 by simp] at M2
  rw [show ((w.alloc (.map #[] 0)).alloc (.map #[] 0)).heap.size = w.heap.size + 1 + 1 by simp] at M3
  have hs : (((w.alloc (.map #[] 0)).alloc (.map #[] 0)).alloc (.map #[] 0)).heap.size = w.heap.size + 1 + 1 + 1 := by simp
  have hc := heap_alloc_new (((w.alloc (.map #[] 0)).alloc (.map #[] 0)).alloc (.map #[] 0)) (.cells #[.int .i64 mo, .int .i64 0, .map (some w.heap.size), .map (some (w.heap.size + 1)), .map (some (w.heap.size + 1 + 1)), .int .i64 (-1)] 75)
  rw [hs] at hc
  refine ⟨newDv_ok m, w.heap.size, w.heap.size + 1, w.heap.size + 1 + 1, fun _ => .slice none 0 0, ?_, ?_, ?_, ?_, ?_, ?_, ?_, ?_⟩
  · rw [hc, h]; rfl
  · exact (M1.block (Below.heap_alloc _ _ _ (by simp)) |>.block (Below.heap_alloc _ _ _ (by simp <;> omega)) |>.block (Below.heap_alloc _ _ _ (by simp <;> omega)))
  · exact (M2.block (Below.heap_alloc _ _ _ (by simp)) |>.block (Below.heap_alloc _ _ _ (by simp <;> omega)))
  · exact M3.block (Below.heap_alloc _ _ _ (by simp))
  · refine ⟨?_, ?_, ?_, ?_⟩ <;> constructor <;> omega
  · refine ⟨?_, ?_, ?_⟩ <;> omega
  · intro nm F hF; cases hF
  · intro nm nm' F F' _ hF; cases hF
set_option maxHeartbeats 4000000 in
theorem new_any (m : Int) (w : World) (hm : -9223372036854775808 ≤ m ∧ m < 9223372036854775808) :
    Calls Try.prog 9 #[.int .i64 m] w fun e w' => ∃ g, e = .returned (ptr g) ∧ Dev (fun i => w.heap.size ≤ i ∧ i < w.heap.size + 4) w' g (newDv m) ∧ Below w.heap.size w w' := by
  obtain ⟨m1, m2⟩ := hm
  have hmm := @run_makeMap Try.prog
  go_enter Try.func9, Try.ntmps9
  go_wp2
  all_goals
    go_ret
    refine ⟨_, rfl, dev_new m w _ (by first | (simp [newDv]; done) | (simp [newDv]; omega)), ((((Below.refl _ _).alloc (Nat.le_refl _) _).alloc (by simp) _).alloc (by simp; omega) _).alloc (by simp; omega) _⟩
theorem wp_rename2 {P : Program} {c : Code} {Q : Exit → Act → World → Prop} {a : Act} {W : World} (I : World → Prop) (hI : I W) (k : ∀ W', I W' → Code.wp P c Q a W') : Code.wp P c Q a W := k W hI
/-- the octets of a number's sector -/
def secL (n : Int) : List UInt8 := (List.range 64).map fun i => UInt8.ofNat ((n / 2 ^ (i % 8)) % 256).toNat
def secI (n : Int) : Sec := ⟨secL n, by simp [secL]⟩
/-- its first k octets, and noughts -/
def secK (n : Int) (k : Nat) : Sec := ⟨(List.range 64).map fun i => if i < k then UInt8.ofNat ((n / 2 ^ (i % 8)) % 256).toNat else 0, by simp⟩
theorem secK_zero (n : Int) : secK n 0 = zSec := by
  apply Subtype.ext
  show (List.range 64).map (fun i => if i < 0 then _ else (0 : UInt8)) = List.replicate 64 0
  simp
  rfl
theorem secK_all (n : Int) : secK n 64 = secI n := by
  apply Subtype.ext
  unfold secK secI secL
  simp only []
  apply List.map_congr_left
  intro i hi
  rw [if_pos (List.mem_range.1 hi)]
theorem secK_step (n : Int) (k : Nat) (hk : k < 64) : (csF (secK n k)).setIfInBounds k (.int .u8 ((n / 2 ^ (k % 8)) % 256)) = csF (secK n (k + 1)) := by
  apply Array.ext_getElem?
  intro i
  simp only [csF, B8, secK, List.map_map, Array.getElem?_setIfInBounds, List.getElem?_toArray, List.getElem?_map, List.size_toArray, List.length_map, List.length_range]
  by_cases e : k = i
  · subst e
    rw [if_pos rfl, if_pos hk, List.getElem?_range hk]
    simp
    have h1 := Int.emod_nonneg (n / 2 ^ (k % 8)) (show (256 : Int) ≠ 0 by omega)
    have h2 := Int.emod_lt_of_pos (n / 2 ^ (k % 8)) (show (0 : Int) < 256 by omega)
    omega
  · rw [if_neg e]
    rcases Nat.lt_or_ge i 64 with h | h
    · rw [List.getElem?_range h]
      simp only [Option.map_some, Function.comp]
      by_cases h2 : i < k
      · simp [h2, show i < k + 1 by omega]
      · simp [h2, show ¬ i < k + 1 by omega]
    · rw [List.getElem?_eq_none (by simpa using h)]
      rfl
end Go.Proofs.Ytcmffifehpbjnaa
