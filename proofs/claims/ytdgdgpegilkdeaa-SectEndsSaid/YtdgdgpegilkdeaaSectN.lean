/- Layer 7: New; a sector of a number. -/
import Derived.Test.YtdgdgpegilkdeaaSectF
import Derived.Test.YtdgdgpegilkdeaaWords2
import Derived.LoopTactic
namespace Go.Proofs.Ytdgdgpegilkdeaa
open Go.RowKit Go.Maps
set_option maxRecDepth 100000
set_option linter.unusedSimpArgs false
set_option linter.unusedVariables false
def newDv (most : Int) : Dv := { most := (min (max most 0) 100000).toNat, left := -1, fs := [] }
theorem newDv_ok (m : Int) : Ok (newDv m) where
  rising := List.Pairwise.nil
  names := fun nm F h => by cases h
  few := Nat.zero_le _
  room := Nat.zero_le _
  most := by simp [newDv]; omega
  left := by simp [newDv]
  once := fun nm F h => by cases h
  full := fun nm F h => by cases h
theorem dev_new (m : Int) (w : World) (mo : Int) (h : mo = ((newDv m).most : Int)) :
    Dev (fun i => w.heap.size ≤ i ∧ i < w.heap.size + 4) ((((w.alloc (.map #[] 0)).alloc (.map #[] 0)).alloc (.map #[] 0)).alloc (.cells #[.int .i64 mo, .int .i64 0, .map (some w.heap.size), .map (some (w.heap.size + 1)), .map (some (w.heap.size + 1 + 1)), .int .i64 (-1)] 62)) (w.heap.size + 1 + 1 + 1) (newDv m) := by
  have M1 := MapF.made (P := Try.prog) (kt := 9) (ok := nmOk) (kl := nmL) w
  have M2 := MapF.made (P := Try.prog) (kt := 68) (ok := plOk) (kl := plL) (w.alloc (.map #[] 0))
  have M3 := MapF.made (P := Try.prog) (kt := 68) (ok := plOk) (kl := plL) ((w.alloc (.map #[] 0)).alloc (.map #[] 0))
  rw [show (w.alloc (.map #[] 0)).heap.size = w.heap.size + 1 by simp] at M2
  rw [show ((w.alloc (.map #[] 0)).alloc (.map #[] 0)).heap.size = w.heap.size + 1 + 1 by simp] at M3
  have hs : (((w.alloc (.map #[] 0)).alloc (.map #[] 0)).alloc (.map #[] 0)).heap.size = w.heap.size + 1 + 1 + 1 := by simp
  have hc := heap_alloc_new (((w.alloc (.map #[] 0)).alloc (.map #[] 0)).alloc (.map #[] 0)) (.cells #[.int .i64 mo, .int .i64 0, .map (some w.heap.size), .map (some (w.heap.size + 1)), .map (some (w.heap.size + 1 + 1)), .int .i64 (-1)] 62)
  rw [hs] at hc
  refine ⟨newDv_ok m, w.heap.size, w.heap.size + 1, w.heap.size + 1 + 1, fun _ => .slice none 0 0, ?_, ?_, ?_, ?_, ?_, ?_, ?_, ?_⟩
  · rw [hc, h]; rfl
  · exact (M1.block (Below.heap_alloc _ _ _ (by simp)) |>.block (Below.heap_alloc _ _ _ (by simp <;> omega)) |>.block (Below.heap_alloc _ _ _ (by simp <;> omega)))
  · exact (M2.block (Below.heap_alloc _ _ _ (by simp)) |>.block (Below.heap_alloc _ _ _ (by simp <;> omega)))
  · exact M3.block (Below.heap_alloc _ _ _ (by simp))
  · refine ⟨?_, ?_, ?_, ?_⟩ <;> constructor <;> omega
  · refine ⟨?_, ?_, ?_⟩ <;> omega
  · intro nm F hF; cases hF
  · intro nm nm' F F' _ hF; cases hF
set_option maxHeartbeats 4000000 in
theorem new_any (m : Int) (w : World) (hm : -9223372036854775808 ≤ m ∧ m < 9223372036854775808) :
    Calls Try.prog 9 #[.int .i64 m] w fun e w' => ∃ g, e = .returned (ptr g) ∧ Dev (fun i => w.heap.size ≤ i ∧ i < w.heap.size + 4) w' g (newDv m) ∧ Below w.heap.size w w' := by
  obtain ⟨m1, m2⟩ := hm
  have hmm := @run_makeMap Try.prog
  go_enter Try.func9, Try.ntmps9
  go_wp2
  all_goals
    go_ret
    refine ⟨_, rfl, dev_new m w _ (by first | (simp [newDv]; done) | (simp [newDv]; omega)), ((((Below.refl _ _).alloc (Nat.le_refl _) _).alloc (by simp) _).alloc (by simp; omega) _).alloc (by simp; omega) _⟩
theorem wp_rename2 {P : Program} {c : Code} {Q : Exit → Act → World → Prop} {a : Act} {W : World} (I : World → Prop) (hI : I W) (k : ∀ W', I W' → Code.wp P c Q a W') : Code.wp P c Q a W := k W hI
theorem sector_end {w : World} {b : Nat} {cs : Array Value} (hg : w.heap[b]? = some (.cells cs 36 (0, 0))) (hs : cs.size = 64) (tmps : Array Value) (ds) (h2 : tmps.getD 2 undef = ptr b)
    (R : Ending → World → Prop) (hR : R (.returned (.agg cs)) w) (hd : ds = []) : bodyPost Try.prog Try.f18 R .ret { tmps := tmps, defers := ds } w := by
  refine bodyPost_ret (v := .agg cs) ?_ hd hR
  have hres : Try.f18.results = #[.cell 2 36] := rfl
  simp only [results, hres]
  have h2' : tmps[2]?.getD undef = ptr b := by simpa using h2
  simp [Sem.run_bind, Result.andThen, h2', asAddr, load_row64 w b cs hg hs]
/-- the octets of a number's sector -/
def secL (n : Int) : List UInt8 := (List.range 64).map fun i => UInt8.ofNat ((n / 2 ^ (i % 8)) % 256).toNat
def secI (n : Int) : Sec := ⟨secL n, by simp [secL]⟩
/-- its first k octets, and noughts -/
def secK (n : Int) (k : Nat) : Sec := ⟨(List.range 64).map fun i => if i < k then UInt8.ofNat ((n / 2 ^ (i % 8)) % 256).toNat else 0, by simp⟩
theorem secK_zero (n : Int) : secK n 0 = zSec := by
  apply Subtype.ext
  show (List.range 64).map (fun i => if i < 0 then _ else (0 : UInt8)) = List.replicate 64 0
  simp
  rfl
theorem secK_all (n : Int) : secK n 64 = secI n := by
  apply Subtype.ext
  unfold secK secI secL
  simp only []
  apply List.map_congr_left
  intro i hi
  rw [if_pos (List.mem_range.1 hi)]
theorem secK_step (n : Int) (k : Nat) (hk : k < 64) : (csF (secK n k)).setIfInBounds k (.int .u8 ((n / 2 ^ (k % 8)) % 256)) = csF (secK n (k + 1)) := by
  apply Array.ext_getElem?
  intro i
  simp only [csF, B8, secK, List.map_map, Array.getElem?_setIfInBounds, List.getElem?_toArray, List.getElem?_map, List.size_toArray, List.length_map, List.length_range]
  by_cases e : k = i
  · subst e
    rw [if_pos rfl, if_pos hk, List.getElem?_range hk]
    simp
    have h1 := Int.emod_nonneg (n / 2 ^ (k % 8)) (show (256 : Int) ≠ 0 by omega)
    have h2 := Int.emod_lt_of_pos (n / 2 ^ (k % 8)) (show (0 : Int) < 256 by omega)
    omega
  · rw [if_neg e]
    rcases Nat.lt_or_ge i 64 with h | h
    · rw [List.getElem?_range h]
      simp only [Option.map_some, Function.comp]
      by_cases h2 : i < k
      · simp [h2, show i < k + 1 by omega]
      · simp [h2, show ¬ i < k + 1 by omega]
    · rw [List.getElem?_eq_none (by simpa using h)]
      rfl
set_option maxHeartbeats 4000000 in
theorem sector_any (n : Int) (w : World) (hn : -9223372036854775808 ≤ n ∧ n < 9223372036854775808) :
    Calls Try.prog 18 #[.int .i64 n] w fun e w' => e = .returned (.agg (csF (secI n))) ∧ Below w.heap.size w w' := by
  obtain ⟨n1, n2⟩ := hn
  go_enter Try.func18, Try.ntmps18
  go_upto_region 1 with (fail)
  refine wp_rename2 (fun W => Below w.heap.size w W ∧ W.heap[w.heap.size]? = some (.cells (csF zSec) 36 (0, 0)) ∧ W.heap.size = w.heap.size + 1) ?_ ?_
  · exact ⟨(Below.refl _ _).alloc (Nat.le_refl _) _, heap_alloc_new w _, by simp⟩
  rintro W1 ⟨hB1, hrow1, hz1⟩
  have B1 := Lib.hid hB1
  have P1 := Lib.hid hrow1
  have Z1 := Lib.hid hz1
  have hl1 : w.heap.size < W1.heap.size := by omega
  clear hB1 hrow1 hz1
  go_upto_region 2 with (with_reducible refine at_store36 ?_; go_must (refine wpList_store64 rfl (.tmp 3) (.tmp 5) rfl W1.heap.size zSec rfl rfl (csF zSec) (heap_alloc_new W1 _) (csF_size _) ?_))
  refine wp_rename2 (fun W => Below w.heap.size w W ∧ W.heap[w.heap.size]? = some (.cells (csF zSec) 36 (0, 0)) ∧ Whole W W1.heap.size 36 (csF zSec)) ?_ ?_
  · refine ⟨below_setRow (B1.out.alloc (Nat.le_of_lt hl1) _) (Nat.le_of_lt hl1) _, (setRow_other _ _ _ _ (by omega)).trans ((Below.heap_alloc W1 _ _ hl1).trans P1.out), setRow_heap _ _ _ _ _ _ (heap_alloc_new W1 _)⟩
  rintro W2 ⟨hB2, hrow2, hw2⟩
  have B2 := Lib.hid hB2
  have P2 := Lib.hid hrow2
  have V2 := Lib.hid hw2
  clear hB2 hrow2 hw2
  go_wp2_with fail
  go_loopw [4] (fun vi W => ∃ k : Nat, k ≤ 64 ∧ vi = .int .i64 (k : Int) ∧ W2.grownBy W (some W1.heap.size) ∧ Whole W W1.heap.size 36 (csF (secK n k))) (fun vi _ => 64 - (intOf vi).toNat)
  case atStart => exact ⟨0, Nat.zero_le _, rfl, only_refl _ _, by rw [secK_zero]; exact V2.out⟩
  case round =>
    obtain ⟨k, hk, rfl, hg, hwk⟩ := hrel
    have G := Lib.hid hg
    have WK := Lib.hid hwk
    by_cases hlt : k < 64
    · have hb : bits .and .i64 (k : Int) 7 = ((k % 8 : Nat) : Int) := by
        have := i64_mask (k : Int) 3 (by omega)
        simpa using this
      have hlt8 : k % 8 < 8 := Nat.mod_lt _ (by omega)
      have hc : (wr.cell? ⟨W1.heap.size, k, none⟩).isSome = true := by rw [hwk.cell]; simp [csF_size, hlt]
      obtain ⟨c, hc⟩ := Option.isSome_iff_exists.1 hc
      have hf := hwk.frozen k
      clear hg hwk
      obtain ⟨q, hq⟩ : ∃ q, q = k % 8 := ⟨_, rfl⟩
      rw [← hq] at hb hlt8
      have HQ := Lib.hid hq
      clear hq
      go_wp2
      go_roundw
      case rel =>
        refine ⟨k + 1, by omega, by go_num, only_set G.out k _, ?_⟩
        rw [← secK_step n k hlt, ← HQ.out]
        exact WK.out.put k _
      case measure => simp [intOf]; omega
    · have hk64 : k = 64 := by omega
      subst hk64
      have hl2 : w.heap.size < W2.heap.size := (Array.getElem?_eq_some_iff.1 P2.out).1
      have P3 := Lib.hid ((hg.block _ hl2 (fun e => by have := Option.some.inj e; omega)).trans P2.out)
      have WA := Lib.hid (show wr.heap[W1.heap.size]? = some (.cells (csF (secI n)) 36 (0, 0)) by rw [← secK_all]; exact hwk)
      have B3 := Lib.hid (B2.out.grown hg (by omega) (fun i hi => by have := Option.some.inj hi; omega))
      clear hg hwk
      go_wp2_with (first
        | (with_reducible refine at_store36 ?_; go_must (refine wpList_store64 rfl (.tmp 2) (.tmp 18) rfl w.heap.size (secI n) rfl rfl (csF zSec) P3.out (csF_size _) ?_))
        | (with_reducible refine at_load36 ?_; go_must (refine wpList_load64 rfl (.tmp 3) rfl W1.heap.size (secI n) rfl WA.out ?_)))
      refine sector_end (b := w.heap.size) (cs := csF (secI n)) (setRow_heap _ _ _ _ _ _ P3.out) (csF_size _) _ _ ?g1 _ ?g2 ?g3
      case g1 => rfl
      case g3 => rfl
      exact ⟨rfl, below_setRow B3.out (Nat.le_refl _) _⟩
end Go.Proofs.Ytdgdgpegilkdeaa
