/- Layer 7: the statements' sector of a number, as a call. -/
import Derived.Test.YtloomcompnopkaaSectZ
namespace Go.Proofs.Ytloomcompnopkaa
open Go.RowKit Go.Maps
set_option maxRecDepth 100000
set_option linter.unusedSimpArgs false
set_option linter.unusedVariables false
theorem sector_end {w : World} {b : Nat} {cs : Array Value} (hg : w.heap[b]? = some (.cells cs 36 (0, 0))) (hs : cs.size = 64) (tmps : Array Value) (ds) (h2 : tmps.getD 2 undef = ptr b)
    (R : Ending → World → Prop) (hR : R (.returned (.agg cs)) w) (hd : ds = []) : bodyPost Try.prog Try.f18 R .ret { tmps := tmps, defers := ds } w := by
  refine bodyPost_ret (v := .agg cs) ?_ hd hR
  have hres : Try.f18.results = #[.cell 2 36] := rfl
  simp only [results, hres]
  have h2' : tmps[2]?.getD undef = ptr b := by simpa using h2
  simp [Sem.run_bind, Result.andThen, h2', asAddr, load_row64 w b cs hg hs]
set_option maxHeartbeats 4000000 in
theorem sector_any (n : Int) (w : World) (hn : -9223372036854775808 ≤ n ∧ n < 9223372036854775808) :
    Calls Try.prog 18 #[.int .i64 n] w fun e w' => e = .returned (.agg (csF (secI n))) ∧ Below w.heap.size w w' := by
  obtain ⟨n1, n2⟩ := hn
  go_enter Try.func18, Try.ntmps18
  go_upto_region 1 with (fail)
  refine wp_rename2 (fun W => Below w.heap.size w W ∧ W.heap[w.heap.size]? = some (.cells (csF zSec) 36 (0, 0)) ∧ W.heap.size = w.heap.size + 1) ?_ ?_
  · exact ⟨(Below.refl _ _).alloc (Nat.le_refl _) _, heap_alloc_new w _, by simp⟩
  rintro W1 ⟨hB1, hrow1, hz1⟩
  have B1 := Lib.hid hB1
  have P1 := Lib.hid hrow1
  have Z1 := Lib.hid hz1
  have hl1 : w.heap.size < W1.heap.size := by omega
  clear hB1 hrow1 hz1
  go_upto_region 2 with (with_reducible refine at_store36 ?_; go_must (refine wpList_store64 rfl (.tmp 3) (.tmp 5) rfl W1.heap.size zSec rfl rfl (csF zSec) (heap_alloc_new W1 _) (csF_size _) ?_))
  refine wp_rename2 (fun W => Below w.heap.size w W ∧ W.heap[w.heap.size]? = some (.cells (csF zSec) 36 (0, 0)) ∧ Whole W W1.heap.size 36 (csF zSec)) ?_ ?_
  · refine ⟨below_setRow (B1.out.alloc (Nat.le_of_lt hl1) _) (Nat.le_of_lt hl1) _, (setRow_other _ _ _ _ (by omega)).trans ((Below.heap_alloc W1 _ _ hl1).trans P1.out), setRow_heap _ _ _ _ _ _ (heap_alloc_new W1 _)⟩
  rintro W2 ⟨hB2, hrow2, hw2⟩
  have B2 := Lib.hid hB2
  have P2 := Lib.hid hrow2
  have V2 := Lib.hid hw2
  clear hB2 hrow2 hw2
  go_wp2_with fail
  go_loopw [4] (fun vi W => ∃ k : Nat, k ≤ 64 ∧ vi = .int .i64 (k : Int) ∧ W2.grownBy W (some W1.heap.size) ∧ Whole W W1.heap.size 36 (csF (secK n k))) (fun vi _ => 64 - (intOf vi).toNat)
  case atStart => exact ⟨0, Nat.zero_le _, rfl, only_refl _ _, by rw [secK_zero]; exact V2.out⟩
  case round =>
    obtain ⟨k, hk, rfl, hg, hwk⟩ := hrel
    have G := Lib.hid hg
    have WK := Lib.hid hwk
    by_cases hlt : k < 64
    · have hb : bits .and .i64 (k : Int) 7 = ((k % 8 : Nat) : Int) := by
        have := i64_mask (k : Int) 3 (by omega)
        simpa using this
      have hlt8 : k % 8 < 8 := Nat.mod_lt _ (by omega)
      have hc : (wr.cell? ⟨W1.heap.size, k, none⟩).isSome = true := by rw [hwk.cell]; simp [csF_size, hlt]
      obtain ⟨c, hc⟩ := Option.isSome_iff_exists.1 hc
      have hf := hwk.frozen k
      clear hg hwk
      obtain ⟨q, hq⟩ : ∃ q, q = k % 8 := ⟨_, rfl⟩
      rw [← hq] at hb hlt8
      have HQ := Lib.hid hq
      clear hq
      go_wp2
      go_roundw
      case rel =>
        refine ⟨k + 1, by omega, by go_num, only_set G.out k _, ?_⟩
        rw [← secK_step n k hlt, ← HQ.out]
        exact WK.out.put k _
      case measure => simp [intOf]; omega
    · have hk64 : k = 64 := by omega
      subst hk64
      have hl2 : w.heap.size < W2.heap.size := (Array.getElem?_eq_some_iff.1 P2.out).1
      have P3 := Lib.hid ((hg.block _ hl2 (fun e => by have := Option.some.inj e; omega)).trans P2.out)
      have WA := Lib.hid (show wr.heap[W1.heap.size]? = some (.cells (csF (secI n)) 36 (0, 0)) by rw [← secK_all]; exact hwk)
      have B3 := Lib.hid (B2.out.grown hg (by omega) (fun i hi => by have := Option.some.inj hi; omega))
      clear hg hwk
      go_wp2_with (first
        | (with_reducible refine at_store36 ?_; go_must (refine wpList_store64 rfl (.tmp 2) (.tmp 18) rfl w.heap.size (secI n) rfl rfl (csF zSec) P3.out (csF_size _) ?_))
        | (with_reducible refine at_load36 ?_; go_must (refine wpList_load64 rfl (.tmp 3) rfl W1.heap.size (secI n) rfl WA.out ?_)))
      refine sector_end (b := w.heap.size) (cs := csF (secI n)) (setRow_heap _ _ _ _ _ _ P3.out) (csF_size _) _ _ ?g1 _ ?g2 ?g3
      case g1 => rfl
      case g3 => rfl
      exact ⟨rfl, below_setRow B3.out (Nat.le_refl _) _⟩
section
variable {g : Nat} {S : Dv} {w' : World} {B : Nat} {X : Nat → Prop} {w0 W : World} {S' : Dv}
theorem at_sector (h : At B X w0 g S W) (n : Int) (hn : -9223372036854775808 ≤ n ∧ n < 9223372036854775808) :
    Calls Try.prog 18 #[.int .i64 n] W (Gives (.agg (csF (secI n))) B X w0 g S W) :=
  (sector_any n W hn).mono fun e w' ⟨h1, h2⟩ => ⟨h1, h.below h2⟩
end
end Go.Proofs.Ytloomcompnopkaa
