/- Contracts of slices.Chunk at rows of octets: its maker, its iterator. -/
import Derived.RangeFuncNested
import Derived.RangeFuncBound
import Derived.RangeFuncCalls
import Derived.RangeFuncLeaves
import Derived.RangeFuncBox
import Derived.Shelf.Abstract
import Derived.Shelf.RegionOpen
import Derived.WalkKit
import Derived.OwnWalkIn
import Derived.TacticsInMore
import Derived.LoopNIn
import Derived.LoopIn
import Derived.Deep.RegionWith
import Derived.Test.YtfajkbegmmlmjaaOctsW
namespace Go.Proofs.Ytfajkbegmmlmjaa
open Go.RowKit Go.Shelf
attribute [local go_sem] Oper.semAt_some
set_option maxRecDepth 100000
set_option linter.unusedSimpArgs false
set_option linter.unusedVariables false

/-- two blocks lie as they lay -/
def Kept2 (a b : Nat) (W W' : World) : Prop := W'.heap[a]? = W.heap[a]? ∧ W'.heap[b]? = W.heap[b]?
theorem Kept2.trans {a b : Nat} {X Y Z : World} (h : Kept2 a b X Y) (k : Kept2 a b Y Z) : Kept2 a b X Z := ⟨k.1.trans h.1, k.2.trans h.2⟩
theorem Kept2.refl (a b : Nat) (X : World) : Kept2 a b X X := ⟨rfl, rfl⟩
/-- the value of the part k of a row of octets in block b from o on -/
def plen (len k : Nat) : Nat := min 4088 (len - 4088 * k)
def partV (b o len k : Nat) : Value := .slice (some ⟨b, o + 4088 * k, none⟩) (plen len k) (plen len k)
def pcount (len : Nat) : Nat := (len + 4087) / 4088

theorem chunk_any (A : Option Addr) (n c : Nat) (w : World) :
    Calls Try.prog 28 #[.slice A n c, .int .i64 4088] w fun e w' => e = .returned (.func (.func 36) #[] #[.pointer (some ⟨w.heap.size, 0, none⟩), .pointer (some ⟨w.heap.size + 1, 0, none⟩)]) ∧ w' = (w.alloc (.cells #[.slice A n c] 26)).alloc (.cells #[.int .i64 4088] 3) := by
  go_enter Try.func28, Try.ntmps28
  go_wp2_with fail
  go_ret
  exact ⟨rfl, rfl⟩

set_option maxHeartbeats 2000000 in
theorem chunk1_in (n l Bs Bn b o len cap N B : Nat) (hn : 1 ≤ n) (h0 : 0 < len) (hlc : len ≤ cap) (hcm : cap ≤ maxLen) (hs : len ≤ 140737488355328) (hN : N = pcount len) (J Jx : List Nat → World → Prop) (hJ : AbidesFrom B J)
    (hY : ∀ pre x W, J pre W → pre.length < N → YieldAt Fence.wide (n - 1) Try.prog l #[partV b o len x] W fun e W' =>
      (e = .returned (.bool true) ∧ J (pre ++ [x]) W' ∧ Kept2 Bs Bn W W') ∨ (e = .returned (.bool false) ∧ Jx (pre ++ [x]) W'))
    (W : World) (hBs : W.cell? ⟨Bs, 0, none⟩ = some (.slice (some ⟨b, o, none⟩) len cap)) (hBn : W.cell? ⟨Bn, 0, none⟩ = some (.int .i64 4088)) (hJ0 : J [] W) :
    CallsIn Fence.wide n Try.prog 36 #[.func (.yield l) #[] #[], .pointer (some ⟨Bs, 0, none⟩), .pointer (some ⟨Bn, 0, none⟩)] W fun e W' => (∃ v, e = .returned v) ∧
      ((∃ ys, ys = List.range N ∧ J ys W') ∨ (∃ pre, pre <+: List.range N ∧ Jx pre W')) := by
  unfold maxLen at hcm
  have HY := Lib.hid hY
  have HJ := Lib.hid hJ
  clear hY hJ
  refine callsIn_of_wp Try.func36 rfl trivial ?_ rfl
  simp only [Try.ntmps36, List.size_toArray, List.length_cons, List.length_nil, Nat.reduceAdd, Nat.reduceSub, Array.replicate_succ, Array.replicate_zero, List.push_toArray, List.append_toArray, List.nil_append, List.cons_append]
  gi_wp2
  gi_loopw [4] (fun i wr => ∃ k : Nat, k ≤ N ∧ i = .int .i64 (4088 * (k : Int)) ∧ J (List.range k) wr ∧ Kept2 Bs Bn W wr)
    (fun i _ => 4088 * N - (intOf i).toNat)
  case atStart => exact ⟨0, Nat.zero_le _, rfl, hJ0, Kept2.refl _ _ _⟩
  case round =>
    obtain ⟨k, hk, rfl, hJs, hkp⟩ := hrel
    have q1 : wr.cell? ⟨Bs, 0, none⟩ = some (.slice (some ⟨b, o, none⟩) len cap) := (World.cell?_of_block (a := ⟨Bs, 0, none⟩) hkp.1).trans hBs
    have q2 : wr.cell? ⟨Bn, 0, none⟩ = some (.int .i64 4088) := (World.cell?_of_block (a := ⟨Bn, 0, none⟩) hkp.2).trans hBn
    have HK := Lib.hid hkp
    have HJS := Lib.hid hJs
    clear hkp hJs
    have hN2 : k < N ↔ 4088 * k < len := by rw [hN]; unfold pcount; omega
    clear hN
    by_cases hlt : k < N
    · have hi2 : 4088 * k < len := hN2.1 hlt
      clear hN2
      have hi : (4088 : Int) * (k : Int) < (len : Int) := by omega
      have hb1 : wrap64 ((4088 : Int) * (k : Int) + 4088) = 4088 * (k : Int) + 4088 := IntWalk.wrap64_in _ ⟨by omega, by omega⟩
      have HJD := Lib.hid (HJ.out (List.range k) wr wr.drew none HJS.out ⟨rfl, rfl, rfl, Nat.le_refl _, fun _ _ _ => rfl⟩ (fun r hr => by cases hr))
      have HKD : Hid (Kept2 Bs Bn W wr.drew) := Lib.hid HK.out
      have PRE : Hid (List.range (k + 1) <+: List.range N) := Lib.hid (by
        obtain ⟨d, rfl⟩ : ∃ d, N = k + 1 + d := ⟨N - (k + 1), by omega⟩
        have h : List.range (k + 1 + d) = List.range (k + 1) ++ _ := List.range_add
        rw [h]
        exact List.prefix_append _ _)
      obtain ⟨fn, tmps, assign, body, hy, hR⟩ := HY.out (List.range k) k wr.drew HJD.out (by simpa using hlt)
      unfold partV at hy
      gi_wp2
      refine wpIn_wide.2 ?_
      go_region
      all_goals gi_wp2
      case inl =>
        have e1 : (4088 * (k : Int) + ((len - 4088 * k : Nat) : Int)).toNat - 4088 * k = plen len k := by unfold plen; omega
        rw [e1, hy]
        gi_wp2
        refine hR.mono ?_
        rintro e W3 (⟨rfl, hJ3, hk3⟩ | ⟨rfl, hJx3⟩)
        · have hk4 := Lib.hid ((HKD.out).trans hk3)
          rw [← List.range_succ] at hJ3
          have HJ3 := Lib.hid hJ3
          have q3 : W3.cell? ⟨Bn, 0, none⟩ = some (.int .i64 4088) := (World.cell?_of_block (a := ⟨Bn, 0, none⟩) hk4.out.2).trans hBn
          clear hk3 hJ3
          gi_wp2
          go_roundw
          case rel => exact ⟨k + 1, by omega, by go_num, HJ3.out, hk4.out⟩
          case measure => simp [intOf]; omega
        · rw [← List.range_succ] at hJx3
          gi_wp2
          refine bodyPost_ret (results_none rfl _ _ _) rfl ?_
          exact ⟨⟨_, rfl⟩, .inr ⟨List.range (k + 1), PRE.out, hJx3⟩⟩
      case inr =>
        have e2 : (4088 * (k : Int) + 4088).toNat - 4088 * k = plen len k := by unfold plen; omega
        rw [e2, hy]
        gi_wp2
        refine hR.mono ?_
        rintro e W3 (⟨rfl, hJ3, hk3⟩ | ⟨rfl, hJx3⟩)
        · have hk4 := Lib.hid ((HKD.out).trans hk3)
          rw [← List.range_succ] at hJ3
          have HJ3 := Lib.hid hJ3
          have q3 : W3.cell? ⟨Bn, 0, none⟩ = some (.int .i64 4088) := (World.cell?_of_block (a := ⟨Bn, 0, none⟩) hk4.out.2).trans hBn
          clear hk3 hJ3
          gi_wp2
          go_roundw
          case rel => exact ⟨k + 1, by omega, by go_num, HJ3.out, hk4.out⟩
          case measure => simp [intOf]; omega
        · rw [← List.range_succ] at hJx3
          gi_wp2
          refine bodyPost_ret (results_none rfl _ _ _) rfl ?_
          exact ⟨⟨_, rfl⟩, .inr ⟨List.range (k + 1), PRE.out, hJx3⟩⟩
    · have hi : ¬ (4088 : Int) * (k : Int) < (len : Int) := by omega
      obtain rfl : k = N := by omega
      clear hN2
      gi_wp2
      go_end0
      exact ⟨⟨_, rfl⟩, .inl HJS.out⟩

set_option maxHeartbeats 1000000 in
theorem chunk0_in (n l Bs Bn cap : Nat) (A : Option Addr) (J : List Nat → World → Prop) (W : World) (hBs : W.cell? ⟨Bs, 0, none⟩ = some (.slice A 0 cap)) (hJ0 : J [] W) :
    CallsIn Fence.wide n Try.prog 36 #[.func (.yield l) #[] #[], .pointer (some ⟨Bs, 0, none⟩), .pointer (some ⟨Bn, 0, none⟩)] W fun e W' => (∃ v, e = .returned v) ∧ J [] W' := by
  refine callsIn_of_wp Try.func36 rfl trivial ?_ rfl
  simp only [Try.ntmps36, List.size_toArray, List.length_cons, List.length_nil, Nat.reduceAdd, Nat.reduceSub, Array.replicate_succ, Array.replicate_zero, List.push_toArray, List.append_toArray, List.nil_append, List.cons_append]
  gi_wp2
  gi_loopw [4] (fun i wr => i = .int .i64 0 ∧ J [] wr ∧ wr.cell? ⟨Bs, 0, none⟩ = some (.slice A 0 cap)) (fun _ _ => 0)
  case atStart => exact ⟨rfl, hJ0, hBs⟩
  case round =>
    obtain ⟨rfl, hJs, hq⟩ := hrel
    gi_wp2
    go_end0
    exact ⟨⟨_, rfl⟩, hJs⟩

/-- slices.Chunk hands back a value that tells all parts in order, or the first of them -/
theorem chunk_stops (n Bs Bn b o len cap : Nat) (A : Option Addr) (w : World) (hn : 1 ≤ n) (hA : 0 < len → A = some ⟨b, o, none⟩) (hlc : len ≤ cap) (hcm : cap ≤ maxLen) (hs : len ≤ 140737488355328) (h1 : Bs < w.heap.size) (h2 : Bn < w.heap.size)
    (hBs : w.cell? ⟨Bs, 0, none⟩ = some (.slice A len cap)) (hBn : w.cell? ⟨Bn, 0, none⟩ = some (.int .i64 4088)) :
    SeqStopsK Fence.wide n Try.prog 36 #[.pointer (some ⟨Bs, 0, none⟩), .pointer (some ⟨Bn, 0, none⟩)] (fun k : Nat => #[partV b o len k]) (Kept2 Bs Bn) (fun ys => ys = List.range (pcount len)) (fun pre => pre <+: List.range (pcount len)) (pcount len) w := fun l J Jx W hW hJ _ hY h0 => by
  have c1 := (hW.cell (p := ⟨Bs, 0, none⟩) h1).trans hBs
  have c2 := (hW.cell (p := ⟨Bn, 0, none⟩) h2).trans hBn
  by_cases hl : 0 < len
  · rw [hA hl] at c1
    exact chunk1_in n l Bs Bn b o len cap _ _ hn hl hlc hcm hs rfl J Jx hJ hY W c1 c2 h0
  · obtain rfl : len = 0 := by omega
    exact (chunk0_in n l Bs Bn cap A J W c1 h0).mono fun e W' ⟨he, hj⟩ => ⟨he, .inl ⟨_, rfl, hj⟩⟩
end Go.Proofs.Ytfajkbegmmlmjaa
