/- Layer 16: the bindings' iterator; slices.SortedFunc over it; Binds. -/
import Derived.Test.YtocombacjpjdbaaDoorRngI
import Derived.Test.YtocombacjpjdbaaDoorRoT
import Derived.RangeFuncNested
import Derived.RangeFuncBound
import Derived.RangeFuncCalls
import Derived.RangeFuncLeaves
import Derived.RangeFuncBox
import Derived.Shelf.Abstract
import Derived.Shelf.RegionOpen
import Derived.WalkKit
import Derived.OwnWalkIn
import Derived.TacticsInMore
import Derived.RegionIn
import Derived.LoopNIn
import Derived.LoopIn
import Derived.Deep.RegionWith
namespace Go.Proofs.YtocombacjpjdbaaDoor
open Go.RowKit Go.Maps Go.Sort Go.Shelf
attribute [local go_sem] Oper.semAt_some
set_option maxRecDepth 100000
set_option linter.unusedSimpArgs false
set_option linter.unusedVariables false
theorem keysB_call (mb : Option Nat) (W : World) : Calls Tryd.prog 26 #[.map mb] W fun e w' => e = .returned (.func (.func 40) #[] #[ptrR W.heap.size]) ∧ w' = W.alloc (.cells #[.map mb] 44) := by
  go_enter Tryd.func26, Tryd.ntmps26
  go_wp2_with fail
  go_ret
  exact ⟨rfl, rfl⟩
theorem below_only_none (w : World) (o : Obj) : w.grownBy (w.alloc o) none :=
  only_below ((Below.refl _ _).alloc (Nat.le_refl _) _) none
theorem nodup_snoc {Q : List Bnd} {x : Bnd} (h : Q.Nodup) (hx : x ∉ Q) : (Q ++ [x]).Nodup := by
  refine List.nodup_append.2 ⟨h, by simp, fun a ha b hb => ?_⟩
  rw [List.mem_singleton] at hb
  subst hb
  rintro rfl
  exact hx ha
set_option maxHeartbeats 4000000 in
/-- the bindings, each once, in some order -/
theorem keysB1_in (n l Bm bb : Nat) (B : List Bnd) (hn : 1 ≤ n) (J Jx : List Bnd → World → Prop)
    (hY : ∀ pre x W, J pre W → pre.length < B.length → YieldAt Fence.wide (n - 1) Tryd.prog l #[bdV x] W fun e W' =>
      (e = .returned (.bool true) ∧ J (pre ++ [x]) W' ∧ KeepsWalks W W') ∨ (e = .returned (.bool false) ∧ Jx (pre ++ [x]) W'))
    (W : World) (hJ : AbidesFrom W.heap.size J) (hm : W.cell? ⟨Bm, 0, none⟩ = some (.map (some bb))) (hmap : MapF Tryd.prog 33 bdOk bdL W bb (fB B)) (hB : ∀ b ∈ B, bdOk b) (h0 : J [] W) :
    CallsIn Fence.wide n Tryd.prog 40 #[.func (.yield l) #[] #[], .pointer (some ⟨Bm, 0, none⟩)] W fun e W' => (∃ v, e = .returned v) ∧
      ((∃ ys : List Bnd, (ys.Nodup ∧ ∀ b, b ∈ ys ↔ b ∈ B) ∧ J ys W') ∨ (∃ pre : List Bnd, True ∧ Jx pre W')) := by
  have HY := Lib.hid hY
  have HJ := Lib.hid hJ
  have HB := Lib.hid hB
  have HM := Lib.hid hmap
  clear hY hJ hB hmap
  refine callsIn_of_wp Tryd.func40 rfl trivial ?_ rfl
  simp only [Tryd.ntmps40, List.size_toArray, List.length_cons, List.length_nil, Nat.reduceAdd, Nat.reduceSub, Array.replicate_succ, Array.replicate_zero, List.push_toArray, List.append_toArray, List.nil_append, List.cons_append]
  gi_wp2_with (first
    | (gi_at_range; refine wpListIn_range_f rfl _ rfl bd_kind Tryd.underlying44 rfl HM.out ?_; intro w0 cnt0 hrg0 hg0 hs0)
    | gi_in)
  go_frame
  have hJ0 := HJ.out [] W w0 none h0 hg0 (fun r e => by cases e)
  obtain ⟨r, hr⟩ : ∃ r, r = W.heap.size := ⟨_, rfl⟩
  rw [← hr] at hrg0 HJ ⊢
  have RG0 := Lib.hid hrg0
  have J0 := Lib.hid hJ0
  clear hrg0 hJ0 h0 hg0 hs0 hr
  gi_loopw [3] (fun _ wr => ∃ (left : Bnd → Bool) (cnt : Nat) (ss : List Bnd), RngF Tryd.prog 33 bdOk bdL wr bb r (fB B) left cnt ∧ (ss.Nodup ∧ ∀ b, b ∈ ss ↔ b ∈ B ∧ left b = false) ∧ J ss wr) (fun _ wr => wr.rangeLeft bb r)
  case atStart =>
    refine ⟨_, _, [], RG0.out, ⟨List.nodup_nil, fun b => Iff.intro (fun h => by cases h) ?_⟩, J0.out⟩
    rintro ⟨a1, a2⟩
    simp [fB, a1] at a2
  case round =>
    obtain ⟨left, cnt, ss, hrg, hss, hJs⟩ := hrel
    have RG := Lib.hid hrg
    have SS := Lib.hid hss
    have JS := Lib.hid hJs
    clear hrg hss hJs
    gi_wp2_with (first
      | (gi_at_next; refine wpListIn_next_f rfl _ rfl bd_kind rfl RG.out ?_ ?_)
      | gi_in)
    · intro hl
      gi_wp2
      go_end0
      refine ⟨⟨_, rfl⟩, .inl ⟨ss, ⟨SS.out.1, fun b => ?_⟩, JS.out⟩⟩
      rw [SS.out.2 b]
      exact ⟨fun h => h.1, fun h => ⟨h, hl b (HB.out b h)⟩⟩
    · intro x v w1 cnt1 hx hlx hfx hrg1 hlt hg1 hs1 hen
      obtain ⟨hxB, rfl⟩ : x ∈ B ∧ v = .agg #[] := by
        unfold fB at hfx
        split at hfx
        · exact ⟨by assumption, (Option.some.inj hfx).symm⟩
        · cases hfx
      have hxs : x ∉ ss := fun h => by
        have := ((SS.out.2 x).1 h).2
        rw [hlx] at this
        cases this
      have hpl : ss.length < B.length := by
        have h1 := nodup_le (ss ++ [x]) B (nodup_snoc SS.out.1 hxs) (fun y hy => by
          rcases List.mem_append.1 hy with h | h
          · exact ((SS.out.2 y).1 h).1
          · rw [List.mem_singleton.1 h]; exact hxB)
        rw [List.length_append, List.length_singleton] at h1
        omega
      have hJ1 := HJ.out ss wr w1 (some r) JS.out hg1 (fun j e => by cases e; exact ⟨Nat.le_refl _, RG.out.iter_walk⟩)
      obtain ⟨xe, hxe⟩ : ∃ xe, xe = x.e := ⟨_, rfl⟩
      obtain ⟨xq, hxq⟩ : ∃ xq, xq = x.q := ⟨_, rfl⟩
      obtain ⟨xk, hxk⟩ : ∃ xk, xk = x.k := ⟨_, rfl⟩
      have hbd : bdV x = .agg #[.string ⟨xe.toArray⟩, .string ⟨xq.toArray⟩, .string ⟨xk.toArray⟩] := by rw [hxe, hxq, hxk]; rfl
      have hJ2 := HJ.out ss w1 (w1.alloc (.cells #[.string ⟨xe.toArray⟩, .string ⟨xq.toArray⟩, .string ⟨xk.toArray⟩] 33)) none hJ1 (below_only_none w1 _) (fun j e => by cases e)
      obtain ⟨fn, tmps, assign, body, hy, hR⟩ := HY.out ss x _ hJ2 hpl
      have hrg2 : RngF Tryd.prog 33 bdOk bdL (w1.alloc (.cells #[.string ⟨xe.toArray⟩, .string ⟨xq.toArray⟩, .string ⟨xk.toArray⟩] 33)) bb r (fB B) (fun z => left z && !decide (z = x)) cnt1 := hrg1.kept (below_only_none w1 _) (by simp) (by simp)
      rw [hbd] at hen hy ⊢
      have RG2 := Lib.hid hrg2
      have HLT := Lib.hid hlt
      have SS2 : Hid ((ss ++ [x]).Nodup ∧ ∀ b, b ∈ ss ++ [x] ↔ b ∈ B ∧ (left b && !decide (b = x)) = false) := Lib.hid ⟨nodup_snoc SS.out.1 hxs, fun b => by
        rw [List.mem_append, SS.out.2 b, List.mem_singleton]
        constructor
        · rintro (⟨a1, a2⟩ | rfl)
          · exact ⟨a1, by simp [a2]⟩
          · exact ⟨hxB, by simp⟩
        · rintro ⟨a1, a2⟩
          by_cases e : b = x
          · exact .inr e
          · exact .inl ⟨a1, by simpa [e] using a2⟩⟩
      clear hrg1 hlt hg1 hs1 hJ1 hJ2 hrg2 hxB hxs hpl hlx hfx hx hbd hxe hxq hxk
      gi_wp2
      refine hR.mono ?_
      rintro e W3 (⟨rfl, hJ3, hk3⟩ | ⟨rfl, hJx3⟩)
      · have RG3 := Lib.hid (RG2.out.of_walks hk3)
        gi_wp2
        go_roundw
        case rel => exact ⟨_, cnt1, ss ++ [x], RG3.out, SS2.out, hJ3⟩
        case measure => rw [RG3.out.left_eq, RG.out.left_eq]; exact HLT.out
      · gi_wp2
        refine bodyPost_ret (results_none rfl _ _ _) rfl ?_
        exact ⟨⟨_, rfl⟩, .inr ⟨ss ++ [x], trivial, hJx3⟩⟩
theorem keysB_stops (n Bm bb : Nat) (B : List Bnd) (w : World) (hn : 1 ≤ n) (hBm : Bm < w.heap.size) (hm : w.cell? ⟨Bm, 0, none⟩ = some (.map (some bb))) (hmap : MapF Tryd.prog 33 bdOk bdL w bb (fB B)) (hB : ∀ b ∈ B, bdOk b) :
    SeqStopsK Fence.wide n Tryd.prog 40 #[.pointer (some ⟨Bm, 0, none⟩)] (fun b : Bnd => #[bdV b]) KeepsWalks (fun ys => ys.Nodup ∧ ∀ b, b ∈ ys ↔ b ∈ B) (fun _ => True) B.length w := fun l J Jx W hW hJ _ hY h0 =>
  keysB1_in n l Bm bb B hn J Jx hY W hJ ((hW.cell (p := ⟨Bm, 0, none⟩) hBm).trans hm) (hmap.block (hW.block bb hmap.lt)) hB h0
end Go.Proofs.YtocombacjpjdbaaDoor
