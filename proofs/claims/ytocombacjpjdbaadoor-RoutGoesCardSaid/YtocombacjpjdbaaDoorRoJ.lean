/- Layer 16: slices.AppendSeq over the bindings' iterator; Collect; SortedFunc; Binds. -/
import Derived.Test.YtocombacjpjdbaaDoorRoI
import Derived.RangeFuncNested
import Derived.RangeFuncBound
import Derived.RangeFuncCalls
import Derived.RangeFuncLeaves
import Derived.RangeFuncBox
import Derived.Shelf.Abstract
import Derived.Shelf.RegionOpen
import Derived.WalkKit
import Derived.OwnWalkIn
import Derived.TacticsInMore
import Derived.RegionIn
import Derived.LoopNIn
import Derived.LoopIn
import Derived.Deep.RegionWith
namespace Go.Proofs.YtocombacjpjdbaaDoor
open Go.RowKit Go.Maps Go.Sort Go.Shelf
attribute [local go_sem] Oper.semAt_some
set_option maxRecDepth 100000
set_option linter.unusedSimpArgs false
set_option linter.unusedVariables false
/-- what AppendSeq holds between two rounds -/
def ApI (w : World) (D : Nat) (pre : List Bnd) (W : World) : Prop :=
  (∃ v, Boxed W D 36 v ∧ W.ownsRow D 33 3 v pre.length (bdCs pre) ∧ True) ∧ Below D w W
theorem apI_own (w : World) (D Bd : Nat) (h1 : D ≤ w.heap.size) (h2 : D ≤ Bd) : OwnFrom Bd (ApI w D) :=
  OwnFrom.and (Own.from (holdsRow_own D D 36 33 3 (fun pre : List Bnd => pre.length) (fun pre => bdCs pre) (fun _ _ => True)) _) (ownFrom_below h1 h2)
/-- where a round's binding is boxed -/
def AxB (S : Nat) (F : Bnd → Nat → Act) (x : Bnd) (a : Act) (W : World) : Prop :=
  ∃ B5, S ≤ B5 ∧ a = F x B5 ∧ W.heap[B5]? = some (.cells #[.string ⟨x.e.toArray⟩, .string ⟨x.q.toArray⟩, .string ⟨x.k.toArray⟩] 33)
theorem axB_own (S : Nat) (F : Bnd → Nat → Act) (x : Bnd) (a : Act) : OwnFrom S (fun (_ : Unit) W => AxB S F x a W) := by
  rintro _ W W' row ⟨B5, h1, h2, h3⟩ hg hr
  refine ⟨B5, h1, h2, (hg.block B5 (Array.getElem?_eq_some_iff.1 h3).1 ?_).trans h3⟩
  intro e
  obtain ⟨_, o, ho, hc⟩ := hr B5 e.symm
  rw [h3] at ho
  cases ho
  cases hc
theorem bind_zero : (Value.agg #[.string ⟨#[]⟩, .string ⟨#[]⟩, .string ⟨#[]⟩]).cells.size = 3 := rfl
theorem lit_addB (w : World) (t : TypeId) (cs : List Value) (j : Nat) (u : Value) (h : cs[j]? = some u) : (w.alloc (.cells cs.toArray t)).cell? ((⟨w.heap.size, 0, none⟩ : Addr).add j) = some u := by
  have hadd : (⟨w.heap.size, 0, none⟩ : Addr).add j = ⟨w.heap.size, j, none⟩ := by unfold Addr.add; split <;> simp_all
  rw [hadd]
  rcases Lies.lit w t cs with h' | ⟨b, o, e, _, hc⟩
  · rw [h'] at h; simp at h
  · injection e with e
    injection e with e1 e2 e3
    subst e1 e2
    have := hc j u h
    rwa [Nat.zero_add] at this
set_option maxHeartbeats 4000000 in
theorem appendB_any (Bm bb : Nat) (B : List Bnd) (w : World) (hBm : Bm < w.heap.size) (hm : w.cell? ⟨Bm, 0, none⟩ = some (.map (some bb))) (hmap : MapF Tryd.prog 33 bdOk bdL w bb (fB B)) (hB : ∀ b ∈ B, bdOk b) (hl : B.length ≤ 1000) :
    Calls Tryd.prog 58 #[.slice none 0 0, .func (.func 40) #[] #[.pointer (some ⟨Bm, 0, none⟩)]] w fun e w' => ∃ (v : Value) (ys : List Bnd), e = .returned v ∧ (ys.Nodup ∧ ∀ b, b ∈ ys ↔ b ∈ B) ∧ w'.ownsRow w.heap.size 33 3 v ys.length (bdCs ys) ∧ Below w.heap.size w w' := by
  have HS := Lib.hid (keysB_stops 5 Bm bb B w (by omega) hBm hm hmap hB)
  clear hmap hB
  refine (callsIn_wide (n := 6)).1 ?_
  refine callsIn_of_wp_marks Tryd.func58 rfl trivial ?_ rfl
  simp only [Tryd.ntmps58, List.size_toArray, List.length_cons, List.length_nil, Nat.reduceAdd, Nat.reduceSub, Array.replicate_succ, Array.replicate_zero, List.push_toArray, List.append_toArray, List.nil_append, List.cons_append]
  refine wpIn_wide.2 ?_
  go_wp2_with fail
  rename_i K0 HKc
  obtain ⟨D, hD⟩ : ∃ D, D = w.heap.size := ⟨_, rfl⟩
  obtain ⟨W0, hW0⟩ : ∃ W0, W0 = w.alloc (.cells #[.slice none 0 0] 36) := ⟨_, rfl⟩
  have s0 : W0.heap.size = D + 1 := by rw [hW0, hD]; simp
  have hb0 : Below D w W0 := by rw [hW0, hD]; exact (Below.refl _ w).alloc (Nat.le_refl _) _
  have x1 : Boxed W0 D 36 (.slice none 0 0) := by rw [hW0, hD]; exact Boxed.new w _ _
  have i0 : ApI w D [] W0 := ⟨⟨_, x1, World.ownsRow_nil _ _ _ _, trivial⟩, hb0⟩
  have b0 : Below w.heap.size w W0 := by rw [← hD]; exact hb0
  have B0 := Lib.hid b0
  rw [← hW0, ← hD]
  have S0 := Lib.hid s0
  have I0 := Lib.hid i0
  have HD := Lib.hid hD
  have HDL : D ≤ w.heap.size := by omega
  clear hW0 hb0 x1 i0 b0 hD
  obtain ⟨f0, hi, hz0, hz1, hz2⟩ := info_parts bind_info
  refine (wpIn_wide (n := 6)).1 ?_
  refine' wpIn_rangeFunc_ownH rfl (by omega) (gf := 40) (lb := #[.pointer (some ⟨Bm, 0, none⟩)]) rfl trivial (enters_of Tryd.func40 (by kernel_rfl) rfl)
    HS.out walksK_t walksK_b B0.out (fun _ => rfl)
    (ApI w D) (fun _ _ _ => False) (apI_own w D _ HDL (by rw [s0]; omega)) (fun _ _ _ _ _ hs _ _ => hs) I0.out (AxB W0.heap.size (fun x B5 => { tmps := #[.slice none 0 0, .func (.func 40) #[] #[.pointer (some ⟨Bm, 0, none⟩)], .pointer (some ⟨D, 0, none⟩), undef, .slice none 0 0, .pointer (some ⟨B5, 0, none⟩), .func (.func 40) #[] #[.pointer (some ⟨Bm, 0, none⟩)], .agg #[.string ⟨x.e.toArray⟩, .string ⟨x.q.toArray⟩, .string ⟨x.k.toArray⟩], undef, undef, undef, undef, undef], defers := [] })) (fun x a' => axB_own _ _ x a') ?assign ?body ?done ?stop
  case assign =>
    intro l pre x W K hI hK
    unfold bdV
    gi_wp2
    refine hK _ _ ((KeepsOthers.alloc _ _).from _) (KeepsWalks.alloc _ _) ((apI_own w D D HDL (Nat.le_refl _)).alloc (s := pre) _ hI) ⟨W.heap.size, ?_, rfl, World.alloc_heap_new _ _⟩
    obtain ⟨⟨v, hv, _⟩, _⟩ := hI
    have := hv.lt
    rw [S0.out]; omega
  case body =>
    rintro l pre x a' W hl5 - ⟨⟨v, hv, hrow, _⟩, hB⟩ ⟨B5, hB5, rfl, hc5⟩ hlt
    have hDW : D ≤ W.heap.size := by have := hB.size; rw [HD.out]; exact this
    have hp5 : pre.length ≤ 1000 := by omega
    have hc := hv.cell
    have k0 : W.cell? ⟨B5, 0, none⟩ = some (.string ⟨x.e.toArray⟩) := by simp [World.cell?, hc5]
    have k1 : W.cell? ⟨B5, 1, none⟩ = some (.string ⟨x.q.toArray⟩) := by simp [World.cell?, hc5]
    have k2 : W.cell? ⟨B5, 2, none⟩ = some (.string ⟨x.k.toArray⟩) := by simp [World.cell?, hc5]
    gi_wp2_with (gi_at_builtin; refine wpListIn_append_own _ rfl _ _ 36 rfl D 33 f0 _ 3 48 Tryd.underlying36 hi hz0 hz1 hz2 bind_zero (by omega) _ _ _ rfl (hrow.alloc _) ⟨W.heap.size, 0, none⟩ 1 1 [.string ⟨x.e.toArray⟩, .string ⟨x.q.toArray⟩, .string ⟨x.k.toArray⟩] rfl rfl (lit_addB W 33 _) (by simp [Value.oneCell']) (by unfold maxLen; omega) (by omega) (by simp; omega) ?_; intro v' w9 hown' hgrow _; obtain ⟨g', cap', rfl⟩ := ownsRow_succ hown'; obtain ⟨hv1, hv2, hr2, hk2, hb2⟩ := hv.appended (by decide) hrow hDW (by omega) hown' hgrow; have hc1 := hv1.cell; have hf1 := hv1.frozen)
    refine ⟨hk2.from _, hk2.walks, ⟨_, hv2, ?_, trivial⟩, hB.trans hb2⟩
    rw [bdCs_append, List.length_append]
    exact hr2
  case done =>
    rintro D2 ys W hD2 hys ⟨⟨v, hv, hrow, _⟩, hBB⟩ hK
    have hc : W.cell? ⟨D, 0, none⟩ = some v := hv.cell
    have HR := Lib.hid hrow
    have HY := Lib.hid hys
    have HBB := Lib.hid hBB
    have HK := Lib.hid hK
    clear hrow hys hBB hK hv
    refine HKc _ _ ?_
    go_wp2_with fail
    refine ⟨by simp, .inl ⟨_, _, rfl, run_takeDeferred HK.out, ?_⟩⟩
    refine ⟨_, results_tmp rfl _ _ _, v, ys, rfl, HY.out, ?_, ?_⟩
    · rw [← HD.out]
      exact ownsRow_putObj HR.out _ HK.out rfl
    · rw [← HD.out]
      exact HBB.out.grown (grownBy_putObj' W D2 _) (by have := HD.out; have := HBB.out.size; omega) (fun k hk => by cases hk; have := S0.out; omega)
  case stop =>
    rintro D c pre W _ _ h _
    exact h.elim
set_option maxHeartbeats 4000000 in
theorem collectB_any (Bm bb : Nat) (B : List Bnd) (w : World) (hBm : Bm < w.heap.size) (hm : w.cell? ⟨Bm, 0, none⟩ = some (.map (some bb))) (hmap : MapF Tryd.prog 33 bdOk bdL w bb (fB B)) (hB : ∀ b ∈ B, bdOk b) (hl : B.length ≤ 1000) :
    Calls Tryd.prog 38 #[.func (.func 40) #[] #[.pointer (some ⟨Bm, 0, none⟩)]] w fun e w' => ∃ (v : Value) (ys : List Bnd), e = .returned v ∧ (ys.Nodup ∧ ∀ b, b ∈ ys ↔ b ∈ B) ∧ w'.ownsRow w.heap.size 33 3 v ys.length (bdCs ys) ∧ Below w.heap.size w w' := by
  have H := Lib.hid (appendB_any Bm bb B w hBm hm hmap hB hl)
  clear hm hmap hB
  go_enter Tryd.func38, Tryd.ntmps38
  go_wp2_with fail
  refine H.out.mono ?_
  rintro e w4 ⟨v4, ys, rfl, h1, h2, h3⟩
  go_wp2_with fail
  go_ret
  exact ⟨_, ys, rfl, h1, h2, h3⟩
theorem sortedB_any (Bm bb : Nat) (B : List Bnd) (w : World) (hBm : Bm < w.heap.size) (hm : w.cell? ⟨Bm, 0, none⟩ = some (.map (some bb))) (hmap : MapF Tryd.prog 33 bdOk bdL w bb (fB B)) (hB : ∀ b ∈ B, bdOk b) (hR : Ris ltB B) (hl : B.length ≤ 1000) :
    Calls Tryd.prog 25 #[.func (.func 40) #[] #[.pointer (some ⟨Bm, 0, none⟩)], .func (.func 27) #[] #[]] w fun e w' => ∃ (v : Value), e = .returned v ∧ w'.ownsRow w.heap.size 33 3 v B.length (bdCs B) ∧ Below w.heap.size w w' := by
  have H := Lib.hid (collectB_any Bm bb B w hBm hm hmap hB hl)
  have HR := Lib.hid hR
  clear hm hmap hB hR
  go_enter Tryd.func25, Tryd.ntmps25
  go_wp2_with fail
  refine H.out.mono ?_
  rintro e w4 ⟨v4, ys, rfl, h1, h2, h3⟩
  have hyl : ys.length ≤ 1000 := Nat.le_trans (nodup_le ys B h1.1 (fun y hy => (h1.2 y).1 hy)) hl
  have S4 := Lib.hid (sortB_any v4 ys w.heap.size w4 h2 (by omega))
  have Y4 := Lib.hid h1
  have B4 := Lib.hid h3
  have R4 := Lib.hid h2
  clear h1 h2 h3
  go_wp2_with fail
  refine S4.out.mono ?_
  rintro e w5 ⟨rfl, h5, h6⟩
  go_wp2_with fail
  go_ret
  have e5 : srtB ys = B := srtB_eq Y4.out.1 HR.out Y4.out.2
  have e6 : ys.length = B.length := by rw [← srtB_length ys, e5]
  refine ⟨_, rfl, ?_, B4.out.grown h6 B4.out.size (fun k hk => (R4.out.lt k hk).1)⟩
  rw [e5, e6] at h5
  exact h5
variable {W : World} {g bx bb : Nat} {S : Rt}
theorem r_binds (h : RoAt W g bx bb S) (hl : S.B.length ≤ 1000) : Calls Tryd.prog 13 #[ptrR g] W fun e w' => ∃ v, e = .returned v ∧ w'.ownsRow W.heap.size 33 3 v S.B.length (bdCs S.B) ∧ Below W.heap.size W w' := by
  obtain ⟨c0, c1⟩ := h.cell
  obtain ⟨l1, l2, l3⟩ := h.lts
  have H := Lib.hid h
  have HL := Lib.hid hl
  clear h hl
  go_enter Tryd.func13, Tryd.ntmps13
  go_wp2_with fail
  refine (keysB_call (some bb) W).mono ?_
  rintro e w1 ⟨rfl, rfl⟩
  have S1 := Lib.hid (sortedB_any W.heap.size bb S.B (W.alloc (.cells #[.map (some bb)] 44)) (by simp) (by exact (Boxed.new W _ _).cell) (H.out.bd.block (Below.heap_alloc _ _ _ l3)) H.out.ok.sb H.out.ok.rb HL.out)
  go_wp2_with fail
  refine S1.out.mono ?_
  rintro e w2 ⟨v, rfl, h1, h2⟩
  have O2 := Lib.hid h1
  have B2 := Lib.hid h2
  clear h1 h2
  go_wp2_with fail
  go_ret
  have hb : Below W.heap.size W (W.alloc (.cells #[.map (some bb)] 44)) := (Below.refl _ W).alloc (Nat.le_refl _) _
  exact ⟨_, rfl, own_low16 O2.out (by simp), hb.trans (B2.out.mono hb.size)⟩
end Go.Proofs.YtocombacjpjdbaaDoor
