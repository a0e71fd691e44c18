/- Layer 7: the fixed call. -/
import Derived.Test.YtloomcompnopkaaSectY0
import Derived.Test.YtloomcompnopkaaSectNs
namespace Go.Proofs.Ytloomcompnopkaa
open Go.RowKit Go.Maps
set_option maxRecDepth 100000
set_option linter.unusedSimpArgs false
set_option linter.unusedVariables false
def aw0 : Dv := ⟨3, -1, []⟩
def aw1 : Dv := ⟨3, -1, [([102], ⟨[], []⟩)]⟩
def aw2 : Dv := ⟨3, -1, [([102], ⟨[⟨some (secI 5), none⟩], [0]⟩)]⟩
def aw3 : Dv := ⟨3, -1, [([102], ⟨[⟨none, some (secI 5, false)⟩], []⟩)]⟩
def aw4 : Dv := ⟨3, -1, [([102], ⟨[⟨some (secI 6), some (secI 5, false)⟩], [0]⟩)]⟩
def aw5 : Dv := ⟨3, -1, [([102], ⟨[⟨none, some (zSec, true)⟩], []⟩)]⟩
theorem aw0_is : newDv 3 = aw0 := by rfl
theorem aw1_is : pMake aw0 [102] = (0, aw1) := by rfl
theorem aw2_is : pWrite aw1 [102] 0 (secI 5) = (0, aw2) := by rfl
theorem aw3_is : pSync aw2 [102] = (0, aw3) := by rfl
theorem aw4_is : pWrite aw3 [102] 0 (secI 6) = (0, aw4) := by rfl
theorem aw5_is : crash aw4 [2] = aw5 := by
  have h : sortN [0] = [0] := sortN_one 0
  unfold crash crAll
  show ({ (crStep (aw4, [2]) [102]).1 with left := -1 } : Dv) = aw5
  unfold crStep
  show ({ (aw4.put [102] (shF (stAll ⟨[⟨some (secI 6), some (secI 5, false)⟩], [0]⟩ (sortN [0]) [2]).1 (sortN [0]))) with left := -1 } : Dv) = aw5
  rw [h]
  rfl
theorem aw6_is : pRead aw5 [102] 0 = (zSec, 7) := by rfl
set_option maxHeartbeats 4000000 in
theorem awake_any (w : World) : Calls Try.prog 10 #[] w fun e w' => e = .returned (.bool true) ∧ Below w.heap.size w w' := by
  have ml : ([102] : Nm).length ≤ maxLen := by show 1 ≤ maxLen; unfold maxLen; omega
  have ML := Lib.hid ml
  clear ml
  go_enter Try.func10, Try.ntmps10
  go_upto_region 7 with (first
    | (go_at_call 9; go_must (refine (at_new 3 _ (by omega)).mono ?_); rintro e w1 ⟨g, rfl, h1⟩; rw [aw0_is] at h1; have H1 := Lib.hid h1; clear h1)
    | (go_at_call 11; go_must (refine (at_make H1.out [102] ML.out (by show 0 < 1000000; omega) 0 aw1_is).mono ?_); rintro e w2 ⟨rfl, h2, k2⟩; have H2 := Lib.hid h2; clear h2 k2)
    | (go_at_call 18; first | (refine (at_sector H4.out 6 (by omega)).mono ?_; rintro e w5 ⟨rfl, h5, k5⟩; have H5 := Lib.hid h5; clear h5 k5) | (go_must (refine (at_sector H2.out 5 (by omega)).mono ?_); rintro e w3 ⟨rfl, h3, k3⟩; have H3 := Lib.hid h3; clear h3 k3))
    | (go_at_call 17; first | (refine (at_write H5.out [102] ML.out 0 (secI 6) 0 aw4_is).mono ?_; rintro e w6 ⟨rfl, h6, k6⟩; have H6 := Lib.hid h6; clear h6 k6) | (go_must (refine (at_write H3.out [102] ML.out 0 (secI 5) 0 aw2_is).mono ?_); rintro e w3' ⟨rfl, h3, k3⟩; have H3' := Lib.hid h3; clear h3 k3))
    | (go_at_call 25; go_must (refine (at_sync H3'.out [102] ML.out 0 aw3_is).mono ?_); rintro e w4 ⟨rfl, h4, k4⟩; have H4 := Lib.hid h4; clear h4 k4))
  go_upto_region 8 with (go_at_call 13; go_must (refine (at_crash (S' := aw5) (H6.out.own _) _ [2] 1 (by decide) (by unfold maxLen; omega) (pick_new [2] (fun e => e.2 (.inr rfl))) (fun p hp => by simp at hp; omega) aw5_is).mono ?_); rintro e w7 ⟨rfl, h7, k7⟩; have H7 := Lib.hid h7; clear h7 k7)
  go_upto_region 9 with (first
    | (go_at_call 19; go_must (refine (at_read H7.out [102] ML.out 0 zSec 7 aw6_is).mono ?_); rintro e w8 ⟨rfl, h8, k8⟩; have H8 := Lib.hid h8; clear h8 k8)
    | (with_reducible refine at_store36 ?_; go_must (refine wpList_store64 rfl (.tmp 6) (.tmp 27) rfl w8.heap.size zSec rfl rfl _ (heap_alloc_new w8 _) rfl ?_)))
  refine wp_rename (At w.heap.size _ w g aw5) (H8.out.local _ _) fun W h => ?_
  have H := Lib.hid h
  clear h
  go_wp2_with (first
    | (go_at_call 15; go_must (refine (at_len H.out [102] ML.out 1 rfl).mono ?_); rintro e w9 ⟨rfl, rfl⟩)
    | (go_at_call 16; go_must (refine (at_used H.out 1 rfl).mono ?_); rintro e w9 ⟨rfl, rfl⟩)
    | (go_at_call 32; go_must (refine (at_most H.out 3 rfl).mono ?_); rintro e w9 ⟨rfl, rfl⟩))
  go_ret
  exact ⟨rfl, H.out.bel⟩
end Go.Proofs.Ytloomcompnopkaa
