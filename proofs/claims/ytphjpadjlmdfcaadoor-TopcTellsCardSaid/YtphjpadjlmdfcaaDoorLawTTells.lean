/- The law on any pattern and any key: its walk. -/
import Derived.Test.YtphjpadjlmdfcaaDoorTopcA
namespace Go.Proofs.YtphjpadjlmdfcaaDoor
open Go.RowKit
set_option maxRecDepth 100000
set_option linter.unusedSimpArgs false
set_option linter.unusedVariables false

set_option maxHeartbeats 4000000 in
theorem tells_any (p k : List UInt8) (w : World) (mp : p.length ≤ maxLen) (mk : k.length ≤ maxLen) : Calls Tryd.prog 4 #[.string ⟨p.toArray⟩, .string ⟨k.toArray⟩] w fun e w' => e = .returned (.bool true) ∧ Below w.heap.size w w' := by
  unfold maxLen at mp
  unfold maxLen at mk
  by_cases hp : (300 : Int) < (p.length : Int)
  · go_enter Tryd.func4, Tryd.ntmps4
    go_wp2_with fail
    refine (awake6_any _).mono ?_
    rintro e w99 ⟨rfl, hb⟩
    have BE := Lib.hid hb
    clear hb
    go_wp2_with fail
    go_ret
    exact ⟨rfl, BE.out⟩
  have jp : p.length ≤ 300 := by omega
  by_cases hk : (300 : Int) < (k.length : Int)
  · go_enter Tryd.func4, Tryd.ntmps4
    go_wp2_with fail
    refine (awake6_any _).mono ?_
    rintro e w99 ⟨rfl, hb⟩
    have BE := Lib.hid hb
    clear hb
    go_wp2_with fail
    go_ret
    exact ⟨rfl, BE.out⟩
  have jk : k.length ≤ 300 := by omega
  go_enter Tryd.func4, Tryd.ntmps4
  go_wp2_with fail
  go_loopw [0, 1, 5] (fun vp vk vi wr => ∃ (i : Nat) (P K : List UInt8), i ≤ 2 ∧ vi = .int .i64 i ∧ vp = .string ⟨P.toArray⟩ ∧ vk = .string ⟨K.toArray⟩ ∧ P.length ≤ 300 ∧ K.length ≤ 300 ∧ Below w.heap.size w wr) (fun _ _ vi _ => 2 - (intOf vi).toNat)
  case atStart => exact ⟨0, p, k, by omega, rfl, rfl, rfl, jp, jk, Below.refl _ _⟩
  case round =>
    obtain ⟨i, P, K, hi, rfl, rfl, rfl, hP, hK, hb0⟩ := hrel
    have B1 := Lib.hid hb0
    have z1 := hb0.size
    clear hb0
    by_cases hi2 : i = 2
    · subst hi2
      go_wp2_with fail
      refine (awake6_any _).mono ?_
      rintro e w99 ⟨rfl, hb⟩
      have BE := Lib.hid (B1.out.trans (hb.mono z1))
      clear hb
      go_wp2_with fail
      go_ret
      exact ⟨rfl, BE.out⟩
    · have q1 : (i : Int) < 2 := by omega
      obtain ⟨v, hv⟩ : ∃ v, v = mtT P K := ⟨_, rfl⟩
      have V := Lib.hid hv
      clear hv
      obtain ⟨R, hR⟩ : ∃ R, R = wsL P := ⟨_, rfl⟩
      have hRl := wsL_len_le P
      rw [← hR] at hRl
      have HR := Lib.hid hR
      clear hR
      cases v
      case false =>
        go_wp2_with fail
        refine (match_is _ _ P K false _ (by simp) (by simp) V.out.symm (by first | omega | (simp; omega) | simp) (by first | omega | (simp; omega) | simp)).mono ?_
        rintro e w2 ⟨rfl, hb⟩
        have B2 := Lib.hid (B1.out.trans (hb.mono z1))
        have z2 := B2.out.size
        clear hb B1
        go_wp2_with fail
        refine (rmatch_is _ _ P K false _ (by simp) (by simp) V.out.symm (by first | omega | (simp; omega) | simp) (by first | omega | (simp; omega) | simp)).mono ?_
        rintro e w3 ⟨rfl, hb⟩
        have B3 := Lib.hid (B2.out.trans (hb.mono z2))
        have z3 := B3.out.size
        clear hb B2
        go_wp2_with fail
        refine (words_is _ P R _ rfl HR.out (by omega)).mono ?_
        rintro e w4 ⟨g4, rfl, hg4, hl4, hb⟩
        have L4 := Lib.hid hl4
        clear hl4
        have B4 := Lib.hid (B3.out.trans (hb.mono z3))
        have z4 := B4.out.size
        clear hb B3
        go_wp2_with fail
        refine (rwords_is _ P R _ rfl HR.out (by omega)).mono ?_
        rintro e w5 ⟨b5, o5, c5, rfl, hc5, hm5, hg5, hl5, hb⟩
        have L5 := Lib.hid hl5
        have L45 := Lib.hid (L4.out.below hb)
        clear hl5
        have B5 := Lib.hid (B4.out.trans (hb.mono z4))
        have z5 := B5.out.size
        clear hb B4
        go_wp2_with fail
        refine (texts_same _ _ _ _ R _ _ _ L45.out L5.out (by omega)).mono ?_
        rintro e w6 ⟨rfl, hb⟩
        have B6 := Lib.hid (B5.out.trans (hb.mono z5))
        have z6 := B6.out.size
        clear hb B5
        go_wp2_with fail
        refine (tame_is _ P _ rfl (by omega)).mono ?_
        rintro e w7 ⟨rfl, hb⟩
        have B7 := Lib.hid (B6.out.trans (hb.mono z6))
        have z7 := B7.out.size
        clear hb B6
        obtain ⟨P2, hP2⟩ : ∃ P2, P2 = tame P := ⟨_, rfl⟩
        have lP2 := tame_le P
        rw [← hP2] at lP2 ⊢
        have HP2 := Lib.hid hP2
        clear hP2
        go_wp2_with fail
        refine (tame_is _ K _ rfl (by omega)).mono ?_
        rintro e w8 ⟨rfl, hb⟩
        have B8 := Lib.hid (B7.out.trans (hb.mono z7))
        have z8 := B8.out.size
        clear hb B7
        obtain ⟨K2, hK2⟩ : ∃ K2, K2 = tame K := ⟨_, rfl⟩
        have lK2 := tame_le K
        rw [← hK2] at lK2 ⊢
        have HK2 := Lib.hid hK2
        clear hK2
        go_wp2_with fail
        go_roundw
        case rel => exact ⟨i + 1, P2, K2, by omega, by go_num, rfl, rfl, by omega, by omega, B8.out⟩
        case measure => simp [intOf]; omega
      case true =>
        go_wp2_with fail
        refine (match_is _ _ P K true _ (by simp) (by simp) V.out.symm (by first | omega | (simp; omega) | simp) (by first | omega | (simp; omega) | simp)).mono ?_
        rintro e w2 ⟨rfl, hb⟩
        have B2 := Lib.hid (B1.out.trans (hb.mono z1))
        have z2 := B2.out.size
        clear hb B1
        go_wp2_with fail
        refine (rmatch_is _ _ P K true _ (by simp) (by simp) V.out.symm (by first | omega | (simp; omega) | simp) (by first | omega | (simp; omega) | simp)).mono ?_
        rintro e w3 ⟨rfl, hb⟩
        have B3 := Lib.hid (B2.out.trans (hb.mono z2))
        have z3 := B3.out.size
        clear hb B2
        go_wp2_with fail
        refine (words_is _ P R _ rfl HR.out (by omega)).mono ?_
        rintro e w4 ⟨g4, rfl, hg4, hl4, hb⟩
        have L4 := Lib.hid hl4
        clear hl4
        have B4 := Lib.hid (B3.out.trans (hb.mono z3))
        have z4 := B4.out.size
        clear hb B3
        go_wp2_with fail
        refine (rwords_is _ P R _ rfl HR.out (by omega)).mono ?_
        rintro e w5 ⟨b5, o5, c5, rfl, hc5, hm5, hg5, hl5, hb⟩
        have L5 := Lib.hid hl5
        have L45 := Lib.hid (L4.out.below hb)
        clear hl5
        have B5 := Lib.hid (B4.out.trans (hb.mono z4))
        have z5 := B5.out.size
        clear hb B4
        go_wp2_with fail
        refine (texts_same _ _ _ _ R _ _ _ L45.out L5.out (by omega)).mono ?_
        rintro e w6 ⟨rfl, hb⟩
        have B6 := Lib.hid (B5.out.trans (hb.mono z5))
        have z6 := B6.out.size
        clear hb B5
        go_wp2_with fail
        refine (tame_is _ P _ rfl (by omega)).mono ?_
        rintro e w7 ⟨rfl, hb⟩
        have B7 := Lib.hid (B6.out.trans (hb.mono z6))
        have z7 := B7.out.size
        clear hb B6
        obtain ⟨P2, hP2⟩ : ∃ P2, P2 = tame P := ⟨_, rfl⟩
        have lP2 := tame_le P
        rw [← hP2] at lP2 ⊢
        have HP2 := Lib.hid hP2
        clear hP2
        go_wp2_with fail
        refine (tame_is _ K _ rfl (by omega)).mono ?_
        rintro e w8 ⟨rfl, hb⟩
        have B8 := Lib.hid (B7.out.trans (hb.mono z7))
        have z8 := B8.out.size
        clear hb B7
        obtain ⟨K2, hK2⟩ : ∃ K2, K2 = tame K := ⟨_, rfl⟩
        have lK2 := tame_le K
        rw [← hK2] at lK2 ⊢
        have HK2 := Lib.hid hK2
        clear hK2
        go_wp2_with fail
        go_roundw
        case rel => exact ⟨i + 1, P2, K2, by omega, by go_num, rfl, rfl, by omega, by omega, B8.out⟩
        case measure => simp [intOf]; omega
end Go.Proofs.YtphjpadjlmdfcaaDoor
