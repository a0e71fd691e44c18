/- The law on patterns that are joined: its walk. -/
import Derived.Test.YtphjpadjlmdfcaaDoorTopcA
namespace Go.Proofs.YtphjpadjlmdfcaaDoor
open Go.RowKit
set_option maxRecDepth 100000
set_option linter.unusedSimpArgs false
set_option linter.unusedVariables false

set_option maxHeartbeats 4000000 in
theorem joins_any (p q k l : List UInt8) (w : World) (mp : p.length ≤ maxLen) (mq : q.length ≤ maxLen) (mk : k.length ≤ maxLen) (ml : l.length ≤ maxLen) : Calls Tryd.prog 3 #[.string ⟨p.toArray⟩, .string ⟨q.toArray⟩, .string ⟨k.toArray⟩, .string ⟨l.toArray⟩] w fun e w' => e = .returned (.bool true) ∧ Below w.heap.size w w' := by
  unfold maxLen at mp
  unfold maxLen at mq
  unfold maxLen at mk
  unfold maxLen at ml
  by_cases hp : (100 : Int) < (p.length : Int)
  · go_enter Tryd.func3, Tryd.ntmps3
    go_wp2_with fail
    refine (awake6_any _).mono ?_
    rintro e w99 ⟨rfl, hb⟩
    have BE := Lib.hid hb
    clear hb
    go_wp2_with fail
    go_ret
    exact ⟨rfl, BE.out⟩
  have jp : p.length ≤ 100 := by omega
  by_cases hq : (100 : Int) < (q.length : Int)
  · go_enter Tryd.func3, Tryd.ntmps3
    go_wp2_with fail
    refine (awake6_any _).mono ?_
    rintro e w99 ⟨rfl, hb⟩
    have BE := Lib.hid hb
    clear hb
    go_wp2_with fail
    go_ret
    exact ⟨rfl, BE.out⟩
  have jq : q.length ≤ 100 := by omega
  by_cases hk : (100 : Int) < (k.length : Int)
  · go_enter Tryd.func3, Tryd.ntmps3
    go_wp2_with fail
    refine (awake6_any _).mono ?_
    rintro e w99 ⟨rfl, hb⟩
    have BE := Lib.hid hb
    clear hb
    go_wp2_with fail
    go_ret
    exact ⟨rfl, BE.out⟩
  have jk : k.length ≤ 100 := by omega
  by_cases hl : (100 : Int) < (l.length : Int)
  · go_enter Tryd.func3, Tryd.ntmps3
    go_wp2_with fail
    refine (awake6_any _).mono ?_
    rintro e w99 ⟨rfl, hb⟩
    have BE := Lib.hid hb
    clear hb
    go_wp2_with fail
    go_ret
    exact ⟨rfl, BE.out⟩
  have jl : l.length ≤ 100 := by omega
  go_enter Tryd.func3, Tryd.ntmps3
  go_wp2_with fail
  refine (tame_is _ p _ rfl (by omega)).mono ?_
  rintro e w1 ⟨rfl, hb⟩
  have B1 := Lib.hid hb
  have z1 := B1.out.size
  clear hb
  obtain ⟨P, hP⟩ : ∃ P, P = tame p := ⟨_, rfl⟩
  have lP := tame_le p
  rw [← hP] at lP ⊢
  have HP := Lib.hid hP
  clear hP
  go_wp2_with fail
  refine (tame_is _ q _ rfl (by omega)).mono ?_
  rintro e w2 ⟨rfl, hb⟩
  have B2 := Lib.hid (B1.out.trans (hb.mono z1))
  have z2 := B2.out.size
  clear hb B1
  obtain ⟨Q, hQ⟩ : ∃ Q, Q = tame q := ⟨_, rfl⟩
  have lQ := tame_le q
  rw [← hQ] at lQ ⊢
  have HQ := Lib.hid hQ
  clear hQ
  go_wp2_with fail
  refine (tame_is _ k _ rfl (by omega)).mono ?_
  rintro e w3 ⟨rfl, hb⟩
  have B3 := Lib.hid (B2.out.trans (hb.mono z2))
  have z3 := B3.out.size
  clear hb B2
  obtain ⟨K, hK⟩ : ∃ K, K = tame k := ⟨_, rfl⟩
  have lK := tame_le k
  rw [← hK] at lK ⊢
  have HK := Lib.hid hK
  clear hK
  go_wp2_with fail
  refine (tame_is _ l _ rfl (by omega)).mono ?_
  rintro e w4 ⟨rfl, hb⟩
  have B4 := Lib.hid (B3.out.trans (hb.mono z3))
  have z4 := B4.out.size
  clear hb B3
  obtain ⟨L, hL⟩ : ∃ L, L = tame l := ⟨_, rfl⟩
  have lL := tame_le l
  rw [← hL] at lL ⊢
  have HL := Lib.hid hL
  clear hL
  obtain ⟨v1, hv1⟩ : ∃ v, v = mtT P K := ⟨_, rfl⟩
  obtain ⟨v2, hv2⟩ : ∃ v, v = mtT Q L := ⟨_, rfl⟩
  have V1 := Lib.hid hv1
  have V2 := Lib.hid hv2
  clear hv1 hv2
  cases v1 with
  | false =>
    go_wp2_with fail
    refine (match_is _ _ P K false _ (by simp) (by simp) V1.out.symm (by first | omega | (simp; omega) | simp) (by first | omega | (simp; omega) | simp)).mono ?_
    rintro e w5 ⟨rfl, hb⟩
    have B5 := Lib.hid (B4.out.trans (hb.mono z4))
    have z5 := B5.out.size
    clear hb B4
    go_wp2_with fail
    refine (match_is _ _ (120 :: 46 :: P) (120 :: 46 :: K) false _ (by simp) (by simp) (by rw [mtT_x]; exact V1.out.symm) (by first | omega | (simp; omega) | simp) (by first | omega | (simp; omega) | simp)).mono ?_
    rintro e w6 ⟨rfl, hb⟩
    have B6 := Lib.hid (B5.out.trans (hb.mono z5))
    have z6 := B6.out.size
    clear hb B5
    go_wp2_with fail
    refine (match_is _ _ P K false _ (by simp) (by simp) V1.out.symm (by first | omega | (simp; omega) | simp) (by first | omega | (simp; omega) | simp)).mono ?_
    rintro e w7 ⟨rfl, hb⟩
    have B7 := Lib.hid (B6.out.trans (hb.mono z6))
    have z7 := B7.out.size
    clear hb B6
    go_wp2_with fail
    refine (match_is _ _ (P ++ [46, 120]) (K ++ [46, 120]) false _ (by simp) (by simp) (by rw [mtT_behind]; exact V1.out.symm) (by first | omega | (simp; omega) | simp) (by first | omega | (simp; omega) | simp)).mono ?_
    rintro e w8 ⟨rfl, hb⟩
    have B8 := Lib.hid (B7.out.trans (hb.mono z7))
    have z8 := B8.out.size
    clear hb B7
    go_wp2_with fail
    refine (match_is _ _ P K false _ (by simp) (by simp) V1.out.symm (by first | omega | (simp; omega) | simp) (by first | omega | (simp; omega) | simp)).mono ?_
    rintro e w9 ⟨rfl, hb⟩
    have B9 := Lib.hid (B8.out.trans (hb.mono z8))
    have z9 := B9.out.size
    clear hb B8
    go_wp2_with fail
    refine (match_is _ _ (120 :: 46 :: P) (121 :: 46 :: K) false _ (by simp) (by simp) (mtT_xy P K) (by first | omega | (simp; omega) | simp) (by first | omega | (simp; omega) | simp)).mono ?_
    rintro e w10 ⟨rfl, hb⟩
    have B10 := Lib.hid (B9.out.trans (hb.mono z9))
    have z10 := B10.out.size
    clear hb B9
    go_wp2_with fail
    refine (match_is _ _ (42 :: 46 :: P) (121 :: 46 :: K) false _ (by simp) (by simp) (by rw [mtT_sy]; exact V1.out.symm) (by first | omega | (simp; omega) | simp) (by first | omega | (simp; omega) | simp)).mono ?_
    rintro e w11 ⟨rfl, hb⟩
    have B11 := Lib.hid (B10.out.trans (hb.mono z10))
    have z11 := B11.out.size
    clear hb B10
    go_wp2_with fail
    refine (match_is _ _ P K false _ (by simp) (by simp) V1.out.symm (by first | omega | (simp; omega) | simp) (by first | omega | (simp; omega) | simp)).mono ?_
    rintro e w12 ⟨rfl, hb⟩
    have B12 := Lib.hid (B11.out.trans (hb.mono z11))
    have z12 := B12.out.size
    clear hb B11
    go_wp2_with fail
    refine (awake6_any _).mono ?_
    rintro e w99 ⟨rfl, hb⟩
    have BE := Lib.hid (B12.out.trans (hb.mono z12))
    clear hb
    go_wp2_with fail
    go_ret
    exact ⟨rfl, BE.out⟩
  | true =>
    cases v2 with
    | false =>
      go_wp2_with fail
      refine (match_is _ _ P K true _ (by simp) (by simp) V1.out.symm (by first | omega | (simp; omega) | simp) (by first | omega | (simp; omega) | simp)).mono ?_
      rintro e w5 ⟨rfl, hb⟩
      have B5 := Lib.hid (B4.out.trans (hb.mono z4))
      have z5 := B5.out.size
      clear hb B4
      go_wp2_with fail
      refine (match_is _ _ Q L false _ (by simp) (by simp) V2.out.symm (by first | omega | (simp; omega) | simp) (by first | omega | (simp; omega) | simp)).mono ?_
      rintro e w6 ⟨rfl, hb⟩
      have B6 := Lib.hid (B5.out.trans (hb.mono z5))
      have z6 := B6.out.size
      clear hb B5
      go_wp2_with fail
      refine (match_is _ _ (120 :: 46 :: P) (120 :: 46 :: K) true _ (by simp) (by simp) (by rw [mtT_x]; exact V1.out.symm) (by first | omega | (simp; omega) | simp) (by first | omega | (simp; omega) | simp)).mono ?_
      rintro e w7 ⟨rfl, hb⟩
      have B7 := Lib.hid (B6.out.trans (hb.mono z6))
      have z7 := B7.out.size
      clear hb B6
      go_wp2_with fail
      refine (match_is _ _ P K true _ (by simp) (by simp) V1.out.symm (by first | omega | (simp; omega) | simp) (by first | omega | (simp; omega) | simp)).mono ?_
      rintro e w8 ⟨rfl, hb⟩
      have B8 := Lib.hid (B7.out.trans (hb.mono z7))
      have z8 := B8.out.size
      clear hb B7
      go_wp2_with fail
      refine (match_is _ _ (P ++ [46, 120]) (K ++ [46, 120]) true _ (by simp) (by simp) (by rw [mtT_behind]; exact V1.out.symm) (by first | omega | (simp; omega) | simp) (by first | omega | (simp; omega) | simp)).mono ?_
      rintro e w9 ⟨rfl, hb⟩
      have B9 := Lib.hid (B8.out.trans (hb.mono z8))
      have z9 := B9.out.size
      clear hb B8
      go_wp2_with fail
      refine (match_is _ _ P K true _ (by simp) (by simp) V1.out.symm (by first | omega | (simp; omega) | simp) (by first | omega | (simp; omega) | simp)).mono ?_
      rintro e w10 ⟨rfl, hb⟩
      have B10 := Lib.hid (B9.out.trans (hb.mono z9))
      have z10 := B10.out.size
      clear hb B9
      go_wp2_with fail
      refine (match_is _ _ (120 :: 46 :: P) (121 :: 46 :: K) false _ (by simp) (by simp) (mtT_xy P K) (by first | omega | (simp; omega) | simp) (by first | omega | (simp; omega) | simp)).mono ?_
      rintro e w11 ⟨rfl, hb⟩
      have B11 := Lib.hid (B10.out.trans (hb.mono z10))
      have z11 := B11.out.size
      clear hb B10
      go_wp2_with fail
      refine (match_is _ _ (42 :: 46 :: P) (121 :: 46 :: K) true _ (by simp) (by simp) (by rw [mtT_sy]; exact V1.out.symm) (by first | omega | (simp; omega) | simp) (by first | omega | (simp; omega) | simp)).mono ?_
      rintro e w12 ⟨rfl, hb⟩
      have B12 := Lib.hid (B11.out.trans (hb.mono z11))
      have z12 := B12.out.size
      clear hb B11
      go_wp2_with fail
      refine (match_is _ _ P K true _ (by simp) (by simp) V1.out.symm (by first | omega | (simp; omega) | simp) (by first | omega | (simp; omega) | simp)).mono ?_
      rintro e w13 ⟨rfl, hb⟩
      have B13 := Lib.hid (B12.out.trans (hb.mono z12))
      have z13 := B13.out.size
      clear hb B12
      go_wp2_with fail
      refine (awake6_any _).mono ?_
      rintro e w99 ⟨rfl, hb⟩
      have BE := Lib.hid (B13.out.trans (hb.mono z13))
      clear hb
      go_wp2_with fail
      go_ret
      exact ⟨rfl, BE.out⟩
    | true =>
      go_wp2_with fail
      refine (match_is _ _ P K true _ (by simp) (by simp) V1.out.symm (by first | omega | (simp; omega) | simp) (by first | omega | (simp; omega) | simp)).mono ?_
      rintro e w5 ⟨rfl, hb⟩
      have B5 := Lib.hid (B4.out.trans (hb.mono z4))
      have z5 := B5.out.size
      clear hb B4
      go_wp2_with fail
      refine (match_is _ _ Q L true _ (by simp) (by simp) V2.out.symm (by first | omega | (simp; omega) | simp) (by first | omega | (simp; omega) | simp)).mono ?_
      rintro e w6 ⟨rfl, hb⟩
      have B6 := Lib.hid (B5.out.trans (hb.mono z5))
      have z6 := B6.out.size
      clear hb B5
      go_wp2_with fail
      refine (match_is _ _ (P ++ 46 :: Q) (K ++ 46 :: L) true _ (by simp) (by simp) (mtT_join V1.out.symm V2.out.symm) (by first | omega | (simp; omega) | simp) (by first | omega | (simp; omega) | simp)).mono ?_
      rintro e w7 ⟨rfl, hb⟩
      have B7 := Lib.hid (B6.out.trans (hb.mono z6))
      have z7 := B7.out.size
      clear hb B6
      go_wp2_with fail
      refine (match_is _ _ (120 :: 46 :: P) (120 :: 46 :: K) true _ (by simp) (by simp) (by rw [mtT_x]; exact V1.out.symm) (by first | omega | (simp; omega) | simp) (by first | omega | (simp; omega) | simp)).mono ?_
      rintro e w8 ⟨rfl, hb⟩
      have B8 := Lib.hid (B7.out.trans (hb.mono z7))
      have z8 := B8.out.size
      clear hb B7
      go_wp2_with fail
      refine (match_is _ _ P K true _ (by simp) (by simp) V1.out.symm (by first | omega | (simp; omega) | simp) (by first | omega | (simp; omega) | simp)).mono ?_
      rintro e w9 ⟨rfl, hb⟩
      have B9 := Lib.hid (B8.out.trans (hb.mono z8))
      have z9 := B9.out.size
      clear hb B8
      go_wp2_with fail
      refine (match_is _ _ (P ++ [46, 120]) (K ++ [46, 120]) true _ (by simp) (by simp) (by rw [mtT_behind]; exact V1.out.symm) (by first | omega | (simp; omega) | simp) (by first | omega | (simp; omega) | simp)).mono ?_
      rintro e w10 ⟨rfl, hb⟩
      have B10 := Lib.hid (B9.out.trans (hb.mono z9))
      have z10 := B10.out.size
      clear hb B9
      go_wp2_with fail
      refine (match_is _ _ P K true _ (by simp) (by simp) V1.out.symm (by first | omega | (simp; omega) | simp) (by first | omega | (simp; omega) | simp)).mono ?_
      rintro e w11 ⟨rfl, hb⟩
      have B11 := Lib.hid (B10.out.trans (hb.mono z10))
      have z11 := B11.out.size
      clear hb B10
      go_wp2_with fail
      refine (match_is _ _ (120 :: 46 :: P) (121 :: 46 :: K) false _ (by simp) (by simp) (mtT_xy P K) (by first | omega | (simp; omega) | simp) (by first | omega | (simp; omega) | simp)).mono ?_
      rintro e w12 ⟨rfl, hb⟩
      have B12 := Lib.hid (B11.out.trans (hb.mono z11))
      have z12 := B12.out.size
      clear hb B11
      go_wp2_with fail
      refine (match_is _ _ (42 :: 46 :: P) (121 :: 46 :: K) true _ (by simp) (by simp) (by rw [mtT_sy]; exact V1.out.symm) (by first | omega | (simp; omega) | simp) (by first | omega | (simp; omega) | simp)).mono ?_
      rintro e w13 ⟨rfl, hb⟩
      have B13 := Lib.hid (B12.out.trans (hb.mono z12))
      have z13 := B13.out.size
      clear hb B12
      go_wp2_with fail
      refine (match_is _ _ P K true _ (by simp) (by simp) V1.out.symm (by first | omega | (simp; omega) | simp) (by first | omega | (simp; omega) | simp)).mono ?_
      rintro e w14 ⟨rfl, hb⟩
      have B14 := Lib.hid (B13.out.trans (hb.mono z13))
      have z14 := B14.out.size
      clear hb B13
      go_wp2_with fail
      refine (awake6_any _).mono ?_
      rintro e w99 ⟨rfl, hb⟩
      have BE := Lib.hid (B14.out.trans (hb.mono z14))
      clear hb
      go_wp2_with fail
      go_ret
      exact ⟨rfl, BE.out⟩
end Go.Proofs.YtphjpadjlmdfcaaDoor
