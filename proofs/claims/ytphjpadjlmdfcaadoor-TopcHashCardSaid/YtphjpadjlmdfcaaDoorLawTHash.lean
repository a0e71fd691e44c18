/- The law on the sign for any number of words: its walk. -/
import Derived.Test.YtphjpadjlmdfcaaDoorTopcA
namespace Go.Proofs.YtphjpadjlmdfcaaDoor
open Go.RowKit
set_option maxRecDepth 100000
set_option linter.unusedSimpArgs false
set_option linter.unusedVariables false

set_option maxHeartbeats 4000000 in
theorem hash_any (x y p : List UInt8) (w : World) (mx : x.length ≤ maxLen) (my : y.length ≤ maxLen) (mp : p.length ≤ maxLen) : Calls Tryd.prog 7 #[.string ⟨x.toArray⟩, .string ⟨y.toArray⟩, .string ⟨p.toArray⟩] w fun e w' => e = .returned (.bool true) ∧ Below w.heap.size w w' := by
  unfold maxLen at mx
  unfold maxLen at my
  unfold maxLen at mp
  by_cases hx : (100 : Int) < (x.length : Int)
  · go_enter Tryd.func7, Tryd.ntmps7
    go_wp2_with fail
    refine (awake6_any _).mono ?_
    rintro e w99 ⟨rfl, hb⟩
    have BE := Lib.hid hb
    clear hb
    go_wp2_with fail
    go_ret
    exact ⟨rfl, BE.out⟩
  have jx : x.length ≤ 100 := by omega
  by_cases hy : (100 : Int) < (y.length : Int)
  · go_enter Tryd.func7, Tryd.ntmps7
    go_wp2_with fail
    refine (awake6_any _).mono ?_
    rintro e w99 ⟨rfl, hb⟩
    have BE := Lib.hid hb
    clear hb
    go_wp2_with fail
    go_ret
    exact ⟨rfl, BE.out⟩
  have jy : y.length ≤ 100 := by omega
  by_cases hp : (100 : Int) < (p.length : Int)
  · go_enter Tryd.func7, Tryd.ntmps7
    go_wp2_with fail
    refine (awake6_any _).mono ?_
    rintro e w99 ⟨rfl, hb⟩
    have BE := Lib.hid hb
    clear hb
    go_wp2_with fail
    go_ret
    exact ⟨rfl, BE.out⟩
  have jp : p.length ≤ 100 := by omega
  go_enter Tryd.func7, Tryd.ntmps7
  go_wp2_with fail
  refine (tame_is _ p _ rfl (by omega)).mono ?_
  rintro e w1 ⟨rfl, hb⟩
  have B1 := Lib.hid hb
  have z1 := B1.out.size
  clear hb
  obtain ⟨Q, hQ⟩ : ∃ Q, Q = tame p := ⟨_, rfl⟩
  have lQ := tame_le p
  rw [← hQ] at lQ ⊢
  have HQ := Lib.hid hQ
  clear hQ
  go_wp2_with fail
  refine (tame_is _ x _ rfl (by omega)).mono ?_
  rintro e w2 ⟨rfl, hb⟩
  have B2 := Lib.hid (B1.out.trans (hb.mono z1))
  have z2 := B2.out.size
  clear hb B1
  obtain ⟨K, hK⟩ : ∃ K, K = tame x := ⟨_, rfl⟩
  have lK := tame_le x
  rw [← hK] at lK ⊢
  have HK := Lib.hid hK
  clear hK
  go_wp2_with fail
  have hxy : (x.length : Int) + (y.length : Int) ≤ 200 := by omega
  have hn1 : ¬ 9223372036854775807 < x.length + y.length := by omega
  go_loopw [9, 10] (fun vb vi wr => ∃ (b : Bool) (i : Nat), vb = .bool b ∧ vi = .int .i64 i ∧ i ≤ x.length + y.length ∧ wr = w2) (fun _ vi _ => 201 - (intOf vi).toNat)
  case atStart => exact ⟨true, 0, rfl, rfl, by omega, rfl⟩
  case round =>
    obtain ⟨b, i, rfl, rfl, hi, hwr⟩ := hrel
    subst wr
    by_cases hlt : i < x.length + y.length
    · have q1 : (i : Int) < (x.length : Int) + (y.length : Int) := by omega
      have q0 : (0 : Int) ≤ (i : Int) := by omega
      go_wp2_with fail
      all_goals go_roundw
      all_goals first
        | exact ⟨_, i + 1, rfl, by go_num, by omega, trivial⟩
        | (simp [intOf]; omega)
    · have q1 : ¬ (i : Int) < (x.length : Int) + (y.length : Int) := by omega
      obtain ⟨v, hv⟩ : ∃ v, v = mtT Q K := ⟨_, rfl⟩
      obtain ⟨v2, hv2⟩ : ∃ v2, v2 = mtT (Q ++ [46, 35]) K := ⟨_, rfl⟩
      obtain ⟨v3, hv3⟩ : ∃ v3, v3 = mtT (35 :: 46 :: Q) K := ⟨_, rfl⟩
      have V := Lib.hid hv
      have V2 := Lib.hid hv2
      have V3 := Lib.hid hv3
      clear hv hv2 hv3
      cases b with
      | false =>
        go_wp2_with fail
        refine (match_is _ _ [35] x true _ (by simp) (by simp) (mtT_hash x) (by first | omega | (simp; omega) | simp) (by first | omega | (simp; omega) | simp)).mono ?_
        rintro e w3 ⟨rfl, hb⟩
        have B3 := Lib.hid (B2.out.trans (hb.mono z2))
        have z3 := B3.out.size
        clear hb B2
        go_wp2_with fail
        refine (match_is _ _ [35, 46, 35] x true _ (by simp) (by simp) (mtT_hash2 x) (by first | omega | (simp; omega) | simp) (by first | omega | (simp; omega) | simp)).mono ?_
        rintro e w4 ⟨rfl, hb⟩
        have B4 := Lib.hid (B3.out.trans (hb.mono z3))
        have z4 := B4.out.size
        clear hb B3
        go_wp2_with fail
        refine (match_is _ _ (Q ++ [46, 35, 46, 35]) K v2 _ (by simp) (by simp) (by rw [mtT_then2]; exact V2.out.symm) (by first | omega | (simp; omega) | simp) (by first | omega | (simp; omega) | simp)).mono ?_
        rintro e w5 ⟨rfl, hb⟩
        have B5 := Lib.hid (B4.out.trans (hb.mono z4))
        have z5 := B5.out.size
        clear hb B4
        go_wp2_with fail
        refine (match_is _ _ (Q ++ [46, 35]) K v2 _ (by simp) (by simp) V2.out.symm (by first | omega | (simp; omega) | simp) (by first | omega | (simp; omega) | simp)).mono ?_
        rintro e w6 ⟨rfl, hb⟩
        have B6 := Lib.hid (B5.out.trans (hb.mono z5))
        have z6 := B6.out.size
        clear hb B5
        go_wp2_with fail
        refine (match_is _ _ (35 :: 46 :: Q) K v3 _ (by simp) (by simp) V3.out.symm (by first | omega | (simp; omega) | simp) (by first | omega | (simp; omega) | simp)).mono ?_
        rintro e w7 ⟨rfl, hb⟩
        have B7 := Lib.hid (B6.out.trans (hb.mono z6))
        have z7 := B7.out.size
        clear hb B6
        go_wp2_with fail
        refine (match_is _ _ (35 :: 46 :: 35 :: 46 :: Q) K v3 _ (by simp) (by simp) (by rw [mtT_ahead2]; exact V3.out.symm) (by first | omega | (simp; omega) | simp) (by first | omega | (simp; omega) | simp)).mono ?_
        rintro e w8 ⟨rfl, hb⟩
        have B8 := Lib.hid (B7.out.trans (hb.mono z7))
        have z8 := B8.out.size
        clear hb B7
        cases v with
        | false =>
          go_wp2_with fail
          refine (match_is _ _ Q K false _ (by simp) (by simp) V.out.symm (by first | omega | (simp; omega) | simp) (by first | omega | (simp; omega) | simp)).mono ?_
          rintro e w9 ⟨rfl, hb⟩
          have B9 := Lib.hid (B8.out.trans (hb.mono z8))
          have z9 := B9.out.size
          clear hb B8
          go_wp2_with fail
          refine (awake6_any _).mono ?_
          rintro e w99 ⟨rfl, hb⟩
          have BE := Lib.hid (B9.out.trans (hb.mono z9))
          clear hb
          go_wp2_with fail
          go_ret
          exact ⟨rfl, BE.out⟩
        | true =>
          go_wp2_with fail
          refine (match_is _ _ Q K true _ (by simp) (by simp) V.out.symm (by first | omega | (simp; omega) | simp) (by first | omega | (simp; omega) | simp)).mono ?_
          rintro e w9 ⟨rfl, hb⟩
          have B9 := Lib.hid (B8.out.trans (hb.mono z8))
          have z9 := B9.out.size
          clear hb B8
          go_wp2_with fail
          refine (match_is _ _ (Q ++ [46, 35]) K true _ (by simp) (by simp) (mtT_then_of V.out.symm) (by first | omega | (simp; omega) | simp) (by first | omega | (simp; omega) | simp)).mono ?_
          rintro e w10 ⟨rfl, hb⟩
          have B10 := Lib.hid (B9.out.trans (hb.mono z9))
          have z10 := B10.out.size
          clear hb B9
          go_wp2_with fail
          refine (match_is _ _ (35 :: 46 :: Q) K true _ (by simp) (by simp) (mtT_ahead_of V.out.symm) (by first | omega | (simp; omega) | simp) (by first | omega | (simp; omega) | simp)).mono ?_
          rintro e w11 ⟨rfl, hb⟩
          have B11 := Lib.hid (B10.out.trans (hb.mono z10))
          have z11 := B11.out.size
          clear hb B10
          go_wp2_with fail
          refine (awake6_any _).mono ?_
          rintro e w99 ⟨rfl, hb⟩
          have BE := Lib.hid (B11.out.trans (hb.mono z11))
          clear hb
          go_wp2_with fail
          go_ret
          exact ⟨rfl, BE.out⟩
      | true =>
        go_wp2_with fail
        refine (match_is _ _ (x ++ [46, 35]) x true _ (by simp) (by simp) (mtT_a1 x) (by first | omega | (simp; omega) | simp) (by first | omega | (simp; omega) | simp)).mono ?_
        rintro e w3 ⟨rfl, hb⟩
        have B3 := Lib.hid (B2.out.trans (hb.mono z2))
        have z3 := B3.out.size
        clear hb B2
        go_wp2_with fail
        refine (match_is _ _ (x ++ [46, 35]) (x ++ 46 :: y) true _ (by simp) (by simp) (mtT_a2 x y) (by first | omega | (simp; omega) | simp) (by first | omega | (simp; omega) | simp)).mono ?_
        rintro e w4 ⟨rfl, hb⟩
        have B4 := Lib.hid (B3.out.trans (hb.mono z3))
        have z4 := B4.out.size
        clear hb B3
        go_wp2_with fail
        refine (match_is _ _ (35 :: 46 :: y) (x ++ 46 :: y) true _ (by simp) (by simp) (mtT_a3 x y) (by first | omega | (simp; omega) | simp) (by first | omega | (simp; omega) | simp)).mono ?_
        rintro e w5 ⟨rfl, hb⟩
        have B5 := Lib.hid (B4.out.trans (hb.mono z4))
        have z5 := B5.out.size
        clear hb B4
        go_wp2_with fail
        refine (match_is _ _ (35 :: 46 :: y) y true _ (by simp) (by simp) (mtT_a4 y) (by first | omega | (simp; omega) | simp) (by first | omega | (simp; omega) | simp)).mono ?_
        rintro e w6 ⟨rfl, hb⟩
        have B6 := Lib.hid (B5.out.trans (hb.mono z5))
        have z6 := B6.out.size
        clear hb B5
        go_wp2_with fail
        refine (match_is _ _ (x ++ [46, 35, 46] ++ y) (x ++ 46 :: y) true _ (by simp) (by simp) (mtT_a5 x y) (by first | omega | (simp; omega) | simp) (by first | omega | (simp; omega) | simp)).mono ?_
        rintro e w7 ⟨rfl, hb⟩
        have B7 := Lib.hid (B6.out.trans (hb.mono z6))
        have z7 := B7.out.size
        clear hb B6
        go_wp2_with fail
        refine (match_is _ _ [35] x true _ (by simp) (by simp) (mtT_hash x) (by first | omega | (simp; omega) | simp) (by first | omega | (simp; omega) | simp)).mono ?_
        rintro e w8 ⟨rfl, hb⟩
        have B8 := Lib.hid (B7.out.trans (hb.mono z7))
        have z8 := B8.out.size
        clear hb B7
        go_wp2_with fail
        refine (match_is _ _ [35, 46, 35] x true _ (by simp) (by simp) (mtT_hash2 x) (by first | omega | (simp; omega) | simp) (by first | omega | (simp; omega) | simp)).mono ?_
        rintro e w9 ⟨rfl, hb⟩
        have B9 := Lib.hid (B8.out.trans (hb.mono z8))
        have z9 := B9.out.size
        clear hb B8
        go_wp2_with fail
        refine (match_is _ _ (Q ++ [46, 35, 46, 35]) K v2 _ (by simp) (by simp) (by rw [mtT_then2]; exact V2.out.symm) (by first | omega | (simp; omega) | simp) (by first | omega | (simp; omega) | simp)).mono ?_
        rintro e w10 ⟨rfl, hb⟩
        have B10 := Lib.hid (B9.out.trans (hb.mono z9))
        have z10 := B10.out.size
        clear hb B9
        go_wp2_with fail
        refine (match_is _ _ (Q ++ [46, 35]) K v2 _ (by simp) (by simp) V2.out.symm (by first | omega | (simp; omega) | simp) (by first | omega | (simp; omega) | simp)).mono ?_
        rintro e w11 ⟨rfl, hb⟩
        have B11 := Lib.hid (B10.out.trans (hb.mono z10))
        have z11 := B11.out.size
        clear hb B10
        go_wp2_with fail
        refine (match_is _ _ (35 :: 46 :: Q) K v3 _ (by simp) (by simp) V3.out.symm (by first | omega | (simp; omega) | simp) (by first | omega | (simp; omega) | simp)).mono ?_
        rintro e w12 ⟨rfl, hb⟩
        have B12 := Lib.hid (B11.out.trans (hb.mono z11))
        have z12 := B12.out.size
        clear hb B11
        go_wp2_with fail
        refine (match_is _ _ (35 :: 46 :: 35 :: 46 :: Q) K v3 _ (by simp) (by simp) (by rw [mtT_ahead2]; exact V3.out.symm) (by first | omega | (simp; omega) | simp) (by first | omega | (simp; omega) | simp)).mono ?_
        rintro e w13 ⟨rfl, hb⟩
        have B13 := Lib.hid (B12.out.trans (hb.mono z12))
        have z13 := B13.out.size
        clear hb B12
        cases v with
        | false =>
          go_wp2_with fail
          refine (match_is _ _ Q K false _ (by simp) (by simp) V.out.symm (by first | omega | (simp; omega) | simp) (by first | omega | (simp; omega) | simp)).mono ?_
          rintro e w14 ⟨rfl, hb⟩
          have B14 := Lib.hid (B13.out.trans (hb.mono z13))
          have z14 := B14.out.size
          clear hb B13
          go_wp2_with fail
          refine (awake6_any _).mono ?_
          rintro e w99 ⟨rfl, hb⟩
          have BE := Lib.hid (B14.out.trans (hb.mono z14))
          clear hb
          go_wp2_with fail
          go_ret
          exact ⟨rfl, BE.out⟩
        | true =>
          go_wp2_with fail
          refine (match_is _ _ Q K true _ (by simp) (by simp) V.out.symm (by first | omega | (simp; omega) | simp) (by first | omega | (simp; omega) | simp)).mono ?_
          rintro e w14 ⟨rfl, hb⟩
          have B14 := Lib.hid (B13.out.trans (hb.mono z13))
          have z14 := B14.out.size
          clear hb B13
          go_wp2_with fail
          refine (match_is _ _ (Q ++ [46, 35]) K true _ (by simp) (by simp) (mtT_then_of V.out.symm) (by first | omega | (simp; omega) | simp) (by first | omega | (simp; omega) | simp)).mono ?_
          rintro e w15 ⟨rfl, hb⟩
          have B15 := Lib.hid (B14.out.trans (hb.mono z14))
          have z15 := B15.out.size
          clear hb B14
          go_wp2_with fail
          refine (match_is _ _ (35 :: 46 :: Q) K true _ (by simp) (by simp) (mtT_ahead_of V.out.symm) (by first | omega | (simp; omega) | simp) (by first | omega | (simp; omega) | simp)).mono ?_
          rintro e w16 ⟨rfl, hb⟩
          have B16 := Lib.hid (B15.out.trans (hb.mono z15))
          have z16 := B16.out.size
          clear hb B15
          go_wp2_with fail
          refine (awake6_any _).mono ?_
          rintro e w99 ⟨rfl, hb⟩
          have BE := Lib.hid (B16.out.trans (hb.mono z16))
          clear hb
          go_wp2_with fail
          go_ret
          exact ⟨rfl, BE.out⟩
end Go.Proofs.YtphjpadjlmdfcaaDoor
