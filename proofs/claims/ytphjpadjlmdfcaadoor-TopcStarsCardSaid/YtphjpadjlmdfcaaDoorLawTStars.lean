/- The law on stars: its walk. -/
import Derived.Test.YtphjpadjlmdfcaaDoorTopcA
namespace Go.Proofs.YtphjpadjlmdfcaaDoor
open Go.RowKit
set_option maxRecDepth 100000
set_option linter.unusedSimpArgs false
set_option linter.unusedVariables false

set_option maxHeartbeats 4000000 in
theorem stars_any (x y z k : List UInt8) (w : World) (mx : x.length ≤ maxLen) (my : y.length ≤ maxLen) (mz : z.length ≤ maxLen) (mk : k.length ≤ maxLen) : Calls Tryd.prog 6 #[.string ⟨x.toArray⟩, .string ⟨y.toArray⟩, .string ⟨z.toArray⟩, .string ⟨k.toArray⟩] w fun e w' => e = .returned (.bool true) ∧ Below w.heap.size w w' := by
  unfold maxLen at mx
  unfold maxLen at my
  unfold maxLen at mz
  unfold maxLen at mk
  by_cases hx : (60 : Int) < (x.length : Int)
  · go_enter Tryd.func6, Tryd.ntmps6
    go_wp2_with fail
    refine (awake6_any _).mono ?_
    rintro e w99 ⟨rfl, hb⟩
    have BE := Lib.hid hb
    clear hb
    go_wp2_with fail
    go_ret
    exact ⟨rfl, BE.out⟩
  have jx : x.length ≤ 60 := by omega
  by_cases hy : (60 : Int) < (y.length : Int)
  · go_enter Tryd.func6, Tryd.ntmps6
    go_wp2_with fail
    refine (awake6_any _).mono ?_
    rintro e w99 ⟨rfl, hb⟩
    have BE := Lib.hid hb
    clear hb
    go_wp2_with fail
    go_ret
    exact ⟨rfl, BE.out⟩
  have jy : y.length ≤ 60 := by omega
  by_cases hz : (60 : Int) < (z.length : Int)
  · go_enter Tryd.func6, Tryd.ntmps6
    go_wp2_with fail
    refine (awake6_any _).mono ?_
    rintro e w99 ⟨rfl, hb⟩
    have BE := Lib.hid hb
    clear hb
    go_wp2_with fail
    go_ret
    exact ⟨rfl, BE.out⟩
  have jz : z.length ≤ 60 := by omega
  by_cases hk : (200 : Int) < (k.length : Int)
  · go_enter Tryd.func6, Tryd.ntmps6
    go_wp2_with fail
    refine (awake6_any _).mono ?_
    rintro e w99 ⟨rfl, hb⟩
    have BE := Lib.hid hb
    clear hb
    go_wp2_with fail
    go_ret
    exact ⟨rfl, BE.out⟩
  have jk : k.length ≤ 200 := by omega
  go_enter Tryd.func6, Tryd.ntmps6
  go_wp2_with fail
  have hn1 : ¬ 9223372036854775807 < x.length + y.length := by omega
  have hn2 : ¬ 9223372036854775807 < x.length + y.length + z.length := by omega
  have hi1 : (x.length : Int) ≤ 60 := by omega
  have hi2 : (y.length : Int) ≤ 60 := by omega
  have hi3 : (z.length : Int) ≤ 60 := by omega
  go_loopw [9] (fun vi wr => ∃ i : Nat, vi = .int .i64 i ∧ i ≤ x.length + y.length + z.length ∧ (∀ (q : Nat) (h : q < (x ++ y ++ z).length), q < i → (x ++ y ++ z)[q] ≠ 46 ∧ (x ++ y ++ z)[q] ≠ 42 ∧ (x ++ y ++ z)[q] ≠ 35) ∧ wr = w) (fun vi _ => 181 - (intOf vi).toNat)
  case atStart => exact ⟨0, rfl, by omega, fun q _ h => by omega, rfl⟩
  case round =>
    obtain ⟨i, rfl, hi, hall, hwr⟩ := hrel
    subst wr
    have HA := Lib.hid hall
    clear hall
    by_cases hlt : i < x.length + y.length + z.length
    · have q1 : (i : Int) < (x.length : Int) + (y.length : Int) + (z.length : Int) := by omega
      have q0 : (0 : Int) ≤ (i : Int) := by omega
      have hL : i < (x ++ y ++ z).length := by simp; omega
      have hB : (⟨x.toArray⟩ : ByteArray) ++ ⟨y.toArray⟩ ++ ⟨z.toArray⟩ = ⟨(x ++ y ++ z).toArray⟩ := by rw [bytes_add, bytes_add]
      have hsz : i < ((⟨x.toArray⟩ : ByteArray) ++ ⟨y.toArray⟩ ++ ⟨z.toArray⟩).size := by rw [hB]; show i < (x ++ y ++ z).toArray.size; simpa using hL
      obtain ⟨c, hc⟩ : ∃ c, c = (x ++ y ++ z)[i] := ⟨_, rfl⟩
      have ho : (((((⟨x.toArray⟩ : ByteArray) ++ ⟨y.toArray⟩ ++ ⟨z.toArray⟩)[i]'hsz).toNat : Nat) : Int) = (c.toNat : Int) := by rw [hc, bytes_at hB i hsz hL]
      have HC := Lib.hid hc
      clear hB hc
      go_upto_region 7 with fail
      try rw [ho]
      clear ho
      by_cases h46 : c = 46
      · subst h46
        go_wp2_with fail
        refine (awake6_any _).mono ?_
        rintro e w99 ⟨rfl, hb⟩
        have BE := Lib.hid hb
        clear hb
        go_wp2_with fail
        go_ret
        exact ⟨rfl, BE.out⟩
      · have e46 : ((c.toNat : Int) == 46) = false := octet_ne h46
        by_cases h42 : c = 42
        · subst h42
          go_wp2_with fail
          refine (awake6_any _).mono ?_
          rintro e w99 ⟨rfl, hb⟩
          have BE := Lib.hid hb
          clear hb
          go_wp2_with fail
          go_ret
          exact ⟨rfl, BE.out⟩
        · have e42 : ((c.toNat : Int) == 42) = false := octet_ne h42
          by_cases h35 : c = 35
          · subst h35
            go_wp2_with fail
            refine (awake6_any _).mono ?_
            rintro e w99 ⟨rfl, hb⟩
            have BE := Lib.hid hb
            clear hb
            go_wp2_with fail
            go_ret
            exact ⟨rfl, BE.out⟩
          · have e35 : ((c.toNat : Int) == 35) = false := octet_ne h35
            have D : Hid (∀ (q : Nat) (h : q < (x ++ y ++ z).length), q < i + 1 → (x ++ y ++ z)[q] ≠ 46 ∧ (x ++ y ++ z)[q] ≠ 42 ∧ (x ++ y ++ z)[q] ≠ 35) := Lib.hid (by
              intro q h hq
              by_cases e : q = i
              · subst e
                rw [← HC.out]
                exact ⟨h46, h42, h35⟩
              · exact HA.out q h (by omega))
            clear h46 h42 h35
            go_wp2_with fail
            go_roundw
            case rel => exact ⟨i + 1, by go_num, by omega, D.out, trivial⟩
            case measure => simp [intOf]; omega
    · have q1 : ¬ (i : Int) < (x.length : Int) + (y.length : Int) + (z.length : Int) := by omega
      have hall : ∀ c ∈ x ++ y ++ z, c ≠ 46 ∧ c ≠ 42 ∧ c ≠ 35 := by
        intro c hc
        obtain ⟨q, hq, rfl⟩ := List.getElem_of_mem hc
        exact HA.out q hq (by rw [List.length_append, List.length_append] at hq; omega)
      have bx : bare x := fun c hc => hall c (by simp [hc])
      have by_ : bare y := fun c hc => hall c (by simp [hc])
      have bz : bare z := fun c hc => hall c (by simp [hc])
      have BX := Lib.hid bx
      have BY := Lib.hid by_
      have BZ := Lib.hid bz
      obtain ⟨T, hT⟩ : ∃ T, T = tri x y z := ⟨_, rfl⟩
      have hTl : T.length = x.length + y.length + z.length + 2 := by rw [hT]; unfold tri; simp; omega
      have HT := Lib.hid hT
      have HTL := Lib.hid hTl
      have hT2 : T.length ≤ 182 := by omega
      clear hall bx by_ bz HA hT hTl
      have hn3 : ¬ 9223372036854775807 < x.length + 1 := by omega
      have hTB : (⟨x.toArray⟩ : ByteArray) ++ ⟨#[46]⟩ ++ ⟨y.toArray⟩ ++ ⟨#[46]⟩ ++ ⟨z.toArray⟩ = ⟨T.toArray⟩ := by
        apply bytes_list
        rw [HT.out]
        simp [tri]
      obtain ⟨R, hR⟩ : ∃ R, R = wsL k := ⟨_, rfl⟩
      have HR := Lib.hid hR
      have hRl : R.length ≤ 201 := by rw [hR]; have := wsL_len_le k; omega
      obtain ⟨v7, hv7⟩ : ∃ v, v = mtT (tri [42] y [42]) k := ⟨_, rfl⟩
      have V7 := Lib.hid hv7
      have V7' : Hid (v7 = (decide (R.length = 3) && decide (R[1]? = some y))) := Lib.hid (by rw [hv7, tri_mid BY.out, hR])
      obtain ⟨v6, hv6⟩ : ∃ v, v = mtT T k := ⟨_, rfl⟩
      have V6 := Lib.hid hv6
      have e6 : (k == T) = v6 := by
        rw [hv6, HT.out, tri_only BX.out BY.out BZ.out, Bool.eq_iff_iff]
        simp
      clear hR hv7 hv6
      go_upto_region 10 with fail
      try rw [hTB]
      clear hTB
      go_wp2_with fail
      refine (match_is _ _ T T true _ (by first | rfl | (simp; done) | simp [tri]) (by first | rfl | (simp; done) | simp [tri]) (mtT_self T) (by first | omega | (simp; omega) | (simp; done) | (simp [tri]; omega) | simp [tri]) (by first | omega | (simp; omega) | (simp; done) | (simp [tri]; omega) | simp [tri])).mono ?_
      rintro e w1 ⟨rfl, hb⟩
      have B1 := Lib.hid hb
      have z1 := B1.out.size
      clear hb
      go_wp2_with fail
      refine (match_is _ _ (tri x [42] z) T true _ (by first | rfl | (simp; done) | simp [tri]) (by first | rfl | (simp; done) | simp [tri]) (by rw [HT.out]; exact tri_star BX.out BY.out BZ.out) (by first | omega | (simp; omega) | (simp; done) | (simp [tri]; omega) | simp [tri]) (by first | omega | (simp; omega) | (simp; done) | (simp [tri]; omega) | simp [tri])).mono ?_
      rintro e w2 ⟨rfl, hb⟩
      have B2 := Lib.hid (B1.out.trans (hb.mono z1))
      have z2 := B2.out.size
      clear hb B1
      go_wp2_with fail
      refine (match_is _ _ [42, 46, 42, 46, 42] T true _ (by first | rfl | (simp; done) | simp [tri]) (by first | rfl | (simp; done) | simp [tri]) (by rw [HT.out]; exact tri_stars BX.out BY.out BZ.out) (by first | omega | (simp; omega) | (simp; done) | (simp [tri]; omega) | simp [tri]) (by first | omega | (simp; omega) | (simp; done) | (simp [tri]; omega) | simp [tri])).mono ?_
      rintro e w3 ⟨rfl, hb⟩
      have B3 := Lib.hid (B2.out.trans (hb.mono z2))
      have z3 := B3.out.size
      clear hb B2
      go_wp2_with fail
      refine (match_is _ _ [42, 46, 42] T false _ (by first | rfl | (simp; done) | simp [tri]) (by first | rfl | (simp; done) | simp [tri]) (by rw [HT.out]; exact tri_two BX.out BY.out BZ.out) (by first | omega | (simp; omega) | (simp; done) | (simp [tri]; omega) | simp [tri]) (by first | omega | (simp; omega) | (simp; done) | (simp [tri]; omega) | simp [tri])).mono ?_
      rintro e w4 ⟨rfl, hb⟩
      have B4 := Lib.hid (B3.out.trans (hb.mono z3))
      have z4 := B4.out.size
      clear hb B3
      go_wp2_with fail
      refine (match_is _ _ [42, 46, 42, 46, 42, 46, 42] T false _ (by first | rfl | (simp; done) | simp [tri]) (by first | rfl | (simp; done) | simp [tri]) (by rw [HT.out]; exact tri_four BX.out BY.out BZ.out) (by first | omega | (simp; omega) | (simp; done) | (simp [tri]; omega) | simp [tri]) (by first | omega | (simp; omega) | (simp; done) | (simp [tri]; omega) | simp [tri])).mono ?_
      rintro e w5 ⟨rfl, hb⟩
      have B5 := Lib.hid (B4.out.trans (hb.mono z4))
      have z5 := B5.out.size
      clear hb B4
      go_wp2_with fail
      refine (match_is _ _ T k v6 _ (by first | rfl | (simp; done) | simp [tri]) (by first | rfl | (simp; done) | simp [tri]) V6.out.symm (by first | omega | (simp; omega) | (simp; done) | (simp [tri]; omega) | simp [tri]) (by first | omega | (simp; omega) | (simp; done) | (simp [tri]; omega) | simp [tri])).mono ?_
      rintro e w6 ⟨rfl, hb⟩
      have B6 := Lib.hid (B5.out.trans (hb.mono z5))
      have z6 := B6.out.size
      clear hb B5
      cases v6 with
      | false =>
        by_cases h3 : R.length = 3
        · have q4 : 1 < R.length := by omega
          obtain ⟨r1, hr1⟩ : ∃ r1, r1 = R[1]'q4 := ⟨_, rfl⟩
          have er : R[1]? = some r1 := by rw [List.getElem?_eq_getElem (by omega), hr1]
          by_cases hy1 : r1 = y
          · have D : v7 = true := by rw [V7'.out, h3, er]; simp [hy1]
            have ey : (r1 == y) = true := by simp [hy1]
            have e3 : ((R.length : Int) == 3) = true := by rw [h3]; rfl
            have q3 : (1 : Int) < (R.length : Int) := by omega
            have HR1 := Lib.hid hr1
            have D7 := Lib.hid D
            clear h3 er hy1 hr1 D
            go_wp2_with fail
            refine (match_is _ _ (tri [42] y [42]) k true _ (by first | rfl | (simp; done) | simp [tri]) (by first | rfl | (simp; done) | simp [tri]) (by rw [← D7.out]; exact V7.out.symm) (by first | omega | (simp; omega) | (simp; done) | (simp [tri]; omega) | simp [tri]) (by first | omega | (simp; omega) | (simp; done) | (simp [tri]; omega) | simp [tri])).mono ?_
            rintro e w7 ⟨rfl, hb⟩
            have B7 := Lib.hid (B6.out.trans (hb.mono z6))
            have z7 := B7.out.size
            clear hb B6
            go_wp2_with fail
            refine (rwords_is _ k R _ rfl HR.out (by omega)).mono ?_
            rintro e w8 ⟨ba, oa, ca, rfl, hca, hma, hga, hla, hb⟩
            have B8 := Lib.hid (B7.out.trans (hb.mono z7))
            have z8 := B8.out.size
            clear hb B7
            go_wp2_with fail
            refine (rwords_is _ k R _ rfl HR.out (by omega)).mono ?_
            rintro e w9 ⟨bb, ob, cb, rfl, hcb, hmb, hgb, hlb, hb⟩
            have B9 := Lib.hid (B8.out.trans (hb.mono z8))
            have z9 := B9.out.size
            clear hb B8
            have hcr := hlb.texts_at q4
            rw [← HR1.out] at hcr
            clear hla hlb
            go_wp2_with fail
            refine (awake6_any _).mono ?_
            rintro e w99 ⟨rfl, hb⟩
            have BE := Lib.hid (B9.out.trans (hb.mono z9))
            clear hb
            go_wp2_with fail
            go_ret
            exact ⟨rfl, BE.out⟩
          · have D : v7 = false := by rw [V7'.out, h3, er]; simp [hy1]
            have ey : (r1 == y) = false := by simp [hy1]
            have e3 : ((R.length : Int) == 3) = true := by rw [h3]; rfl
            have q3 : (1 : Int) < (R.length : Int) := by omega
            have HR1 := Lib.hid hr1
            have D7 := Lib.hid D
            clear h3 er hy1 hr1 D
            go_wp2_with fail
            refine (match_is _ _ (tri [42] y [42]) k false _ (by first | rfl | (simp; done) | simp [tri]) (by first | rfl | (simp; done) | simp [tri]) (by rw [← D7.out]; exact V7.out.symm) (by first | omega | (simp; omega) | (simp; done) | (simp [tri]; omega) | simp [tri]) (by first | omega | (simp; omega) | (simp; done) | (simp [tri]; omega) | simp [tri])).mono ?_
            rintro e w7 ⟨rfl, hb⟩
            have B7 := Lib.hid (B6.out.trans (hb.mono z6))
            have z7 := B7.out.size
            clear hb B6
            go_wp2_with fail
            refine (rwords_is _ k R _ rfl HR.out (by omega)).mono ?_
            rintro e w8 ⟨ba, oa, ca, rfl, hca, hma, hga, hla, hb⟩
            have B8 := Lib.hid (B7.out.trans (hb.mono z7))
            have z8 := B8.out.size
            clear hb B7
            go_wp2_with fail
            refine (rwords_is _ k R _ rfl HR.out (by omega)).mono ?_
            rintro e w9 ⟨bb, ob, cb, rfl, hcb, hmb, hgb, hlb, hb⟩
            have B9 := Lib.hid (B8.out.trans (hb.mono z8))
            have z9 := B9.out.size
            clear hb B8
            have hcr := hlb.texts_at q4
            rw [← HR1.out] at hcr
            clear hla hlb
            go_wp2_with fail
            refine (awake6_any _).mono ?_
            rintro e w99 ⟨rfl, hb⟩
            have BE := Lib.hid (B9.out.trans (hb.mono z9))
            clear hb
            go_wp2_with fail
            go_ret
            exact ⟨rfl, BE.out⟩
        · have D : v7 = false := by rw [V7'.out]; simp [h3]
          have e3 : ((R.length : Int) == 3) = false := beq_false_of_ne (by omega)
          have D7 := Lib.hid D
          clear h3 D
          go_wp2_with fail
          refine (match_is _ _ (tri [42] y [42]) k false _ (by first | rfl | (simp; done) | simp [tri]) (by first | rfl | (simp; done) | simp [tri]) (by rw [← D7.out]; exact V7.out.symm) (by first | omega | (simp; omega) | (simp; done) | (simp [tri]; omega) | simp [tri]) (by first | omega | (simp; omega) | (simp; done) | (simp [tri]; omega) | simp [tri])).mono ?_
          rintro e w7 ⟨rfl, hb⟩
          have B7 := Lib.hid (B6.out.trans (hb.mono z6))
          have z7 := B7.out.size
          clear hb B6
          go_wp2_with fail
          refine (rwords_is _ k R _ rfl HR.out (by omega)).mono ?_
          rintro e w8 ⟨ba, oa, ca, rfl, hca, hma, hga, hla, hb⟩
          have B8 := Lib.hid (B7.out.trans (hb.mono z7))
          have z8 := B8.out.size
          clear hb B7
          clear hla
          go_wp2_with fail
          refine (awake6_any _).mono ?_
          rintro e w99 ⟨rfl, hb⟩
          have BE := Lib.hid (B8.out.trans (hb.mono z8))
          clear hb
          go_wp2_with fail
          go_ret
          exact ⟨rfl, BE.out⟩
      | true =>
        by_cases h3 : R.length = 3
        · have q4 : 1 < R.length := by omega
          obtain ⟨r1, hr1⟩ : ∃ r1, r1 = R[1]'q4 := ⟨_, rfl⟩
          have er : R[1]? = some r1 := by rw [List.getElem?_eq_getElem (by omega), hr1]
          by_cases hy1 : r1 = y
          · have D : v7 = true := by rw [V7'.out, h3, er]; simp [hy1]
            have ey : (r1 == y) = true := by simp [hy1]
            have e3 : ((R.length : Int) == 3) = true := by rw [h3]; rfl
            have q3 : (1 : Int) < (R.length : Int) := by omega
            have HR1 := Lib.hid hr1
            have D7 := Lib.hid D
            clear h3 er hy1 hr1 D
            go_wp2_with fail
            refine (match_is _ _ (tri [42] y [42]) k true _ (by first | rfl | (simp; done) | simp [tri]) (by first | rfl | (simp; done) | simp [tri]) (by rw [← D7.out]; exact V7.out.symm) (by first | omega | (simp; omega) | (simp; done) | (simp [tri]; omega) | simp [tri]) (by first | omega | (simp; omega) | (simp; done) | (simp [tri]; omega) | simp [tri])).mono ?_
            rintro e w7 ⟨rfl, hb⟩
            have B7 := Lib.hid (B6.out.trans (hb.mono z6))
            have z7 := B7.out.size
            clear hb B6
            go_wp2_with fail
            refine (rwords_is _ k R _ rfl HR.out (by omega)).mono ?_
            rintro e w8 ⟨ba, oa, ca, rfl, hca, hma, hga, hla, hb⟩
            have B8 := Lib.hid (B7.out.trans (hb.mono z7))
            have z8 := B8.out.size
            clear hb B7
            go_wp2_with fail
            refine (rwords_is _ k R _ rfl HR.out (by omega)).mono ?_
            rintro e w9 ⟨bb, ob, cb, rfl, hcb, hmb, hgb, hlb, hb⟩
            have B9 := Lib.hid (B8.out.trans (hb.mono z8))
            have z9 := B9.out.size
            clear hb B8
            have hcr := hlb.texts_at q4
            rw [← HR1.out] at hcr
            clear hla hlb
            go_wp2_with fail
            refine (awake6_any _).mono ?_
            rintro e w99 ⟨rfl, hb⟩
            have BE := Lib.hid (B9.out.trans (hb.mono z9))
            clear hb
            go_wp2_with fail
            go_ret
            exact ⟨rfl, BE.out⟩
          · have D : v7 = false := by rw [V7'.out, h3, er]; simp [hy1]
            have ey : (r1 == y) = false := by simp [hy1]
            have e3 : ((R.length : Int) == 3) = true := by rw [h3]; rfl
            have q3 : (1 : Int) < (R.length : Int) := by omega
            have HR1 := Lib.hid hr1
            have D7 := Lib.hid D
            clear h3 er hy1 hr1 D
            go_wp2_with fail
            refine (match_is _ _ (tri [42] y [42]) k false _ (by first | rfl | (simp; done) | simp [tri]) (by first | rfl | (simp; done) | simp [tri]) (by rw [← D7.out]; exact V7.out.symm) (by first | omega | (simp; omega) | (simp; done) | (simp [tri]; omega) | simp [tri]) (by first | omega | (simp; omega) | (simp; done) | (simp [tri]; omega) | simp [tri])).mono ?_
            rintro e w7 ⟨rfl, hb⟩
            have B7 := Lib.hid (B6.out.trans (hb.mono z6))
            have z7 := B7.out.size
            clear hb B6
            go_wp2_with fail
            refine (rwords_is _ k R _ rfl HR.out (by omega)).mono ?_
            rintro e w8 ⟨ba, oa, ca, rfl, hca, hma, hga, hla, hb⟩
            have B8 := Lib.hid (B7.out.trans (hb.mono z7))
            have z8 := B8.out.size
            clear hb B7
            go_wp2_with fail
            refine (rwords_is _ k R _ rfl HR.out (by omega)).mono ?_
            rintro e w9 ⟨bb, ob, cb, rfl, hcb, hmb, hgb, hlb, hb⟩
            have B9 := Lib.hid (B8.out.trans (hb.mono z8))
            have z9 := B9.out.size
            clear hb B8
            have hcr := hlb.texts_at q4
            rw [← HR1.out] at hcr
            clear hla hlb
            go_wp2_with fail
            refine (awake6_any _).mono ?_
            rintro e w99 ⟨rfl, hb⟩
            have BE := Lib.hid (B9.out.trans (hb.mono z9))
            clear hb
            go_wp2_with fail
            go_ret
            exact ⟨rfl, BE.out⟩
        · have D : v7 = false := by rw [V7'.out]; simp [h3]
          have e3 : ((R.length : Int) == 3) = false := beq_false_of_ne (by omega)
          have D7 := Lib.hid D
          clear h3 D
          go_wp2_with fail
          refine (match_is _ _ (tri [42] y [42]) k false _ (by first | rfl | (simp; done) | simp [tri]) (by first | rfl | (simp; done) | simp [tri]) (by rw [← D7.out]; exact V7.out.symm) (by first | omega | (simp; omega) | (simp; done) | (simp [tri]; omega) | simp [tri]) (by first | omega | (simp; omega) | (simp; done) | (simp [tri]; omega) | simp [tri])).mono ?_
          rintro e w7 ⟨rfl, hb⟩
          have B7 := Lib.hid (B6.out.trans (hb.mono z6))
          have z7 := B7.out.size
          clear hb B6
          go_wp2_with fail
          refine (rwords_is _ k R _ rfl HR.out (by omega)).mono ?_
          rintro e w8 ⟨ba, oa, ca, rfl, hca, hma, hga, hla, hb⟩
          have B8 := Lib.hid (B7.out.trans (hb.mono z7))
          have z8 := B8.out.size
          clear hb B7
          clear hla
          go_wp2_with fail
          refine (awake6_any _).mono ?_
          rintro e w99 ⟨rfl, hb⟩
          have BE := Lib.hid (B8.out.trans (hb.mono z8))
          clear hb
          go_wp2_with fail
          go_ret
          exact ⟨rfl, BE.out⟩
end Go.Proofs.YtphjpadjlmdfcaaDoor
