/- The law on words joined by points: its walk. -/
import Derived.Test.YtphjpadjlmdfcaaDoorTopcA
namespace Go.Proofs.YtphjpadjlmdfcaaDoor
open Go.RowKit
set_option maxRecDepth 100000
set_option linter.unusedSimpArgs false
set_option linter.unusedVariables false

/-- the first i words joined -/
def jt (l : List (List UInt8)) (i : Nat) : List UInt8 := joinW (l.take i)
theorem joinW_snoc : ∀ (l : List (List UInt8)) (w : List UInt8), l ≠ [] → joinW (l ++ [w]) = joinW l ++ 46 :: w
  | [], _, h => absurd rfl h
  | [v], w, _ => rfl
  | v :: u :: l, w, _ => by
    rw [List.cons_append, joinW_cons v (by simp), joinW_snoc (u :: l) w (by simp), joinW_cons v (by simp), List.append_assoc]
    rfl
theorem jt_one {l : List (List UInt8)} (h : 0 < l.length) : jt l (0 + 1) = l[0] := by
  unfold jt
  rw [List.take_succ_eq_append_getElem h]
  rfl
theorem jt_next {l : List (List UInt8)} {i : Nat} (h0 : 0 < i) (h : i < l.length) : jt l (i + 1) = jt l i ++ 46 :: l[i] := by
  unfold jt
  rw [List.take_succ_eq_append_getElem h, joinW_snoc _ _ (by intro e; have := congrArg List.length e; rw [List.length_take, List.length_nil] at this; omega)]
theorem jt_le : ∀ (l : List (List UInt8)) (i : Nat), (jt l i).length ≤ (joinW l).length
  | [], i => by simp [jt]
  | w :: ws, 0 => by simp [jt, joinW]
  | w :: ws, i + 1 => by
    have ih := jt_le ws i
    unfold jt at *
    rw [List.take_succ_cons]
    by_cases h : ws.take i = []
    · rw [h]
      cases ws with
      | nil => simp [joinW]
      | cons v ws => simp [joinW]
    · have h2 : ws ≠ [] := by rintro rfl; simp at h
      rw [joinW_cons w h, joinW_cons w h2]
      simp
      exact ih

set_option maxHeartbeats 1000000 in
theorem twords_any (s : List UInt8) (w : World) (ms : s.length ≤ maxLen) : Calls Tryd.prog 5 #[.string ⟨s.toArray⟩] w fun e w' => e = .returned (.bool true) ∧ Below w.heap.size w w' := by
  unfold maxLen at ms
  by_cases hs : (300 : Int) < (s.length : Int)
  · go_enter Tryd.func5, Tryd.ntmps5
    go_wp2_with fail
    refine (awake6_any _).mono ?_
    rintro e w1 ⟨rfl, hb⟩
    have B1 := Lib.hid hb
    clear hb
    go_wp2_with fail
    go_ret
    exact ⟨rfl, B1.out⟩
  have js : s.length ≤ 300 := by omega
  obtain ⟨R, hR⟩ : ∃ R, R = wsL s := ⟨_, rfl⟩
  have hRl := wsL_len_le s
  rw [← hR] at hRl
  have hRL : R.length = s.count 46 + 1 := by rw [hR, wsL_length]
  have hJ : joinW R = s := by rw [hR, joinW_wsL]
  have HR := Lib.hid hR
  have HRL := Lib.hid hRL
  have HJ := Lib.hid hJ
  have hjl : ∀ i, (jt R i).length ≤ 300 := fun i => by have := jt_le R i; rw [hJ] at this; omega
  have HJL := Lib.hid hjl
  clear hR hRL hJ hjl
  go_enter Tryd.func5, Tryd.ntmps5
  go_wp2_with fail
  refine (words_is _ s R _ rfl HR.out (by omega)).mono ?_
  rintro e w1 ⟨g, rfl, hg, hl, hb⟩
  have L := Lib.hid hl
  have B1 := Lib.hid hb
  have z1 := hb.size
  clear hl hb
  go_wp2_with fail
  go_loopw [4, 6] (fun v vi wr => ∃ i : Nat, vi = .int .i64 i ∧ i ≤ R.length ∧ v = .string ⟨(jt R i).toArray⟩ ∧ wr = w1) (fun _ vi _ => R.length - (intOf vi).toNat)
  case atStart => exact ⟨0, rfl, Nat.zero_le _, rfl, rfl⟩
  case round =>
    obtain ⟨i, rfl, hi, rfl, hwr⟩ := hrel
    subst wr
    by_cases hlt : i < R.length
    · have q1 : (i : Int) < (R.length : Int) := by omega
      have q0 : (0 : Int) ≤ (i : Int) := by omega
      obtain ⟨x, hx⟩ : ∃ x, x = R[i] := ⟨_, rfl⟩
      have hc := L.out.texts_at hlt
      rw [Nat.zero_add] at hc
      rw [← hx] at hc
      have hxm : (46 : UInt8) ∉ x := wsL_mem (l := s) (by rw [← HR.out, hx]; exact List.getElem_mem _)
      have hxl : x.length ≤ s.length := wsL_le (by rw [← HR.out, hx]; exact List.getElem_mem _)
      obtain ⟨T, hT⟩ : ∃ T, T = jt R i := ⟨_, rfl⟩
      have hTl : T.length ≤ 300 := by rw [hT]; exact HJL.out i
      obtain ⟨T1, hT1⟩ : ∃ T1, T1 = if i = 0 then T else T ++ [46] := ⟨_, rfl⟩
      have hT1l : T1.length ≤ 301 := by
        rw [hT1]
        by_cases h0 : i = 0
        · rw [if_pos h0]; omega
        · rw [if_neg h0, List.length_append]; simp; omega
      have D : Hid (T1 ++ x = jt R (i + 1)) := Lib.hid (by
        rw [hT1]
        by_cases h0 : i = 0
        · subst h0
          rw [if_pos rfl, jt_one hlt, hT, ← hx]; rfl
        · rw [if_neg h0, jt_next (by omega) hlt, hT, ← hx, List.append_assoc]; rfl)
      have HXM := Lib.hid hxm
      have HT1 := Lib.hid hT1
      rw [← hT]
      clear hx hT hxm hT1
      have n1 : ¬ 9223372036854775807 < T.length + 1 := by omega
      have n2 : ¬ 9223372036854775807 < T1.length + x.length := by omega
      go_upto_if 22 with fail
      go_cut [4] (fun s4 wz => s4 = .string ⟨T1.toArray⟩ ∧ wz = w1)
      case first =>
        by_cases h0 : i = 0
        · have hz : T1 = T := by rw [HT1.out, if_pos h0]
          subst h0
          subst hz
          go_wp2_with fail
          go_meet
          exact ⟨rfl, rfl⟩
        · have hz : T1 = T ++ [46] := by rw [HT1.out, if_neg h0]
          have q2 : (0 : Int) < (i : Int) := by omega
          subst hz
          go_wp2_with fail
          go_meet
          exact ⟨congrArg Value.string (bytes_add T [46]), rfl⟩
      case rest =>
        obtain ⟨rfl, hwc⟩ := hcut
        subst wc
        have DN : Hid ((⟨T1.toArray⟩ : ByteArray) ++ ⟨x.toArray⟩ = ⟨(jt R (i + 1)).toArray⟩) := Lib.hid (by rw [bytes_add, D.out])
        go_upto_region 11 with fail
        rw [DN.out]
        go_wp2_with fail
        go_loopw [7] (fun vk wx => ∃ k : Nat, vk = .int .i64 k ∧ k ≤ x.length ∧ wx = w1) (fun vk _ => x.length - (intOf vk).toNat)
        case atStart => exact ⟨0, rfl, Nat.zero_le _, rfl⟩
        case round =>
          obtain ⟨k, rfl, hk, hwx⟩ := hrel
          subst wr
          by_cases hkx : k < x.length
          · have p1 : (k : Int) < (x.length : Int) := by omega
            have p0 : (0 : Int) ≤ (k : Int) := by omega
            have hks : k < (⟨x.toArray⟩ : ByteArray).size := by show k < x.toArray.size; simpa using hkx
            have p2 : ((((⟨x.toArray⟩ : ByteArray)[k]'hks).toNat : Int) == 46) = false := by
              show ((x[k].toNat : Int) == 46) = false
              exact octet_ne (d := 46) (fun e => HXM.out (by rw [← e]; exact List.getElem_mem _))
            go_wp2_with fail
            go_roundw
            case rel => exact ⟨k + 1, by go_num, by omega, trivial⟩
            case measure => simp [intOf]; omega
          · have p1 : ¬ (k : Int) < (x.length : Int) := by omega
            go_wp2_with fail
            go_roundw
            case rel => exact ⟨i + 1, by go_num, by omega, rfl, trivial⟩
            case measure => simp [intOf]; omega
    · obtain rfl : i = R.length := by omega
      have q1 : ¬ (R.length : Int) < (R.length : Int) := by omega
      have hje : jt R R.length = s := by
        unfold jt
        rw [List.take_length]; exact HJ.out
      rw [hje]
      clear hje
      go_wp2_with fail
      go_loopw [5, 8] (fun vn vj wx => ∃ j : Nat, vj = .int .i64 j ∧ j ≤ s.length ∧ vn = .int .i64 (((s.take j).count 46 + 1 : Nat) : Int) ∧ wx = w1) (fun _ vj _ => s.length - (intOf vj).toNat)
      case atStart => exact ⟨0, rfl, Nat.zero_le _, rfl, rfl⟩
      case round =>
        obtain ⟨j, rfl, hj, rfl, hwx⟩ := hrel
        subst wr
        by_cases hjs : j < s.length
        · have p1 : (j : Int) < (s.length : Int) := by omega
          have p0 : (0 : Int) ≤ (j : Int) := by omega
          have hjz : j < (⟨s.toArray⟩ : ByteArray).size := by show j < s.toArray.size; simpa using hjs
          have hcl : (s.take j).count 46 ≤ 300 := by
            have := List.count_le_length (a := (46 : UInt8)) (l := s.take j)
            rw [List.length_take] at this; omega
          obtain ⟨c, hc⟩ : ∃ c, c = s[j] := ⟨_, rfl⟩
          obtain ⟨m, hm⟩ : ∃ m, m = (s.take j).count 46 := ⟨_, rfl⟩
          have hn : (s.take (j + 1)).count 46 = m + if c = 46 then 1 else 0 := by
            rw [List.take_succ_eq_append_getElem hjs, List.count_append, ← hc, ← hm]
            by_cases h : c = 46
            · subst h; simp
            · simp [h, List.count_cons]
          have HN := Lib.hid hn
          rw [← hm] at hcl
          rw [← hm]
          have p3 : (((⟨s.toArray⟩ : ByteArray)[j]'hjz).toNat : Int) = (c.toNat : Int) := by rw [hc]; rfl
          clear hm hn hc
          by_cases h46 : c = 46
          · have p2 : ((((⟨s.toArray⟩ : ByteArray)[j]'hjz).toNat : Int) == 46) = true := by rw [p3, h46]; rfl
            have D : Hid ((s.take (j + 1)).count 46 + 1 = m + 1 + 1) := Lib.hid (by rw [HN.out, if_pos h46])
            clear h46 p3
            go_wp2_with fail
            go_roundw
            case rel => exact ⟨j + 1, by go_num, by omega, by rw [D.out]; go_num, trivial⟩
            case measure => simp [intOf]; omega
          · have p2 : ((((⟨s.toArray⟩ : ByteArray)[j]'hjz).toNat : Int) == 46) = false := by rw [p3]; exact octet_ne (d := 46) h46
            have D : Hid ((s.take (j + 1)).count 46 + 1 = m + 1) := Lib.hid (by rw [HN.out, if_neg h46])
            clear h46 p3
            go_wp2_with fail
            go_roundw
            case rel => exact ⟨j + 1, by go_num, by omega, by rw [D.out], trivial⟩
            case measure => simp [intOf]; omega
        · obtain rfl : j = s.length := by omega
          have p1 : ¬ (s.length : Int) < (s.length : Int) := Int.lt_irrefl _
          have D : (List.take s.length s).count 46 + 1 = R.length := by rw [List.take_length, HRL.out]
          rw [D]
          clear D
          go_wp2_with fail
          refine (awake6_any _).mono ?_
          rintro e w2 ⟨rfl, hb⟩
          have B2 := Lib.hid (B1.out.trans (hb.mono z1))
          clear hb
          go_wp2_with fail
          go_ret
          exact ⟨rfl, B2.out⟩
end Go.Proofs.YtphjpadjlmdfcaaDoor
