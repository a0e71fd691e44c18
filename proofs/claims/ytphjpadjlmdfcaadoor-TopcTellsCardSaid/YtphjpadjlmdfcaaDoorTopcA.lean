/- Layer 6: the fixed call, texts of few words, two rows of texts. -/
import Derived.Test.YtphjpadjlmdfcaaDoorTopcQ
namespace Go.Proofs.YtphjpadjlmdfcaaDoor
open Go.RowKit
set_option maxRecDepth 100000
set_option linter.unusedSimpArgs false
set_option linter.unusedVariables false

theorem bytes_list {s : ByteArray} {l : List UInt8} (h : s.data.toList = l) : s = ⟨l.toArray⟩ := by
  subst h
  cases s; rfl
theorem bytes_add (a b : List UInt8) : (⟨a.toArray⟩ : ByteArray) ++ ⟨b.toArray⟩ = ⟨(a ++ b).toArray⟩ := by
  apply bytes_list
  simp
theorem bytes_at {s : ByteArray} {l : List UInt8} (h : s = ⟨l.toArray⟩) (i : Nat) (h1 : i < s.size) (h2 : i < l.length) : s[i] = l[i] := by
  subst h
  rfl
theorem octet_ne {c d : UInt8} (h : c ≠ d) : ((c.toNat : Int) == (d.toNat : Int)) = false := by
  apply beq_false_of_ne
  intro e
  apply h
  apply UInt8.toNat_inj.1
  omega
theorem match_is (s k : ByteArray) (P K : List UInt8) (v : Bool) (w : World) (hs : s.data.toList = P) (hk : k.data.toList = K) (hv : mtT P K = v) (hp : P.length ≤ 1000000) (hkl : K.length ≤ 1000000) :
    Calls Tryd.prog 10 #[.string s, .string k] w fun e w' => e = .returned (.bool v) ∧ Below w.heap.size w w' := by
  rw [bytes_list hs, bytes_list hk, ← hv]
  exact match_any P K w hp hkl
theorem rmatch_is (s k : ByteArray) (P K : List UInt8) (v : Bool) (w : World) (hs : s.data.toList = P) (hk : k.data.toList = K) (hv : mtT P K = v) (hp : P.length ≤ 1000000) (hkl : K.length ≤ 1000000) :
    Calls Tryd.prog 11 #[.string s, .string k] w fun e w' => e = .returned (.bool v) ∧ Below w.heap.size w w' := by
  rw [bytes_list hs, bytes_list hk, ← hv]
  exact rmatch_any P K w hp hkl
theorem words_is (s : ByteArray) (S : List UInt8) (P : List (List UInt8)) (w : World) (hs : s.data.toList = S) (hP : P = wsL S) (hl : S.length ≤ 1000000) :
    Calls Tryd.prog 13 #[.string s] w fun e w' => ∃ g, e = .returned (.slice (some ⟨g, 0, none⟩) P.length P.length) ∧ g < w'.heap.size ∧ Lies w' w'.heap.size (some ⟨g, 0, none⟩) (S8 P) ∧ Below w.heap.size w w' := by
  rw [bytes_list hs]
  exact words_lies S P w (by omega) hP
theorem rwords_is (s : ByteArray) (S : List UInt8) (P : List (List UInt8)) (w : World) (hs : s.data.toList = S) (hP : P = wsL S) (hl : S.length ≤ 1000000) :
    Calls Tryd.prog 14 #[.string s] w fun e w' => ∃ b o c, e = .returned (.slice (some ⟨b, o, none⟩) P.length c) ∧ P.length ≤ c ∧ c ≤ maxLen ∧ b < w'.heap.size ∧ Lies w' w'.heap.size (some ⟨b, o, none⟩) (S8 P) ∧ Below w.heap.size w w' := by
  rw [bytes_list hs]
  exact rwords_at S P w hl hP

set_option maxHeartbeats 1000000 in
theorem awake6_any (w : World) : Calls Tryd.prog 8 #[] w fun e w' => e = .returned (.bool true) ∧ Below w.heap.size w w' := by
  go_enter Tryd.func8, Tryd.ntmps8
  go_wp2_with fail
  refine (match_is _ _ [97, 46, 35] [97] true _ rfl rfl (by decide) (by decide) (by decide)).mono ?_
  rintro e w1 ⟨rfl, hb1⟩
  have z1 := hb1.size
  have B1 := Lib.hid hb1
  clear hb1
  go_wp2_with fail
  refine (match_is _ _ [97, 46, 42, 46, 99] [97, 46, 98, 46, 99] true _ rfl rfl (by decide) (by decide) (by decide)).mono ?_
  rintro e w2 ⟨rfl, hb2⟩
  have B2 := Lib.hid (B1.out.trans (hb2.mono z1))
  have z2 := B2.out.size
  clear hb2 B1
  go_wp2_with fail
  refine (match_is _ _ [97, 46, 42] [97] false _ rfl rfl (by decide) (by decide) (by decide)).mono ?_
  rintro e w3 ⟨rfl, hb3⟩
  have B3 := Lib.hid (B2.out.trans (hb3.mono z2))
  have z3 := B3.out.size
  clear hb3 B2
  go_wp2_with fail
  refine (match_is _ _ [35] [] true _ rfl rfl (by decide) (by decide) (by decide)).mono ?_
  rintro e w4 ⟨rfl, hb4⟩
  have B4 := Lib.hid (B3.out.trans (hb4.mono z3))
  have z4 := B4.out.size
  clear hb4 B3
  go_wp2_with fail
  refine (words_is _ [] [[]] _ rfl (by decide) (by decide)).mono ?_
  rintro e w5 ⟨g5, rfl, _, _, hb5⟩
  have B5 := Lib.hid (B4.out.trans (hb5.mono z4))
  have z5 := B5.out.size
  clear hb5 B4
  go_wp2_with fail
  refine (words_is _ [97, 46, 46, 98] [[97], [], [98]] _ rfl (by decide) (by decide)).mono ?_
  rintro e w6 ⟨g6, rfl, _, _, hb6⟩
  have B6 := Lib.hid (B5.out.trans (hb6.mono z5))
  clear hb6 B5
  go_wp2_with fail
  go_ret
  exact ⟨rfl, B6.out⟩

/-- the words of which few are drawn -/
def tameW (k : Nat) : List UInt8 := [[97], [98], [46], [46], [42], [35], [97, 98]].getD k []
theorem tameW_le (k : Nat) : (tameW k).length ≤ 2 := by
  unfold tameW
  rcases k with _ | _ | _ | _ | _ | _ | _ | k <;> simp
def tameL (s : List UInt8) (j : Nat) : List UInt8 := (s.take j).flatMap fun c => tameW (c.toNat % 7)
theorem tameL_next (s : List UInt8) (j : Nat) (h : j < s.length) : tameL s (j + 1) = tameL s j ++ tameW (s[j].toNat % 7) := by
  unfold tameL
  rw [List.take_succ_eq_append_getElem h, List.flatMap_append]
  simp
theorem tameL_le (s : List UInt8) (j : Nat) : (tameL s j).length ≤ 2 * j := by
  induction j with
  | zero => simp [tameL]
  | succ j ih =>
    rcases Nat.lt_or_ge j s.length with h | h
    · rw [tameL_next s j h, List.length_append]
      have := tameW_le (s[j].toNat % 7)
      omega
    · have e : tameL s (j + 1) = tameL s j := by unfold tameL; rw [List.take_of_length_le (by omega), List.take_of_length_le h]
      rw [e]; omega
def tame (s : List UInt8) : List UInt8 := tameL s (min s.length 14)
theorem tame_le (s : List UInt8) : (tame s).length ≤ 28 := by
  have := tameL_le s (min s.length 14)
  unfold tame
  omega
def tameCells : List Value := [.string ⟨#[97]⟩, .string ⟨#[98]⟩, .string ⟨#[46]⟩, .string ⟨#[46]⟩, .string ⟨#[42]⟩, .string ⟨#[35]⟩, .string ⟨#[97, 98]⟩]

set_option maxHeartbeats 1000000 in
theorem tame_any (s : List UInt8) (w : World) (hs : s.length ≤ 1000000) : Calls Tryd.prog 9 #[.string ⟨s.toArray⟩] w fun e w' => e = .returned (.string ⟨(tame s).toArray⟩) ∧ Below w.heap.size w w' := by
  go_enter Tryd.func9, Tryd.ntmps9
  go_wp2_with fail
  go_loopw [3, 4] (fun v vi wr => ∃ j : Nat, j ≤ s.length ∧ j ≤ 14 ∧ vi = .int .i64 j ∧ v = .string ⟨(tameL s j).toArray⟩ ∧ Below w.heap.size w wr) (fun _ vi _ => 14 - (intOf vi).toNat)
  case atStart => exact ⟨0, by omega, by omega, rfl, rfl, Below.refl _ _⟩
  case round =>
    obtain ⟨j, hj, hj14, rfl, rfl, hb⟩ := hrel
    have B := Lib.hid hb
    have z := hb.size
    clear hb
    by_cases hlt : j < s.length
    · have q1 : (j : Int) < (s.length : Int) := by omega
      by_cases h14 : j < 14
      · have q2 : (j : Int) < 14 := by omega
        have hjs : j < (⟨s.toArray⟩ : ByteArray).size := by show j < s.toArray.size; simpa using hlt
        obtain ⟨m, hm⟩ : ∃ m, m = s[j].toNat % 7 := ⟨_, rfl⟩
        have hm7 : m < 7 := by omega
        have hmi : (((⟨s.toArray⟩ : ByteArray)[j]'hjs).toNat : Int) % 7 = (m : Int) := by
          show ((s[j].toNat : Int) % 7) = _
          rw [hm]; omega
        have hmi7 : (m : Int) < 7 := by omega
        have hmi0 : (0 : Int) ≤ (m : Int) := by omega
        have hc : (wr.alloc (.cells tameCells.toArray 9)).cell? ⟨wr.heap.size, m, none⟩ = some (.string ⟨(tameW m).toArray⟩) := by
          rw [(Whole.new wr 9 tameCells.toArray).cell m]
          unfold tameCells tameW
          rcases m with _ | _ | _ | _ | _ | _ | _ | m
          all_goals first | rfl | omega
        have D : Hid (∀ x : ByteArray, x = ⟨(tameL s j).toArray⟩ ++ ⟨(tameW m).toArray⟩ → x = ⟨(tameL s (j + 1)).toArray⟩) := Lib.hid (by
          rintro x rfl
          rw [tameL_next s j hlt, ← hm]
          exact bytes_add _ _)
        have BE := Lib.hid (B.out.alloc z (.cells tameCells.toArray 9))
        unfold tameCells at hc BE
        have hl1 := tameL_le s j
        have hl2 := tameW_le m
        have hl3 : ¬ 9223372036854775807 < (tameL s j).length + (tameW m).length := by omega
        clear hm hl1 hl2
        go_upto_region 6 with fail
        rw [hmi]
        go_wp2_with fail
        go_roundw
        case rel => exact ⟨j + 1, by omega, by omega, by go_num, congrArg Value.string (D.out _ rfl), BE.out⟩
        case measure => simp [intOf]; omega
      · have q2 : ¬ (j : Int) < 14 := by omega
        have D : tameL s j = tame s := by
          unfold tame
          rw [show min s.length 14 = j from by omega]
        rw [D]
        go_wp2_with fail
        go_ret
        exact ⟨rfl, B.out⟩
    · have q1 : ¬ (j : Int) < (s.length : Int) := by omega
      have D : tameL s j = tame s := by
        unfold tame
        rw [show min s.length 14 = j from by omega]
      rw [D]
      go_wp2_with fail
      go_ret
      exact ⟨rfl, B.out⟩
theorem tame_is (s : ByteArray) (S : List UInt8) (w : World) (hs : s.data.toList = S) (hl : S.length ≤ 1000000) : Calls Tryd.prog 9 #[.string s] w fun e w' => e = .returned (.string ⟨(tame S).toArray⟩) ∧ Below w.heap.size w w' := by
  rw [bytes_list hs]
  exact tame_any S w hl

set_option maxHeartbeats 1000000 in
/-- the same row twice -/
theorem texts_same (A1 A2 : Option Addr) (c1 c2 : Nat) (l : List (List UInt8)) (D1 D2 : Nat) (w : World) (h1 : Lies w D1 A1 (S8 l)) (h2 : Lies w D2 A2 (S8 l)) (hl : l.length ≤ 1000001) :
    Calls Tryd.prog 12 #[.slice A1 l.length c1, .slice A2 l.length c2] w fun e w' => e = .returned (.bool true) ∧ Below w.heap.size w w' := by
  have L1 := Lib.hid h1
  have L2 := Lib.hid h2
  clear h1 h2
  go_enter Tryd.func12, Tryd.ntmps12
  go_wp2_with fail
  go_loopw [5] (fun vi wr => ∃ j : Nat, j ≤ l.length ∧ vi = .int .i64 j ∧ ∃ n, wr = w.drewN n) (fun vi _ => l.length - (intOf vi).toNat)
  case atStart => exact ⟨0, Nat.zero_le _, rfl, 0, rfl⟩
  case round =>
    obtain ⟨j, hj, rfl, n, hwr⟩ := hrel
    have BE : Hid (Below w.heap.size w wr) := Lib.hid (by rw [hwr]; exact below_drewN (Below.refl _ _) n)
    by_cases hlt : j < l.length
    · obtain ⟨b1, o1, rfl, hb1⟩ := L1.out.texts_some (by omega)
      obtain ⟨b2, o2, rfl, hb2⟩ := L2.out.texts_some (by omega)
      have p1 : wr.cell? ⟨b1, o1 + j, none⟩ = some (.string ⟨l[j].toArray⟩) := by rw [hwr]; exact L1.out.texts_at hlt
      have p2 : wr.cell? ⟨b2, o2 + j, none⟩ = some (.string ⟨l[j].toArray⟩) := by rw [hwr]; exact L2.out.texts_at hlt
      obtain ⟨x, hx⟩ : ∃ x, x = l[j] := ⟨_, rfl⟩
      rw [← hx] at p1 p2
      have q1 : (j : Int) < (l.length : Int) := by omega
      have q0 : (0 : Int) ≤ (j : Int) := by omega
      have HWR := Lib.hid hwr
      have DN : Hid (∀ k, ∃ n', wr.drewN k = w.drewN n') := Lib.hid (fun k => ⟨n + k, by rw [hwr]; simp [World.drewN, Nat.add_assoc]⟩)
      clear hx hwr
      go_wp2_with fail
      go_quiet (fail)
      go_wp2_with fail
      go_roundw
      case rel => exact ⟨j + 1, by omega, by go_num, DN.out _⟩
      case measure => simp [intOf]; omega
    · have q1 : ¬ (j : Int) < (l.length : Int) := by omega
      clear hwr
      go_wp2_with fail
      go_ret
      exact ⟨rfl, BE.out⟩
end Go.Proofs.YtphjpadjlmdfcaaDoor
