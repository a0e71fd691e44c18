/- Layer 13: ops that are the same; small ops. -/
import Derived.Test.YtflbjmpbkcjdhaaUnH
import Derived.BigQuiet
import Derived.Deep.QuietTactic
namespace Go.Proofs.Ytflbjmpbkcjdhaa
open Go.RowKit
set_option maxRecDepth 100000
set_option linter.unusedSimpArgs false
set_option linter.unusedVariables false

theorem below_drewN {B : Nat} {a w : World} (h : Below B a w) (n : Nat) : Below B a (w.drewN n) := ⟨h.os, h.tape, h.output, h.size, h.block⟩
set_option maxHeartbeats 1000000 in
theorem same_ops (l l' : List Om) (A A' : Option Addr) (n n' c c' B : Nat) (w : World) (hn : n = l.length) (hn' : n' = l'.length) (ht : OpsAt w B l A c) (ht' : OpsAt w B l' A' c') (hB : B ≤ w.heap.size) (hll : l.length ≤ 1000000) (he : pl l = pl l') :
    Calls Try.prog 15 #[.slice A n c, .slice A' n' c'] w fun e w' => e = .returned (.bool true) ∧ Below w.heap.size w w' := by
  subst hn hn'
  have hlen : l'.length = l.length := by rw [← pl_length, ← he, pl_length]
  have HT := Lib.hid ht
  have HT' := Lib.hid ht'
  have hcm := ht.2.1
  have hlc := ht.1
  have hcm' := ht'.2.1
  have hlc' := ht'.1
  have HEQ : Hid (∀ j (h : j < l.length) (h' : j < l'.length), l[j].o = l'[j].o) := Lib.hid (fun j h h' => by
    have h1 := pl_at l j (by rw [pl_length]; exact h)
    have h2 := pl_at l' j (by rw [pl_length]; exact h')
    rw [← h1, ← h2]
    simp [he])
  have HLEN := Lib.hid hlen
  unfold maxLen at hcm hcm'
  rw [hlen] at hlc' ⊢
  clear ht ht' he hlen
  go_enter Try.func15, Try.ntmps15
  go_wp2_with fail
  go_loopw [5] (fun i wr => ∃ (j q : Nat), j ≤ l.length ∧ i = .int .i64 j ∧ wr = w.drewN q) (fun i _ => l.length - (intOf i).toNat)
  case atStart => exact ⟨0, 0, Nat.zero_le _, rfl, rfl⟩
  case round =>
    obtain ⟨j, q, hj, rfl, hq⟩ := hrel
    have BW : Below w.heap.size w wr := by rw [hq]; exact below_drewN (Below.refl _ _) q
    have HBW := Lib.hid BW
    have HQ := Lib.hid hq
    by_cases hlt : j < l.length
    · have hlt' : j < l'.length := by rw [HLEN.out]; exact hlt
      have T : OpsAt wr B l A c := by rw [hq]; exact HT.out
      have T' : OpsAt wr B l' A' c' := by rw [hq]; exact HT'.out
      have vm := T.2.2.2 _ (List.getElem_mem hlt)
      have vm' := T'.2.2.2 _ (List.getElem_mem hlt')
      obtain ⟨b, o, rfl, hb, c0, c1, c2⟩ := lies_om T.2.2.1 j hlt
      obtain ⟨b', o', rfl, hb', d0, d1, d2⟩ := lies_om T'.2.2.1 j hlt'
      have e := HEQ.out j hlt hlt'
      obtain ⟨m, hm⟩ : ∃ m, m = l[j] := ⟨_, rfl⟩
      obtain ⟨m', hm'⟩ : ∃ m, m = l'[j] := ⟨_, rfl⟩
      rw [← hm] at c0 c1 c2 e vm
      rw [← hm'] at d0 d1 d2 e vm'
      have lv := vm.1
      have lv' := vm'.1
      rw [← e] at d0 d1 d2 lv'
      have cv := fun q => run_octets_string (P := Try.prog) 22 9 5 Try.underlying22 Try.underlying5 Try.underlying9 (show Lies (wr.drewN q) B m.A (B8 m.o.val) from lv) m.c
      have cv' := fun q => run_octets_string (P := Try.prog) 22 9 5 Try.underlying22 Try.underlying5 Try.underlying9 (show Lies (wr.drewN q) B m'.A (B8 m.o.val) from lv') m'.c
      have hj0 : (0 : Int) ≤ (j : Int) := by omega
      have hj1 : (j : Int) < (l.length : Int) := by omega
      clear hq BW T T' vm vm' e hm hm' lv lv'
      go_wp2_with fail
      go_quiet (fail)
      go_wp2_with fail
      go_roundw
      case rel => exact ⟨j + 1, q + nq, by omega, by go_num, by rw [HQ.out]; simp⟩
      case measure => simp [intOf]; omega
    · obtain rfl : j = l.length := by omega
      clear hq BW
      go_wp2_with fail
      go_ret
      exact ⟨rfl, HBW.out⟩

/-- small ops, as the laws ask it -/
def smallO (l : List Opx) : Bool := decide (l.length ≤ 60) && l.all fun o => decide (o.key.length ≤ 400) && decide (o.val.length ≤ 11100)
theorem smallO_len {l : List Opx} (h : smallO l = true) : l.length ≤ 60 ∧ ∀ o ∈ l, o.key.length ≤ 400 ∧ o.val.length ≤ 11100 := by
  unfold smallO at h
  simp only [Bool.and_eq_true, decide_eq_true_eq, List.all_eq_true] at h
  exact h
set_option maxHeartbeats 1000000 in
theorem usmall_any (l : List Om) (A : Option Addr) (n c B : Nat) (w : World) (hn : n = l.length) (ht : OpsAt w B l A c) (hB : B ≤ w.heap.size) (hbe : ∀ m ∈ l, m.o.key.length ≤ maxLen ∧ m.o.val.length ≤ maxLen) :
    Calls Try.prog 9 #[.slice A n c] w fun e w' => e = .returned (.bool (smallO (pl l))) ∧ Below w.heap.size w w' := by
  subst hn
  have HT := Lib.hid ht
  have HBE := Lib.hid hbe
  have hcm := ht.2.1
  have hlc := ht.1
  unfold maxLen at hcm
  have hpl := pl_length l
  clear ht hbe
  by_cases h60 : 60 < l.length
  · have N : Hid (smallO (pl l) = false) := Lib.hid (by unfold smallO; rw [decide_eq_false (by omega)]; rfl)
    go_enter Try.func9, Try.ntmps9
    go_wp2_with fail
    go_ret
    rw [N.out]
    exact ⟨rfl, Below.refl _ _⟩
  have h60' : l.length ≤ 60 := by omega
  have S0 : Hid (smallO (pl l) = (pl l).all fun o => decide (o.key.length ≤ 400) && decide (o.val.length ≤ 11100)) := Lib.hid (by unfold smallO; rw [decide_eq_true (by omega)]; rfl)
  have HP := Lib.hid hpl
  clear hpl
  go_enter Try.func9, Try.ntmps9
  go_wp2_with fail
  go_loopw [3] (fun i wr => ∃ (j : Nat), j ≤ l.length ∧ i = .int .i64 j ∧ wr = w ∧ ((pl l).take j).all (fun o => decide (o.key.length ≤ 400) && decide (o.val.length ≤ 11100)) = true) (fun i _ => l.length - (intOf i).toNat)
  case atStart => exact ⟨0, Nat.zero_le _, rfl, rfl, rfl⟩
  case round =>
    obtain ⟨j, hj, rfl, hq, hall⟩ := hrel
    have BW : Below w.heap.size w wr := by rw [hq]; exact Below.refl _ _
    have HBW := Lib.hid BW
    have HQ := Lib.hid hq
    have HA := Lib.hid hall
    by_cases hlt : j < l.length
    · have T : OpsAt wr B l A c := by rw [hq]; exact HT.out
      obtain ⟨b, o, rfl, hb, c0, c1, c2⟩ := lies_om T.2.2.1 j hlt
      have hbm := HBE.out _ (List.getElem_mem hlt)
      have hpj := pl_at l j (by rw [HP.out]; exact hlt)
      have hnx : ((pl l).take (j + 1)).all (fun o => decide (o.key.length ≤ 400) && decide (o.val.length ≤ 11100)) = (decide (l[j].o.key.length ≤ 400) && decide (l[j].o.val.length ≤ 11100)) := by
        rw [List.take_succ_eq_append_getElem (by rw [HP.out]; exact hlt), List.all_append, hall, hpj]; simp
      have hno : (decide (l[j].o.key.length ≤ 400) && decide (l[j].o.val.length ≤ 11100)) = false → smallO (pl l) = false := by
        intro h
        rw [S0.out, List.all_eq_false]
        exact ⟨(pl l)[j]'(by rw [HP.out]; exact hlt), List.getElem_mem _, by rw [hpj, h]; simp⟩
      obtain ⟨m, hm⟩ : ∃ m, m = l[j] := ⟨_, rfl⟩
      rw [← hm] at c0 c1 c2 hbm hnx hno
      have ks := size_arr m.o.key
      obtain ⟨k1, k2⟩ := hbm
      unfold maxLen at k1 k2
      have HNX := Lib.hid hnx
      have HNO := Lib.hid hno
      have hj0 : (0 : Int) ≤ (j : Int) := by omega
      have hj1 : (j : Int) < (l.length : Int) := by omega
      clear hq BW T hm hpj hnx hno hall
      by_cases g1 : m.o.key.length ≤ 400
      · have g1' : (m.o.key.length : Int) ≤ 400 := by omega
        by_cases g2 : m.o.val.length ≤ 11100
        · have g2' : (m.o.val.length : Int) ≤ 11100 := by omega
          have Y : Hid (((pl l).take (j + 1)).all (fun o => decide (o.key.length ≤ 400) && decide (o.val.length ≤ 11100)) = true) := Lib.hid (by rw [HNX.out, decide_eq_true g1, decide_eq_true g2]; rfl)
          go_wp2_with fail
          go_roundw
          case rel => exact ⟨j + 1, by omega, by go_num, HQ.out, Y.out⟩
          case measure => simp [intOf]; omega
        · have g2' : (11100 : Int) < m.o.val.length := by omega
          have Y := Lib.hid (HNO.out (by rw [decide_eq_false g2, Bool.and_false]))
          go_wp2_with fail
          go_ret
          rw [Y.out]
          exact ⟨rfl, HBW.out⟩
      · have g1' : (400 : Int) < m.o.key.length := by omega
        have Y := Lib.hid (HNO.out (by rw [decide_eq_false g1, Bool.false_and]))
        go_wp2_with fail
        go_ret
        rw [Y.out]
        exact ⟨rfl, HBW.out⟩
    · obtain rfl : j = l.length := by omega
      have Y : Hid (smallO (pl l) = true) := Lib.hid (by rw [S0.out]; rw [← HP.out, List.take_length] at hall; exact hall)
      clear hq BW hall
      go_wp2_with fail
      go_ret
      rw [Y.out]
      exact ⟨rfl, HBW.out⟩
end Go.Proofs.Ytflbjmpbkcjdhaa
