/- Contracts of package node: Find. -/
import Derived.Test.YtdjkkppefgppmaaNodeB
import Derived.BigQuiet
import Derived.Deep.QuietTactic
namespace Go.Proofs.Ytdjkkppefgppmaa
open Go.RowKit
set_option maxRecDepth 100000
set_option linter.unusedSimpArgs false
set_option linter.unusedVariables false

theorem below_drewN {B : Nat} {a w : World} (h : Below B a w) (n : Nat) : Below B a (w.drewN n) := ⟨h.os, h.tape, h.output, h.size, h.block⟩
theorem arr_beq (a b : List UInt8) : (a.toArray == b.toArray) = (a == b) := by simp
theorem eqKey_any (r : Rw) (key : List UInt8) (K : Nat) (w : World) (hk : w.cell? ⟨K, 0, none⟩ = some (.string ⟨key.toArray⟩)) (hK : K < w.heap.size) :
    Calls Try.prog 45 #[.agg #[.string ⟨r.key.toArray⟩, .string ⟨r.val.toArray⟩, .int .i64 r.page], .pointer (some ⟨K, 0, none⟩)] w fun e w' => e = .returned (.bool (r.key == key)) ∧ Below w.heap.size w w' := by
  have BX := Lib.hid ((Below.refl w.heap.size w).alloc (Nat.le_refl _) (.cells #[.string ⟨r.key.toArray⟩, .string ⟨r.val.toArray⟩, .int .i64 r.page] 23))
  go_enter Try.func45, Try.ntmps45
  go_wp2_with fail
  go_ret
  exact ⟨rfl, BX.out⟩
theorem gtKey_any (r : Rw) (key : List UInt8) (K : Nat) (w : World) (hk : w.cell? ⟨K, 0, none⟩ = some (.string ⟨key.toArray⟩)) (hK : K < w.heap.size) :
    Calls Try.prog 46 #[.agg #[.string ⟨r.key.toArray⟩, .string ⟨r.val.toArray⟩, .int .i64 r.page], .pointer (some ⟨K, 0, none⟩)] w fun e w' => e = .returned (.bool (ltL key r.key)) ∧ Below w.heap.size w w' := by
  have BX := Lib.hid ((Below.refl w.heap.size w).alloc (Nat.le_refl _) (.cells #[.string ⟨r.key.toArray⟩, .string ⟨r.val.toArray⟩, .int .i64 r.page] 23))
  have lq := Lib.hid (leq_is r.key key)
  go_enter Try.func46, Try.ntmps46
  go_wp2_with fail
  go_ret
  refine ⟨?_, BX.out⟩
  show Ending.returned (.bool (!Op.bytesLess r.key key && !(r.key == key))) = _
  rw [← Bool.not_or, lq.out, Bool.not_not]
def idxR (p : Rw → Bool) (l : List Rw) : Int := match l.findIdx? p with
  | some i => i
  | none => -1
theorem idxR_is (p : Rw → Bool) (l : List Rw) (j : Nat) (hj : j < l.length) (h : ∀ k, (h : k < l.length) → k < j → p l[k] = false) (h0 : p l[j] = true) : idxR p l = (j : Int) := by
  have e : l.findIdx? p = some j := by
    rw [List.findIdx?_eq_some_iff_getElem]
    exact ⟨hj, h0, fun k hk => by rw [h k (by omega) hk]; simp⟩
  simp only [idxR, e]
theorem idxR_none (p : Rw → Bool) (l : List Rw) (h : ∀ k, (h : k < l.length) → p l[k] = false) : idxR p l = -1 := by
  have e : l.findIdx? p = none := by
    rw [List.findIdx?_eq_none_iff]
    intro x hx
    obtain ⟨k, hk, rfl⟩ := List.mem_iff_getElem.1 hx
    exact h k hk
  simp only [idxR, e]
theorem idxEq_any (l : List Rw) (A : Option Addr) (c B : Nat) (key : List UInt8) (K : Nat) (w : World) (ht : RowsAt w B l A c) (hB : B ≤ w.heap.size) (hf : Few l) (hk : w.cell? ⟨K, 0, none⟩ = some (.string ⟨key.toArray⟩)) (hK : K < w.heap.size) :
    Calls Try.prog 44 #[.slice A l.length c, .func (.func 45) #[] #[.pointer (some ⟨K, 0, none⟩)]] w fun e w' => e = .returned (.int .i64 (idxR (fun r => r.key == key) l)) ∧ Below w.heap.size w w' := by
  obtain ⟨hlc, hcm, hl⟩ := ht
  have HL := Lib.hid hl
  have hll := hf.1
  have HK := Lib.hid hk
  have hP : ∃ p : Rw → Bool, p = fun r => r.key == key := ⟨_, rfl⟩
  obtain ⟨p, hp⟩ := hP
  rw [← hp]
  have HP := Lib.hid hp
  unfold maxLen at hcm
  clear hl hf hp hk
  go_enter Try.func44, Try.ntmps44
  go_wp2_with fail
  go_loopw [5, 8] (fun _ i wr => ∃ j : Nat, j ≤ l.length ∧ i = .int .i64 j ∧ (∀ k, (h : k < l.length) → k < j → p l[k] = false) ∧ Below w.heap.size w wr) (fun _ i _ => l.length - (intOf i).toNat)
  case atStart => exact ⟨0, Nat.zero_le _, rfl, fun k _ h => by omega, Below.refl _ _⟩
  case round =>
    obtain ⟨j, hj, rfl, hall, hbel⟩ := hrel
    have HA := Lib.hid hall
    have HB := Lib.hid hbel
    clear hall hbel
    by_cases hlt : j < l.length
    · obtain ⟨b, o, rfl, hb, c0, c1, c2⟩ := lies_rw (HL.out.below (HB.out.mono hB)) j hlt
      obtain ⟨r, hr⟩ : ∃ r, r = l[j] := ⟨_, rfl⟩
      rw [← hr] at c0 c1 c2
      have HR := Lib.hid hr
      clear hr
      go_wp2_with fail
      refine (eqKey_any r key K _ ((HB.out.cell (p := ⟨K, 0, none⟩) hK).trans HK.out) (Nat.lt_of_lt_of_le hK HB.out.size)).mono ?_
      rintro e w2 ⟨rfl, hb2⟩
      have HB2 := Lib.hid (HB.out.trans (hb2.mono HB.out.size))
      have hpr : (r.key == key) = p r := by rw [HP.out]
      rw [hpr]
      clear hb2 hpr
      by_cases h0 : p r = true
      · have e := idxR_is p l j hlt HA.out (by rw [← HR.out]; exact h0)
        have E := Lib.hid e
        clear e
        rw [h0]
        go_wp2_with fail
        go_ret
        rw [E.out]
        exact ⟨rfl, HB2.out⟩
      · have h0' : p r = false := by simpa using h0
        have HN : Hid (∀ k, (h : k < l.length) → k < j + 1 → p l[k] = false) := Lib.hid (by
          intro k h hk
          by_cases e : k = j
          · subst e; rw [← HR.out]; exact h0'
          · exact HA.out k h (by omega))
        rw [h0']
        clear h0
        go_wp2_with fail
        go_roundw
        case rel => exact ⟨j + 1, by omega, by go_num, HN.out, HB2.out⟩
        case measure => simp [intOf]; omega
    · obtain rfl : j = l.length := by omega
      have e := idxR_none p l fun k h => HA.out k h h
      have E := Lib.hid e
      clear e
      go_wp2_with fail
      go_ret
      rw [E.out]
      exact ⟨rfl, HB.out⟩
theorem idxGt_any (l : List Rw) (A : Option Addr) (c B : Nat) (key : List UInt8) (K : Nat) (w : World) (ht : RowsAt w B l A c) (hB : B ≤ w.heap.size) (hf : Few l) (hk : w.cell? ⟨K, 0, none⟩ = some (.string ⟨key.toArray⟩)) (hK : K < w.heap.size) :
    Calls Try.prog 44 #[.slice A l.length c, .func (.func 46) #[] #[.pointer (some ⟨K, 0, none⟩)]] w fun e w' => e = .returned (.int .i64 (idxR (fun r => ltL key r.key) l)) ∧ Below w.heap.size w w' := by
  obtain ⟨hlc, hcm, hl⟩ := ht
  have HL := Lib.hid hl
  have hll := hf.1
  have HK := Lib.hid hk
  have hP : ∃ p : Rw → Bool, p = fun r => ltL key r.key := ⟨_, rfl⟩
  obtain ⟨p, hp⟩ := hP
  rw [← hp]
  have HP := Lib.hid hp
  unfold maxLen at hcm
  clear hl hf hp hk
  go_enter Try.func44, Try.ntmps44
  go_wp2_with fail
  go_loopw [5, 8] (fun _ i wr => ∃ j : Nat, j ≤ l.length ∧ i = .int .i64 j ∧ (∀ k, (h : k < l.length) → k < j → p l[k] = false) ∧ Below w.heap.size w wr) (fun _ i _ => l.length - (intOf i).toNat)
  case atStart => exact ⟨0, Nat.zero_le _, rfl, fun k _ h => by omega, Below.refl _ _⟩
  case round =>
    obtain ⟨j, hj, rfl, hall, hbel⟩ := hrel
    have HA := Lib.hid hall
    have HB := Lib.hid hbel
    clear hall hbel
    by_cases hlt : j < l.length
    · obtain ⟨b, o, rfl, hb, c0, c1, c2⟩ := lies_rw (HL.out.below (HB.out.mono hB)) j hlt
      obtain ⟨r, hr⟩ : ∃ r, r = l[j] := ⟨_, rfl⟩
      rw [← hr] at c0 c1 c2
      have HR := Lib.hid hr
      clear hr
      go_wp2_with fail
      refine (gtKey_any r key K _ ((HB.out.cell (p := ⟨K, 0, none⟩) hK).trans HK.out) (Nat.lt_of_lt_of_le hK HB.out.size)).mono ?_
      rintro e w2 ⟨rfl, hb2⟩
      have HB2 := Lib.hid (HB.out.trans (hb2.mono HB.out.size))
      have hpr : ltL key r.key = p r := by rw [HP.out]
      rw [hpr]
      clear hb2 hpr
      by_cases h0 : p r = true
      · have e := idxR_is p l j hlt HA.out (by rw [← HR.out]; exact h0)
        have E := Lib.hid e
        clear e
        rw [h0]
        go_wp2_with fail
        go_ret
        rw [E.out]
        exact ⟨rfl, HB2.out⟩
      · have h0' : p r = false := by simpa using h0
        have HN : Hid (∀ k, (h : k < l.length) → k < j + 1 → p l[k] = false) := Lib.hid (by
          intro k h hk
          by_cases e : k = j
          · subst e; rw [← HR.out]; exact h0'
          · exact HA.out k h (by omega))
        rw [h0']
        clear h0
        go_wp2_with fail
        go_roundw
        case rel => exact ⟨j + 1, by omega, by go_num, HN.out, HB2.out⟩
        case measure => simp [intOf]; omega
    · obtain rfl : j = l.length := by omega
      have e := idxR_none p l fun k h => HA.out k h h
      have E := Lib.hid e
      clear e
      go_wp2_with fail
      go_ret
      rw [E.out]
      exact ⟨rfl, HB.out⟩

/-- where key stands in a leaf, or would stand -/
def findR (l : List Rw) (key : List UInt8) : Int × Bool :=
  if 0 ≤ idxR (fun r => r.key == key) l then (idxR (fun r => r.key == key) l, true)
  else if 0 ≤ idxR (fun r => ltL key r.key) l then (idxR (fun r => ltL key r.key) l, false) else ((l.length : Int), false)
def FindIs (p : Int × Bool) (w : World) (e : Ending) (w' : World) : Prop := e = .returned (.tuple #[.int .i64 p.1, .bool p.2]) ∧ Below w.heap.size w w'
theorem FindIs.of {p : Int × Bool} {a : Int} {b : Bool} {w w' : World} (h : p = (a, b)) (hb : Below w.heap.size w w') : FindIs p w (.returned (.tuple #[.int .i64 a, .bool b])) w' := by
  subst h
  exact ⟨rfl, hb⟩
theorem findLeaf_any (l : List Rw) (A : Option Addr) (c B : Nat) (key : List UInt8) (w : World) (ht : RowsAt w B l A c) (hB : B ≤ w.heap.size) (hf : Few l) :
    Calls Try.prog 34 #[.slice A l.length c, .string ⟨key.toArray⟩] w (FindIs (findR l key) w) := by
  have hb0 := (Below.refl w.heap.size w).alloc (Nat.le_refl _) (.cells #[.string ⟨key.toArray⟩] 9)
  have BX := Lib.hid hb0
  have KX := Lib.hid (Whole.new w 9 #[.string ⟨key.toArray⟩])
  have HT := Lib.hid (ht.below (hb0.mono hB))
  have HF := Lib.hid hf
  have hll := hf.1
  obtain ⟨i, hi⟩ : ∃ i, i = idxR (fun r => r.key == key) l := ⟨_, rfl⟩
  obtain ⟨j, hj⟩ : ∃ j, j = idxR (fun r => ltL key r.key) l := ⟨_, rfl⟩
  have hR : findR l key = if 0 ≤ i then (i, true) else if 0 ≤ j then (j, false) else ((l.length : Int), false) := by rw [hi, hj]; rfl
  have HR := Lib.hid hR
  have HI := Lib.hid hi
  have HJ := Lib.hid hj
  clear hb0 ht hf hR hi hj
  have hlt : w.heap.size < (w.alloc (.cells #[.string ⟨key.toArray⟩] 9)).heap.size := by simp
  have HLT := Lib.hid hlt
  clear hlt
  by_cases h1 : 0 ≤ i
  · have D : Hid (findR l key = (i, true)) := Lib.hid (by rw [HR.out, if_pos h1])
    go_enter Try.func34, Try.ntmps34
    go_wp2_with fail
    refine (idxEq_any l A c B key w.heap.size _ HT.out (by simp; omega) HF.out (KX.out.cell 0) HLT.out).mono ?_
    rintro e w1 ⟨rfl, hb1⟩
    rw [← HI.out]
    have B1 := Lib.hid (BX.out.trans (hb1.mono (by simp)))
    clear hb1
    go_wp2_with fail
    go_ret2
    exact FindIs.of D.out B1.out
  · by_cases h2 : 0 ≤ j
    all_goals
      have h1' : i < 0 := by omega
      go_enter Try.func34, Try.ntmps34
      go_wp2_with fail
      refine (idxEq_any l A c B key w.heap.size _ HT.out (by simp; omega) HF.out (KX.out.cell 0) HLT.out).mono ?_
      rintro e w1 ⟨rfl, hb1⟩
      rw [← HI.out]
      have B1 := Lib.hid (BX.out.trans (hb1.mono (by simp)))
      have T1 := Lib.hid (HT.out.below (hb1.mono (by simp; omega)))
      have K1 := Lib.hid (KX.out.below hb1 HLT.out)
      clear hb1
      go_wp2_with fail
      refine (idxGt_any l A c B key w.heap.size _ T1.out (Nat.le_trans hB B1.out.size) HF.out (K1.out.cell 0) K1.out.lt).mono ?_
      rintro e w2 ⟨rfl, hb2⟩
      rw [← HJ.out]
      have B2 := Lib.hid (B1.out.trans (hb2.mono B1.out.size))
      clear hb2
    · have D : Hid (findR l key = (j, false)) := Lib.hid (by rw [HR.out, if_neg (by omega), if_pos h2])
      go_wp2_with fail
      go_ret2
      exact FindIs.of D.out B2.out
    · have D : Hid (findR l key = ((l.length : Int), false)) := Lib.hid (by rw [HR.out, if_neg (by omega), if_neg (by omega)])
      have h2' : j < 0 := by omega
      go_wp2_with fail
      go_ret2
      exact FindIs.of D.out B2.out
theorem find_leaf (l : List Rw) (A : Option Addr) (c B : Nat) (key : List UInt8) (w : World) (ht : RowsAt w B l A c) (hB : B ≤ w.heap.size) (hf : Few l) :
    Calls Try.prog 19 #[.agg #[.bool true, .slice A l.length c], .string ⟨key.toArray⟩] w (FindIs (findR l key) w) := by
  have hb0 := (Below.refl w.heap.size w).alloc (Nat.le_refl _) (.cells #[.bool true, .slice A l.length c] 26)
  have BX := Lib.hid hb0
  have HT := Lib.hid (ht.below (hb0.mono hB))
  have HF := Lib.hid hf
  clear hb0 ht hf
  obtain ⟨⟨i, b⟩, hp⟩ : ∃ p, p = findR l key := ⟨_, rfl⟩
  rw [← hp]
  have HP := Lib.hid hp
  clear hp
  go_enter Try.func19, Try.ntmps19
  go_wp2_with fail
  refine (findLeaf_any l A c B key _ HT.out (by simp; omega) HF.out).mono ?_
  rw [← HP.out]
  rintro e w1 ⟨rfl, hb1⟩
  have D := Lib.hid (FindIs.of (p := (i, b)) rfl (BX.out.trans (hb1.mono (by simp))))
  clear hb1
  go_wp2_with fail
  go_ret2
  exact D.out
theorem lastLe_lt (l : List Rw) (key : List UInt8) : ∀ (n : Nat), 0 < l.length → lastLe l key n < l.length
  | 0, h => h
  | n + 1, h => by
    rw [lastLe]
    split
    · split
      · exact lastLe_lt l key n h
      · assumption
    · exact lastLe_lt l key n h
/-- the key at i, or none -/
def isAt (l : List Rw) (key : List UInt8) (i : Nat) : Bool := if h : i < l.length then l[i].key == key else false
set_option maxHeartbeats 1000000 in
theorem find_inner (l : List Rw) (A : Option Addr) (c B : Nat) (key : List UInt8) (w : World) (ht : RowsAt w B l A c) (hB : B ≤ w.heap.size) (hf : Few l) :
    Calls Try.prog 19 #[.agg #[.bool false, .slice A l.length c], .string ⟨key.toArray⟩] w (FindIs ((lastLe l key l.length : Int), isAt l key (lastLe l key l.length)) w) := by
  obtain ⟨hlc, hcm, hl⟩ := ht
  have hb0 := (Below.refl w.heap.size w).alloc (Nat.le_refl _) (.cells #[.bool false, .slice A l.length c] 26)
  have BX := Lib.hid hb0
  have WX := Lib.hid (Whole.new w 26 #[.bool false, .slice A l.length c])
  have HL := Lib.hid hl
  have hll := hf.1
  unfold maxLen at hcm
  clear hb0 hl hf
  go_enter Try.func19, Try.ntmps19
  go_wp2_with fail
  go_loopw [6, 20] (fun at_ i wr => ∃ j n : Nat, j ≤ l.length ∧ i = .int .i64 j ∧ at_ = .int .i64 n ∧ n = lastLe l key j ∧ Below w.heap.size w wr ∧ BoxN wr w.heap.size false A l.length c) (fun _ i _ => l.length - (intOf i).toNat)
  case atStart => exact ⟨0, 0, Nat.zero_le _, rfl, rfl, rfl, BX.out, WX.out⟩
  case round =>
    obtain ⟨j, n, hj, rfl, rfl, hn, hbel, hbox⟩ := hrel
    have HB := Lib.hid hbel
    have HX := Lib.hid hbox
    have HN := Lib.hid hn
    have hz := hbox.lt
    clear hbel hbox hn
    by_cases hlt : j < l.length
    · obtain ⟨b, o, rfl, hb, c0, c1, c2⟩ := lies_rw (HL.out.below (HB.out.mono hB)) j hlt
      obtain ⟨r, hr⟩ : ∃ r, r = l[j] := ⟨_, rfl⟩
      have hst : lastLe l key (j + 1) = if ltL key r.key then n else j := by rw [lastLe, dif_pos hlt, ← hr, ← HN.out]
      rw [← hr] at c0 c1 c2
      have lq := leq_is r.key key
      have HST := Lib.hid hst
      have hb1 := (Below.refl wr.heap.size wr).alloc (Nat.le_refl _) (.cells #[.string ⟨r.key.toArray⟩, .string ⟨r.val.toArray⟩, .int .i64 r.page] 23)
      have HB1 := Lib.hid (HB.out.trans (hb1.mono (by omega)))
      have HX1 := Lib.hid (HX.out.below hb1 hz)
      clear hr hst hb1
      by_cases h1 : ltL key r.key = true
      · rw [h1, Bool.not_true] at lq
        have lq1 := (Bool.or_eq_false_iff.1 lq).1
        have lq2 := (Bool.or_eq_false_iff.1 lq).2
        go_wp2_with fail
        go_roundw
        case rel => exact ⟨j + 1, n, by omega, by go_num, rfl, by rw [HST.out, if_pos h1], HB1.out, HX1.out⟩
        case measure => simp [intOf]; omega
      · have h1' : ltL key r.key = false := by simpa using h1
        rw [h1', Bool.not_false] at lq
        go_wp2_with fail
        go_roundw
        case rel => exact ⟨j + 1, j, by omega, by go_num, rfl, by rw [HST.out, if_neg h1], HB1.out, HX1.out⟩
        case measure => simp [intOf]; omega
    · obtain rfl : j = l.length := by omega
      have x1 : wr.cell? ⟨w.heap.size, 1, none⟩ = some (.slice A l.length c) := HX.out.cell 1
      rcases Nat.eq_zero_or_pos l.length with h0 | h0
      · have e : isAt l key n = false := by rw [isAt, dif_neg (by omega)]
        have E := Lib.hid e
        have hd : decide ((l.length : Int) > 0) = false := decide_eq_false (by omega)
        have hd' : decide ((0 : Int) < (l.length : Int)) = false := decide_eq_false (by omega)
        clear e hj
        go_wp2_with fail
        go_quiet (fail)
        go_wp2_with fail
        go_ret2
        exact FindIs.of (by rw [← HN.out, E.out]) (below_drewN HB.out _)
      · have hn : n < l.length := by rw [HN.out]; exact lastLe_lt l key l.length h0
        obtain ⟨b, o, rfl, hb, c0, c1, c2⟩ := lies_rw (HL.out.below (HB.out.mono hB)) n hn
        have e : isAt l key n = (l[n].key == key) := by rw [isAt, dif_pos hn]
        obtain ⟨r, hr⟩ : ∃ r, r = l[n] := ⟨_, rfl⟩
        rw [← hr] at c0 c1 c2 e
        have hd : decide ((l.length : Int) > 0) = true := decide_eq_true (by omega)
        have hd' : decide ((0 : Int) < (l.length : Int)) = true := decide_eq_true (by omega)
        have hn0 : (0 : Int) ≤ (n : Int) := by omega
        have hn1 : (n : Int) < (l.length : Int) := by omega
        have E := Lib.hid e
        clear e hr hj
        go_wp2_with fail
        go_quiet (fail)
        go_wp2_with fail
        go_ret2
        exact FindIs.of (by rw [← HN.out, E.out]) (below_drewN HB.out _)
end Go.Proofs.Ytdjkkppefgppmaa
