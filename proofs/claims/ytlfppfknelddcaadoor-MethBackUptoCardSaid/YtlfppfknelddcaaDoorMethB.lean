/- The library's TrimRight at one octet, Count at one octet, and which bit a flag is. -/
import Derived.Test.YtlfppfknelddcaaDoorOctsR
import Derived.WalkSpells
import Derived.Lib.Bytealg
import Derived.Lib.Strings
import Derived.Outline
namespace Go.Proofs.YtlfppfknelddcaaDoor
open Go.RowKit
set_option maxRecDepth 100000

/-- a text as a value -/
abbrev St (l : List UInt8) : Value := .string ⟨l.toArray⟩
/-- how many flags' letters stand at the end -/
def tr (l : List UInt8) : Nat := (l.reverse.takeWhile (· == 102)).length
theorem tr_nil : tr [] = 0 := rfl
theorem tr_snoc (l : List UInt8) (c : UInt8) : tr (l ++ [c]) = if c == 102 then tr l + 1 else 0 := by
  unfold tr
  rw [List.reverse_append, List.reverse_singleton, List.singleton_append, List.takeWhile_cons]
  split <;> simp
theorem tr_le (l : List UInt8) : tr l ≤ l.length := by
  unfold tr
  have := (List.takeWhile_sublist (p := fun x : UInt8 => x == 102) (l := l.reverse)).length_le
  simpa using this
theorem tr_take (l : List UInt8) (j : Nat) (h : j < l.length) : tr (l.take (j + 1)) = if l[j] == 102 then tr (l.take j) + 1 else 0 := by
  rw [take_one l j h, tr_snoc]
theorem u8_is (c d : UInt8) : ((c.toNat : Int) == (d.toNat : Int)) = (c == d) := by
  rw [Bool.eq_iff_iff]
  simp only [beq_iff_eq]
  constructor
  · intro h; exact UInt8.toNat_inj.1 (by omega)
  · rintro rfl; rfl
theorem ret_str {a b : List UInt8} (h : a = b) : Ending.returned (St a) = .returned (St b) := by rw [h]

theorem trimbyte_any (l : List UInt8) (w : World) (hs : l.length ≤ 140737488355328) :
    Calls Tryd.prog 71 #[St l, .int .u8 102] w fun e w' => e = .returned (St (l.take (l.length - tr l))) ∧ w = w' := by
  go_enter Tryd.func71, Tryd.ntmps71
  go_wp2_with fail
  go_loop [0] (fun v => ∃ j : Nat, j ≤ l.length ∧ v = St (l.take j) ∧ Hid (tr l + j = l.length + tr (l.take j))) (fun v => match v with | .string s => s.size | _ => 0)
  case atStart => exact ⟨l.length, Nat.le_refl _, by rw [List.take_length], Lib.hid (by rw [List.take_length]; omega)⟩
  case round =>
    obtain ⟨j, hj, rfl, HT⟩ := hrel
    obtain ⟨t, ht⟩ : ∃ t, t = l.take j := ⟨_, rfl⟩
    rw [← ht]
    have htl : t.length = j := by rw [ht, List.length_take]; omega
    have hsz : (⟨t.toArray⟩ : ByteArray).size = j := htl
    have D : Hid (tr t = 0 → t = l.take (l.length - tr l)) := Lib.hid (fun h => by
      have := HT.out
      rw [← ht, h] at this
      rw [ht]
      congr 1
      omega)
    by_cases h0 : j = 0
    · subst h0
      have e0 : t = [] := List.eq_nil_of_length_eq_zero htl
      have D' := D.out (by rw [e0]; rfl)
      have DD := Lib.hid D'
      clear ht D' e0
      go_wp2_with fail
      go_ret
      exact ⟨ret_str DD.out, rfl⟩
    · have hlt : j - 1 < l.length := by omega
      have hlt' : j - 1 < t.length := by omega
      have hc : t[j - 1] = l[j - 1] := by simp [ht]
      have hst := tr_take l (j - 1) hlt
      rw [show j - 1 + 1 = j from by omega, ← ht, ← hc] at hst
      have HS := Lib.hid hst
      have htk : (⟨t.toArray⟩ : ByteArray).extract 0 (j - 1) = ⟨(l.take (j - 1)).toArray⟩ := by
        rw [ht]
        apply ByteArray.ext
        simp only [ByteArray.data_extract, List.extract_toArray, List.extract_eq_take_drop, List.drop_zero, Nat.sub_zero, List.take_take]
        rw [Nat.min_eq_left (by omega)]
      have HK := Lib.hid htk
      have HH := Lib.hid ht
      have hg : ∀ h, ((⟨t.toArray⟩ : ByteArray)[j - 1]'h) = t[j - 1] := fun _ => rfl
      have HG := Lib.hid hg
      clear ht hc hst htk hg
      go_wp2_with fail
      · have hy : ((t[j - 1].toNat : Int) == 102) = true := by assumption
        have h1 : (t[j - 1] == 102) = true := by rw [← u8_is]; exact hy
        go_round
        case rel =>
          refine ⟨j - 1, by omega, by rw [HK.out], Lib.hid ?_⟩
          have := HT.out
          rw [← HH.out, HS.out, h1, if_pos rfl] at this
          omega
        case measure =>
          rw [HK.out]
          show (l.take (j - 1)).toArray.size < t.toArray.size
          simp
          omega
      · have hy : ((t[j - 1].toNat : Int) == 102) = false := by assumption
        have h1 : (t[j - 1] == 102) = false := by rw [← u8_is]; exact hy
        go_ret
        exact ⟨ret_str (D.out (by rw [HS.out, h1]; rfl)), rfl⟩
theorem trim_any (l : List UInt8) (w : World) (hs : l.length ≤ 140737488355328) :
    Calls Tryd.prog 60 #[St l, St [102]] w fun e w' => e = .returned (St (l.take (l.length - tr l))) ∧ w = w' := by
  by_cases h0 : l = []
  · subst h0
    go_enter Tryd.func60, Tryd.ntmps60
    go_wp2_with fail
    go_ret
    exact ⟨rfl, rfl⟩
  · have hl : l.isEmpty = false := by cases l <;> simp_all
    have hl' : (⟨l.toArray⟩ : ByteArray).data.toList.isEmpty = false := by simpa using hl
    obtain ⟨r, hr⟩ : ∃ r, r = l.take (l.length - tr l) := ⟨_, rfl⟩
    rw [← hr]
    have HR := Lib.hid hr
    clear hr h0
    go_enter Tryd.func60, Tryd.ntmps60
    go_wp2_with fail
    refine (trimbyte_any l _ hs).mono ?_
    rw [← HR.out]
    rintro e w1 ⟨rfl, rfl⟩
    go_wp2_with fail
    go_ret
    exact ⟨rfl, rfl⟩
/-- which bit of its octet a flag is -/
theorem bit_any (l : List UInt8) (k : Nat) (w : World) (hs : l.length ≤ 140737488355328) (hk : k ≤ l.length) :
    Calls Tryd.prog 41 #[St l, .int .i64 k] w fun e w' => e = .returned (.int .i64 (tr (l.take k) % 8 : Nat)) ∧ w = w' := by
  obtain ⟨t, ht⟩ : ∃ t, t = l.take k := ⟨_, rfl⟩
  have htl : t.length = k := by rw [ht, List.length_take]; omega
  have hsz : (⟨l.toArray⟩ : ByteArray).size = l.length := rfl
  have hex : (⟨l.toArray⟩ : ByteArray).extract 0 k = ⟨t.toArray⟩ := by
    rw [ht]
    apply ByteArray.ext
    simp [ByteArray.data_extract]
  have htr := tr_le t
  obtain ⟨n, hn⟩ : ∃ n, n = tr t := ⟨_, rfl⟩
  obtain ⟨u, hu⟩ : ∃ u, u = t.take (t.length - n) := ⟨_, rfl⟩
  have hul : (⟨u.toArray⟩ : ByteArray).size = k - n := by
    show u.length = k - n
    rw [hu, List.length_take, htl]; omega
  rw [← ht, ← hn]
  have HE := Lib.hid hex
  have HN := Lib.hid hn
  have HU : Hid (u = t.take (t.length - tr t)) := Lib.hid (by rw [← hn]; exact hu)
  have HUL := Lib.hid hul
  have hnk : n ≤ k := by omega
  clear ht hex hu hn hul htr
  go_enter Tryd.func41, Tryd.ntmps41
  go_wp2_with fail
  rw [HE.out]
  refine (trim_any t _ (by omega)).mono ?_
  rw [← HU.out]
  have hul := HUL.out
  rintro e w1 ⟨rfl, rfl⟩
  go_wp2_with fail
  go_ret
  exact ⟨ret_int (by omega), rfl⟩

/-- how many of one octet a text has -/
theorem count_any (l : List UInt8) (c : UInt8) (w : World) : Calls Tryd.prog 51 #[St l, St [c]] w fun e w' => e = .returned (.int .i64 (l.count c)) ∧ w = w' := by
  go_enter Tryd.func51, Tryd.ntmps51
  go_wp2_with fail
  rw [run_callFunc_extern Tryd.func67 (by kernel_rfl) (by kernel_rfl) (by kernel_rfl) (e := Extern.BytealgCount.count) (by kernel_rfl), Lib.run_countString]
  simp only [Result.andThen]
  rw [Oper.upon_value]
  go_wp2_with fail
  go_ret
  exact ⟨rfl, rfl⟩
end Go.Proofs.YtlfppfknelddcaaDoor
