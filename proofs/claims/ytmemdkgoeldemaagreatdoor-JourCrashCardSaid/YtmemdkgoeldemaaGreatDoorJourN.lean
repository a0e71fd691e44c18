/- Layer 8: names of files, how many sectors a batch needs. -/
import Derived.Test.YtmemdkgoeldemaaGreatDoorJlay
import Derived.Test.YtmemdkgoeldemaaGreatDoorJourP
import Derived.Test.YtmemdkgoeldemaaGreatDoorOcts
import Derived.Lib.AtoiErrMem
namespace Go.Proofs.YtmemdkgoeldemaaGreatDoor
open Go.RowKit Go.Maps
set_option maxRecDepth 100000
set_option linter.unusedSimpArgs false
set_option linter.unusedVariables false
/-! ### digits -/
def digs : Nat → Nat → List UInt8
  | 0, _ => []
  | k + 1, n => digs k (n / 10) ++ [dig n]
theorem digs_length (k : Nat) : ∀ n, (digs k n).length = k := by
  induction k with
  | zero => intro n; rfl
  | succ k ih => intro n; simp [digs, ih]
theorem digs_zero (k : Nat) : digs k 0 = Lib.repeatL [48] k := by
  induction k with
  | zero => rfl
  | succ k ih =>
    have e : ∀ c, Lib.repeatL [48] c ++ [48] = [48] ++ Lib.repeatL [48] c := by
      intro c
      induction c with
      | zero => rfl
      | succ c ic => rw [Lib.repeatL, List.append_assoc, ic]
    show digs k 0 ++ [dig 0] = [48] ++ Lib.repeatL [48] k
    rw [ih, ← e]
    rfl
theorem dec_small {n : Nat} (h : n < 10) : Lib.decDigits n = [dig n] := by
  rw [Lib.decDigits, dif_pos h]
  unfold dig
  rw [Nat.mod_eq_of_lt h]
theorem dec_great {n : Nat} (h : ¬ n < 10) : Lib.decDigits n = Lib.decDigits (n / 10) ++ [dig n] := by
  rw [Lib.decDigits, dif_neg h]
  rfl
theorem dec_len : ∀ (k n : Nat), n < 10 ^ (k + 1) → (Lib.decDigits n).length ≤ k + 1 ∧ 1 ≤ (Lib.decDigits n).length := by
  intro k
  induction k with
  | zero => intro n h; rw [dec_small (by simpa using h)]; simp
  | succ k ih =>
    intro n h
    by_cases hs : n < 10
    · rw [dec_small hs]; simp
    · rw [dec_great hs, List.length_append]
      have := ih (n / 10) (by rw [Nat.pow_succ] at h; omega)
      simp
      omega
theorem dec_pad : ∀ (k n : Nat), n < 10 ^ (k + 1) → Lib.repeatL [48] (k + 1 - (Lib.decDigits n).length) ++ Lib.decDigits n = digs (k + 1) n := by
  intro k
  induction k with
  | zero =>
    intro n h
    rw [dec_small (by simpa using h)]
    rfl
  | succ k ih =>
    intro n h
    by_cases hs : n < 10
    · rw [dec_small hs]
      show Lib.repeatL [48] (k + 1) ++ [dig n] = digs (k + 1) (n / 10) ++ [dig n]
      rw [Nat.div_eq_of_lt hs, digs_zero]
    · have h2 : n / 10 < 10 ^ (k + 1) := by rw [Nat.pow_succ] at h; omega
      have hl := dec_len k (n / 10) h2
      rw [dec_great hs, List.length_append, ← List.append_assoc]
      show Lib.repeatL [48] (k + 1 + 1 - ((Lib.decDigits (n / 10)).length + 1)) ++ Lib.decDigits (n / 10) ++ [dig n] = digs (k + 1) (n / 10) ++ [dig n]
      rw [Nat.add_sub_add_right, ih (n / 10) h2]
theorem digs_six (n : Nat) : digs 6 n = [dig (n / 100000), dig (n / 10000), dig (n / 1000), dig (n / 100), dig (n / 10), dig n] := by
  simp [digs, Nat.div_div_eq_div_mul]
theorem nmJ_is {n : Int} (h : 1 ≤ n ∧ n ≤ 999999) : nmJ n = 106 :: (Lib.repeatL [48] (6 - (Lib.decDigits n.toNat).length) ++ Lib.decDigits n.toNat) := by
  rw [nmJ_in h, dec_pad 5 n.toNat (by omega), digs_six]
theorem dec_six {n : Int} (h : 1 ≤ n ∧ n ≤ 999999) : (Lib.decDigits n.toNat).length ≤ 6 := (dec_len 5 n.toNat (by omega)).1
theorem app_bytes (a b : List UInt8) : (⟨a.toArray⟩ : ByteArray) ++ ⟨b.toArray⟩ = ⟨(a ++ b).toArray⟩ := by
  apply ByteArray.ext
  simp
/-! ### Name -/
def Itoas (n : Int) (w : World) : Prop := Calls Tryz.prog 47 #[.int .i64 n] w fun e w' => e = .returned (.string ⟨(Lib.decDigits n.toNat).toArray⟩) ∧ Below w.heap.size w w'
theorem itoas_small (n : Int) (h : 0 ≤ n ∧ n < 100) (w : World) : Itoas n w := by
  obtain ⟨i, rfl⟩ : ∃ i : Nat, n = (i : Int) := ⟨n.toNat, by omega⟩
  exact (jl_strconv_Itoa_small i (by omega) w).mono fun e w' ⟨h1, h2⟩ => ⟨h1, by subst h2; exact Below.refl _ _⟩
set_option maxHeartbeats 4000000 in
theorem name_any (n : Int) (w : World) (hn : -9223372036854775808 ≤ n ∧ n < 9223372036854775808) (hI : 1 ≤ n ∧ n ≤ 999999 → Itoas n w) :
    Calls Tryz.prog 16 #[.int .i64 n] w fun e w' => e = .returned (.string ⟨(nmJ n).toArray⟩) ∧ Below w.heap.size w w' := by
  obtain ⟨n1, n2⟩ := hn
  have HI := Lib.hid hI
  clear hI
  by_cases hg : 1 ≤ n ∧ n ≤ 999999
  · obtain ⟨h1, h2⟩ := id hg
    have HG := Lib.hid hg
    have hd := dec_six hg
    have hl6 : ¬ (n < 1) := by omega
    have hg6 : ¬ (999999 < n) := by omega
    obtain ⟨D, hD⟩ : ∃ D, D = Lib.decDigits n.toNat := ⟨_, rfl⟩
    rw [← hD] at hd
    have HD := Lib.hid hD
    clear hg hD
    obtain ⟨k, hk⟩ : ∃ k : Nat, (k : Int) = 6 - (D.length : Int) := ⟨6 - D.length, by omega⟩
    have HK := Lib.hid hk
    have hr := Lib.repeatL_length [48] k
    have hr1 : ¬ (9223372036854775807 < 1 + (Lib.repeatL [48] k).length) := by rw [hr]; simp; omega
    have hr2 : ¬ (9223372036854775807 < 1 + (Lib.repeatL [48] k).length + D.length) := by rw [hr]; simp; omega
    clear hr
    go_enter Tryz.func16, Tryz.ntmps16
    go_wp2_with (first
      | (go_at_call 47; go_must (refine (HI.out HG.out).mono ?_); rintro e w1 ⟨he, hb1⟩; rw [← HD.out] at he; subst he; have B1 := Lib.hid hb1; clear hb1)
      | (go_at_call 48; go_must (refine (show Calls _ _ #[_, .int .i64 (6 - (D.length : Int))] _ _ from by rw [← HK.out]; exact jl_strings_Repeat ⟨#[48]⟩ k _ (by omega) (by show 1 * k ≤ _; omega)).mono ?_); rintro e w2 ⟨rfl, hb2⟩; have B2 := Lib.hid hb2; clear hb2))
    go_ret
    refine ⟨?_, B1.out.trans (B2.out.mono B1.out.size)⟩
    have e1 : (⟨#[106]⟩ : ByteArray) ++ ⟨(Lib.repeatL [48] k).toArray⟩ ++ ⟨D.toArray⟩ = ⟨(nmJ n).toArray⟩ := by
      rw [show (⟨#[106]⟩ : ByteArray) = ⟨([106] : List UInt8).toArray⟩ from rfl, app_bytes, app_bytes, nmJ_is HG.out, ← HD.out, show 6 - D.length = k from by have := HK.out; omega]
      simp
    rw [← e1]
    rfl
  · rcases (show n < 1 ∨ 999999 < n by omega) with h | h
    all_goals
      go_enter Tryz.func16, Tryz.ntmps16
      go_wp2
      all_goals
        go_ret
        exact ⟨by rw [nmJ, if_neg (by omega)]; rfl, Below.refl _ _⟩
/-! ### number -/
theorem dec_snoc (b : UInt8) (l : List UInt8) : ∀ acc, Lib.decFrom acc (l ++ [b]) = (Lib.decFrom acc l).bind fun m => (Lib.digitVal b).map fun d => m * 10 + d := by
  induction l with
  | nil =>
    intro acc
    show Lib.decFrom acc [b] = _
    simp only [Lib.decFrom]
    cases Lib.digitVal b <;> rfl
  | cons a r ih =>
    intro acc
    rw [List.cons_append]
    simp only [Lib.decFrom]
    cases Lib.digitVal a with
    | none => rfl
    | some d => exact ih _
theorem dig_digit (n : Nat) : Lib.digitVal (dig n) = some (n % 10) := by
  unfold Lib.digitVal
  rw [dig_val, if_pos (by omega)]
  congr 1
  omega
theorem dec_digs (k : Nat) : ∀ acc n, Lib.decFrom acc (digs k n) = some (acc * 10 ^ k + n % 10 ^ k) := by
  induction k with
  | zero => intro acc n; simp [digs, Lib.decFrom, Nat.mod_one]
  | succ k ih =>
    intro acc n
    show Lib.decFrom acc (digs k (n / 10) ++ [dig n]) = _
    rw [dec_snoc, ih, dig_digit]
    show some ((acc * 10 ^ k + n / 10 % 10 ^ k) * 10 + n % 10) = _
    congr 1
    have h1 : n % 10 ^ (k + 1) = 10 * (n / 10 % 10 ^ k) + n % 10 := by
      rw [Nat.pow_succ, Nat.mul_comm (10 ^ k) 10, Nat.mod_mul]
      omega
    rw [h1, Nat.pow_succ, Nat.add_mul, Nat.mul_assoc]
    omega
theorem nmJ_digs {n : Int} (h : 1 ≤ n ∧ n ≤ 999999) : nmJ n = 106 :: digs 6 n.toNat := by
  rw [nmJ_in h, digs_six]
theorem trim_nmJ {n : Int} (h : 1 ≤ n ∧ n ≤ 999999) : Lib.trimPrefix (nmJ n) [106] = digs 6 n.toNat := by
  rw [nmJ_digs h]
  simp [Lib.trimPrefix, Lib.hasPrefix]
theorem atoi_digs {n : Int} (h : 1 ≤ n ∧ n ≤ 999999) : Lib.atoi (digs 6 n.toNat) = some n := by
  have h1 := dec_digs 6 0 n.toNat
  rw [digs_six] at h1 ⊢
  have hb : ∀ m, (dig m == 45) = false ∧ (dig m == 43) = false := by
    intro m
    constructor <;>
    · apply beq_eq_false_iff_ne.2
      intro e
      have := congrArg UInt8.toNat e
      rw [dig_val] at this
      have h45 : (45 : UInt8).toNat = 45 := rfl
      have h43 : (43 : UInt8).toNat = 43 := rfl
      omega
  unfold Lib.atoi
  simp only []
  rw [if_neg (by rw [(hb _).1]; decide), if_neg (by rw [(hb _).2]; decide)]
  unfold Lib.decNat
  rw [if_neg (by simp), h1]
  show some (((0 * 10 ^ 6 + n.toNat % 10 ^ 6 : Nat)) : Int) = some n
  congr 1
  omega
set_option maxHeartbeats 4000000 in
theorem number_any (n : Int) (w : World) (hg : 1 ≤ n ∧ n ≤ 999999) (hI : ∀ w', Itoas n w') :
    Calls Tryz.prog 50 #[.string ⟨(nmJ n).toArray⟩] w fun e w' => e = .returned (.int .i64 n) ∧ Below w.heap.size w w' := by
  have HG := Lib.hid hg
  have HI := Lib.hid hI
  have ht := trim_nmJ hg
  have ha := atoi_digs hg
  have hn := fun w' => name_any n w' (by omega) (fun _ => hI w')
  obtain ⟨NM, hNM⟩ : ∃ NM, NM = nmJ n := ⟨_, rfl⟩
  obtain ⟨DG, hDG⟩ : ∃ DG, DG = digs 6 n.toNat := ⟨_, rfl⟩
  have hdl : DG.length = 6 := by rw [hDG, digs_length]
  rw [← hNM, ← hDG] at ht
  rw [← hDG] at ha
  rw [← hNM] at hn ⊢
  have HT := Lib.hid ht
  have HA := Lib.hid ha
  have HN := Lib.hid hn
  have HL : Hid ((⟨DG.toArray⟩ : ByteArray).size ≤ 18) := Lib.hid (by show DG.toArray.size ≤ 18; rw [List.size_toArray]; omega)
  clear hg hI ht ha hn hdl hDG hNM
  go_enter Tryz.func50, Tryz.ntmps50
  go_wp2_with (first
    | (go_at_call 87; go_must (refine (jl_strings_TrimPrefix ⟨NM.toArray⟩ ⟨#[106]⟩ _).mono ?_); rintro e w1 ⟨he, rfl⟩; rw [show Lib.trimPrefix (⟨NM.toArray⟩ : ByteArray).data.toList (⟨#[106]⟩ : ByteArray).data.toList = DG from HT.out] at he; subst he)
    | (go_at_call 86; go_must (refine (jl_strconv_Atoi ⟨DG.toArray⟩ n HL.out HA.out _).mono ?_); rintro e w2 ⟨rfl, t2, hw2⟩; have B2 := Lib.hid (show Below w1.heap.size w1 w2 by rw [hw2]; exact Lib.bytesWorld_below _ _ _); clear hw2)
    | (go_at_call 16; go_must (refine (HN.out _).mono ?_); rintro e w3 ⟨rfl, hb3⟩; have B3 := Lib.hid hb3; clear hb3))
  go_ret
  exact ⟨rfl, B2.out.trans (B3.out.mono B2.out.size)⟩
/-! ### Need -/
set_option maxHeartbeats 4000000 in
theorem need_any (n : Nat) (w : World) (hn : n < 9223372036854775808) :
    Calls Tryz.prog 17 #[.int .i64 (n : Int)] w fun e w' => e = .returned (.int .i64 (need n : Int)) ∧ w = w' := by
  by_cases h : n < 1
  · have h' : (n : Int) < 1 := by omega
    go_enter Tryz.func17, Tryz.ntmps17
    go_wp2
    all_goals
      go_ret
      refine ⟨?_, rfl⟩
      unfold need
      rw [if_pos h]
      rfl
  · have h' : ¬ ((n : Int) < 1) := by omega
    obtain ⟨m, rfl⟩ : ∃ m, n = m + 1 := ⟨n - 1, by omega⟩
    have hw1 : IntKind.i64.wrap ((m : Int) + 1 - 1) = (m : Int) := by rw [show (m : Int) + 1 - 1 = (m : Int) by omega]; exact IntWalk.i64_in _ ⟨by omega, by omega⟩
    go_enter Tryz.func17, Tryz.ntmps17
    go_wp2
    all_goals
      go_ret
      refine ⟨?_, rfl⟩
      unfold need
      rw [if_neg h]
      refine ret_int ?_
      omega
end Go.Proofs.YtmemdkgoeldemaaGreatDoor
