/- The walk of the law on the order of numbers. -/
import Derived.Test.YtpfenhlclegalaaAwake
import Derived.Test.YtpfenhlclegalaaWords2
import Derived.Deep.RegionWith
import Derived.Deep.DeepCutAuto
namespace Go.Proofs.Ytpfenhlclegalaa
open Go.RowKit

theorem bytesLess_lt : ∀ (l l' : List UInt8), Op.bytesLess l l' = decide (l < l') := by
  intro l
  induction l with
  | nil => intro l'; cases l' <;> simp [Op.bytesLess]
  | cons c l ih =>
    intro l'
    cases l' with
    | nil => simp [Op.bytesLess]
    | cons d l' =>
      rw [Op.bytesLess, ih, Bool.eq_iff_iff]
      simp [List.cons_lt_cons_iff]
theorem be_lt (k x y : Nat) (hx : x < 256 ^ k) (hy : y < 256 ^ k) : Op.bytesLess (be k x) (be k y) = decide (x < y) := by
  rw [bytesLess_lt, Bool.eq_iff_iff, decide_eq_true_iff, decide_eq_true_iff, lt_nat _ _ (by rw [be_length, be_length]), nat_be, nat_be, Nat.mod_eq_of_lt hx, Nat.mod_eq_of_lt hy]
theorem be_eq (k x y : Nat) (hx : x < 256 ^ k) (hy : y < 256 ^ k) : (be k x == be k y) = decide (x = y) := by
  rw [Bool.eq_iff_iff, beq_iff_eq, decide_eq_true_iff]
  constructor
  · intro h
    have := congrArg nat h
    rwa [nat_be, nat_be, Nat.mod_eq_of_lt hx, Nat.mod_eq_of_lt hy] at this
  · rintro rfl; rfl
theorem order_any (a b : Nat) (n : Int) (w : World) (ha : a < 18446744073709551616) (hb : b < 18446744073709551616) :
    Calls Try.prog 7 #[.int .u64 a, .int .u64 b, .int .i64 n] w fun e w' => e = .returned (.bool true) ∧ Below w.heap.size w w' := by
  have hw := wid_in n
  have h1 : 8 < n → (8 : Int) = (wid n : Int) := by unfold wid; omega
  have h2 : n < 1 → (1 : Int) = (wid n : Int) := by unfold wid; omega
  have h3 : 1 ≤ n → n ≤ 8 → n = (wid n : Int) := by unfold wid; omega
  have H1 : Hid _ := h1
  have H2 : Hid _ := h2
  have H3 : Hid _ := h3
  clear h1 h2 h3
  go_enter Try.func7, Try.ntmps7
  go_upto_region 1 with fail
  go_cut [7] (fun s7 wx => s7 = .int .i64 (wid n) ∧ wx = w)
  case first =>
    rcases Int.lt_or_le n 1 with h | h
    · go_wp2_with fail
      go_meet
      exact ⟨by rw [H2.out h], rfl⟩
    · rcases Int.lt_or_le 8 n with h' | h'
      · go_wp2_with fail
        go_meet
        exact ⟨by rw [H1.out h'], rfl⟩
      · go_wp2_with fail
        go_meet
        exact ⟨by rw [← H3.out h h'], rfl⟩
  case rest =>
    obtain ⟨rfl, rfl⟩ := hcut
    have HW := Lib.hid (int_any (n := n))
    generalize wid n = k at *
    clear H1 H2 H3
    obtain ⟨x, hx⟩ : ∃ x, x = a % 256 ^ k := ⟨_, rfl⟩
    obtain ⟨y, hy⟩ : ∃ y, y = b % 256 ^ k := ⟨_, rfl⟩
    have HX := Lib.hid hx
    have HY := Lib.hid hy
    clear hx hy
    go_upto_if 14 with fail
    go_cut [0, 1] (fun s0 s1 wx => s0 = .int .u64 (x : Int) ∧ s1 = .int .u64 (y : Int) ∧ wx = wc)
    case first =>
      by_cases hk : k < 8
      · have ma := mask_low a k ha hk
        have mb := mask_low b k hb hk
        rw [← HX.out] at ma
        rw [← HY.out] at mb
        go_wp2_with fail
        go_meet
        exact ⟨rfl, rfl, rfl⟩
      · obtain rfl : k = 8 := by omega
        obtain rfl : x = a := by rw [HX.out]; omega
        obtain rfl : y = b := by rw [HY.out]; omega
        go_wp2_with fail
        go_meet
        exact ⟨rfl, rfl, rfl⟩
    case rest =>
      obtain ⟨rfl, rfl, rfl⟩ := hcut
      have hx : x < 256 ^ k := by rw [HX.out]; exact Nat.mod_lt _ (Nat.pow_pos (by omega))
      have hy : y < 256 ^ k := by rw [HY.out]; exact Nat.mod_lt _ (Nat.pow_pos (by omega))
      have HX1 := Lib.hid hx
      have HY1 := Lib.hid hy
      clear HX HY hx hy
      obtain ⟨wo, hwo⟩ : ∃ wo : World, wo = wc := ⟨_, rfl⟩
      subst hwo
      go_upto_region 4 with fail
      go_cut [8, 9] (fun s8 s9 wx => s8 = .string ⟨(be k x).toArray⟩ ∧ s9 = .string ⟨(be k y).toArray⟩ ∧ Below wo.heap.size wo wx)
      case first =>
        go_region_with (first
          | (go_at_call_of 10 (Value.int .u64 (x : Int)); refine (HW.out none 0 [] 0 x _ (Lies.empty _ _ _) (Nat.zero_le _) (by simp)).mono ?_; rintro e w1 ⟨v, rfl, ho, hb1⟩; rw [List.nil_append] at ho; obtain ⟨A, c, rfl, _, _⟩ := own_form ho; have hl := Lies.own ho (Nat.le_refl _); have cv1 := run_octets_string (P := Try.prog) 24 9 5 Try.underlying24 Try.underlying5 Try.underlying9 hl c; have HB1 := Lib.hid hb1; have HL := Lib.hid hl; clear ho hb1 hl)
          | (go_at_call_of 10 (Value.int .u64 (y : Int)); refine (HW.out none 0 [] 0 y _ (Lies.empty _ _ _) (Nat.zero_le _) (by simp)).mono ?_; rintro e w2 ⟨v2, rfl, ho2, hb2⟩; rw [List.nil_append] at ho2; obtain ⟨A2, c2, rfl, _, _⟩ := own_form ho2; have hl2 := Lies.own ho2 (Nat.le_refl _); have cv2 := run_octets_string (P := Try.prog) 24 9 5 Try.underlying24 Try.underlying5 Try.underlying9 hl2 c2; have cv3 := run_octets_string (P := Try.prog) 24 9 5 Try.underlying24 Try.underlying5 Try.underlying9 (HL.out.below hb2) c; have HB2 := Lib.hid hb2; clear ho2 hb2 hl2))
        all_goals (go_wp2_with fail; go_meet; exact ⟨rfl, rfl, (((Below.refl _ wo).drew).trans HB1.out).trans (HB2.out.mono HB1.out.size)⟩)
      case rest =>
        obtain ⟨rfl, rfl, hbel⟩ := hcut
        have HB := Lib.hid hbel
        have el := be_lt k x y HX1.out HY1.out
        have ee := be_eq k x y HX1.out HY1.out
        have eln := be_length k x
        clear hbel
        rcases Nat.lt_trichotomy x y with h | h | h
        · rw [decide_eq_true h] at el
          rw [decide_eq_false (by omega)] at ee
          have d1 : decide ((x : Int) < (y : Int)) = true := by simp; omega
          have d2 : ((x : Int) == (y : Int)) = false := by simp; omega
          go_wp2_with (go_at_call 8; refine (awake_any _).mono ?_; rintro e w4 ⟨rfl, hb4⟩)
          go_ret
          exact ⟨rfl, HB.out.trans (hb4.mono HB.out.size)⟩
        · subst h
          rw [decide_eq_false (by omega)] at el
          clear ee
          go_wp2_with (go_at_call 8; refine (awake_any _).mono ?_; rintro e w4 ⟨rfl, hb4⟩)
          go_ret
          exact ⟨rfl, HB.out.trans (hb4.mono HB.out.size)⟩
        · rw [decide_eq_false (by omega)] at el
          rw [decide_eq_false (by omega)] at ee
          have d1 : decide (x < y) = false := by simp; omega
          have d2 : ((x : Int) == (y : Int)) = false := by simp; omega
          go_wp2_with (go_at_call 8; refine (awake_any _).mono ?_; rintro e w4 ⟨rfl, hb4⟩)
          go_ret
          exact ⟨rfl, HB.out.trans (hb4.mono HB.out.size)⟩
end Go.Proofs.Ytpfenhlclegalaa
