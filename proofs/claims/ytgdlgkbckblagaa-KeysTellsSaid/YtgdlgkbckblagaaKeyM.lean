/- Contracts of package keys: messages. -/
import Derived.Test.YtgdlgkbckblagaaKeyP
import Derived.Test.YtgdlgkbckblagaaConv2
namespace Go.Proofs.Ytgdlgkbckblagaa
open Go.RowKit
set_option maxRecDepth 100000
set_option linter.unusedSimpArgs false
set_option linter.unusedVariables false

/-- a message's bounds -/
def okM (e k t : Nat) (m : Int) (n : Nat) : Bool := decide (e ≤ 30) && decide (k ≤ 60) && decide (t ≤ 60) && decide (0 ≤ m) && decide (m ≤ 2) && decide (n ≤ 10000)
theorem okM_yes {e k t n : Nat} {m : Int} (h : okM e k t m n = true) : e ≤ 30 ∧ k ≤ 60 ∧ t ≤ 60 ∧ 0 ≤ m ∧ m ≤ 2 ∧ n ≤ 10000 := by
  unfold okM at h
  simp only [Bool.and_eq_true, decide_eq_true_eq] at h
  omega
theorem okM_is {e k t n : Nat} {m : Int} (h : e ≤ 30 ∧ k ≤ 60 ∧ t ≤ 60 ∧ 0 ≤ m ∧ m ≤ 2 ∧ n ≤ 10000) : okM e k t m n = true := by
  unfold okM
  simp only [Bool.and_eq_true, decide_eq_true_eq]
  omega
theorem okM_no {e k t n : Nat} {m : Int} (h : ¬ (e ≤ 30 ∧ k ≤ 60 ∧ t ≤ 60 ∧ 0 ≤ m ∧ m ≤ 2 ∧ n ≤ 10000)) : okM e k t m n = false := by
  rw [← Bool.not_eq_true]
  intro h'
  exact h (okM_yes h')
def msV (E K T : List UInt8) (m : Int) (v : Value) : Value := .agg #[.string ⟨E.toArray⟩, .string ⟨K.toArray⟩, .string ⟨T.toArray⟩, .int .i64 m, v]
set_option maxHeartbeats 1000000 in
theorem fitsM_any (E K T : List UInt8) (m : Int) (A : Option Addr) (n c : Nat) (w : World) (hE : E.length ≤ maxLen) (hK : K.length ≤ maxLen) (hT : T.length ≤ maxLen) (hn : n ≤ maxLen) :
    Calls Try.prog 23 #[msV E K T m (.slice A n c)] w fun e w' => e = .returned (.bool (okM E.length K.length T.length m n)) ∧ Below w.heap.size w w' := by
  have D : Hid (∀ r : Bool, okM E.length K.length T.length m n = r → ∀ cs, (Ending.returned (.bool r) = .returned (.bool (okM E.length K.length T.length m n))) ∧ Below w.heap.size w (w.alloc (.cells cs 32))) := Lib.hid fun r hr cs => ⟨by rw [hr], (Below.refl _ _).alloc (Nat.le_refl _) _⟩
  have s1 := key_size E
  have s2 := key_size K
  have s3 := key_size T
  unfold maxLen at hE hK hT hn
  unfold msV
  by_cases h1 : (E.length : Int) ≤ 30
  · by_cases h2 : (K.length : Int) ≤ 60
    · by_cases h3 : (T.length : Int) ≤ 60
      · by_cases h4 : 0 ≤ m
        · by_cases h5 : m ≤ 2
          · by_cases h6 : (n : Int) ≤ 10000
            · have X := Lib.hid (D.out true (okM_is (by omega)))
              clear D
              go_enter Try.func23, Try.ntmps23
              go_wp2_with fail
              go_ret
              exact X.out _
            · have X := Lib.hid (D.out false (okM_no (by omega)))
              clear D
              go_enter Try.func23, Try.ntmps23
              go_wp2_with fail
              go_ret
              exact X.out _
          · have X := Lib.hid (D.out false (okM_no (by omega)))
            clear D
            go_enter Try.func23, Try.ntmps23
            go_wp2_with fail
            go_ret
            exact X.out _
        · have X := Lib.hid (D.out false (okM_no (by omega)))
          clear D
          go_enter Try.func23, Try.ntmps23
          go_wp2_with fail
          go_ret
          exact X.out _
      · have X := Lib.hid (D.out false (okM_no (by omega)))
        clear D
        go_enter Try.func23, Try.ntmps23
        go_wp2_with fail
        go_ret
        exact X.out _
    · have X := Lib.hid (D.out false (okM_no (by omega)))
      clear D
      go_enter Try.func23, Try.ntmps23
      go_wp2_with fail
      go_ret
      exact X.out _
  · have X := Lib.hid (D.out false (okM_no (by omega)))
    clear D
    go_enter Try.func23, Try.ntmps23
    go_wp2_with fail
    go_ret
    exact X.out _

theorem own_less12 {w : World} {base base' : Nat} {e : TypeId} {size : Nat} {v : Value} {n : Nat} {xs : List Value} (h : w.ownsRow base e size v n xs) (hb : base' ≤ base) : w.ownsRow base' e size v n xs := by
  refine ⟨h.1, ?_⟩
  rcases h.2 with h | ⟨b, cap, cur, hv, hb', rest⟩
  · exact .inl h
  · exact .inr ⟨b, cap, cur, hv, Nat.le_trans hb hb', rest⟩
/-- a message's octets -/
def msB (E K T : List UInt8) (m : Nat) (b : List UInt8) : List UInt8 := shortB E ++ shortB K ++ shortB T ++ be 1 m ++ b
def tellsM (E K T : List UInt8) (m : Int) (b : List UInt8) (w : World) (e : Ending) (w' : World) : Prop :=
  (okM E.length K.length T.length m b.length = false ∧ e = .returned (.tuple #[.slice none 0 0, .bool false]) ∧ Below w.heap.size w w') ∨
  (okM E.length K.length T.length m b.length = true ∧ NewOctsOk w.heap.size (msB E K T m.toNat b) true w e w')
set_option maxHeartbeats 4000000 in
theorem msg_any (E K T : List UInt8) (m : Int) (A : Option Addr) (n c : Nat) (b : List UInt8) (B : Nat) (w : World) (hn : n = b.length) (hl : Lies w B A (B8 b)) (hB : B ≤ w.heap.size) (hE : E.length ≤ maxLen) (hK : K.length ≤ maxLen) (hT : T.length ≤ maxLen) (hb : b.length ≤ maxLen) :
    Calls Try.prog 9 #[msV E K T m (.slice A n c)] w (tellsM E K T m b w) := by
  subst hn
  have hf := fun w => fitsM_any E K T m A b.length c w hE hK hT hb
  obtain ⟨f, hf'⟩ : ∃ f, f = okM E.length K.length T.length m b.length := ⟨_, rfl⟩
  rw [← hf'] at hf
  have HF := Lib.hid hf
  have hok : f = true → E.length ≤ 30 ∧ K.length ≤ 60 ∧ T.length ≤ 60 ∧ 0 ≤ m ∧ m ≤ 2 ∧ b.length ≤ 10000 := fun h => okM_yes (by rw [← hf']; exact h)
  have HOK := Lib.hid hok
  obtain ⟨i0, hi, hz0, hz1, hz2⟩ := info_parts u8_info
  have HI := Lib.hid hi
  have H0 := Lib.hid hz0
  have H1 := Lib.hid hz1
  have H2 := Lib.hid hz2
  obtain ⟨W0, hW0⟩ : ∃ W, W = w.alloc (.cells #[.string ⟨E.toArray⟩, .string ⟨K.toArray⟩, .string ⟨T.toArray⟩, .int .i64 m, .slice A b.length c] 32) := ⟨_, rfl⟩
  have K0 : Hid (Whole W0 w.heap.size 32 #[.string ⟨E.toArray⟩, .string ⟨K.toArray⟩, .string ⟨T.toArray⟩, .int .i64 m, .slice A b.length c]) := Lib.hid (by rw [hW0]; exact Whole.new _ _ _)
  have B0 : Hid (Below w.heap.size w W0) := Lib.hid (by rw [hW0]; exact (Below.refl _ _).alloc (Nat.le_refl _) _)
  have L0 : Hid (Lies W0 B A (B8 b)) := Lib.hid (hl.below (B0.out.mono hB))
  have z0 := B0.out.size
  obtain ⟨c00, c01, c02, c03, c04⟩ := five12 K0.out
  rw [hW0] at c00 c01 c02 c03 c04
  have HW0 := Lib.hid hW0
  have HF' := Lib.hid hf'
  clear hf hf' hok hi hz0 hz1 hz2 hW0 hl
  unfold msV
  go_enter Try.func9, Try.ntmps9
  go_wp2_with fail
  rw [← HW0.out]
  refine (HF.out _).mono ?_
  rintro e w1 ⟨rfl, hb1⟩
  have B1 := Lib.hid (B0.out.trans (hb1.mono z0))
  have K1 := Lib.hid (K0.out.below hb1 K0.out.lt)
  have L1 := Lib.hid (L0.out.below (hb1.mono (Nat.le_trans hB z0)))
  have z1 := B1.out.size
  clear c00 c01 c02 c03 c04 hb1
  obtain ⟨c0, c1, c2, c3, c4⟩ := five12 K1.out
  cases f with
  | false =>
    go_wp2_with fail
    go_ret2
    exact .inl ⟨HF'.out.symm, rfl, B1.out⟩
  | true =>
    obtain ⟨hE30, hK60, hT60, hm0, hm2, hb4⟩ := HOK.out rfl
    obtain ⟨mn, rfl⟩ := Int.eq_ofNat_of_zero_le hm0
    have mw : IntKind.u64.wrap (mn : Int) = (mn : Int) := IntWalk.u64_in _ ⟨by omega, by omega⟩
    go_wp2_with fail
    refine (kshort_any none 0 0 [] 0 E _ rfl (Lies.empty _ _ _) (Nat.zero_le _) (by simp) (by omega)).mono ?_
    rintro e w2 ⟨v2, rfl, ho2, hb2⟩
    obtain ⟨X2, hX2⟩ : ∃ X, X = [] ++ shortB E := ⟨_, rfl⟩
    rw [← hX2] at ho2
    have HX2 := Lib.hid hX2
    have hl2 : X2.length ≤ 100 := by rw [hX2]; simp only [List.length_append, shortB_length, List.length_nil]; omega
    obtain ⟨A2, d2, rfl, _, _⟩ := own_form ho2
    have M2 := Lib.hid (Lies.own ho2 (Nat.le_refl _))
    have B2 := Lib.hid (B1.out.trans (hb2.mono z1))
    have K2 := Lib.hid (K1.out.below hb2 K1.out.lt)
    have L2 := Lib.hid (L1.out.below (hb2.mono (Nat.le_trans hB z1)))
    have z2 := B2.out.size
    clear c0 c1 c2 c3 c4 ho2 hb2 hX2
    obtain ⟨c0, c1, c2, c3, c4⟩ := five12 K2.out
    go_wp2_with fail
    refine (kshort_any A2 d2 _ X2 _ K _ rfl M2.out (Nat.le_refl _) (by omega) (by omega)).mono ?_
    rintro e w3 ⟨v3, rfl, ho3, hb3⟩
    obtain ⟨X3, hX3⟩ : ∃ X, X = X2 ++ shortB K := ⟨_, rfl⟩
    rw [← hX3] at ho3
    have HX3 := Lib.hid hX3
    have hl3 : X3.length ≤ 200 := by rw [hX3]; simp only [List.length_append, shortB_length, List.length_nil]; omega
    obtain ⟨A3, d3, rfl, _, _⟩ := own_form ho3
    have M3 := Lib.hid (Lies.own ho3 (Nat.le_refl _))
    have B3 := Lib.hid (B2.out.trans (hb3.mono z2))
    have K3 := Lib.hid (K2.out.below hb3 K2.out.lt)
    have L3 := Lib.hid (L2.out.below (hb3.mono (Nat.le_trans hB z2)))
    have z3 := B3.out.size
    clear c0 c1 c2 c3 c4 ho3 hb3 hX3
    obtain ⟨c0, c1, c2, c3, c4⟩ := five12 K3.out
    go_wp2_with fail
    refine (kshort_any A3 d3 _ X3 _ T _ rfl M3.out (Nat.le_refl _) (by omega) (by omega)).mono ?_
    rintro e w4 ⟨v4, rfl, ho4, hb4'⟩
    obtain ⟨X4, hX4⟩ : ∃ X, X = X3 ++ shortB T := ⟨_, rfl⟩
    rw [← hX4] at ho4
    have HX4 := Lib.hid hX4
    have hl4 : X4.length ≤ 300 := by rw [hX4]; simp only [List.length_append, shortB_length, List.length_nil]; omega
    obtain ⟨A4, d4, rfl, _, _⟩ := own_form ho4
    have M4 := Lib.hid (Lies.own ho4 (Nat.le_refl _))
    have B4 := Lib.hid (B3.out.trans (hb4'.mono z3))
    have K4 := Lib.hid (K3.out.below hb4' K3.out.lt)
    have L4 := Lib.hid (L3.out.below (hb4'.mono (Nat.le_trans hB z3)))
    have z4 := B4.out.size
    clear c0 c1 c2 c3 c4 ho4 hb4' hX4
    obtain ⟨c0, c1, c2, c3, c4⟩ := five12 K4.out
    go_wp2_with fail
    refine (kint1 A4 d4 _ X4 _ mn _ rfl M4.out (Nat.le_refl _) (by omega)).mono ?_
    rintro e w5 ⟨v5, rfl, ho5, hb5⟩
    obtain ⟨X5, hX5⟩ : ∃ X, X = X4 ++ be 1 mn := ⟨_, rfl⟩
    rw [← hX5] at ho5
    have HX5 := Lib.hid hX5
    have hl5 : X5.length ≤ 400 := by rw [hX5]; simp only [List.length_append, be_length]; omega
    obtain ⟨A5, d5, rfl, _, _⟩ := own_form ho5
    have O5 := Lib.hid (own_less12 ho5 z4)
    have B5 := Lib.hid (B4.out.trans (hb5.mono z4))
    have K5 := Lib.hid (K4.out.below hb5 K4.out.lt)
    have L5 := Lib.hid (L4.out.below (hb5.mono (Nat.le_trans hB z4)))
    have z5 := B5.out.size
    clear c0 c1 c2 c3 c4 ho5 hb5 hX5
    obtain ⟨c0, c1, c2, c3, c4⟩ := five12 K5.out
    have hlen : X5.length + b.length ≤ 140737488355328 := by omega
    have HLen := Lib.hid hlen
    clear hlen
    go_wp2_with (at_builtin; refine wpList_append_cells rfl _ _ 23 rfl w.heap.size 5 i0 (.int .u8 0) 1 1 Try.underlying23 HI.out H0.out H1.out H2.out rfl (by omega) _ X5.length _ rfl O5.out B A b.length c (B8 b) rfl L5.out (B8_len1 b) (B8_one b) (room63 HLen.out) (room1 HLen.out) z5 ?_; intro v6 w6 hown6 hbel6)
    rw [← B8_append, ← List.length_append, HX5.out, HX4.out, HX3.out, HX2.out, List.nil_append] at hown6
    have B6 := B5.out.trans hbel6
    go_ret2
    refine .inr ⟨HF'.out.symm, _, rfl, ?_, B6⟩
    rw [Int.toNat_natCast]
    exact hown6
end Go.Proofs.Ytgdlgkbckblagaa
