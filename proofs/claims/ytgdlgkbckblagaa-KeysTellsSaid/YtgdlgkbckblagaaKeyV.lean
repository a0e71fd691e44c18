/- Layer 12: contracts of the document's own answer: what may be a key, its text. -/
import Derived.Test.YtgdlgkbckblagaaKeyT
import Derived.Test.YtgdlgkbckblagaaRef
import Derived.Deep.RegionWith
import Derived.Deep.QuietTactic
import Derived.Deep.DeepCutAuto
import Derived.BigQuiet
namespace Go.Proofs.Ytgdlgkbckblagaa
open Go.RowKit
set_option maxRecDepth 100000
set_option linter.unusedSimpArgs false
set_option linter.unusedVariables false

theorem rput_at (A : Option Addr) (c m : Nat) (l : List UInt8) (B n x : Nat) (w : World) (hm : m = l.length) (hl : Lies w B A (B8 l)) (hB : B ≤ w.heap.size) (hn1 : 1 ≤ n) (hn8 : n ≤ 8) (hs : l.length + 8 ≤ 140737488355328) :
    Calls Try.prog 25 #[.slice A m c, .int .i64 n, .int .u64 x] w (NewOcts w.heap.size (l ++ be n x) w) := by
  subst hm
  exact put_any A c l B n x w hl hB hn1 hn8 hs
set_option maxHeartbeats 400000 in
theorem rshort_at (A : Option Addr) (c n : Nat) (l : List UInt8) (B : Nat) (t : List UInt8) (w : World) (hn : n = l.length) (hl : Lies w B A (B8 l)) (hB : B ≤ w.heap.size) (hs : l.length ≤ 70368744177664) (ht : t.length ≤ 255) :
    Calls Try.prog 26 #[.slice A n c, .string ⟨t.toArray⟩] w (NewOcts w.heap.size (l ++ shortB t) w) := by
  subst hn
  obtain ⟨i0, hi, hz0, hz1, hz2⟩ := info_parts u8_info
  have HI := Lib.hid hi
  have H0 := Lib.hid hz0
  have H1 := Lib.hid hz1
  have H2 := Lib.hid hz2
  have HL := Lib.hid hl
  have kw : IntKind.u64.wrap (t.length : Int) = (t.length : Int) := IntWalk.u64_in _ ⟨by omega, by omega⟩
  have e1 := key_size t
  have E1 := Lib.hid e1
  clear hi hz0 hz1 hz2 hl e1
  go_enter Try.func26, Try.ntmps26
  go_wp2_with fail
  refine (rput_at A c l.length l B 1 t.length _ rfl HL.out hB (by omega) (by omega) (by omega)).mono ?_
  rintro e w2 ⟨v2, rfl, hown2, hbel2⟩
  have HO2 := Lib.hid hown2
  have HB2 := Lib.hid hbel2
  have hsz3 : w.heap.size ≤ w2.heap.size := hbel2.size
  have hlen : (l ++ be 1 t.length).length + (⟨t.toArray⟩ : ByteArray).size ≤ 140737488355328 := by rw [E1.out, List.length_append, be_length]; omega
  have HLen := Lib.hid hlen
  clear hown2 hbel2 hlen
  go_wp2_with (at_builtin; refine Lib.wpList_append_own_string _ rfl _ _ 23 9 rfl w.heap.size 5 i0 Try.underlying23 Try.underlying9 HI.out H0.out H1.out H2.out _ _ _ rfl HO2.out ⟨t.toArray⟩ rfl (room63 HLen.out) HLen.out hsz3 ?_; intro v3 w3 hown3 hg _)
  rw [strCells_B8, ← B8_append, E1.out, ← List.length_append, List.append_assoc] at hown3
  have hbel3 := HB2.out.grown hg hsz3 (fun k hk => (HO2.out.lt k hk).1)
  go_ret
  exact ⟨_, rfl, hown3, hbel3⟩

def kyR (k : Int) (A B C : List UInt8) (id : Nat) : Array Value := #[.int .i64 k, .string ⟨A.toArray⟩, .string ⟨B.toArray⟩, .string ⟨C.toArray⟩, .int .u64 id]
def nameB (s : List UInt8) : Bool := decide (1 ≤ s.length) && decide (s.length ≤ 30)
theorem nameB_is (s : List UInt8) : nameB s = namedB s true := by
  unfold nameB namedB
  rcases s with _ | ⟨c, s⟩
  · rfl
  · simp
theorem named_no (s : List UInt8) : namedB s false = s.isEmpty := by
  unfold namedB
  rcases s with _ | ⟨c, s⟩
  · rfl
  · simp
theorem ok_kind (k : Int) (A B C : List UInt8) (id : Nat) : okK k A B C id =
    if k = 1 ∨ k = 2 then nameB A && (B.isEmpty && (C.isEmpty && decide (id = 0)))
    else if k = 3 then nameB A && (nameB B && (decide (C.length ≤ 60) && decide (id = 0)))
    else if k = 4 then A.isEmpty && (B.isEmpty && (C.isEmpty && decide (0 < id)))
    else if k = 5 then nameB A && (B.isEmpty && (C.isEmpty && decide (0 < id))) else false := by
  have c0 : ∀ C : List UInt8, (decide (C.length ≤ 60) && C.isEmpty) = C.isEmpty := by
    intro C
    rcases C with _ | ⟨c, C⟩ <;> simp
  have i1 : (decide (id ≠ 0) == true) = decide (0 < id) := by rw [Bool.eq_iff_iff]; simp; omega
  have i0 : (decide (id ≠ 0) == false) = decide (id = 0) := by rw [Bool.eq_iff_iff]; simp
  unfold okK fitsB
  rcases pk_cases k with rfl | rfl | rfl | rfl | rfl | ⟨h1, h2, h3, h4, h5, e1, e2, e3, e4⟩
  · rw [show pkA 1 = true from rfl, show pkB 1 = false from rfl, show pkI 1 = false from rfl, show pkOk 1 = true from rfl, named_no, ← nameB_is, i0, Bool.false_or, if_pos (by decide), Bool.true_and, Bool.and_assoc, Bool.and_assoc, Bool.and_assoc, ← Bool.and_assoc (decide _), c0]
  · rw [show pkA 2 = true from rfl, show pkB 2 = false from rfl, show pkI 2 = false from rfl, show pkOk 2 = true from rfl, named_no, ← nameB_is, i0, Bool.false_or, if_pos (by decide), Bool.true_and, Bool.and_assoc, Bool.and_assoc, Bool.and_assoc, ← Bool.and_assoc (decide _), c0]
  · rw [show pkA 3 = true from rfl, show pkB 3 = true from rfl, show pkI 3 = false from rfl, show pkOk 3 = true from rfl, ← nameB_is, ← nameB_is, i0, Bool.true_or, if_neg (by decide), if_pos rfl, Bool.true_and, Bool.and_true, Bool.and_assoc, Bool.and_assoc]
  · rw [show pkA 4 = false from rfl, show pkB 4 = false from rfl, show pkI 4 = true from rfl, show pkOk 4 = true from rfl, named_no, named_no, i1, Bool.false_or, if_neg (by decide), if_neg (by decide), if_pos rfl, Bool.true_and, Bool.and_assoc, Bool.and_assoc, Bool.and_assoc, ← Bool.and_assoc (decide _), c0]
  · rw [show pkA 5 = true from rfl, show pkB 5 = false from rfl, show pkI 5 = true from rfl, show pkOk 5 = true from rfl, named_no, ← nameB_is, i1, Bool.false_or, if_neg (by decide), if_neg (by decide), if_neg (by decide), if_pos rfl, Bool.true_and, Bool.and_assoc, Bool.and_assoc, Bool.and_assoc, ← Bool.and_assoc (decide _), c0]
  · rw [e1, if_neg (by omega), if_neg h3, if_neg h4, if_neg h5]; rfl
set_option maxHeartbeats 8000000 in
theorem rkeyok_any (k : Int) (A B C : List UInt8) (id : Nat) (w : World) (hA : A.length ≤ maxLen) (hB : B.length ≤ maxLen) (hC : C.length ≤ maxLen) :
    Calls Try.prog 24 #[kyV k A B C id] w fun e w' => e = .returned (.bool (okK k A B C id)) ∧ Below w.heap.size w w' := by
  unfold maxLen at hA hB hC
  have sA := key_size A
  have sB := key_size B
  have sC := key_size C
  have okk := ok_kind k A B C id
  obtain ⟨R, hR⟩ : ∃ R, R = okK k A B C id := ⟨_, rfl⟩
  rw [← hR] at okk
  rw [← hR]
  obtain ⟨a, ha⟩ : ∃ a, a = nameB A := ⟨_, rfl⟩
  obtain ⟨b, hb⟩ : ∃ b, b = nameB B := ⟨_, rfl⟩
  rw [← ha, ← hb] at okk
  have HA := Lib.hid ha
  have HB' := Lib.hid hb
  have OKK := Lib.hid okk
  obtain ⟨W0, hW0⟩ : ∃ W, W = w.alloc (.cells (kyR k A B C id) 28) := ⟨_, rfl⟩
  have K0 : Hid (Whole W0 w.heap.size 28 (kyR k A B C id) ∧ Below w.heap.size w W0) := Lib.hid (by rw [hW0]; exact ⟨Whole.new _ _ _, (Below.refl _ _).alloc (Nat.le_refl _) _⟩)
  have HW0 := Lib.hid hW0
  clear hR okk ha hb hW0
  unfold kyV
  go_enter Try.func24, Try.ntmps24
  go_upto_region 1 with fail
  have e0 := HW0.out
  unfold kyR at e0
  rw [← e0]
  clear e0 HW0
  go_cut [3, 4] (fun p q wx => p = .bool a ∧ q = .bool b ∧ Whole wx w.heap.size 28 (kyR k A B C id) ∧ Below w.heap.size w wx)
  case first =>
    obtain ⟨c0, c1, c2, c3, c4⟩ := five12 K0.out.1
    have DR : Hid (∀ n, Whole (W0.drewN n) w.heap.size 28 (kyR k A B C id) ∧ Below w.heap.size w (W0.drewN n)) := Lib.hid fun n => ⟨K0.out.1, ⟨K0.out.2.os, K0.out.2.tape, K0.out.2.output, K0.out.2.size, K0.out.2.block⟩⟩
    rcases (show A.length < 1 ∨ (1 ≤ A.length ∧ A.length ≤ 30) ∨ 30 < A.length by omega) with h1 | h1 | h1
    · have dA1 : decide ((1 : Int) ≤ (A.length : Int)) = false := decide_eq_false (by omega)
      have dA2 : decide (((A.length : Nat) : Int) ≤ 30) = true := decide_eq_true (by omega)
      have dA3 : decide (1 ≤ A.length) = false := decide_eq_false (by omega)
      have dA4 : decide (A.length ≤ 30) = true := decide_eq_true (by omega)
      have dA5 : decide ((0 : Int) < (A.length : Int)) = false := decide_eq_false (by omega)
      rcases (show B.length < 1 ∨ (1 ≤ B.length ∧ B.length ≤ 30) ∨ 30 < B.length by omega) with h2 | h2 | h2
      · have dB1 : decide ((1 : Int) ≤ (B.length : Int)) = false := decide_eq_false (by omega)
        have dB2 : decide (((B.length : Nat) : Int) ≤ 30) = true := decide_eq_true (by omega)
        have dB3 : decide (1 ≤ B.length) = false := decide_eq_false (by omega)
        have dB4 : decide (B.length ≤ 30) = true := decide_eq_true (by omega)
        have dB5 : decide ((0 : Int) < (B.length : Int)) = false := decide_eq_false (by omega)
        have ea : Hid (a = false) := Lib.hid (by rw [HA.out]; unfold nameB; rw [dA3, dA4]; rfl)
        have eb : Hid (b = false) := Lib.hid (by rw [HB'.out]; unfold nameB; rw [dB3, dB4]; rfl)
        go_quiet (fail)
        go_wp2_with fail
        go_meet
        exact ⟨by rw [ea.out], by rw [eb.out], DR.out _⟩
      · have dB1 : decide ((1 : Int) ≤ (B.length : Int)) = true := decide_eq_true (by omega)
        have dB2 : decide (((B.length : Nat) : Int) ≤ 30) = true := decide_eq_true (by omega)
        have dB3 : decide (1 ≤ B.length) = true := decide_eq_true (by omega)
        have dB4 : decide (B.length ≤ 30) = true := decide_eq_true (by omega)
        have dB5 : decide ((0 : Int) < (B.length : Int)) = true := decide_eq_true (by omega)
        have ea : Hid (a = false) := Lib.hid (by rw [HA.out]; unfold nameB; rw [dA3, dA4]; rfl)
        have eb : Hid (b = true) := Lib.hid (by rw [HB'.out]; unfold nameB; rw [dB3, dB4]; rfl)
        go_quiet (fail)
        go_wp2_with fail
        go_meet
        exact ⟨by rw [ea.out], by rw [eb.out], DR.out _⟩
      · have dB1 : decide ((1 : Int) ≤ (B.length : Int)) = true := decide_eq_true (by omega)
        have dB2 : decide (((B.length : Nat) : Int) ≤ 30) = false := decide_eq_false (by omega)
        have dB3 : decide (1 ≤ B.length) = true := decide_eq_true (by omega)
        have dB4 : decide (B.length ≤ 30) = false := decide_eq_false (by omega)
        have dB5 : decide ((0 : Int) < (B.length : Int)) = true := decide_eq_true (by omega)
        have ea : Hid (a = false) := Lib.hid (by rw [HA.out]; unfold nameB; rw [dA3, dA4]; rfl)
        have eb : Hid (b = false) := Lib.hid (by rw [HB'.out]; unfold nameB; rw [dB3, dB4]; rfl)
        go_quiet (fail)
        go_wp2_with fail
        go_meet
        exact ⟨by rw [ea.out], by rw [eb.out], DR.out _⟩
    · have dA1 : decide ((1 : Int) ≤ (A.length : Int)) = true := decide_eq_true (by omega)
      have dA2 : decide (((A.length : Nat) : Int) ≤ 30) = true := decide_eq_true (by omega)
      have dA3 : decide (1 ≤ A.length) = true := decide_eq_true (by omega)
      have dA4 : decide (A.length ≤ 30) = true := decide_eq_true (by omega)
      have dA5 : decide ((0 : Int) < (A.length : Int)) = true := decide_eq_true (by omega)
      rcases (show B.length < 1 ∨ (1 ≤ B.length ∧ B.length ≤ 30) ∨ 30 < B.length by omega) with h2 | h2 | h2
      · have dB1 : decide ((1 : Int) ≤ (B.length : Int)) = false := decide_eq_false (by omega)
        have dB2 : decide (((B.length : Nat) : Int) ≤ 30) = true := decide_eq_true (by omega)
        have dB3 : decide (1 ≤ B.length) = false := decide_eq_false (by omega)
        have dB4 : decide (B.length ≤ 30) = true := decide_eq_true (by omega)
        have dB5 : decide ((0 : Int) < (B.length : Int)) = false := decide_eq_false (by omega)
        have ea : Hid (a = true) := Lib.hid (by rw [HA.out]; unfold nameB; rw [dA3, dA4]; rfl)
        have eb : Hid (b = false) := Lib.hid (by rw [HB'.out]; unfold nameB; rw [dB3, dB4]; rfl)
        go_quiet (fail)
        go_wp2_with fail
        go_meet
        exact ⟨by rw [ea.out], by rw [eb.out], DR.out _⟩
      · have dB1 : decide ((1 : Int) ≤ (B.length : Int)) = true := decide_eq_true (by omega)
        have dB2 : decide (((B.length : Nat) : Int) ≤ 30) = true := decide_eq_true (by omega)
        have dB3 : decide (1 ≤ B.length) = true := decide_eq_true (by omega)
        have dB4 : decide (B.length ≤ 30) = true := decide_eq_true (by omega)
        have dB5 : decide ((0 : Int) < (B.length : Int)) = true := decide_eq_true (by omega)
        have ea : Hid (a = true) := Lib.hid (by rw [HA.out]; unfold nameB; rw [dA3, dA4]; rfl)
        have eb : Hid (b = true) := Lib.hid (by rw [HB'.out]; unfold nameB; rw [dB3, dB4]; rfl)
        go_quiet (fail)
        go_wp2_with fail
        go_meet
        exact ⟨by rw [ea.out], by rw [eb.out], DR.out _⟩
      · have dB1 : decide ((1 : Int) ≤ (B.length : Int)) = true := decide_eq_true (by omega)
        have dB2 : decide (((B.length : Nat) : Int) ≤ 30) = false := decide_eq_false (by omega)
        have dB3 : decide (1 ≤ B.length) = true := decide_eq_true (by omega)
        have dB4 : decide (B.length ≤ 30) = false := decide_eq_false (by omega)
        have dB5 : decide ((0 : Int) < (B.length : Int)) = true := decide_eq_true (by omega)
        have ea : Hid (a = true) := Lib.hid (by rw [HA.out]; unfold nameB; rw [dA3, dA4]; rfl)
        have eb : Hid (b = false) := Lib.hid (by rw [HB'.out]; unfold nameB; rw [dB3, dB4]; rfl)
        go_quiet (fail)
        go_wp2_with fail
        go_meet
        exact ⟨by rw [ea.out], by rw [eb.out], DR.out _⟩
    · have dA1 : decide ((1 : Int) ≤ (A.length : Int)) = true := decide_eq_true (by omega)
      have dA2 : decide (((A.length : Nat) : Int) ≤ 30) = false := decide_eq_false (by omega)
      have dA3 : decide (1 ≤ A.length) = true := decide_eq_true (by omega)
      have dA4 : decide (A.length ≤ 30) = false := decide_eq_false (by omega)
      have dA5 : decide ((0 : Int) < (A.length : Int)) = true := decide_eq_true (by omega)
      rcases (show B.length < 1 ∨ (1 ≤ B.length ∧ B.length ≤ 30) ∨ 30 < B.length by omega) with h2 | h2 | h2
      · have dB1 : decide ((1 : Int) ≤ (B.length : Int)) = false := decide_eq_false (by omega)
        have dB2 : decide (((B.length : Nat) : Int) ≤ 30) = true := decide_eq_true (by omega)
        have dB3 : decide (1 ≤ B.length) = false := decide_eq_false (by omega)
        have dB4 : decide (B.length ≤ 30) = true := decide_eq_true (by omega)
        have dB5 : decide ((0 : Int) < (B.length : Int)) = false := decide_eq_false (by omega)
        have ea : Hid (a = false) := Lib.hid (by rw [HA.out]; unfold nameB; rw [dA3, dA4]; rfl)
        have eb : Hid (b = false) := Lib.hid (by rw [HB'.out]; unfold nameB; rw [dB3, dB4]; rfl)
        go_quiet (fail)
        go_wp2_with fail
        go_meet
        exact ⟨by rw [ea.out], by rw [eb.out], DR.out _⟩
      · have dB1 : decide ((1 : Int) ≤ (B.length : Int)) = true := decide_eq_true (by omega)
        have dB2 : decide (((B.length : Nat) : Int) ≤ 30) = true := decide_eq_true (by omega)
        have dB3 : decide (1 ≤ B.length) = true := decide_eq_true (by omega)
        have dB4 : decide (B.length ≤ 30) = true := decide_eq_true (by omega)
        have dB5 : decide ((0 : Int) < (B.length : Int)) = true := decide_eq_true (by omega)
        have ea : Hid (a = false) := Lib.hid (by rw [HA.out]; unfold nameB; rw [dA3, dA4]; rfl)
        have eb : Hid (b = true) := Lib.hid (by rw [HB'.out]; unfold nameB; rw [dB3, dB4]; rfl)
        go_quiet (fail)
        go_wp2_with fail
        go_meet
        exact ⟨by rw [ea.out], by rw [eb.out], DR.out _⟩
      · have dB1 : decide ((1 : Int) ≤ (B.length : Int)) = true := decide_eq_true (by omega)
        have dB2 : decide (((B.length : Nat) : Int) ≤ 30) = false := decide_eq_false (by omega)
        have dB3 : decide (1 ≤ B.length) = true := decide_eq_true (by omega)
        have dB4 : decide (B.length ≤ 30) = false := decide_eq_false (by omega)
        have dB5 : decide ((0 : Int) < (B.length : Int)) = true := decide_eq_true (by omega)
        have ea : Hid (a = false) := Lib.hid (by rw [HA.out]; unfold nameB; rw [dA3, dA4]; rfl)
        have eb : Hid (b = false) := Lib.hid (by rw [HB'.out]; unfold nameB; rw [dB3, dB4]; rfl)
        go_quiet (fail)
        go_wp2_with fail
        go_meet
        exact ⟨by rw [ea.out], by rw [eb.out], DR.out _⟩
  case rest =>
  obtain ⟨rfl, rfl, hk⟩ := hcut
  obtain ⟨w1, hw1⟩ : ∃ w1, w1 = wc := ⟨_, rfl⟩
  rw [← hw1] at hk
  rw [← hw1]
  have HB := Lib.hid hk.2
  obtain ⟨c0, c1, c2, c3, c4⟩ := five12 hk.1
  clear hk hw1 K0 HA HB'
  rcases pk_cases k with rfl | rfl | rfl | rfl | rfl | ⟨h1, h2, h3, h4, h5, _⟩
  · have OK : Hid (R = (a && (B.isEmpty && (C.isEmpty && decide (id = 0))))) := Lib.hid (by rw [OKK.out]; rw [if_pos (by decide)])
    clear OKK
    cases a with
    | false =>
      go_wp2_with fail
      go_ret
      exact ⟨by rw [OK.out]; rfl, HB.out⟩
    | true =>
    cases yB : B.isEmpty with
    | false =>
      have tB : (⟨B.toArray⟩ : ByteArray).toList.isEmpty = false := (empty_is B).trans yB
      have uB : ¬ B = [] := by intro h; rw [h] at yB; cases yB
      have YB := Lib.hid yB
      clear yB
      go_wp2_with fail
      go_ret
      exact ⟨by rw [OK.out, YB.out]; simp, HB.out⟩
    | true =>
    obtain rfl : B = [] := by simpa using yB
    clear yB
    cases yC : C.isEmpty with
    | false =>
      have tC : (⟨C.toArray⟩ : ByteArray).toList.isEmpty = false := (empty_is C).trans yC
      have uC : ¬ C = [] := by intro h; rw [h] at yC; cases yC
      have YC := Lib.hid yC
      clear yC
      go_wp2_with fail
      go_ret
      exact ⟨by rw [OK.out, YC.out]; simp, HB.out⟩
    | true =>
    obtain rfl : C = [] := by simpa using yC
    clear yC
    go_wp2_with fail
    go_ret
    exact ⟨ret_bool (by rw [OK.out]; rw [Bool.eq_iff_iff]; simp <;> omega), HB.out⟩
  · have OK : Hid (R = (a && (B.isEmpty && (C.isEmpty && decide (id = 0))))) := Lib.hid (by rw [OKK.out]; rw [if_pos (by decide)])
    clear OKK
    cases a with
    | false =>
      go_wp2_with fail
      go_ret
      exact ⟨by rw [OK.out]; rfl, HB.out⟩
    | true =>
    cases yB : B.isEmpty with
    | false =>
      have tB : (⟨B.toArray⟩ : ByteArray).toList.isEmpty = false := (empty_is B).trans yB
      have uB : ¬ B = [] := by intro h; rw [h] at yB; cases yB
      have YB := Lib.hid yB
      clear yB
      go_wp2_with fail
      go_ret
      exact ⟨by rw [OK.out, YB.out]; simp, HB.out⟩
    | true =>
    obtain rfl : B = [] := by simpa using yB
    clear yB
    cases yC : C.isEmpty with
    | false =>
      have tC : (⟨C.toArray⟩ : ByteArray).toList.isEmpty = false := (empty_is C).trans yC
      have uC : ¬ C = [] := by intro h; rw [h] at yC; cases yC
      have YC := Lib.hid yC
      clear yC
      go_wp2_with fail
      go_ret
      exact ⟨by rw [OK.out, YC.out]; simp, HB.out⟩
    | true =>
    obtain rfl : C = [] := by simpa using yC
    clear yC
    go_wp2_with fail
    go_ret
    exact ⟨ret_bool (by rw [OK.out]; rw [Bool.eq_iff_iff]; simp <;> omega), HB.out⟩
  · have OK : Hid (R = (a && (b && (decide (C.length ≤ 60) && decide (id = 0))))) := Lib.hid (by rw [OKK.out]; rw [if_neg (by decide), if_pos rfl])
    clear OKK
    cases a with
    | false =>
      go_wp2_with fail
      go_ret
      exact ⟨by rw [OK.out]; rfl, HB.out⟩
    | true =>
    cases b with
    | false =>
      go_wp2_with fail
      go_ret
      exact ⟨by rw [OK.out]; rfl, HB.out⟩
    | true =>
    by_cases y60 : ((C.length : Int) ≤ 60)
    rotate_left
    · have Y : Hid (decide (C.length ≤ 60) = false) := Lib.hid (decide_eq_false (by omega))
      go_wp2_with fail
      go_ret
      exact ⟨by rw [OK.out, Y.out]; simp, HB.out⟩
    have Y60 : Hid (decide (C.length ≤ 60) = true) := Lib.hid (decide_eq_true (by omega))
    go_wp2_with fail
    go_ret
    exact ⟨ret_bool (by rw [OK.out, Y60.out]; rw [Bool.eq_iff_iff]; simp <;> omega), HB.out⟩
  · have OK : Hid (R = (A.isEmpty && (B.isEmpty && (C.isEmpty && decide (0 < id))))) := Lib.hid (by rw [OKK.out]; rw [if_neg (by decide), if_neg (by decide), if_pos rfl])
    clear OKK
    cases yA : A.isEmpty with
    | false =>
      have tA : (⟨A.toArray⟩ : ByteArray).toList.isEmpty = false := (empty_is A).trans yA
      have uA : ¬ A = [] := by intro h; rw [h] at yA; cases yA
      have YA := Lib.hid yA
      clear yA
      go_wp2_with fail
      go_ret
      exact ⟨by rw [OK.out, YA.out]; simp, HB.out⟩
    | true =>
    obtain rfl : A = [] := by simpa using yA
    clear yA
    cases yB : B.isEmpty with
    | false =>
      have tB : (⟨B.toArray⟩ : ByteArray).toList.isEmpty = false := (empty_is B).trans yB
      have uB : ¬ B = [] := by intro h; rw [h] at yB; cases yB
      have YB := Lib.hid yB
      clear yB
      go_wp2_with fail
      go_ret
      exact ⟨by rw [OK.out, YB.out]; simp, HB.out⟩
    | true =>
    obtain rfl : B = [] := by simpa using yB
    clear yB
    cases yC : C.isEmpty with
    | false =>
      have tC : (⟨C.toArray⟩ : ByteArray).toList.isEmpty = false := (empty_is C).trans yC
      have uC : ¬ C = [] := by intro h; rw [h] at yC; cases yC
      have YC := Lib.hid yC
      clear yC
      go_wp2_with fail
      go_ret
      exact ⟨by rw [OK.out, YC.out]; simp, HB.out⟩
    | true =>
    obtain rfl : C = [] := by simpa using yC
    clear yC
    go_wp2_with fail
    go_ret
    exact ⟨ret_bool (by rw [OK.out]; rw [Bool.eq_iff_iff]; simp <;> omega), HB.out⟩
  · have OK : Hid (R = (a && (B.isEmpty && (C.isEmpty && decide (0 < id))))) := Lib.hid (by rw [OKK.out]; rw [if_neg (by decide), if_neg (by decide), if_neg (by decide), if_pos rfl])
    clear OKK
    cases a with
    | false =>
      go_wp2_with fail
      go_ret
      exact ⟨by rw [OK.out]; rfl, HB.out⟩
    | true =>
    cases yB : B.isEmpty with
    | false =>
      have tB : (⟨B.toArray⟩ : ByteArray).toList.isEmpty = false := (empty_is B).trans yB
      have uB : ¬ B = [] := by intro h; rw [h] at yB; cases yB
      have YB := Lib.hid yB
      clear yB
      go_wp2_with fail
      go_ret
      exact ⟨by rw [OK.out, YB.out]; simp, HB.out⟩
    | true =>
    obtain rfl : B = [] := by simpa using yB
    clear yB
    cases yC : C.isEmpty with
    | false =>
      have tC : (⟨C.toArray⟩ : ByteArray).toList.isEmpty = false := (empty_is C).trans yC
      have uC : ¬ C = [] := by intro h; rw [h] at yC; cases yC
      have YC := Lib.hid yC
      clear yC
      go_wp2_with fail
      go_ret
      exact ⟨by rw [OK.out, YC.out]; simp, HB.out⟩
    | true =>
    obtain rfl : C = [] := by simpa using yC
    clear yC
    go_wp2_with fail
    go_ret
    exact ⟨ret_bool (by rw [OK.out]; rw [Bool.eq_iff_iff]; simp <;> omega), HB.out⟩
  · have OK : Hid (R = false) := Lib.hid (by rw [OKK.out, if_neg (by omega), if_neg h3, if_neg h4, if_neg h5])
    clear OKK
    go_wp2_with fail
    go_ret
    exact ⟨ret_bool OK.out.symm, HB.out⟩
end Go.Proofs.Ytgdlgkbckblagaa
