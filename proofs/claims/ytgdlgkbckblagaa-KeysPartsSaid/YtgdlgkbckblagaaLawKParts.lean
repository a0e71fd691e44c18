/- Layer 12: the law of the parts of a key's text. -/
import Derived.Test.YtgdlgkbckblagaaKeyO
import Derived.Test.YtgdlgkbckblagaaKeyW
import Derived.Test.YtgdlgkbckblagaaRef
import Derived.Deep.RegionHeld3
import Derived.Deep.DeepMust
namespace Go.Proofs.Ytgdlgkbckblagaa
open Go.RowKit
set_option maxRecDepth 100000
set_option linter.unusedSimpArgs false
set_option linter.unusedVariables false

theorem cut_if (l : List UInt8) (k : Nat) (n : Int) (hn : n = (k : Int)) : (⟨l.toArray⟩ : ByteArray).extract 0 (if n < (l.length : Int) then n else (l.length : Int)).toNat = ⟨(l.take k).toArray⟩ := by
  subst hn
  by_cases h : (k : Int) < (l.length : Int)
  · rw [if_pos h, Int.toNat_natCast, cut_list12]
  · rw [if_neg h, Int.toNat_natCast, cut_list12, List.take_length, List.take_of_length_le (by omega)]
theorem nat_be1 (n : Nat) (h : n < 256) : be 1 n = [UInt8.ofNat n] := by
  simp [be, List.range_succ]
theorem oct_nat (n : Nat) (h : n < 256) : (UInt8.ofNat n).toNat = n := by
  rw [UInt8.toNat_ofNat']
  exact Nat.mod_eq_of_lt h
/-- the octets of a binding's key -/
theorem tx3 (A B C : List UInt8) (hA : A.length ≤ 30) : txK 3 A B C 0 = 3 :: UInt8.ofNat A.length :: (A ++ shortB B ++ shortB C) := by
  unfold txK shortB
  simp [pkA, pkB, pkI, nat_be1]
  rw [nat_be1 _ (by omega)]
  simp [be]
theorem tx5 (A : List UInt8) (id : Nat) (hA : A.length ≤ 30) : txK 5 A [] [] id = 5 :: UInt8.ofNat A.length :: (A ++ be 8 id) := by
  unfold txK shortB
  simp [pkA, pkB, pkI]
  rw [nat_be1 _ (by omega)]
  simp [be]
theorem tx4 (id : Nat) : txK 4 [] [] [] id = 4 :: be 8 id := by
  unfold txK shortB
  simp [pkA, pkB, pkI]
  simp [be]
theorem kp_num (S P : List UInt8) (id : Nat) (hS : S = P ++ be 8 id) (hid : id < 18446744073709551616) : nat (tk 8 (S.drop P.length)) = id := by
  rw [hS, List.drop_left, tk_yes (by rw [be_length]; exact Nat.le_refl _), List.take_of_length_le (by rw [be_length]; exact Nat.le_refl _)]
  exact nat_be8 id hid
set_option maxHeartbeats 4000000 in
theorem kparts_law (a b c : List UInt8) (id0 : Nat) (A : Option Addr) (cp : Nat) (l : List UInt8) (B : Nat) (w : World) (ha : a.length ≤ maxLen) (hb : b.length ≤ maxLen) (hc : c.length ≤ maxLen) (hi : id0 < 18446744073709551616) (hl : Lies w B A (B8 l)) (hB : B ≤ w.heap.size) (hlc : l.length ≤ cp) (hcm : cp ≤ maxLen) :
    Calls Try.prog 3 #[.string ⟨a.toArray⟩, .string ⟨b.toArray⟩, .string ⟨c.toArray⟩, .int .u64 id0, .slice A l.length cp] w fun e w' => e = .returned (.bool true) ∧ Below w.heap.size w w' := by
  have hlm : l.length ≤ maxLen := Nat.le_trans hlc hcm
  unfold maxLen at ha hb hc hcm hlm
  have HL := Lib.hid hl
  clear hl
  by_cases h4 : (l.length : Int) ≤ 10000
  · obtain ⟨A1, hA1⟩ : ∃ X, X = 97 :: a.take 29 := ⟨_, rfl⟩
    obtain ⟨B1, hB1⟩ : ∃ X, X = 98 :: b.take 29 := ⟨_, rfl⟩
    obtain ⟨C1, hC1⟩ : ∃ X, X = c.take 60 := ⟨_, rfl⟩
    obtain ⟨id, hid⟩ : ∃ x, x = max id0 1 := ⟨_, rfl⟩
    have xA := cut_if a 29 29 rfl
    have xB := cut_if b 29 29 rfl
    have xC := cut_if c 60 60 rfl
    have pA := put_front 97 (a.take 29)
    have pB := put_front 98 (b.take 29)
    rw [← hA1] at pA
    rw [← hB1] at pB
    rw [← hC1] at xC
    have zA : 1 ≤ A1.length ∧ A1.length ≤ 30 := by rw [hA1]; have := List.length_take_le 29 a; simp; omega
    have zB : 1 ≤ B1.length ∧ B1.length ≤ 30 := by rw [hB1]; have := List.length_take_le 29 b; simp; omega
    have zC : C1.length ≤ 60 := by rw [hC1]; exact List.length_take_le _ _
    have zi : 1 ≤ id ∧ id < 18446744073709551616 := by omega
    have sa := key_size a
    have sb := key_size b
    have sc := key_size c
    have XA := Lib.hid xA
    have XB := Lib.hid xB
    have XC := Lib.hid xC
    have PA := Lib.hid pA
    have PB := Lib.hid pB
    have HID := Lib.hid hid
    clear xA xB xC pA pB hA1 hB1 hC1 hid
    have neA : A1.isEmpty = false := by rcases A1 with _ | ⟨x, A1⟩; (simp at zA); rfl
    have neB : B1.isEmpty = false := by rcases B1 with _ | ⟨x, B1⟩; (simp at zB); rfl
    have fA : namedB A1 true = true := by unfold namedB; rw [neA, decide_eq_true zA.2]; rfl
    have fB : namedB B1 true = true := by unfold namedB; rw [neB, decide_eq_true zB.2]; rfl
    have o3 : okK 3 A1 B1 C1 0 = true := by
      unfold okK fitsB
      rw [show pkA 3 = true from rfl, show pkB 3 = true from rfl, show pkI 3 = false from rfl, fA, fB, decide_eq_true zC]; rfl
    have o5 : okK 5 A1 [] [] id = true := by
      unfold okK fitsB
      rw [show pkA 5 = true from rfl, show pkB 5 = false from rfl, show pkI 5 = true from rfl, fA, decide_eq_true (show id ≠ 0 by omega)]; rfl
    have o4 : okK 4 [] [] [] id = true := by
      unfold okK fitsB
      rw [show pkA 4 = false from rfl, show pkB 4 = false from rfl, show pkI 4 = true from rfl, decide_eq_true (show id ≠ 0 by omega)]; rfl
    obtain ⟨S3, hS3⟩ : ∃ X, X = txK 3 A1 B1 C1 0 := ⟨_, rfl⟩
    obtain ⟨S5, hS5⟩ : ∃ X, X = txK 5 A1 [] [] id := ⟨_, rfl⟩
    obtain ⟨S4, hS4⟩ : ∃ X, X = txK 4 [] [] [] id := ⟨_, rfl⟩
    have O3 := Lib.hid o3
    have O4 := Lib.hid o4
    have O5 := Lib.hid o5
    have HS3 := Lib.hid hS3
    have HS4 := Lib.hid hS4
    have HS5 := Lib.hid hS5
    clear neA neB fA fB o3 o4 o5 hS3 hS4 hS5
    go_enter Try.func3, Try.ntmps3
    go_upto_region 3 with fail
    go_cut [0, 1, 2] (fun p q r wx => p = .string ⟨A1.toArray⟩ ∧ q = .string ⟨B1.toArray⟩ ∧ r = .string ⟨C1.toArray⟩ ∧ Below w.heap.size w wx)
    case first =>
      have D : Hid (Below w.heap.size w w.drew) := Lib.hid (Below.refl _ _).drew
      go_wp2_with fail
      go_region
      rw [XA.out, XB.out, XC.out, PA.out, PB.out]
      generalize (if (29 : Int) < (a.length : Int) then 29 else (a.length : Int)) = m1
      generalize (if (29 : Int) < (b.length : Int) then 29 else (b.length : Int)) = m2
      generalize (if (60 : Int) < (c.length : Int) then 60 else (c.length : Int)) = m3
      go_wp2_with fail
      go_meet
      exact ⟨rfl, rfl, rfl, D.out⟩
    case rest =>
    obtain ⟨rfl, rfl, rfl, hb0⟩ := hcut
    obtain ⟨w0, hw0⟩ : ∃ w0, w0 = wc := ⟨_, rfl⟩
    rw [← hw0] at hb0
    rw [← hw0]
    have B0 := Lib.hid hb0
    clear hb0 hw0
    go_upto_region 4 with fail
    go_cut [3] (fun v wx => v = .int .u64 (id : Int) ∧ wx = w0)
    case first =>
      by_cases q : (id0 : Int) < 1
      · have e1 : Hid ((1 : Int) = (id : Int)) := Lib.hid (by have := HID.out; omega)
        go_wp2_with fail
        go_meet
        exact ⟨by rw [← e1.out], rfl⟩
      · have e1 : Hid ((id0 : Int) = (id : Int)) := Lib.hid (by have := HID.out; omega)
        go_wp2_with fail
        go_meet
        exact ⟨by rw [← e1.out], rfl⟩
    case rest =>
      obtain ⟨rfl, rfl⟩ := hcut
      have z0 := B0.out.size
      go_wp2_with fail
      refine (text_at 3 A1 B1 C1 0 _ true S3 (room63 (by omega)) (room63 (by omega)) (room63 (by omega)) O3.out HS3.out.symm).mono ?_
      rintro e w1 ⟨rfl, hb1⟩
      have B1' := Lib.hid (B0.out.trans (hb1.mono z0))
      have z1 := B1'.out.size
      clear hb1
      go_wp2_with fail
      refine (text_at 5 A1 [] [] id _ true S5 (room63 (by omega)) (Nat.zero_le _) (Nat.zero_le _) O5.out HS5.out.symm).mono ?_
      rintro e w2 ⟨rfl, hb2⟩
      have B2 := Lib.hid (B1'.out.trans (hb2.mono z1))
      have z2 := B2.out.size
      clear hb2
      go_wp2_with fail
      refine (text_at 4 [] [] [] id _ true S4 (Nat.zero_le _) (Nat.zero_le _) (Nat.zero_le _) O4.out HS4.out.symm).mono ?_
      rintro e w3 ⟨rfl, hb3⟩
      have B3 := Lib.hid (B2.out.trans (hb3.mono z2))
      have z3 := B3.out.size
      have L3 := Lib.hid (HL.out.below (B3.out.mono hB))
      have okm : okM A1.length C1.length 0 1 l.length = true := okM_is (by omega)
      obtain ⟨M, hM⟩ : ∃ X, X = msB A1 C1 [] 1 l := ⟨_, rfl⟩
      clear hb3
      go_wp2_with fail
      refine (msg_yes A1 C1 [] 1 1 A l.length cp l B _ rfl rfl L3.out (Nat.le_trans hB z3) (room63 (by omega)) (room63 (by omega)) (Nat.zero_le _) (by unfold maxLen; exact hlm) okm M hM.symm).mono ?_
      rintro e w4 ⟨v4, rfl, ho4, hb4⟩
      obtain ⟨A4, c4, rfl, hc4, hm4⟩ := own_form ho4
      have L4 := Lib.hid (Lies.own ho4 (Nat.le_refl _))
      have B4 := Lib.hid (B3.out.trans (hb4.mono z3))
      have z4 := B4.out.size
      have LL4 := Lib.hid (L3.out.below (hb4.mono (Nat.le_trans hB z3)))
      have y3 := key_size S3
      have y5 := key_size S5
      have y4 := key_size S4
      have x3 := tx3 A1 B1 C1 zA.2
      have x5 := tx5 A1 id zA.2
      have x4 := tx4 id
      rw [← HS3.out] at x3
      rw [← HS4.out] at x4
      rw [← HS5.out] at x5
      have n3 : (S3.length : Int) = 4 + (A1.length : Int) + (B1.length : Int) + (C1.length : Int) := by rw [x3]; simp [shortB_length]; omega
      have n5 : (S5.length : Int) = 10 + (A1.length : Int) := by rw [x5]; simp [be_length]; omega
      have n4 : (S4.length : Int) = 9 := by rw [x4]; simp [be_length]
      have nM : (M.length : Int) = 4 + (A1.length : Int) + (C1.length : Int) + (l.length : Int) := by rw [hM]; simp [msB, shortB_length, be_length]; omega
      have X3 := Lib.hid x3
      have X4 := Lib.hid x4
      have X5 := Lib.hid x5
      have HM := Lib.hid hM
      clear ho4 hb4 x3 x4 x5 hM okm
      go_upto_region 11 with fail
      have cv1 := Lib.run_convert_string_bytes (P := Try.prog) w4 9 23 5 ⟨S5.toArray⟩ Try.underlying9 Try.underlying23 Try.underlying5
      have LS1 := Lib.hid (bytes_lie w4 5 S5)
      have BS1 := bytes_below w4 5 ⟨S5.toArray⟩
      have y1 : (Lib.bytesWorld w4 5 ⟨S5.toArray⟩).heap.size = w4.heap.size + 1 := Lib.bytesWorld_size _ _ _
      generalize Lib.bytesWorld w4 5 ⟨S5.toArray⟩ = w5 at *
      generalize grownCap w4 (ByteArray.size ⟨S5.toArray⟩) 0 5 = d5 at *
      rw [y5] at cv1
      have B5 := Lib.hid (B4.out.trans (BS1.mono z4))
      have z5 := B5.out.size
      have L5 := Lib.hid (L4.out.below BS1)
      have LL5 := Lib.hid (LL4.out.below (BS1.mono (Nat.le_trans hB z4)))
      have Y1 := Lib.hid y1
      clear BS1 y1
      have e5 := kp_num S5 (5 :: UInt8.ofNat A1.length :: A1) id (by rw [X5.out]; simp) zi.2
      rw [show (5 :: UInt8.ofNat A1.length :: A1).length = 2 + A1.length by simp; omega] at e5
      have s5 : short 8 (S5.drop (2 + A1.length)) = false := short_no (by rw [List.length_drop]; omega)
      have E5 := Lib.hid e5
      have F5 := Lib.hid s5
      clear e5 s5
      go_wp2_with fail
      rw [show (2 : Int) + (A1.length : Int) = ((2 + A1.length : Nat) : Int) from by omega]
      refine (num_any (some ⟨w4.heap.size, 0, none⟩) d5 (w4.heap.size + 1) S5 (2 + A1.length) 8 _ LS1.out (by omega) (by decide) (by omega)).mono ?_
      rintro e w6 ⟨rfl, rfl⟩
      rw [E5.out, F5.out]
      clear cv1
      go_upto_region 12 with fail
      have cv2 := Lib.run_convert_string_bytes (P := Try.prog) w5 9 23 5 ⟨S4.toArray⟩ Try.underlying9 Try.underlying23 Try.underlying5
      have LS2 := Lib.hid (bytes_lie w5 5 S4)
      have BS2 := bytes_below w5 5 ⟨S4.toArray⟩
      have y2 : (Lib.bytesWorld w5 5 ⟨S4.toArray⟩).heap.size = w5.heap.size + 1 := Lib.bytesWorld_size _ _ _
      generalize Lib.bytesWorld w5 5 ⟨S4.toArray⟩ = w7 at *
      generalize grownCap w5 (ByteArray.size ⟨S4.toArray⟩) 0 5 = d7 at *
      rw [y4] at cv2
      have B7 := Lib.hid (B5.out.trans (BS2.mono z5))
      have z7 := B7.out.size
      have L7 := Lib.hid (L5.out.below (BS2.mono (by rw [Y1.out]; omega)))
      have LL7 := Lib.hid (LL5.out.below (BS2.mono (Nat.le_trans hB z5)))
      have Y2 := Lib.hid y2
      clear BS2 y2
      have e4 := kp_num S4 [4] id (by rw [X4.out]; simp) zi.2
      rw [show ([4] : List UInt8).length = 1 from rfl] at e4
      have s4 : short 8 (S4.drop 1) = false := short_no (by rw [List.length_drop]; omega)
      have E4 := Lib.hid e4
      have F4 := Lib.hid s4
      clear e4 s4
      go_wp2_with fail
      refine (num_any (some ⟨w5.heap.size, 0, none⟩) d7 (w5.heap.size + 1) S4 1 8 _ LS2.out (by omega) (by decide) (by omega)).mono ?_
      rintro e w8 ⟨rfl, rfl⟩
      rw [E4.out, F4.out]
      clear cv2
      go_upto_region 13 with fail
      obtain ⟨k, hk⟩ : ∃ k, k = 4 + A1.length + C1.length := ⟨_, rfl⟩
      have hMl : M.length = k + l.length := by omega
      have k3 : ∀ h : 0 < (⟨S3.toArray⟩ : ByteArray).size, (⟨S3.toArray⟩ : ByteArray)[0] = 3 := by rw [X3.out]; intro h; rfl
      have k31 : ∀ h : 1 < (⟨S3.toArray⟩ : ByteArray).size, ((⟨S3.toArray⟩ : ByteArray)[1]).toNat = A1.length := by rw [X3.out]; intro h; exact oct_nat _ (by omega)
      have k5 : ∀ h : 0 < (⟨S5.toArray⟩ : ByteArray).size, (⟨S5.toArray⟩ : ByteArray)[0] = 5 := by rw [X5.out]; intro h; rfl
      have k4 : ∀ h : 0 < (⟨S4.toArray⟩ : ByteArray).size, (⟨S4.toArray⟩ : ByteArray)[0] = 4 := by rw [X4.out]; intro h; rfl
      obtain ⟨q2, hq2⟩ : ∃ q, q = 2 + A1.length := ⟨_, rfl⟩
      have q2e : (2 : Int) + (A1.length : Int) = (q2 : Int) := by omega
      have q2w : IntKind.i64.wrap (q2 : Int) = (q2 : Int) := IntWalk.i64_in _ (by omega)
      have wA : IntKind.i64.wrap (A1.length : Int) = (A1.length : Int) := IntWalk.i64_in _ (by omega)
      have wk : IntKind.i64.wrap (k : Int) = (k : Int) := IntWalk.i64_in _ (by omega)
      have q2a : (2 : Int) ≤ (q2 : Int) := by omega
      have q2a' : 2 ≤ q2 := by omega
      have q2b : (q2 : Int) ≤ (S3.length : Int) := by omega
      have q2b' : q2 ≤ S3.length := by omega
      have k3e : (⟨S3.toArray⟩ : ByteArray).extract 2 q2 = ⟨A1.toArray⟩ := by
        rw [X3.out, hq2]
        apply ByteArray.ext
        simp [ByteArray.data_extract]
      have i30 : 0 < S3.length := by omega
      have i31 : 1 < S3.length := by omega
      have i31' : (1 : Int) < (S3.length : Int) := by omega
      have i30' : (0 : Int) < (S3.length : Int) := by omega
      have i40' : (0 : Int) < (S4.length : Int) := by omega
      have i50' : (0 : Int) < (S5.length : Int) := by omega
      have i40 : 0 < S4.length := by omega
      have i50 : 0 < S5.length := by omega
      have km : (M.length : Int) - (l.length : Int) = (k : Int) := by omega
      have ik : k ≤ M.length := by omega
      have ik' : (k : Int) ≤ (M.length : Int) := by omega
      have hMt : M.drop k = l := by
        rw [HM.out]
        unfold msB
        rw [hk]
        rw [List.drop_append_of_le_length (by simp [shortB_length, be_length]; omega), List.drop_of_length_le (by simp [shortB_length, be_length]; omega), List.nil_append]
      unfold maxLen at hm4
      have ic : k ≤ c4 := by omega
      have ic' : (k : Int) ≤ (c4 : Int) := by omega
      have imc : (M.length : Int) ≤ (c4 : Int) := by omega
      have cvm : ∀ w', Below w7.heap.size w7 w' → (convert 23 9 (.slice (if c4 = k then A4 else A4.map (·.add k)) (M.length - k) (c4 - k))).run Try.prog w' = .ok (.string ⟨l.toArray⟩) w' ∧ (convert 23 9 (.slice A l.length cp)).run Try.prog w' = .ok (.string ⟨l.toArray⟩) w' := by
        intro w' hb'
        have h1 := (L7.out.below (hb'.mono (by have := Y1.out; have := Y2.out; omega))).drop k c4 (by rw [B8_length]; exact ik) (by rw [B8_length]; exact hc4)
        rw [B8, ← List.map_drop, hMt] at h1
        have h2 := run_octets_string (P := Try.prog) 23 9 5 Try.underlying23 Try.underlying5 Try.underlying9 (l := l) h1 (c4 - k)
        rw [show l.length = M.length - k by omega] at h2
        exact ⟨h2, run_octets_string (P := Try.prog) 23 9 5 Try.underlying23 Try.underlying5 Try.underlying9 (LL7.out.below (hb'.mono (Nat.le_trans hB z7))) cp⟩
      have CVM := Lib.hid cvm
      clear n3 n4 n5 nM hk hMl hMt cvm hq2
      by_cases hck : c4 = k
      · have hl0 : l = [] := List.eq_nil_of_length_eq_zero (by omega)
        subst hl0
        rw [if_pos hck] at CVM
        have CV0 : Hid (∀ w', Below w7.heap.size w7 w' → (convert 23 9 (.slice A4 0 0)).run Try.prog w' = .ok (.string ⟨#[]⟩) w' ∧ (convert 23 9 (.slice A 0 cp)).run Try.prog w' = .ok (.string ⟨#[]⟩) w') := Lib.hid (by
          intro w' hb'
          have h := CVM.out w' hb'
          rw [show M.length - k = 0 by omega, show c4 - k = 0 by omega] at h
          exact h)
        clear CVM
        subst hck
        have hMc : M.length = c4 := by omega
        rw [hMc]
        clear km ik ik' imc ic ic'
        go_region_held3 (fun w' => (convert 23 9 (.slice A4 0 0)).run Try.prog w' = .ok (.string ⟨#[]⟩) w' ∧ (convert 23 9 (.slice A 0 cp)).run Try.prog w' = .ok (.string ⟨#[]⟩) w') (first | exact CV0.out _ (Below.refl _ _).drew | exact CV0.out _ B11.out) (first
          | (go_at_call 7; go_must (refine (awake12_any _).mono ?_); rintro e w11 ⟨rfl, hb11⟩; have B11 := Lib.hid ((Below.refl _ w7).drew.trans hb11); clear hb11))
        all_goals go_wp2_with fail
        all_goals go_ret
        all_goals exact ⟨by first | rfl | simp, B7.out.trans (B11.out.mono z7)⟩
      · rw [if_neg hck] at CVM
        go_region_held3 (fun w' => (convert 23 9 (.slice (A4.map (·.add k)) (M.length - k) (c4 - k))).run Try.prog w' = .ok (.string ⟨l.toArray⟩) w' ∧ (convert 23 9 (.slice A l.length cp)).run Try.prog w' = .ok (.string ⟨l.toArray⟩) w') (first | exact CVM.out _ (Below.refl _ _).drew | exact CVM.out _ B11.out) (first
          | (go_at_call 7; go_must (refine (awake12_any _).mono ?_); rintro e w11 ⟨rfl, hb11⟩; have B11 := Lib.hid ((Below.refl _ w7).drew.trans hb11); clear hb11))
        all_goals go_wp2_with fail
        all_goals go_ret
        all_goals exact ⟨by first | rfl | simp, B7.out.trans (B11.out.mono z7)⟩
  · go_enter Try.func3, Try.ntmps3
    go_wp2_with fail
    refine (awake12_any _).mono ?_
    rintro e w5 ⟨rfl, hb5⟩
    have C6 := Lib.hid hb5
    clear hb5
    go_wp2_with fail
    go_ret
    exact ⟨rfl, C6.out⟩
theorem kparts_all (a b c : ByteArray) (i : Int) (A : Option Addr) (l : List UInt8) (cp : Nat) (W : World) (ha : a.size ≤ maxLen) (hb : b.size ≤ maxLen) (hc : c.size ≤ maxLen) (hi : (Lit.int .u64 i).wf = true) (hlc : l.length ≤ cp) (hcm : cp ≤ maxLen) (hl : Lies W W.heap.size A (B8 l)) :
    Calls Try.prog 3 #[.string a, .string b, .string c, .int .u64 i, .slice A l.length cp] W fun e W' => e = .returned (.bool true) ∧ Below W.heap.size W W' := by
  obtain ⟨n, rfl, hn⟩ := wf_u64 hi
  have e : ∀ s : ByteArray, s.data.toList.length = s.size := fun s => by rw [Array.length_toList]; rfl
  exact kparts_law a.data.toList b.data.toList c.data.toList n A cp l W.heap.size W (by rw [e]; exact ha) (by rw [e]; exact hb) (by rw [e]; exact hc) hn hl (Nat.le_refl _) hlc hcm
end Go.Proofs.Ytgdlgkbckblagaa
