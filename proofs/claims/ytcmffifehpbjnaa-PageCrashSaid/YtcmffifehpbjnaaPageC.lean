/- Layer 9: a page's sectors are written. -/
import Derived.Test.YtcmffifehpbjnaaPageB
import Derived.Test.YtcmffifehpbjnaaSectL
import Derived.Deep.DeepCutAuto
namespace Go.Proofs.Ytcmffifehpbjnaa
open Go.RowKit Go.Maps
set_option maxRecDepth 100000
set_option linter.unusedSimpArgs false
set_option linter.unusedVariables false
section
variable {B g : Nat} {X : Nat → Prop} {w0 W : World} {S : Dv}
theorem splice_short (P : List UInt8) (h : P.length ≤ 64) : splice (B8 zSec.1) 0 (B8 P) = B8 ((P ++ List.replicate 64 0).take 64) := by
  unfold splice
  rw [List.take_zero, List.nil_append, Nat.zero_add, B8_length, List.take_append, List.take_of_length_le h, B8_append]
  congr 1
  unfold B8
  rw [show zSec.1 = List.replicate 64 0 from rfl, ← List.map_drop, List.drop_replicate, List.take_replicate]
  congr 2
  omega
theorem splice_secG (b : List UInt8) (k : Nat) : splice (B8 zSec.1) 0 (B8 ((b.drop (64 * k)).take 64)) = B8 (secG b k).1 := splice_short _ (by rw [List.length_take]; omega)
def WpAt (B g : Nat) (X : Nat → Prop) (w0 W : World) (S : Dv) (id : Nat) (b : List UInt8) (vb vk : Value) (wr : World) : Prop :=
  ∃ (k : Nat) (S' : Dv) (A : Option Addr) (c : Nat), vb = .slice A (b.drop (64 * k)).length c ∧ vk = .int .i64 (k : Int) ∧ k ≤ 8 ∧ At B X w0 g S' wr ∧ KeptX X W wr ∧ LiesP wr X A (B8 (b.drop (64 * k))) ∧ (b.drop (64 * k)).length ≤ c ∧ c ≤ maxLen ∧ wpP nmP id b 0 8 S = wpP nmP id b k (8 - k) S'
set_option maxHeartbeats 4000000 in
theorem wpage_any (h : At B X w0 g S W) (id : Nat) (hid : id ≤ 1000000) (b : List UInt8) (A : Option Addr) (c : Nat) (hl : LiesP W X A (B8 b)) (hc1 : b.length ≤ c) (hc2 : c ≤ maxLen) :
    Calls Try.prog 34 #[ptr g, .int .i64 (id : Int), .slice A b.length c] W fun e w' => e = .returned (.int .i64 (wpP nmP id b 0 8 S).1) ∧ At B X w0 g (wpP nmP id b 0 8 S).2 w' ∧ KeptX X W w' := by
  have H := Lib.hid h
  have HL := Lib.hid hl
  have HC := Lib.hid hc1
  have hwm : IntKind.i64.wrap ((id : Int) * 8) = (id : Int) * 8 := IntWalk.i64_in _ ⟨by omega, by omega⟩
  have ml : nmP.length ≤ maxLen := by show 1 ≤ maxLen; unfold maxLen; omega
  have ML := Lib.hid ml
  clear h hl ml hc1
  go_enter Try.func34, Try.ntmps34
  go_wp2_with fail
  go_loopw [2, 10] (fun vb vk wr => WpAt B g X w0 W S id b vb vk wr) (fun _ vk _ => 8 - (intOf vk).toNat)
  case atStart => exact ⟨0, S, A, c, by simp, rfl, by omega, H.out, KeptX.refl' _ _, by simpa using HL.out, by simpa using HC.out, hc2, rfl⟩
  case round =>
    obtain ⟨k, S', A', c', rfl, rfl, hk, hat, hkx, hlr, hc1', hc2', hwr⟩ := hrel
    have AT := Lib.hid hat
    have KX := Lib.hid hkx
    have LR := Lib.hid hlr
    have WR := Lib.hid hwr
    have HC1 := Lib.hid hc1'
    clear hat hkx hlr hwr
    by_cases hlt : k < 8
    · have hi1 : (k : Int) < 8 := by omega
      have hwa : IntKind.i64.wrap ((id : Int) * 8 + (k : Int)) = (id : Int) * 8 + (k : Int) := IntWalk.i64_in _ ⟨by omega, by omega⟩
      obtain ⟨R, hR⟩ : ∃ R, R = b.drop (64 * k) := ⟨_, rfl⟩
      obtain ⟨P, hP⟩ : ∃ P, P = R.take 64 := ⟨_, rfl⟩
      have hpl : P.length = min R.length 64 := by rw [hP, List.length_take]; omega
      have LR1 : Hid (LiesP wr X A' (B8 R)) := Lib.hid (by rw [hR]; exact LR.out)
      have hsp : Hid (splice (B8 zSec.1) 0 (B8 P) = B8 (secG b k).1) := Lib.hid (by rw [hP, hR]; exact splice_secG b k)
      rw [← hR] at hc1' ⊢
      have HR := Lib.hid hR
      have HP := Lib.hid hP
      have HPL := Lib.hid hpl
      obtain ⟨x, hx⟩ : ∃ x, x = secG b k := ⟨_, rfl⟩
      rw [← hx] at hsp
      have HX := Lib.hid hx
      obtain ⟨e1, S2, hS2⟩ : ∃ e1 S2, pWrite S' nmP ((id * 8 + k : Nat) : Int) x = (e1, S2) := ⟨_, _, rfl⟩
      have hrnd : wpP nmP id b 0 8 S = if e1 = 0 then wpP nmP id b (k + 1) (8 - (k + 1)) S2 else (e1, S2) := by
        rw [WR.out, show 8 - k = (8 - (k + 1)) + 1 by omega]
        conv => lhs; unfold wpP
        rw [← hx, hS2]
      have HRN := Lib.hid hrnd
      have hS2' : pWrite S' nmP ((id : Int) * 8 + (k : Int)) x = (e1, S2) := by rw [← hS2]; congr 1
      have HS2 := Lib.hid hS2'
      have hpr : (P.length : Int) ≤ (R.length : Int) := by omega
      have hpr2 : P.length ≤ R.length := by omega
      have hpc : (R.length : Int) ≤ (c' : Int) := by omega
      clear hR hP hpl hx hS2 hrnd hS2' LR
      go_upto_region 5 with fail
      obtain ⟨gs, hgs⟩ : ∃ gs, gs = wr.heap.size := ⟨_, rfl⟩
      rw [← hgs]
      refine wp_ren (fun W' => Below gs wr W' ∧ W'.heap[gs]? = some (.cells (csF zSec) 64 (0, 0)) ∧ W'.heap.size = gs + 1) ⟨?_, ?_, ?_⟩ ?_
      · rw [hgs]; exact (Below.refl _ _).alloc (Nat.le_refl _) _
      · rw [hgs]; exact heap_alloc_new wr _
      · rw [hgs]; simp
      rintro W5 ⟨hb5, hz5, hs5⟩
      have B5 := Lib.hid hb5
      have Z5 := Lib.hid hz5
      have L5 : Hid (LiesP W5 X A' (B8 R)) := Lib.hid (LR1.out.below (by rw [← hgs]; exact hb5))
      have GS := Lib.hid hgs
      clear hb5 hz5 hs5 hgs
      go_upto_region 6 with (refine wpList_copy_splice rfl (.tmp 14) (.tmp 15) 31 31 rfl 5 Try.underlying31 (by kernel_rfl) (some ⟨gs, 0, none⟩) A' 64 64 R.length c' rfl rfl gs 0 (B8 zSec.1) 64 Z5.out (B8 P) (by rw [B8_length]; exact HPL.out) (fun hpos => lies_pos9 (by rw [HP.out, show B8 (R.take 64) = (B8 R).take 64 by simp [B8]]; exact (L5.out.take 64).lies) hpos rfl) (by rw [B8_length, B8_length, HPL.out, zSec.2]; omega) (B8_one _) gs wr B5.out (Nat.le_refl _) ?_; intro w6 hr6 hb6; have B6 := Lib.hid hb6; have R6 : Hid (w6.heap[gs]? = some (.cells (csF x) 64 (0, 0))) := Lib.hid (by rw [hr6.out, hsp.out]; rfl); rw [B8_length]; clear hb6 hr6)
      have hb6 : Below wr.heap.size wr w6 := by rw [← GS.out]; exact B6.out
      have A6 := Lib.hid (AT.out.below hb6).1
      have K6 := Lib.hid (AT.out.below hb6).2
      have L6 := Lib.hid (LR1.out.below hb6)
      clear hb6
      go_upto_region 7 with (first
        | (with_reducible refine at_load36 ?_; go_must (refine wpList_load64 rfl (.tmp 8) rfl gs x rfl R6.out ?_))
        | (go_at_call 30; go_must (refine (at_write A6.out nmP ML.out ((id : Int) * 8 + (k : Int)) x e1 HS2.out).mono ?_); rintro e w7 ⟨rfl, h7, k7⟩; have A7 := Lib.hid h7; have K7 := Lib.hid (KX.out.trans' (K6.out.trans' k7)); have L7 := Lib.hid (L6.out.kept (fun i _ hi => k7.1 i hi) k7.2); clear h7 k7))
      by_cases he : e1 = 0
      · subst he
        have hRd : R.drop P.length = b.drop (64 * (k + 1)) := by
          rw [HR.out, List.drop_drop]
          have h1 := HPL.out
          rw [HR.out, List.length_drop] at h1
          rcases Nat.lt_or_ge b.length (64 * k + 64) with h2 | h2
          · rw [List.drop_of_length_le (by omega), List.drop_of_length_le (by omega)]
          · congr 1
            omega
        have HRD := Lib.hid hRd
        have hln : Hid (R.length - P.length = (b.drop (64 * (k + 1))).length) := Lib.hid (by rw [← hRd, List.length_drop])
        clear hRd
        go_wp2_with fail
        go_roundw
        case rel =>
          have hL := L7.out.drop P.length c' (by rw [B8_length]; exact hpr2) (by rw [B8_length]; exact hc1')
          rw [show (B8 R).drop P.length = B8 (R.drop P.length) by simp [B8], HRD.out] at hL
          refine ⟨k + 1, S2, _, c' - P.length, by rw [← hln.out], by go_num, by omega, A7.out, K7.out, hL, by rw [← hln.out]; omega, by omega, by have := HRN.out; rwa [if_pos rfl] at this⟩
        case measure => simp [intOf]; omega
      · have E1 : Hid (wpP nmP id b 0 8 S = (e1, S2)) := Lib.hid (by have := HRN.out; rwa [if_neg he] at this)
        go_wp2_with fail
        all_goals
          go_ret
          rw [E1.out]
          exact ⟨rfl, A7.out, K7.out⟩
    · have hk8 : k = 8 := by omega
      subst hk8
      have e3 : wpP nmP id b 0 8 S = (0, S') := by rw [WR.out]; rfl
      go_wp2_with fail
      go_ret
      rw [e3]
      exact ⟨rfl, AT.out, KX.out⟩
end
end Go.Proofs.Ytcmffifehpbjnaa
