/- The law on finding keys, walked. -/
import Derived.Test.YtdjkkppefgppmaaNodeW
import Derived.Test.YtdjkkppefgppmaaNodeTm
import Derived.Test.YtdjkkppefgppmaaNodeK
import Derived.Deep.DeepCutAuto
import Derived.Deep.DeepMust
namespace Go.Proofs.Ytdjkkppefgppmaa
open Go.RowKit
set_option maxRecDepth 100000
set_option linter.unusedSimpArgs false
set_option linter.unusedVariables false

theorem findAll_any (leaf : Bool) (l : List Rw) (A : Option Addr) (n c B : Nat) (key : List UInt8) (p : Int × Bool) (w : World) (hn : n = l.length) (hp : findAll leaf l key = p) (ht : RowsAt w B l A c) (hB : B ≤ w.heap.size) (hf : Few l) :
    Calls Try.prog 19 #[.agg #[.bool leaf, .slice A n c], .string ⟨key.toArray⟩] w (FindIs p w) := by
  subst hn
  subst hp
  cases leaf
  · exact find_inner l A c B key w ht hB hf
  · exact find_leaf l A c B key w ht hB hf
def FiIn (l : List Rw) (S : List UInt8) (bv sv kv : Value) : Prop := ∃ k : Nat, k ≤ l.length ∧ kv = .int .i64 (k : Int) ∧ sv = .bool (hasB (l.take k) S) ∧ bv = .int .i64 (cntB (l.take k) S : Int)
def FiSome (l : List Rw) (v : Value) (wx W : World) : Prop := ∃ S : List UInt8, v = .string ⟨S.toArray⟩ ∧ wx = W

set_option maxHeartbeats 2000000 in
theorem find_law (leaf : Bool) (l : List Rw) (A : Option Addr) (c B : Nat) (key : List UInt8) (w : World) (ht : RowsAt w B l A c) (hB : B ≤ w.heap.size) (hf : Bear l) (hk : key.length ≤ maxLen) :
    Calls Try.prog 6 #[.agg #[.bool leaf, .slice A l.length c], .string ⟨key.toArray⟩] w fun e w' => e = .returned (.bool true) ∧ Below w.heap.size w w' := by
  have hb0 := (Below.refl w.heap.size w).alloc (Nat.le_refl _) (.cells #[.bool leaf, .slice A l.length c] 26)
  have BX := Lib.hid hb0
  have WX := Lib.hid (Whole.new w 26 #[.bool leaf, .slice A l.length c])
  have HT := Lib.hid (ht.below (hb0.mono hB))
  have HF := Lib.hid hf
  have sk := size_arr key
  have hz1 : w.heap.size < (w.alloc (.cells #[.bool leaf, .slice A l.length c] 26)).heap.size := by simp
  have HZ1 := Lib.hid hz1
  unfold maxLen at hk
  clear hb0 ht hf hz1
  go_enter Try.func6, Try.ntmps6
  go_wp2_with fail
  refine (small_any leaf l A c B _ HT.out (by have := HZ1.out; omega) HF.out).mono ?_
  rintro e w1 ⟨rfl, b1⟩
  have BX1 := Lib.hid (BX.out.trans (b1.mono BX.out.size))
  have W1 := WX.out.below b1 HZ1.out
  have x0 : w1.cell? ⟨w.heap.size, 0, none⟩ = some (.bool leaf) := W1.cell 0
  have x1 : w1.cell? ⟨w.heap.size, 1, none⟩ = some (.slice A l.length c) := W1.cell 1
  have HW1 := Lib.hid W1
  have HT1 := Lib.hid (HT.out.below (b1.mono (by have := HZ1.out; omega)))
  have hz : w.heap.size < w1.heap.size := W1.lt
  clear b1 W1
  obtain ⟨sm, hsm⟩ : ∃ sm, sm = smallN l := ⟨_, rfl⟩
  rw [← hsm]
  have HSM := Lib.hid hsm
  clear hsm
  by_cases hgo : sm = true ∧ key.length ≤ 300
  · obtain ⟨rfl, hk3⟩ := hgo
    have HFW := Lib.hid (small_few HSM.out.symm)
    go_wp2_with fail
    refine (tame_any leaf l A c B _ HT1.out (by omega) HFW.out).mono ?_
    rintro e w2 ⟨A2, c2, rfl, r2, ap2, b2⟩
    obtain ⟨L, hL⟩ : ∃ L, L = tameN leaf l := ⟨_, rfl⟩
    have hTO : TameOk leaf L := by rw [hL]; exact tameN_ok leaf l
    rw [← hL] at r2 ⊢
    have HTO := Lib.hid hTO
    have hfl := tame_few hTO
    have hLl := hfl.1
    have HFL := Lib.hid hfl
    have HRise := Lib.hid (okR_rise hTO.ok)
    have W2 := HW1.out.below b2 HW1.out.lt
    have y0 : w2.cell? ⟨w.heap.size, 0, none⟩ = some (.bool leaf) := W2.cell 0
    have y1 : w2.cell? ⟨w.heap.size, 1, none⟩ = some (.slice A l.length c) := W2.cell 1
    have yf0 := W2.frozen 0
    have yf1 := W2.frozen 1
    have BX2 := Lib.hid (BX1.out.trans (b2.mono BX1.out.size))
    have hL512 : L.length ≤ 300 := by have := sizeN_count leaf L; have := hTO.size; omega
    obtain ⟨N, hN⟩ : ∃ N, N = L.length := ⟨_, rfl⟩
    rw [← hN] at hL512 hLl ⊢
    have HN := Lib.hid hN
    have R3 : RowsAt ((w2.setCell ⟨w.heap.size, 0, none⟩ (.bool leaf)).setCell ⟨w.heap.size, 1, none⟩ (.slice A2 N c2)) w2.heap.size L A2 c2 := rows_set (rows_set r2 (ap2.less (by omega))) (ap2.less (by omega))
    have W3 : Whole ((w2.setCell ⟨w.heap.size, 0, none⟩ (.bool leaf)).setCell ⟨w.heap.size, 1, none⟩ (.slice A2 N c2)) w.heap.size 26 #[.bool leaf, .slice A2 N c2] := (W2.put 0 _).put 1 _
    have B3 : Below w.heap.size w ((w2.setCell ⟨w.heap.size, 0, none⟩ (.bool leaf)).setCell ⟨w.heap.size, 1, none⟩ (.slice A2 N c2)) := (BX2.out.setCell (Nat.le_refl _) _).setCell (Nat.le_refl _) _
    obtain ⟨V, hV⟩ : ∃ V, V = (w2.setCell ⟨w.heap.size, 0, none⟩ (.bool leaf)).setCell ⟨w.heap.size, 1, none⟩ (.slice A2 N c2) := ⟨_, rfl⟩
    have zV : V.heap.size = w2.heap.size := by rw [hV]; simp
    rw [← hV] at R3 W3 B3
    have HR3 := Lib.hid (R3.more (show w2.heap.size ≤ V.heap.size by omega))
    have HW3 := Lib.hid W3
    have HB3 := Lib.hid B3
    have HV := Lib.hid hV
    clear hN r2 ap2 b2 hL hTO hfl W2 R3 W3 B3 hV zV x0 x1
    rcases Nat.eq_zero_or_pos N with h0 | h0
    · have hnil : L = [] := List.eq_nil_of_length_eq_zero (by rw [← HN.out]; exact h0)
      subst hnil
      subst h0
      go_wp2_with fail
      rw [← HV.out]
      refine (findAll_any leaf [] A2 0 c2 V.heap.size key (0, false) _ rfl (findAll_nil leaf key) HR3.out (Nat.le_refl _) few_nil).mono ?_
      rintro e w4 ⟨rfl, b4⟩
      have B4 := Lib.hid (HB3.out.trans (b4.mono HB3.out.size))
      clear b4
      go_wp2_with fail
      refine (awake10_any _).mono ?_
      rintro e w5 ⟨rfl, b5⟩
      have B5 := Lib.hid (B4.out.trans (b5.mono B4.out.size))
      clear b5
      go_wp2_with fail
      go_ret
      exact ⟨rfl, B5.out⟩
    · have hN0 : ((N : Int) == 0) = false := beq_false_of_ne (by omega)
      go_wp2_with fail
      rw [← HV.out]
      clear y0 y1 yf0 yf1
      go_loopw [7] (fun iv wr => ∃ i : Int, iv = .int .i64 i ∧ -1 ≤ i ∧ i ≤ (N : Int) ∧ Below V.heap.size V wr) (fun iv _ => (N + 1) - (intOf iv + 1).toNat)
      case atStart => exact ⟨-1, rfl, by omega, by omega, Below.refl _ _⟩
      case round =>
        obtain ⟨i, rfl, hi1, hi2, hbel⟩ := hrel
        have hb := Lib.hid hbel
        have WR := HW3.out.below hbel HW3.out.lt
        have x0 : wr.cell? ⟨w.heap.size, 0, none⟩ = some (.bool leaf) := WR.cell 0
        have x1 : wr.cell? ⟨w.heap.size, 1, none⟩ = some (.slice A2 N c2) := WR.cell 1
        have RR := Lib.hid (HR3.out.below hbel)
        have BR := Lib.hid (HB3.out.trans (hbel.mono HB3.out.size))
        have VR := hbel.size
        clear hbel WR
        by_cases hlt : i < (N : Int)
        · go_upto_if 54 with fail
          go_cut [8] (fun v wx => FiSome L v wx wr)
          case first =>
            by_cases h0i : 0 ≤ i
            · obtain ⟨m, rfl⟩ : ∃ m : Nat, i = (m : Int) := ⟨i.toNat, by omega⟩
              have hm : m < L.length := by rw [← HN.out]; omega
              obtain ⟨b, o, rfl, hbb, c0, c1, c2'⟩ := lies_rw RR.out.2.2 m hm
              obtain ⟨r, hr⟩ : ∃ r, r = L[m] := ⟨_, rfl⟩
              rw [← hr] at c0
              have hmN : m < N := by omega
              clear hr c1 c2' hm
              go_wp2_with fail
              go_meet
              exact ⟨r.key, rfl, rfl⟩
            · go_wp2_with fail
              go_meet
              exact ⟨key, rfl, rfl⟩
          case rest =>
            obtain ⟨S, rfl, hwc⟩ := hcut
            subst hwc
            clear HV
            obtain ⟨wo, hwo⟩ : ∃ wo : World, wo = wc := ⟨_, rfl⟩
            subst hwo
            go_wp2_with fail
            go_loop [9, 10, 11] (fun bv sv kv => FiIn L S bv sv kv) (fun _ _ kv => N - (intOf kv).toNat)
            case atStart => exact ⟨0, Nat.zero_le _, rfl, rfl, rfl⟩
            case round =>
              obtain ⟨k, hk', rfl, rfl, rfl⟩ := hrel
              rw [← HN.out] at hk'
              obtain ⟨Cn, hCn⟩ : ∃ Cn, Cn = cntB (L.take k) S := ⟨_, rfl⟩
              obtain ⟨Hs, hHs⟩ : ∃ Hs, Hs = hasB (L.take k) S := ⟨_, rfl⟩
              have hCl : Cn ≤ N := by rw [hCn]; have := cntB_le (L.take k) S; rw [List.length_take] at this; omega
              rw [← hCn, ← hHs]
              have HC := Lib.hid hCn
              have HH := Lib.hid hHs
              clear hCn hHs
              by_cases hkl : k < N
              · have hkL : k < L.length := by rw [← HN.out]; exact hkl
                obtain ⟨b, o, rfl, hbb, c0, c1, c2'⟩ := lies_rw RR.out.2.2 k hkL
                obtain ⟨r, hr⟩ : ∃ r, r = L[k] := ⟨_, rfl⟩
                have st1 := cntB_take L S k hkL
                have st2 := hasB_take L S k hkL
                rw [← hr] at c0 st1 st2
                rw [← HC.out] at st1
                rw [← HH.out] at st2
                have S1 := Lib.hid st1
                have S2 := Lib.hid st2
                have lq := less_is r.key S
                have hkN : k + 1 ≤ L.length := by omega
                clear hr c1 c2' st1 st2 hkL
                by_cases hl : ltL r.key S = true
                · rw [hl] at lq
                  cases Hs with
                  | true =>
                    have E : Hid (FiIn L S (.int .i64 ((Cn : Int) + 1)) (.bool true) (.int .i64 ((k : Int) + 1))) := Lib.hid ⟨k + 1, hkN, by go_num, by rw [S2.out]; rfl, by rw [S1.out, if_pos hl]; go_num⟩
                    clear hkN
                    go_wp2_with fail
                    go_round
                    case rel => exact E.out
                    case measure => simp [intOf]; omega
                  | false =>
                    have E : Hid (FiIn L S (.int .i64 ((Cn : Int) + 1)) (.bool (r.key == S)) (.int .i64 ((k : Int) + 1))) := Lib.hid ⟨k + 1, hkN, by go_num, by rw [S2.out]; rfl, by rw [S1.out, if_pos hl]; go_num⟩
                    clear hkN
                    go_wp2_with fail
                    go_round
                    case rel => exact E.out
                    case measure => simp [intOf]; omega
                · have hl' : ltL r.key S = false := by simpa using hl
                  rw [hl'] at lq
                  cases Hs with
                  | true =>
                    have E : Hid (FiIn L S (.int .i64 (Cn : Int)) (.bool true) (.int .i64 ((k : Int) + 1))) := Lib.hid ⟨k + 1, hkN, by go_num, by rw [S2.out]; rfl, by rw [S1.out, if_neg hl]; rfl⟩
                    clear hkN
                    go_wp2_with fail
                    go_round
                    case rel => exact E.out
                    case measure => simp [intOf]; omega
                  | false =>
                    have E : Hid (FiIn L S (.int .i64 (Cn : Int)) (.bool (r.key == S)) (.int .i64 ((k : Int) + 1))) := Lib.hid ⟨k + 1, hkN, by go_num, by rw [S2.out]; rfl, by rw [S1.out, if_neg hl]; rfl⟩
                    clear hkN
                    go_wp2_with fail
                    go_round
                    case rel => exact E.out
                    case measure => simp [intOf]; omega
              · obtain rfl : N = k := by omega
                have hC2 : Cn = cntB L S := by rw [HC.out, HN.out, List.take_length]
                have hH2 : Hs = hasB L S := by rw [HH.out, HN.out, List.take_length]
                obtain ⟨P, hP⟩ : ∃ P : Int × Bool, P = findAll leaf L S := ⟨_, rfl⟩
                have hW : wantB leaf L S = if !leaf && !Hs then Cn - 1 else Cn := by rw [hC2, hH2]; rfl
                have hP2 : findAll leaf L S = ((wantB leaf L S : Int), Hs) := by rw [hH2]; exact findAll_is leaf L S HRise.out (by rw [← HN.out]; exact h0)
                obtain ⟨wt, hwt⟩ : ∃ wt, wt = wantB leaf L S := ⟨_, rfl⟩
                rw [← hwt] at hW hP2
                have HW := Lib.hid hW
                have HP2 := Lib.hid hP2
                clear hC2 hH2 hP hW hP2 hwt HC HH hk'
                cases leaf with
                | true =>
                  have HE : Hid (findAll true L S = ((Cn : Int), Hs)) := Lib.hid (by rw [HP2.out, HW.out]; simp)
                  go_wp2_with fail
                  refine (findAll_any true L A2 N c2 V.heap.size S ((Cn : Int), Hs) _ HN.out HE.out RR.out VR HFL.out).mono ?_
                  rintro e w4 ⟨rfl, b4⟩
                  have B4 := Lib.hid (hb.out.trans (b4.mono VR))
                  clear b4 x0 x1
                  go_wp2_with fail
                  go_roundw
                  case rel => exact ⟨i + 1, rfl, by omega, by omega, B4.out⟩
                  case measure => simp [intOf]; omega
                | false =>
                  cases Hs with
                  | true =>
                    have HE : Hid (findAll false L S = ((Cn : Int), true)) := Lib.hid (by rw [HP2.out, HW.out]; simp)
                    go_wp2_with fail
                    refine (findAll_any false L A2 N c2 V.heap.size S ((Cn : Int), true) _ HN.out HE.out RR.out VR HFL.out).mono ?_
                    rintro e w4 ⟨rfl, b4⟩
                    have B4 := Lib.hid (hb.out.trans (b4.mono VR))
                    clear b4 x0 x1
                    go_wp2_with fail
                    go_roundw
                    case rel => exact ⟨i + 1, rfl, by omega, by omega, B4.out⟩
                    case measure => simp [intOf]; omega
                  | false =>
                    rcases Nat.eq_zero_or_pos Cn with z | z
                    · subst z
                      have HE : Hid (findAll false L S = (0, false)) := Lib.hid (by rw [HP2.out, HW.out]; simp)
                      go_wp2_with fail
                      refine (findAll_any false L A2 N c2 V.heap.size S (0, false) _ HN.out HE.out RR.out VR HFL.out).mono ?_
                      rintro e w4 ⟨rfl, b4⟩
                      have B4 := Lib.hid (hb.out.trans (b4.mono VR))
                      clear b4 x0 x1
                      go_wp2_with fail
                      go_roundw
                      case rel => exact ⟨i + 1, rfl, by omega, by omega, B4.out⟩
                      case measure => simp [intOf]; omega
                    · obtain ⟨q, hq⟩ : ∃ q : Nat, Cn = q + 1 := ⟨Cn - 1, by omega⟩
                      subst hq
                      have HE : Hid (findAll false L S = ((q : Int), false)) := Lib.hid (by rw [HP2.out, HW.out]; simp)
                      have hq0 : (0 : Int) ≤ (q : Int) := by omega
                      go_wp2_with fail
                      refine (findAll_any false L A2 N c2 V.heap.size S ((q : Int), false) _ HN.out HE.out RR.out VR HFL.out).mono ?_
                      rintro e w4 ⟨rfl, b4⟩
                      have B4 := Lib.hid (hb.out.trans (b4.mono VR))
                      clear b4 x0 x1
                      go_wp2_with fail
                      go_roundw
                      case rel => exact ⟨i + 1, rfl, by omega, by omega, B4.out⟩
                      case measure => simp [intOf]; omega
        · obtain rfl : i = (N : Int) := by omega
          go_wp2_with fail
          refine (awake10_any _).mono ?_
          rintro e w5 ⟨rfl, b5⟩
          have B5 := Lib.hid (BR.out.trans (b5.mono BR.out.size))
          clear b5
          go_wp2_with fail
          go_ret
          exact ⟨rfl, B5.out⟩
  · have tail : ∀ w3, Below w.heap.size w w3 → True := fun _ _ => trivial
    clear tail
    cases sm with
    | true =>
      have h3 : 300 < key.length := by
        rcases Nat.lt_or_ge 300 key.length with h | h
        · exact h
        · exact absurd ⟨rfl, h⟩ hgo
      clear hgo
      go_wp2_with fail
      refine (awake10_any _).mono ?_
      rintro e w5 ⟨rfl, b5⟩
      have B5 := Lib.hid (BX1.out.trans (b5.mono BX1.out.size))
      clear b5
      go_wp2_with fail
      go_ret
      exact ⟨rfl, B5.out⟩
    | false =>
      clear hgo
      go_wp2_with fail
      refine (awake10_any _).mono ?_
      rintro e w5 ⟨rfl, b5⟩
      have B5 := Lib.hid (BX1.out.trans (b5.mono BX1.out.size))
      clear b5
      go_wp2_with fail
      go_ret
      exact ⟨rfl, B5.out⟩
theorem find_all (leaf : Bool) (l : List Rw) (A : Option Addr) (c : Nat) (s : ByteArray) (w : World) (ht : RowsAt w w.heap.size l A c) (hf : Bear l) (hk : s.size ≤ maxLen) :
    Calls Try.prog 6 #[.agg #[.bool leaf, .slice A l.length c], .string s] w fun e w' => e = .returned (.bool true) ∧ Below w.heap.size w w' := by
  have e : s = ⟨s.data.toList.toArray⟩ := by cases s; rfl
  rw [e]
  exact find_law leaf l A c _ s.data.toList w ht (Nat.le_refl _) hf (by simpa using hk)
end Go.Proofs.Ytdjkkppefgppmaa
