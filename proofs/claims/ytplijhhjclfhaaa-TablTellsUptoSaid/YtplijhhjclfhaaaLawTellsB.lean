/- The law on what any octets and fields tell: what a table has as octets. -/
import Derived.Test.YtplijhhjclfhaaaLawTellsA
import Derived.Test.YtplijhhjclfhaaaWords5
import Derived.Deep.DeepCutAuto
namespace Go.Proofs.Ytplijhhjclfhaaa
open Go.RowKit

theorem app_table (l : List Fld) : appB [7] l = [7] ++ tableB l := by
  unfold appB tableB
  cases okB l <;> rfl
theorem tableB_len (l : List Fld) : (tableB l).length ≤ 2000 := by
  unfold tableB
  cases h : okB l with
  | false => simp
  | true => exact (okB_parts h).2

/-- behind the turning: an owned row's octets, one of them turned or none; nothing older has turned -/
def Turned (B : Nat) (w0 : World) (T : List UInt8) (A : Option Addr) (w : World) : Prop := ∃ X, X.length = T.length ∧ Below B w0 w ∧ Lies w w.heap.size A (B8 X)
/-- octets that are asked -/
def Asked (w0 : World) (v : Value) (w : World) : Prop := ∃ A Y c, v = .slice A Y.length c ∧ Y.length ≤ c ∧ c ≤ maxLen ∧ Lies w w.heap.size A (B8 Y) ∧ Below w0.heap.size w0 w
set_option maxHeartbeats 1000000 in
set_option maxRecDepth 100000 in
theorem tells_late (raw : List UInt8) (l : List Fld) (A0 A : Option Addr) (c0 c d B : Nat) (x z : Int) (y : UInt8) (w : World) (hl : TabH Raw d w B l A c) (hr : Lies w B A0 (B8 raw)) (hB : B ≤ w.heap.size) (h1 : raw.length ≤ 2100) (hrc : raw.length ≤ c0) (hrm : c0 ≤ maxLen) (h2 : smallB 12 l = true)
    (hx : formedB 8 l = true → (rowsD 8 l).length ≤ 70368744177664) :
    Calls Try.prog 3 #[.slice A0 raw.length c0, .slice A l.length c, .int .i64 x, .int .u8 (y.toNat : Int), .int .i64 z] w fun e w' => e = .returned (.bool true) ∧ Below w.heap.size w w' := by
  have HL := Lib.hid hl
  have HR := Lib.hid hr
  have HL2 := Lib.hid (small_held 12 d l A c h2 hl)
  have S1 := Lib.hid h2
  have HX := Lib.hid hx
  have h1' : (raw.length : Int) ≤ 2100 := by omega
  clear hl hr h2 hx
  go_enter Try.func3, Try.ntmps3
  go_wp2_with fail
  refine (small_any 12 l A c d B 1 _ (by omega) (by omega) HL.out).mono ?_
  rintro e w1 ⟨rfl, rfl⟩
  rw [S1.out]
  have L7 : Hid (Lies (w.alloc (.cells #[.int .u8 7] 5)) (w.heap.size + 1) (some ⟨w.heap.size, 0, none⟩) (B8 [7])) := Lib.hid (Lies.one w 5 (.int .u8 7))
  have HB0 : Hid (Below w.heap.size w (w.alloc (.cells #[.int .u8 7] 5))) := Lib.hid ((Below.refl _ _).alloc (Nat.le_refl _) _)
  have hs0 : (w.alloc (.cells #[.int .u8 7] 5)).heap.size = w.heap.size + 1 := by simp
  have HS0 := Lib.hid hs0
  clear hs0
  go_wp2_with fail
  refine (append_any _ 1 [7] (w.heap.size + 1) A c d l _ L7.out (by rw [HS0.out]; exact Nat.le_refl _) (TabH.more (by omega) _ _ _ _ (TabH.below HL2.out (HB0.out.mono hB))) (by simp)).mono ?_
  rw [app_table]
  rintro e w3 ⟨v3, rfl, hown3, hb3⟩
  obtain ⟨ok, hok⟩ : ∃ ok, ok = okB l := ⟨_, rfl⟩
  obtain ⟨T, hT⟩ : ∃ T, T = tableB l := ⟨_, rfl⟩
  have hTl : T.length ≤ 2000 := by rw [hT]; exact tableB_len l
  rw [← hT] at hown3
  rw [← hok]
  obtain ⟨A3, c3, rfl, _, _⟩ := own_form hown3
  have HOK := Lib.hid hok
  have HT := Lib.hid hT
  have HB3 := Lib.hid (HB0.out.trans (hb3.mono (by rw [HS0.out]; omega)))
  have hz3 := HB3.out.size
  have L3 := Lib.hid (Lies.own hown3 (Nat.le_refl _))
  clear hown3 hb3 hok hT
  go_wp2_with fail
  refine (table_any l A c d B _ (TabH.below HL2.out (HB3.out.mono hB)) (by omega) HX.out).mono ?_
  rw [← HOK.out, ← HT.out]
  rintro e w4 ⟨v4, rfl, hown4, hb4⟩
  obtain ⟨A4, c4, rfl, hc4, hm4⟩ := own_form hown4
  have HB4 := Lib.hid (HB3.out.trans (hb4.mono hz3))
  have hz34 := hb4.size
  have L3' := Lib.hid (L3.out.below hb4)
  have L4 := Lib.hid (Lies.own hown4 (Nat.le_refl _))
  have HO4 := Lib.hid hown4
  clear hown4 hb4
  go_wp2_with fail
  refine (ok_any l A c d B _ (TabH.below HL2.out (HB4.out.mono hB)) (by omega)).mono ?_
  rintro e w5 ⟨rfl, hb5⟩
  rw [← HOK.out]
  have HB5 := Lib.hid (HB4.out.trans (hb5.mono (by omega)))
  have hz45 := hb5.size
  have L5 := Lib.hid ((L3'.out.more hz34).below hb5)
  have LT5 := Lib.hid (L4.out.below hb5)
  have HO5 := Lib.hid (own_below HO4.out hb5)
  clear hb5
  have cvA := run_octets_string (P := Try.prog) 22 9 5 Try.underlying22 Try.underlying5 Try.underlying9 L5.out c3
  have cvB := run_octets_string (P := Try.prog) 22 9 5 Try.underlying22 Try.underlying5 Try.underlying9 LT5.out c4
  obtain ⟨S7, hS7⟩ : ∃ S7 : ByteArray, S7 = ⟨([7] ++ T).toArray⟩ := ⟨_, rfl⟩
  rw [← hS7, show ([7] ++ T : List UInt8).length = T.length + 1 from by simp] at cvA
  have hcat : (⟨#[7]⟩ : ByteArray) ++ ⟨T.toArray⟩ = S7 := by
    rw [hS7]
    apply ByteArray.ext
    simp [ByteArray.data_append]
  have HS7 := Lib.hid hS7
  obtain ⟨i0, hi, hz0, hz1, hz2⟩ := info_parts u8_info
  have HI := Lib.hid hi
  have H0 := Lib.hid hz0
  have H1 := Lib.hid hz1
  have H2 := Lib.hid hz2
  have hown0 : (w5.alloc (.cells #[] 5)).ownsRow w5.heap.size 5 1 (.slice (some ⟨w5.heap.size, 0, none⟩) 0 0) 0 [] := World.ownsRow_made w5 #[] 0 (Nat.le_refl _) (Nat.zero_le _) rfl
  have HO0 := Lib.hid hown0
  have hz50 : w5.heap.size ≤ (w5.alloc (.cells #[] 5)).heap.size := by simp
  have HZ50 := Lib.hid hz50
  have LTA := Lib.hid (LT5.out.alloc hz45 (.cells #[] 5))
  have HBA : Hid (Below w5.heap.size w5 (w5.alloc (.cells #[] 5))) := Lib.hid ((Below.refl _ _).alloc (Nat.le_refl _) _)
  have hs' : 0 + T.length ≤ 140737488355328 := by omega
  clear hS7 hi hz0 hz1 hz2 hown0 hz50
  go_upto_if 64 with (at_builtin; go_must (refine wpList_append_cells rfl _ _ 22 rfl w5.heap.size 5 i0 (.int .u8 0) 1 1 Try.underlying22 HI.out H0.out H1.out H2.out rfl (by omega) _ 0 [] rfl HO0.out _ A4 T.length c4 (B8 T) rfl LTA.out (B8_len1 T) (B8_one T) (room63 hs') (room1 hs') HZ50.out ?_); intro v6 w6 hown6 hb6; rw [Nat.zero_add, List.nil_append] at hown6; obtain ⟨A6, c6, rfl, hc6, hm6⟩ := own_form hown6; have HB6 := Lib.hid (HBA.out.trans hb6); have HO6 := Lib.hid hown6; have L6 := Lib.hid (Lies.own hown6 (Nat.le_refl _)); clear hown6 hb6)
  go_cut [] (fun wx => Turned w5.heap.size w5 T A6 wx)
  case first =>
    rcases Nat.eq_zero_or_pos T.length with h0 | h0
    · obtain rfl : T = [] := List.eq_nil_of_length_eq_zero h0
      clear h0
      have D : Hid (Turned w5.heap.size w5 [] A6 w6) := Lib.hid ⟨[], rfl, HB6.out, L6.out⟩
      go_wp2_with fail
      go_meet
      exact D.out
    · have hlt : (0 : Int) < T.length := by omega
      obtain ⟨g6, rfl, hg6, hg6', hfr⟩ := own_head HO6.out h0
      obtain ⟨J, hJ, hJe⟩ := turn_at x T.length h0
      have hc : w6.cell? ⟨g6, 0 + J, none⟩ = some (.int .u8 ((T.getD J 0).toNat : Int)) := by
        rcases L6.out.octets with h | ⟨b, o, e, _, hc⟩
        · rw [h] at h0; simp at h0
        · injection e with e
          injection e with e1 e2 e3
          subst e1 e2
          rw [hc J hJ]
          simp [List.getD, hJ]
      rw [Nat.zero_add] at hc
      have hf := hfr J
      have hx := u8_flip (T.getD J 0) y
      have D : Hid (Turned w5.heap.size w5 T (some ⟨g6, 0, none⟩) (w6.setCell ⟨g6, J, none⟩ (.int .u8 ((T.getD J 0 ^^^ y).toNat : Int)))) := Lib.hid ⟨flip T J y, flip_length T J y, HB6.out.setCell hg6 _, by
        rw [show (w6.setCell ⟨g6, J, none⟩ (.int .u8 ((T.getD J 0 ^^^ y).toNat : Int))).heap.size = w6.heap.size from by simp [World.setCell], show (⟨g6, J, none⟩ : Addr) = ⟨g6, 0 + J, none⟩ from by rw [Nat.zero_add]]
        exact flip_lies L6.out J hJ y⟩
      generalize T.getD J 0 = q at *
      generalize (q ^^^ y) = z at *
      clear hfr
      go_wp2_with fail
      go_meet
      exact D.out
  case rest =>
    obtain ⟨wq, hwq⟩ : ∃ wq : World, wq = wc := ⟨_, rfl⟩
    subst hwq
    obtain ⟨X, hXl, hbx, hlx⟩ := hcut
    have hzx := hbx.size
    have LTx := Lib.hid (LT5.out.below (hbx.mono hz45))
    have HBx := Lib.hid (HB5.out.trans (hbx.mono (by omega)))
    have hzw := HBx.out.size
    have LRx := Lib.hid (HR.out.below (HBx.out.mono hB))
    have LXx := Lib.hid hlx
    have HXL := Lib.hid hXl
    clear hbx hlx hXl
    go_wp2_with fail
    go_loopw [16] (fun i wr => ∃ j : Nat, j ≤ 3 ∧ i = .int .i64 j ∧ Below wq.heap.size wq wr) (fun i _ => 3 - (intOf i).toNat)
    case atStart => exact ⟨0, by omega, rfl, Below.refl _ _⟩
    case round =>
      obtain ⟨j, hj, rfl, hbr⟩ := hrel
      have BR := Lib.hid hbr
      have hzr := hbr.size
      clear hbr
      have hj4 : j = 0 ∨ j = 1 ∨ j = 2 ∨ j = 3 := by omega
      clear hj
      by_cases hj3 : j = 3
      · subst hj3
        clear hj4
        go_wp2_with fail
        refine (awake2_any _).mono ?_
        rintro e w9 ⟨rfl, hb9⟩
        have HB9 := Lib.hid ((HBx.out.trans (BR.out.mono hzw)).trans (hb9.mono (by omega)))
        clear hb9
        go_wp2_with fail
        go_ret
        exact ⟨rfl, HB9.out⟩
      · have hlt3 : (j : Int) < 3 := by omega
        go_upto_region 13 with fail
        go_cut [17] from 76 to 112 (fun s17 wx => Asked wr s17 wx)
        case first =>
          obtain ⟨M, hM, hMe⟩ := turn_at z (T.length + 1) (by omega)
          have hMz : (bits .and .i64 z 65535).tmod ((T.length : Int) + 1) = (M : Int) := by rw [← hMe, Int.natCast_add]; rfl
          have hMc : (M : Int) ≤ (c4 : Int) := by omega
          have hMc' : M ≤ c4 := by omega
          have hm4' := hm4
          unfold maxLen at hm4'
          have BA : ∀ o : Obj, Below wr.heap.size wr (wr.alloc o) := fun o => (Below.refl _ _).alloc (Nat.le_refl _) o
          have D0 : Hid (∀ o : Obj, Asked wr (.slice A0 raw.length c0) (wr.alloc o)) := Lib.hid (fun o => ⟨A0, raw, c0, rfl, hrc, hrm, ((LRx.out.below (BR.out.mono (by omega))).below ((BA o).mono (by omega))).more (by simp; omega), BA o⟩)
          have D1 : Hid (∀ o : Obj, Asked wr (.slice A6 T.length c6) (wr.alloc o)) := Lib.hid (fun o => ⟨A6, X, c6, by rw [HXL.out], by rw [HXL.out]; exact hc6, hm6, ((LXx.out.below BR.out).below ((BA o).mono hzr)).more (by simp; omega), BA o⟩)
          have D2 : Hid (∀ o : Obj, Asked wr (.slice A4 M c4) (wr.alloc o)) := Lib.hid (fun o => ⟨A4, T.take M, c4, by rw [List.length_take, Nat.min_eq_left (by omega)], by rw [List.length_take]; omega, hm4, by
            have h := (((LTx.out.below (BR.out.mono (by omega))).below ((BA o).mono (by omega))).more (show w4.heap.size ≤ (wr.alloc o).heap.size by simp; omega)).take M
            rw [B8, ← List.map_take] at h
            exact h, BA o⟩)
          clear hMe BA hM
          rcases hj4 with rfl | rfl | rfl | rfl
          · go_wp2_with fail
            go_meet
            exact D0.out _
          · go_wp2_with fail
            go_meet
            exact D1.out _
          · go_wp2_with fail
            go_meet
            exact D2.out _
          · exact absurd rfl hj3
        case rest =>
          obtain ⟨Ay, Y, cy, rfl, hy1, hy2, hy3, hy4⟩ := hcut
          have BC := Lib.hid (BR.out.trans (hy4.mono hzr))
          have hzc := hy4.size
          have LY := Lib.hid hy3
          obtain ⟨P, hP⟩ : ∃ P, P = parseB Y := ⟨_, rfl⟩
          have HP := Lib.hid hP
          clear hj4 hj3 hy3 hy4 hP
          go_wp2_with fail
          refine (parse_any Ay cy Y wc.heap.size _ LY.out (Nat.le_refl _) (Nat.le_trans hy1 hy2)).mono ?_
          rw [← HP.out]
          intro e w7 hq
          cases P with
          | none =>
            rcases hq with ⟨_, rfl, hb7⟩ | ⟨t, At, ct, hn, _⟩
            case inr => cases hn
            have LY7 := Lib.hid (LY.out.below hb7)
            have BC7 := Lib.hid (BC.out.trans (hb7.mono (by omega)))
            have hz7 := hb7.size
            clear hb7
            go_wp2_with fail
            refine (readtable_any Ay cy Y wc.heap.size _ LY7.out hz7 (Nat.le_trans hy1 hy2) hy1 hy2).mono ?_
            rw [← HP.out]
            intro e w8 hq
            rcases hq with ⟨_, rfl, hb8⟩ | ⟨t, At, ct, hn, _⟩
            case inr => cases hn
            have BC8 := Lib.hid (BC7.out.trans (hb8.mono (by omega)))
            have hz8 := hb8.size
            clear hb8
            go_wp2_with fail
            refine (same_table (H := Held) (H' := Held) 0 [] [] none none 0 0 0 0 0 _ (TabS.nil _ _ _ _ _ (Nat.zero_le _)) (TabS.nil _ _ _ _ _ (Nat.zero_le _)) (Nat.zero_le _) (Nat.zero_le _)).mono ?_
            rintro e w9 ⟨r, rfl, hr, hb9⟩
            rw [hr.2 rfl]
            have BC9 := Lib.hid (BC8.out.trans (hb9.mono (by omega)))
            clear hb9 hr
            go_wp2_with fail
            go_roundw
            case rel => exact ⟨j + 1, by omega, by go_num, BC9.out⟩
            case measure => simp [intOf]; omega
          | some t =>
            rcases hq with ⟨hn, _⟩ | ⟨t7, A7, c7, hn, rfl, ht7, hb7⟩
            case inl => cases hn
            injection hn with hn
            subst hn
            have LY7 := Lib.hid (LY.out.below hb7)
            have BC7 := Lib.hid (BC.out.trans (hb7.mono (by omega)))
            have hz7 := hb7.size
            have HT7 := Lib.hid ht7
            clear hb7 ht7
            go_wp2_with fail
            refine (readtable_any Ay cy Y wc.heap.size _ LY7.out hz7 (Nat.le_trans hy1 hy2) hy1 hy2).mono ?_
            rw [← HP.out]
            intro e w8 hq
            rcases hq with ⟨hn, _⟩ | ⟨t8, A8, c8, hn, rfl, ht8, hb8⟩
            case inl => cases hn
            injection hn with hn
            subst hn
            have BC8 := Lib.hid (BC7.out.trans (hb8.mono (by omega)))
            have hz8 := hb8.size
            have HT8 := Lib.hid ht8.at_
            have HT78 := Lib.hid (TabH.below HT7.out.at_ hb8)
            clear hb8 ht8
            go_wp2_with fail
            refine (same_table 8 t t A7 A8 c7 c8 8 w7.heap.size w8.heap.size _ HT78.out HT8.out hz8 (Nat.le_refl _)).mono ?_
            rintro e w9 ⟨r, rfl, hr, hb9⟩
            rw [hr.2 rfl]
            have BC9 := Lib.hid (BC8.out.trans (hb9.mono (by omega)))
            clear hb9 hr
            go_wp2_with fail
            go_roundw
            case rel => exact ⟨j + 1, by omega, by go_num, BC9.out⟩
            case measure => simp [intOf]; omega
end Go.Proofs.Ytplijhhjclfhaaa
