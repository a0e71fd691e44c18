/- The law on tables that come back: its walk where all four questions are answered yes. -/
import Derived.Test.YthaakbmdfdkjgaaLawBackT
import Derived.Deep.RegionHeld3
namespace Go.Proofs.Ythaakbmdfdkjgaa
open Go.RowKit

theorem field_zero : (Value.agg #[.string ⟨#[]⟩, .int .u8 0, .int .i64 0, .string ⟨#[]⟩, .slice none 0 0]).cells.size = 5 := rfl
theorem TabS.cells {d : Nat} {w : World} {B : Nat} {l : List Fld} {A : Option Addr} {c : Nat} (h : TabAt (d + 1) w B l A c) : ∃ xs, Lies w B A xs ∧ DescL Held (TabAt d w B) l xs := by
  obtain ⟨_, _, xs, h3, h4⟩ := h
  exact ⟨xs, h3, h4⟩

set_option maxHeartbeats 4000000 in
set_option maxRecDepth 100000 in
theorem back_yes (l m : List Fld) (A A' : Option Addr) (c c' d d' B : Nat) (w : World) (hl : TabH Raw d w B l A c) (hm : TabH Raw d' w B m A' c') (hB : B ≤ w.heap.size)
    (h1 : smallB 12 l = true) (h2 : smallB 12 m = true) (h3 : okB l = true) (h4 : okB m = true) :
    Calls Try.prog 10 #[.slice A l.length c, .slice A' m.length c'] w fun e w' => e = .returned (.bool true) ∧ Below w.heap.size w w' := by
  have HL := Lib.hid hl
  have HM := Lib.hid hm
  have HL2 := Lib.hid (small_held 12 d l A c h1 hl)
  have HM2 := Lib.hid (small_held 12 d' m A' c' h2 hm)
  have S1 := Lib.hid h1
  have S2 := Lib.hid h2
  have O1 := Lib.hid h3
  have O2 := Lib.hid h4
  clear hl hm h1 h2 h3 h4
  go_enter Try.func10, Try.ntmps10
  go_wp2_with fail
  refine (small_any 12 l A c d B 1 _ (by omega) (by omega) HL.out).mono ?_
  rintro e w1 ⟨rfl, rfl⟩
  rw [S1.out]
  go_wp2_with fail
  refine (small_any 12 m A' c' d' B 1 _ (by omega) (by omega) HM.out).mono ?_
  rintro e w1 ⟨rfl, rfl⟩
  rw [S2.out]
  go_wp2_with fail
  refine (ok_any l A c d B _ HL2.out hB).mono ?_
  rintro e w1 ⟨rfl, hb1⟩
  rw [O1.out]
  have HB1 := Lib.hid hb1
  have hz1 := hb1.size
  clear hb1
  go_wp2_with fail
  refine (ok_any m A' c' d' B _ (TabH.below HM2.out (HB1.out.mono hB)) (by omega)).mono ?_
  rintro e w2 ⟨rfl, hb2⟩
  rw [O2.out]
  have HB2 := Lib.hid (HB1.out.trans (hb2.mono hz1))
  have hz2 := HB2.out.size
  clear hb2
  go_wp2_with fail
  refine (append_any none 0 [] B A c d l _ (Lies.empty _ _ _) (by omega) (TabH.below HL2.out (HB2.out.mono hB)) (by simp)).mono ?_
  rintro e w3 ⟨v3, rfl, hown3, hb3⟩
  rw [O1.out]
  obtain ⟨X, hX⟩ : ∃ X, X = rowsD 8 l := ⟨_, rfl⟩
  have eX : appB [] l = X := by unfold appB; rw [O1.out, hX]; rfl
  have hXl : X.length ≤ 2000 := by rw [hX]; exact (okB_parts O1.out).2
  rw [eX] at hown3
  have HB3 := Lib.hid (HB2.out.trans (hb3.mono (by omega)))
  have hz3 := HB3.out.size
  obtain ⟨A3, c3, rfl, hc3, hm3⟩ := own_form hown3
  have L3 := Lib.hid (Lies.own hown3 (Nat.le_refl _))
  have HX := Lib.hid hX
  clear hown3 hb3 hX eX
  go_wp2_with fail
  refine (append_any A3 c3 X w3.heap.size A' c' d' m _ L3.out (Nat.le_refl _) (TabH.more (by omega) _ _ _ _ (TabH.below HM2.out (HB3.out.mono hB))) (by omega)).mono ?_
  rintro e w4 ⟨v4, rfl, hown4, hb4⟩
  rw [O2.out]
  obtain ⟨Z, hZ⟩ : ∃ Z, Z = rowsD 8 m := ⟨_, rfl⟩
  have eZ : appB X m = X ++ Z := by unfold appB; rw [O2.out, hZ]; rfl
  have hZl : Z.length ≤ 2000 := by rw [hZ]; exact (okB_parts O2.out).2
  rw [eZ] at hown4
  obtain ⟨Y, hY⟩ : ∃ Y, Y = X ++ Z := ⟨_, rfl⟩
  have hYl : Y.length = X.length + Z.length := by rw [hY, List.length_append]
  rw [← hY] at hown4
  have hYX : X.length ≤ Y.length := by omega
  have hYb : Y.length ≤ 4000 := by omega
  have HB4 := Lib.hid (HB3.out.trans (hb4.mono hz3))
  have L3' := Lib.hid (L3.out.below hb4)
  have hz4 := HB4.out.size
  obtain ⟨A4, c4, rfl, hc4, hm4⟩ := own_form hown4
  have L4 := Lib.hid (Lies.own hown4 (Nat.le_refl _))
  have HZ := Lib.hid hZ
  have HY := Lib.hid hY
  have hz34 := hb4.size
  clear hown4 hb4 hZ eZ hY hYl
  go_wp2_with fail
  refine (parse_any A3 c3 X w4.heap.size _ (L3'.out.more hz34) (Nat.le_refl _) (by unfold maxLen; omega)).mono ?_
  rw [show parseB X = some l from by rw [HX.out]; exact (parse_app l O1.out ▸ by unfold appB; rw [O1.out]; rfl)]
  rintro e w5 (⟨hn, _⟩ | ⟨l5, A5, c5, hn, rfl, ht5, hb5⟩)
  case inl => cases hn
  injection hn with hn
  subst hn
  have HB5 := Lib.hid (HB4.out.trans (hb5.mono hz4))
  have HT5 := Lib.hid ht5
  have LX5 := Lib.hid ((L3'.out.more hz34).below hb5)
  have LY5 := Lib.hid (L4.out.below hb5)
  have hz45 := hb5.size
  have hz5 := HB5.out.size
  clear ht5 hb5
  unfold maxLen at hm3 hm4
  have hYt : Y.take X.length = X := by rw [HY.out, List.take_left]
  have dr : ∀ Bx : Nat, Below Bx w5 w5.drew := fun Bx => (Below.refl Bx w5).drew
  have lyx : ∀ {wx : World}, Lies wx w4.heap.size A4 (B8 Y) → Lies wx w4.heap.size A4 (B8 X) := by
    intro wx h
    have h' := h.take X.length
    rw [B8, ← List.map_take, hYt] at h'
    exact h'
  have cvA := run_octets_string (P := Try.prog) 24 9 5 Try.underlying24 Try.underlying5 Try.underlying9 (lyx (LY5.out.below (dr _))) c4
  have cvB := run_octets_string (P := Try.prog) 24 9 5 Try.underlying24 Try.underlying5 Try.underlying9 (LX5.out.below (dr _)) c3
  have HT5d := Lib.hid (TabH.below HT5.out.at_ (dr _))
  have HL5d := Lib.hid ((TabH.below HL2.out (HB5.out.mono hB)).below (dr _))
  have LYX := Lib.hid (lyx LY5.out)
  have DR := Lib.hid dr
  have hsd : w5.drew.heap.size = w5.heap.size := rfl
  have hq1 : decide ((Y.length : Int) < (X.length : Int)) = false := decide_eq_false (by omega)
  have hq2 : decide (Y.length < X.length) = false := decide_eq_false (by omega)
  have hi0 : (0 : Int) ≤ (X.length : Int) := Int.natCast_nonneg _
  have hi1 : (X.length : Int) ≤ (c4 : Int) := by omega
  have hi2 : X.length ≤ c4 := by omega
  have hi3 : (c4 : Int) ≤ 9223372036854775807 := by omega
  clear hYt lyx dr
  go_wp2_with fail
  go_region_held3 (fun w' => (convert 24 9 (.slice A4 X.length c4)).run Try.prog w' = .ok (.string ⟨X.toArray⟩) w' ∧ (convert 24 9 (.slice A3 X.length c3)).run Try.prog w' = .ok (.string ⟨X.toArray⟩) w')
    (first | exact ⟨cvA, cvB⟩ | exact ⟨cvC, cvD⟩)
    ((go_at_call 33; refine (same_table 8 l l A5 A c5 c d w5.heap.size B _ HT5d.out HL5d.out (Nat.le_refl _) (by show B ≤ w5.heap.size; omega)).mono ?_; rintro e w6 ⟨r, rfl, hr, hb6⟩; rw [hr.2 rfl]; have hb6' := (DR.out w5.heap.size).trans hb6; have HB6 := Lib.hid hb6'; have cvC := run_octets_string (P := Try.prog) 24 9 5 Try.underlying24 Try.underlying5 Try.underlying9 (LYX.out.below (hb6'.mono hz45)) c4; have cvD := run_octets_string (P := Try.prog) 24 9 5 Try.underlying24 Try.underlying5 Try.underlying9 (LX5.out.below (hb6'.mono hz45)) c3; clear hr hb6 hb6'))
  have hz56 := HB6.out.size
  have HBW6 := Lib.hid (HB5.out.trans (HB6.out.mono hz5))
  have hl6 := TabH.succ _ _ _ _ (TabH.below HL2.out (HBW6.out.mono hB))
  have hm6 := TabH.succ _ _ _ _ (TabH.below HM2.out (HBW6.out.mono hB))
  obtain ⟨xs, lx, dx⟩ := TabS.cells hl6
  obtain ⟨ys, ly, dy⟩ := TabS.cells hm6
  have LX := Lib.hid lx
  have DX := Lib.hid dx
  have LYY := Lib.hid ly
  have DY := Lib.hid dy
  have hxl := dx.length
  have hyl := dy.length
  have HXL := Lib.hid hxl
  have HYL := Lib.hid hyl
  have HXO := Lib.hid dx.one
  have HYO := Lib.hid dy.one
  have hl30 : l.length ≤ 30 := by
    have h := S1.out
    unfold smallB at h
    simp only [Bool.and_eq_true, decide_eq_true_eq] at h
    exact h.1
  have hm30 : m.length ≤ 30 := by
    have h := S2.out
    unfold smallB at h
    simp only [Bool.and_eq_true, decide_eq_true_eq] at h
    exact h.1
  obtain ⟨i0, hi, hz0, hzz1, hzz2⟩ := info_parts field_info
  have HI := Lib.hid hi
  have H0 := Lib.hid hz0
  have H1 := Lib.hid hzz1
  have H2 := Lib.hid hzz2
  have hown0 : (w6.alloc (.cells #[] 49)).ownsRow w6.heap.size 49 5 (.slice (some ⟨w6.heap.size, 0, none⟩) 0 0) 0 [] := World.ownsRow_made w6 #[] 0 (Nat.le_refl _) (Nat.zero_le _) rfl
  have HO0 := Lib.hid hown0
  have lx' := Lib.hid (lx.below (Below.alloc (Below.refl B w6) (by omega) (.cells #[] 49)))
  have ly' := Lib.hid (ly.below (Below.alloc (Below.refl B w6) (by omega) (.cells #[] 49)))
  have hb0 : Below w6.heap.size w6 (w6.alloc (.cells #[] 49)) := (Below.refl _ _).alloc (Nat.le_refl _) _
  have HB0 := Lib.hid hb0
  have hs0 : w6.heap.size ≤ (w6.alloc (.cells #[] 49)).heap.size := by simp
  have HS0 := Lib.hid hs0
  have e1 : 0 + l.length ≤ maxLen := by unfold maxLen; omega
  have e2 : (0 + l.length) * 72 ≤ 140737488355328 := by omega
  have e3 : 0 + l.length + m.length ≤ maxLen := by unfold maxLen; omega
  have e4 : (0 + l.length + m.length) * 72 ≤ 140737488355328 := by omega
  have E1 := Lib.hid e1
  have E2 := Lib.hid e2
  have E3 := Lib.hid e3
  have E4 := Lib.hid e4
  clear hl6 hm6 lx dx ly dy hxl hyl hi hz0 hzz1 hzz2 hown0 hb0 hs0 e1 e2 e3 e4 hsd hi0 hi1 hi3 hq1 hq2
  go_wp2_with (first
    | (at_builtin; refine wpList_append_cells rfl _ _ 47 rfl w6.heap.size 49 i0 _ 5 72 Try.underlying47 HI.out H0.out H1.out H2.out field_zero (by omega) _ 0 [] rfl HO0.out B A l.length c xs rfl lx'.out HXL.out HXO.out E1.out E2.out HS0.out ?_; intro v7 w7 hown7 hb7; have HO7 := Lib.hid hown7; have HB7 := Lib.hid hb7; have LY7 := Lib.hid (ly'.out.below (hb7.mono (by omega))); have hs7 := Lib.hid (Nat.le_trans HS0.out hb7.size); clear hown7 hb7)
    | (at_builtin; refine wpList_append_cells rfl _ _ 47 rfl w6.heap.size 49 i0 _ 5 72 Try.underlying47 HI.out H0.out H1.out H2.out field_zero (by omega) _ _ _ rfl HO7.out B A' m.length c' ys rfl LY7.out HYL.out HYO.out E3.out E4.out hs7.out ?_; intro v8 w8 hown8 hb8; have HO8 := Lib.hid hown8; have HB8 := Lib.hid hb8; clear hown8 hb8))
  have hb68 : Below w6.heap.size w6 w8 := (HB0.out.trans HB7.out).trans HB8.out
  have hz68 := hb68.size
  have HBW8 := Lib.hid (HBW6.out.trans (hb68.mono (by omega)))
  have LY8 := Lib.hid ((LY5.out.below (HB6.out.mono hz45)).below (hb68.mono (by omega)))
  have ho8 := HO8.out
  have dx8 : DescL Held (TabAt (max d d') w8 w8.heap.size) l xs := DX.out.imp (fun t A c h => TabS.le (Nat.le_max_left _ _) (TabH.more (by omega) _ _ _ _ (TabH.below h (hb68.mono (by omega)))))
  have dy8 : DescL Held (TabAt (max d d') w8 w8.heap.size) m ys := DY.out.imp (fun t A c h => TabS.le (Nat.le_max_right _ _) (TabH.more (by omega) _ _ _ _ (TabH.below h (hb68.mono (by omega)))))
  obtain ⟨J, hJ⟩ : ∃ J, J = l ++ m := ⟨_, rfl⟩
  have hJl : 0 + l.length + m.length = J.length := by rw [hJ, List.length_append]; omega
  have dj8 : DescL Held (TabAt (max d d') w8 w8.heap.size) J ([] ++ xs ++ ys) := by rw [hJ, List.nil_append]; exact dx8.append dy8
  rw [hJl] at ho8
  obtain ⟨A8, c8, rfl, _, _⟩ := own_form ho8
  have HJ : Hid (TabAt (max d d' + 1) w8 w8.heap.size J A8 c8) := Lib.hid (TabS.own ho8 rfl dj8 (fun b _ hb => hb))
  have HJE := Lib.hid hJ
  have HP : Hid (parseB Y = if okB J then some J else none) := Lib.hid (by rw [hJ, HY.out, HX.out, HZ.out]; exact parse_join l m O1.out O2.out)
  have hz8 : w.heap.size ≤ w8.heap.size := by omega
  clear ho8 dx8 dy8 dj8 hJ hJl
  refine (parse_any A4 c4 Y w4.heap.size _ LY8.out (by omega) (by unfold maxLen; omega)).mono ?_
  rw [HP.out]
  cases hok : okB J with
  | false =>
    have HOK := Lib.hid hok
    clear hok
    rintro e w9 (⟨_, rfl, hb9⟩ | ⟨l9, A9, c9, hn, _⟩)
    case inr => cases hn
    have hz9 := hb9.size
    have HB9 := Lib.hid (HBW8.out.trans (hb9.mono hz8))
    have HJ9 := Lib.hid (TabH.below HJ.out hb9)
    clear hb9
    go_wp2_with fail
    refine (ok_any J A8 c8 _ w8.heap.size _ HJ9.out hz9).mono ?_
    rintro e wa ⟨rfl, hba⟩
    rw [HOK.out]
    have HBA := Lib.hid (HB9.out.trans (hba.mono (by omega)))
    clear hba
    go_wp2_with fail
    refine (awake2_any _).mono ?_
    rintro e wb ⟨rfl, hbb⟩
    have HBB := Lib.hid (HBA.out.trans (hbb.mono HBA.out.size))
    clear hbb
    go_wp2_with fail
    go_ret
    exact ⟨rfl, HBB.out⟩
  | true =>
    have HOK := Lib.hid hok
    clear hok
    rintro e w9 (⟨hn, _⟩ | ⟨l9, A9, c9, hn, rfl, ht9, hb9⟩)
    case inl => cases hn
    injection hn with hn
    subst hn
    have hz9 := hb9.size
    have HB9 := Lib.hid (HBW8.out.trans (hb9.mono hz8))
    have HJ9 := Lib.hid (TabH.below HJ.out hb9)
    have HT9 := Lib.hid ht9
    clear hb9 ht9
    go_wp2_with fail
    refine (ok_any J A8 c8 _ w8.heap.size _ HJ9.out hz9).mono ?_
    rintro e wa ⟨rfl, hba⟩
    rw [HOK.out]
    have hza := hba.size
    have HBA := Lib.hid (HB9.out.trans (hba.mono (by omega)))
    have HJA := Lib.hid (TabH.below HJ9.out (hba.mono hz9))
    have HTA := Lib.hid (TabNew.grown HT9.out (only_below hba none) (fun q hq => by cases hq))
    clear hba
    go_wp2_with fail
    refine (same_table 8 J J A9 A8 c9 c8 _ _ w8.heap.size _ HTA.out.at_ HJA.out (Nat.le_refl _) (by omega)).mono ?_
    rintro e wc ⟨r, rfl, hr, hbc⟩
    rw [hr.2 rfl]
    have HBC := Lib.hid (HBA.out.trans (hbc.mono (by omega)))
    clear hbc hr
    go_wp2_with fail
    refine (awake2_any _).mono ?_
    rintro e wb ⟨rfl, hbb⟩
    have HBB := Lib.hid (HBC.out.trans (hbb.mono HBC.out.size))
    clear hbb
    go_wp2_with fail
    go_ret
    exact ⟨rfl, HBB.out⟩

theorem back_all (l m : List Fld) (A A' : Option Addr) (c c' d d' B : Nat) (w : World) (hl : TabH Raw d w B l A c) (hm : TabH Raw d' w B m A' c') (hB : B ≤ w.heap.size) :
    Calls Try.prog 10 #[.slice A l.length c, .slice A' m.length c'] w fun e w' => e = .returned (.bool true) ∧ Below w.heap.size w w' := by
  cases h1 : smallB 12 l with
  | false => exact back_small l m A A' c c' d d' B w hl hm hB (.inl h1)
  | true =>
    cases h2 : smallB 12 m with
    | false => exact back_small l m A A' c c' d d' B w hl hm hB (.inr (.inl ⟨h1, h2⟩))
    | true =>
      cases h3 : okB l with
      | false => exact back_small l m A A' c c' d d' B w hl hm hB (.inr (.inr (.inl ⟨h1, h2, h3⟩)))
      | true =>
        cases h4 : okB m with
        | false => exact back_small l m A A' c c' d d' B w hl hm hB (.inr (.inr (.inr ⟨h1, h2, h3, h4⟩)))
        | true => exact back_yes l m A A' c c' d d' B w hl hm hB h1 h2 h3 h4
end Go.Proofs.Ythaakbmdfdkjgaa
