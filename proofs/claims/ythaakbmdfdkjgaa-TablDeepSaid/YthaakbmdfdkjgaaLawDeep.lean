/- The law on tables within tables: its walk. -/
import Derived.Test.YthaakbmdfdkjgaaTablV
import Derived.Deep.DeepMust
namespace Go.Proofs.Ythaakbmdfdkjgaa
open Go.RowKit

/-- a table with k tables within -/
def tabN : Nat → List Fld
  | 0 => [.mk [120] 86 0 [] []]
  | k + 1 => [.mk [120] 70 0 [] (tabN k)]
theorem tabN_one (k : Nat) : (tabN k).length = 1 := by cases k <;> rfl
theorem tabN_form : ∀ (d k : Nat), formedB d (tabN k) = decide (k + 1 ≤ d) := by
  intro d
  induction d with
  | zero => intro k; simp [formedB]
  | succ d ih =>
    intro k
    cases k with
    | zero => simp [formedB, tabN, allB, mayB, kindB, Fld.name, Fld.kind, Fld.n, Fld.s, Fld.t]
    | succ k =>
      unfold formedB tabN
      simp [allB, mayB, kindB, Fld.name, Fld.kind, Fld.n, Fld.s, Fld.t, ih k]
theorem tabN_rows : ∀ (d k : Nat), k + 1 ≤ d → (rowsD d (tabN k)).length = 3 + 7 * k := by
  intro d
  induction d with
  | zero => intro k h; omega
  | succ d ih =>
    intro k h
    cases k with
    | zero => simp [rowsD, tabN, rowOf, tailOf, Fld.name, Fld.kind, be_length]
    | succ k =>
      have := ih k (by omega)
      unfold rowsD tabN
      simp [rowOf, tailOf, Fld.name, Fld.kind, Fld.t, be_length, this]
      omega
theorem tabN_ok (k : Nat) (hk : k ≤ 11) : okB (tabN k) = decide (k + 1 ≤ 8) := by
  unfold okB
  rw [tabN_form]
  by_cases h : k + 1 ≤ 8
  · rw [tabN_rows 8 k h, decide_eq_true h, decide_eq_true (by omega)]
    rfl
  · rw [decide_eq_false h]
    rfl
theorem one_ok (f : Fld) (ht : f.kind ≠ 70) (hl : sizeN f ≤ 2000) : okB [f] = mayB f := by
  have h1 : formedB 8 [f] = mayB f := by
    unfold formedB
    simp [allB, ht]
  have h2 : (rowsD 8 [f]).length = sizeN f := by
    unfold rowsD
    rw [List.flatMap_cons, List.flatMap_nil, List.append_nil, rowOf_length, if_neg ht]
    rfl
  unfold okB
  rw [h1, h2, decide_eq_true hl, Bool.and_true]
theorem two_no (f g : Fld) (h : f.name = g.name) : okB [f, g] = false := by
  have h1 : formedB 8 [f, g] = false := by
    unfold formedB
    simp [allB, h]
  unfold okB
  rw [h1]
  rfl
theorem tabN_zero_at (w : World) : TabAt 1 (w.alloc (.cells (cellsF (.slice none 0 0) (.mk [120] 86 0 [] [])).toArray 49)) (w.heap.size + 1) (tabN 0) (some ⟨w.heap.size, 0, none⟩) 1 := by
  have hd : DescL Held (TabS Held 0 (w.alloc (.cells (cellsF (.slice none 0 0) (.mk [120] 86 0 [] [])).toArray 49)) (fun b => b < w.heap.size + 1)) (tabN 0) (cellsF (.slice none 0 0) (.mk [120] 86 0 [] []) ++ []) :=
    desc_cons (f := .mk [120] 86 0 [] []) (A := none) (c := 0) (held_lit _ _ _ _ _ (by decide) (by decide) (by decide)) ⟨rfl, Nat.zero_le _⟩ rfl
  rw [List.append_nil] at hd
  exact tab_lit hd (lies_lit w 49 _) 1 (Nat.le_refl _) (by decide)
theorem tabN_succ_at (w : World) (k : Nat) (A : Option Addr) (h : TabAt (k + 1) w w.heap.size (tabN k) A 1) : TabAt (k + 2) (w.alloc (.cells (cellsF (.slice A 1 1) (.mk [120] 70 0 [] (tabN k))).toArray 49)) (w.heap.size + 1) (tabN (k + 1)) (some ⟨w.heap.size, 0, none⟩) 1 := by
  have h2 := TabH.more (show w.heap.size ≤ w.heap.size + 1 by omega) _ _ _ _ (TabH.below h (Below.alloc (Below.refl w.heap.size w) (Nat.le_refl _) (.cells (cellsF (.slice A 1 1) (.mk [120] 70 0 [] (tabN k))).toArray 49)))
  have hd : DescL Held (TabS Held (k + 1) (w.alloc (.cells (cellsF (.slice A 1 1) (.mk [120] 70 0 [] (tabN k))).toArray 49)) (fun b => b < w.heap.size + 1)) (tabN (k + 1)) (cellsF (.slice A (tabN k).length 1) (.mk [120] 70 0 [] (tabN k)) ++ []) :=
    desc_cons (f := .mk [120] 70 0 [] (tabN k)) (A := A) (c := 1) (held_lit _ _ _ _ _ (by decide) (by decide) (by decide)) h2 rfl
  rw [List.append_nil, tabN_one] at hd
  exact tab_lit hd (lies_lit w 49 _) 1 (Nat.le_refl _) (by decide)
theorem oneF_at (w : World) (f : Fld) (hf : Held f) (ht : f.t = []) : TabAt 1 (w.alloc (.cells (cellsF (.slice none 0 0) f).toArray 49)) (w.heap.size + 1) [f] (some ⟨w.heap.size, 0, none⟩) 1 := by
  have hd : DescL Held (TabS Held 0 (w.alloc (.cells (cellsF (.slice none 0 0) f).toArray 49)) (fun b => b < w.heap.size + 1)) [f] (cellsF (.slice none f.t.length 0) f ++ []) :=
    desc_cons (f := f) (A := none) (c := 0) hf (by rw [ht]; exact ⟨rfl, Nat.zero_le _⟩) rfl
  rw [List.append_nil, ht] at hd
  exact tab_lit hd (lies_lit w 49 _) 1 (Nat.le_refl _) (by decide)
theorem twoF_at (w : World) (f g : Fld) (hf : Held f) (ht : f.t = []) (hg : Held g) (htg : g.t = []) : TabAt 1 (w.alloc (.cells (cellsF (.slice none 0 0) f ++ cellsF (.slice none 0 0) g).toArray 49)) (w.heap.size + 1) [f, g] (some ⟨w.heap.size, 0, none⟩) 2 := by
  have hd : DescL Held (TabS Held 0 (w.alloc (.cells (cellsF (.slice none 0 0) f ++ cellsF (.slice none 0 0) g).toArray 49)) (fun b => b < w.heap.size + 1)) [f, g] (cellsF (.slice none f.t.length 0) f ++ (cellsF (.slice none g.t.length 0) g ++ [])) :=
    desc_cons (f := f) (A := none) (c := 0) hf (by rw [ht]; exact ⟨rfl, Nat.zero_le _⟩) (desc_cons (f := g) (A := none) (c := 0) hg (by rw [htg]; exact ⟨rfl, Nat.zero_le _⟩) rfl)
  rw [List.append_nil, ht, htg] at hd
  exact tab_lit hd (lies_lit w 49 _) 2 (Nat.le_refl _) (by decide)
theorem twoF_first {w : World} {B : Nat} {f g : Fld} {A : Option Addr} (h : TabAt 1 w B [f, g] A 2) : TabAt 1 w B [f] A 2 := by
  obtain ⟨h1, h2, xs, h3, A1, c1, ys, rfl, hf, hp, hr⟩ := h
  refine ⟨by simp, h2, cellsF (.slice A1 f.t.length c1) f, ?_, ⟨A1, c1, [], by simp, hf, hp, rfl⟩⟩
  rcases h3 with h3 | ⟨b, o, e, hb, hc⟩
  · exact absurd h3 (by simp [cellsF])
  · exact .inr ⟨b, o, e, hb, fun j u hu => hc j u (by rw [List.getElem?_append_left (List.getElem?_eq_some_iff.1 hu).1]; exact hu)⟩
theorem okI (nm : List UInt8) (v : Int) (h : nm.length ≤ 200) : okB [.mk nm 73 v [] []] = (decide (1 ≤ nm.length ∧ nm.length ≤ 128) && decide (I32 v)) := by
  rw [one_ok _ (by simp [Fld.kind]) (by simp [sizeN, sizeK, Fld.name, Fld.kind]; omega)]
  unfold mayB kindB
  simp only [Fld.name, Fld.kind, Fld.n, Fld.s, Fld.t, List.isEmpty_nil, Bool.and_true]
  rfl
theorem okl (nm : List UInt8) (v : Int) (h : nm.length ≤ 200) (hv : I64 v) : okB [.mk nm 108 v [] []] = decide (1 ≤ nm.length ∧ nm.length ≤ 128) := by
  rw [one_ok _ (by simp [Fld.kind]) (by simp [sizeN, sizeK, Fld.name, Fld.kind]; omega)]
  unfold mayB kindB
  simp [Fld.name, Fld.kind, Fld.n, Fld.s, Fld.t, hv, show ¬ ((108 : UInt8) = 116) by decide, show ¬ ((108 : UInt8) = 73) by decide]
  exact Bool.decide_and _ _

theorem deep_long (n v : Int) (nm : List UInt8) (w : World) (_hm : nm.length ≤ maxLen) (h : 200 < (nm.length : Int)) :
    Calls Try.prog 11 #[.int .i64 n, .int .i64 v, .string ⟨nm.toArray⟩] w fun e w' => e = .returned (.bool true) ∧ Below w.heap.size w w' := by
  unfold maxLen at _hm
  go_enter Try.func11, Try.ntmps11
  go_wp2_with fail
  refine (awake2_any _).mono ?_
  rintro e w1 ⟨rfl, hb⟩
  go_wp2_with fail
  go_ret
  exact ⟨rfl, hb⟩

set_option maxHeartbeats 4000000 in
set_option maxRecDepth 100000 in
theorem deep_none (n v : Int) (nm : List UInt8) (w : World) (h200 : (nm.length : Int) ≤ 200) (HLn : Hid (nm = [])) (hL : (nm.length : Int) ≤ 0) (HV : Hid (I64 v)) :
    Calls Try.prog 11 #[.int .i64 n, .int .i64 v, .string ⟨nm.toArray⟩] w fun e w' => e = .returned (.bool true) ∧ Below w.heap.size w w' := by
  obtain ⟨m, hm, _, em⟩ := mask_is n 255 8 (by omega) rfl
  have hm256 : m < 256 := hm
  clear hm
  obtain ⟨N, hN⟩ : ∃ N, N = m % 12 := ⟨_, rfl⟩
  have hN12 : N < 12 := by omega
  have hmN : (m : Int) % 12 = (N : Int) := by omega
  have hnl : nm.length ≤ 140737488355328 := by omega
  have HNL := Lib.hid hnl
  clear hN hnl
  have h0 := tabN_zero_at w
  have H0 := Lib.hid h0
  clear h0
  go_enter Try.func11, Try.ntmps11
  go_wp2_with fail
  go_loopw [7, 8] (fun l i wr => ∃ (j : Nat) (A : Option Addr), j ≤ N ∧ i = .int .i64 ((j : Int) + 1) ∧ l = .slice A 1 1 ∧ TabAt (j + 1) wr wr.heap.size (tabN j) A 1 ∧ Below w.heap.size w wr) (fun _ i _ => N + 1 - (intOf i).toNat)
  case atStart => exact ⟨0, _, Nat.zero_le _, rfl, rfl, TabH.more (by simp) _ _ _ _ H0.out, (Below.refl _ _).alloc (Nat.le_refl _) _⟩
  case round =>
    obtain ⟨j, A, hj, rfl, rfl, ht, hbel⟩ := hrel
    have HT := Lib.hid ht
    have HB := Lib.hid hbel
    have hsz := hbel.size
    clear ht hbel
    by_cases hlt : j < N
    · have hs := tabN_succ_at wr j A HT.out
      have HS := Lib.hid hs
      clear hs
      go_wp2_with fail
      go_roundw
      case rel => exact ⟨j + 1, _, by omega, by go_num, rfl, TabH.more (by simp) _ _ _ _ HS.out, HB.out.alloc hsz _⟩
      case measure => simp [intOf]; omega
    · obtain rfl : j = N := by omega
      have hone := oneF_at wr (.mk nm 73 v [] []) (held_lit _ _ _ _ _ HV.out HNL.out (by decide)) rfl
      have htwo := twoF_at (wr.alloc (.cells (cellsF (.slice none 0 0) (.mk nm 73 v [] [])).toArray 49)) (.mk nm 108 v [] []) (.mk nm 86 0 [] []) (held_lit _ _ _ _ _ HV.out HNL.out (by decide)) rfl (held_lit _ _ _ _ _ (by decide) HNL.out (by decide)) rfl
      have esz : (wr.alloc (.cells (cellsF (.slice none 0 0) (.mk nm 73 v [] [])).toArray 49)).heap.size = wr.heap.size + 1 := by simp
      rw [esz] at htwo
      have hone2 := TabH.below hone (Below.alloc (Below.refl (wr.heap.size + 1) (wr.alloc (.cells (cellsF (.slice none 0 0) (.mk nm 73 v [] [])).toArray 49))) (by simp) (.cells (cellsF (.slice none 0 0) (.mk nm 108 v [] []) ++ cellsF (.slice none 0 0) (.mk nm 86 0 [] [])).toArray 49))
      have htN := TabH.below HT.out ((Below.alloc (Below.refl wr.heap.size wr) (Nat.le_refl _) (.cells (cellsF (.slice none 0 0) (.mk nm 73 v [] [])).toArray 49)).alloc (by simp) (.cells (cellsF (.slice none 0 0) (.mk nm 108 v [] []) ++ cellsF (.slice none 0 0) (.mk nm 86 0 [] [])).toArray 49))
      have hbb : Below w.heap.size w ((wr.alloc (.cells (cellsF (.slice none 0 0) (.mk nm 73 v [] [])).toArray 49)).alloc (.cells (cellsF (.slice none 0 0) (.mk nm 108 v [] []) ++ cellsF (.slice none 0 0) (.mk nm 86 0 [] [])).toArray 49)) := (HB.out.alloc hsz _).alloc (by simp; omega) _
      obtain ⟨wx, hwx⟩ : ∃ wx, wx = (wr.alloc (.cells (cellsF (.slice none 0 0) (.mk nm 73 v [] [])).toArray 49)).alloc (.cells (cellsF (.slice none 0 0) (.mk nm 108 v [] []) ++ cellsF (.slice none 0 0) (.mk nm 86 0 [] [])).toArray 49) := ⟨_, rfl⟩
      have hxs : wx.heap.size = wr.heap.size + 2 := by rw [hwx]; simp
      rw [← hwx] at htwo hone2 htN hbb
      have HONE := Lib.hid hone2
      have HTWO := Lib.hid htwo
      have HTN := Lib.hid htN
      have HBB := Lib.hid hbb
      have HXS := Lib.hid hxs
      have HWX := Lib.hid hwx
      clear hone htwo esz hone2 htN hbb hxs hwx
      have HOK := Lib.hid (tabN_ok j (by omega))
      have HTL : Hid ((tabN j).length = 1) := Lib.hid (tabN_one j)
      obtain ⟨l, hl⟩ : ∃ l, l = tabN j := ⟨_, rfl⟩
      rw [← hl] at HTN HOK HTL
      clear hl
      go_wp2_with fail
      rw [show ((wr.alloc (.cells #[.string ⟨nm.toArray⟩, .int .u8 73, .int .i64 v, .string ⟨#[]⟩, .slice none 0 0] 49)).alloc (.cells #[.string ⟨nm.toArray⟩, .int .u8 108, .int .i64 v, .string ⟨#[]⟩, .slice none 0 0, .string ⟨nm.toArray⟩, .int .u8 86, .int .i64 0, .string ⟨#[]⟩, .slice none 0 0] 49)) = wx from HWX.out.symm]
      rw [show (Value.slice A 1 1) = .slice A l.length 1 from by rw [HTL.out]]
      refine (append_any none 0 [] wr.heap.size A 1 (j + 1) l wx (Lies.empty _ _ _) (by rw [HXS.out]; omega) HTN.out (by simp)).mono ?_
      rintro e w1 ⟨v1, rfl, hown, hb1⟩
      have hz1 := hb1.size
      have HONE1 := Lib.hid (TabH.below HONE.out (hb1.mono (by rw [HXS.out]; omega)))
      have HTWO1 := Lib.hid (TabH.below HTWO.out (hb1.mono (by rw [HXS.out]; omega)))
      have HTN1 := Lib.hid (TabH.below HTN.out (hb1.mono (by rw [HXS.out]; omega)))
      have HB1 := Lib.hid (HBB.out.trans (hb1.mono (by rw [HXS.out]; omega)))
      rw [HXS.out] at hz1
      obtain ⟨X, hX⟩ : ∃ X, X = appB [] l := ⟨_, rfl⟩
      rw [← hX] at hown
      obtain ⟨A1, c1, rfl, hc1, hm1⟩ := own_form hown
      have L1 := Lib.hid (Lies.own hown (Nat.le_refl _))
      have HX := Lib.hid hX
      have HXM : Hid (X.length ≤ maxLen) := Lib.hid (Nat.le_trans hc1 hm1)
      clear hown hb1 hX hc1 hm1
      rw [HOK.out]
      by_cases h8 : j + 1 ≤ 8
      · have hok : okB l = true := by rw [HOK.out]; exact decide_eq_true h8
        have HPAR : Hid (parseB X = some l) := Lib.hid (by rw [HX.out]; exact parse_app l hok)
        have HOK1 := Lib.hid hok
        rw [decide_eq_true h8]
        clear hok
        go_wp2_with fail
        refine (parse_any A1 c1 X w1.heap.size _ L1.out (Nat.le_refl _) HXM.out).mono ?_
        rw [HPAR.out]
        rintro e w4 (⟨hn, _⟩ | ⟨l4, A4, c4, hn, rfl, ht4, hb4⟩)
        case inl => cases hn
        injection hn with hn
        subst hn
        have hz4 := hb4.size
        have HN4 := Lib.hid ht4
        have HONE4 := Lib.hid (TabH.below HONE1.out (hb4.mono (by omega)))
        have HTWO4 := Lib.hid (TabH.below HTWO1.out (hb4.mono (by omega)))
        have HTN4 := Lib.hid (TabH.below HTN1.out (hb4.mono (by omega)))
        have HB4 := Lib.hid (HB1.out.trans (hb4.mono (by omega)))
        clear ht4 hb4
        go_wp2_with fail
        refine (ok_any l A 1 (j + 1) wr.heap.size _ HTN4.out (by omega)).mono ?_
        rintro e w5 ⟨rfl, hb5⟩
        rw [HOK1.out]
        have hz5 := hb5.size
        have HN5 := Lib.hid (TabNew.grown HN4.out (only_below hb5 none) (fun q hq => by cases hq))
        have HONE5 := Lib.hid (TabH.below HONE4.out (hb5.mono (by omega)))
        have HTWO5 := Lib.hid (TabH.below HTWO4.out (hb5.mono (by omega)))
        have HTN5 := Lib.hid (TabH.below HTN4.out (hb5.mono (by omega)))
        have HB5 := Lib.hid (HB4.out.trans (hb5.mono (by omega)))
        clear hb5
        go_wp2_with fail
        refine (same_table 8 l l A4 A c4 1 (j + 1) w5.heap.size wr.heap.size _ HN5.out.at_ HTN5.out (Nat.le_refl _) (by omega)).mono ?_
        rintro e w6 ⟨r, rfl, hr, hb6⟩
        rw [hr.2 rfl]
        have hz6 := hb6.size
        have HONE6 := Lib.hid (TabH.below HONE5.out (hb6.mono (by omega)))
        have HTWO6 := Lib.hid (TabH.below HTWO5.out (hb6.mono (by omega)))
        have HB6 := Lib.hid (HB5.out.trans (hb6.mono (by omega)))
        clear hr hb6
        go_wp2_with fail
        have hk1 : okB [.mk nm 73 v [] []] = false := by rw [okI nm v (by omega)]; rw [HLn.out]; rfl
        have hk2 : okB [.mk nm 108 v [] [], .mk nm 86 0 [] []] = false := two_no _ _ rfl
        have hk3 : okB [.mk nm 108 v [] []] = false := by rw [okl nm v (by omega) HV.out]; rw [HLn.out]; rfl
        have HK1 := Lib.hid hk1
        have HK2 := Lib.hid hk2
        have HK3 := Lib.hid hk3
        clear hk1 hk2 hk3
        refine (ok_any [.mk nm 73 v [] []] _ 1 1 (wr.heap.size + 1) _ HONE6.out (by omega)).mono ?_
        rintro e w7 ⟨rfl, hb7⟩
        rw [HK1.out]
        have hz7 := hb7.size
        have HTWO7 := Lib.hid (TabH.below HTWO6.out (hb7.mono (by omega)))
        have HB7 := Lib.hid (HB6.out.trans (hb7.mono (by omega)))
        clear hb7
        go_wp2_with fail
        refine (ok_any [.mk nm 108 v [] [], .mk nm 86 0 [] []] _ 2 1 (wr.heap.size + 2) _ HTWO7.out (by omega)).mono ?_
        rintro e w8 ⟨rfl, hb8⟩
        rw [HK2.out]
        have hz8 := hb8.size
        have HTWO8 := Lib.hid (twoF_first (TabH.below HTWO7.out (hb8.mono (by omega))))
        have HB8 := Lib.hid (HB7.out.trans (hb8.mono (by omega)))
        clear hb8
        go_wp2_with fail
        refine (ok_any [.mk nm 108 v [] []] _ 2 1 (wr.heap.size + 2) _ HTWO8.out (by omega)).mono ?_
        rintro e w9 ⟨rfl, hb9⟩
        rw [HK3.out]
        have hz9 := hb9.size
        have HB9 := Lib.hid (HB8.out.trans (hb9.mono (by omega)))
        clear hb9
        go_wp2_with fail
        refine (awake2_any _).mono ?_
        rintro e wa ⟨rfl, hba⟩
        have HBA := Lib.hid (HB9.out.trans (hba.mono HB9.out.size))
        clear hba
        go_wp2_with fail
        go_ret
        exact ⟨rfl, HBA.out⟩
      · have hok : okB l = false := by rw [HOK.out]; exact decide_eq_false h8
        have HXE : Hid (X = []) := Lib.hid (by rw [HX.out]; unfold appB; rw [hok]; rfl)
        have HOK1 := Lib.hid hok
        have HPAR : Hid (parseB X = some []) := Lib.hid (by rw [HXE.out]; rfl)
        rw [decide_eq_false h8]
        have h8' : (8 : Int) < (j : Int) + 1 := by omega
        have hd8 : decide ((j : Int) + 1 ≤ 8) = false := decide_eq_false (by omega)
        clear hok
        go_wp2_with fail
        refine (parse_any A1 c1 X w1.heap.size _ L1.out (Nat.le_refl _) HXM.out).mono ?_
        rw [HPAR.out]
        rintro e w4 (⟨hn, _⟩ | ⟨l4, A4, c4, hn, rfl, ht4, hb4⟩)
        case inl => cases hn
        injection hn with hn
        subst hn
        have hz4 := hb4.size
        have HONE4 := Lib.hid (TabH.below HONE1.out (hb4.mono (by omega)))
        have HTWO4 := Lib.hid (TabH.below HTWO1.out (hb4.mono (by omega)))
        have HTN4 := Lib.hid (TabH.below HTN1.out (hb4.mono (by omega)))
        have HB4 := Lib.hid (HB1.out.trans (hb4.mono (by omega)))
        clear ht4 hb4
        go_wp2_with fail
        refine (ok_any l A 1 (j + 1) wr.heap.size _ HTN4.out (by omega)).mono ?_
        rintro e w6 ⟨rfl, hb6⟩
        rw [HOK1.out]
        have hz6 := hb6.size
        have hz5 := hz4
        have HONE6 := Lib.hid (TabH.below HONE4.out (hb6.mono (by omega)))
        have HTWO6 := Lib.hid (TabH.below HTWO4.out (hb6.mono (by omega)))
        have HB6 := Lib.hid (HB4.out.trans (hb6.mono (by omega)))
        clear hb6
        go_wp2_with fail
        have hk1 : okB [.mk nm 73 v [] []] = false := by rw [okI nm v (by omega)]; rw [HLn.out]; rfl
        have hk2 : okB [.mk nm 108 v [] [], .mk nm 86 0 [] []] = false := two_no _ _ rfl
        have hk3 : okB [.mk nm 108 v [] []] = false := by rw [okl nm v (by omega) HV.out]; rw [HLn.out]; rfl
        have HK1 := Lib.hid hk1
        have HK2 := Lib.hid hk2
        have HK3 := Lib.hid hk3
        clear hk1 hk2 hk3
        refine (ok_any [.mk nm 73 v [] []] _ 1 1 (wr.heap.size + 1) _ HONE6.out (by omega)).mono ?_
        rintro e w7 ⟨rfl, hb7⟩
        rw [HK1.out]
        have hz7 := hb7.size
        have HTWO7 := Lib.hid (TabH.below HTWO6.out (hb7.mono (by omega)))
        have HB7 := Lib.hid (HB6.out.trans (hb7.mono (by omega)))
        clear hb7
        go_wp2_with fail
        refine (ok_any [.mk nm 108 v [] [], .mk nm 86 0 [] []] _ 2 1 (wr.heap.size + 2) _ HTWO7.out (by omega)).mono ?_
        rintro e w8 ⟨rfl, hb8⟩
        rw [HK2.out]
        have hz8 := hb8.size
        have HTWO8 := Lib.hid (twoF_first (TabH.below HTWO7.out (hb8.mono (by omega))))
        have HB8 := Lib.hid (HB7.out.trans (hb8.mono (by omega)))
        clear hb8
        go_wp2_with fail
        refine (ok_any [.mk nm 108 v [] []] _ 2 1 (wr.heap.size + 2) _ HTWO8.out (by omega)).mono ?_
        rintro e w9 ⟨rfl, hb9⟩
        rw [HK3.out]
        have hz9 := hb9.size
        have HB9 := Lib.hid (HB8.out.trans (hb9.mono (by omega)))
        clear hb9
        go_wp2_with fail
        refine (awake2_any _).mono ?_
        rintro e wa ⟨rfl, hba⟩
        have HBA := Lib.hid (HB9.out.trans (hba.mono HB9.out.size))
        clear hba
        go_wp2_with fail
        go_ret
        exact ⟨rfl, HBA.out⟩

set_option maxHeartbeats 4000000 in
set_option maxRecDepth 100000 in
theorem deep_more (n v : Int) (nm : List UInt8) (w : World) (h200 : (nm.length : Int) ≤ 200) (hL : 128 < (nm.length : Int)) (hL1 : 1 ≤ (nm.length : Int)) (HV : Hid (I64 v)) :
    Calls Try.prog 11 #[.int .i64 n, .int .i64 v, .string ⟨nm.toArray⟩] w fun e w' => e = .returned (.bool true) ∧ Below w.heap.size w w' := by
  obtain ⟨m, hm, _, em⟩ := mask_is n 255 8 (by omega) rfl
  have hm256 : m < 256 := hm
  clear hm
  obtain ⟨N, hN⟩ : ∃ N, N = m % 12 := ⟨_, rfl⟩
  have hN12 : N < 12 := by omega
  have hmN : (m : Int) % 12 = (N : Int) := by omega
  have hnl : nm.length ≤ 140737488355328 := by omega
  have HNL := Lib.hid hnl
  clear hN hnl
  have h0 := tabN_zero_at w
  have H0 := Lib.hid h0
  clear h0
  go_enter Try.func11, Try.ntmps11
  go_wp2_with fail
  go_loopw [7, 8] (fun l i wr => ∃ (j : Nat) (A : Option Addr), j ≤ N ∧ i = .int .i64 ((j : Int) + 1) ∧ l = .slice A 1 1 ∧ TabAt (j + 1) wr wr.heap.size (tabN j) A 1 ∧ Below w.heap.size w wr) (fun _ i _ => N + 1 - (intOf i).toNat)
  case atStart => exact ⟨0, _, Nat.zero_le _, rfl, rfl, TabH.more (by simp) _ _ _ _ H0.out, (Below.refl _ _).alloc (Nat.le_refl _) _⟩
  case round =>
    obtain ⟨j, A, hj, rfl, rfl, ht, hbel⟩ := hrel
    have HT := Lib.hid ht
    have HB := Lib.hid hbel
    have hsz := hbel.size
    clear ht hbel
    by_cases hlt : j < N
    · have hs := tabN_succ_at wr j A HT.out
      have HS := Lib.hid hs
      clear hs
      go_wp2_with fail
      go_roundw
      case rel => exact ⟨j + 1, _, by omega, by go_num, rfl, TabH.more (by simp) _ _ _ _ HS.out, HB.out.alloc hsz _⟩
      case measure => simp [intOf]; omega
    · obtain rfl : j = N := by omega
      have hone := oneF_at wr (.mk nm 73 v [] []) (held_lit _ _ _ _ _ HV.out HNL.out (by decide)) rfl
      have htwo := twoF_at (wr.alloc (.cells (cellsF (.slice none 0 0) (.mk nm 73 v [] [])).toArray 49)) (.mk nm 108 v [] []) (.mk nm 86 0 [] []) (held_lit _ _ _ _ _ HV.out HNL.out (by decide)) rfl (held_lit _ _ _ _ _ (by decide) HNL.out (by decide)) rfl
      have esz : (wr.alloc (.cells (cellsF (.slice none 0 0) (.mk nm 73 v [] [])).toArray 49)).heap.size = wr.heap.size + 1 := by simp
      rw [esz] at htwo
      have hone2 := TabH.below hone (Below.alloc (Below.refl (wr.heap.size + 1) (wr.alloc (.cells (cellsF (.slice none 0 0) (.mk nm 73 v [] [])).toArray 49))) (by simp) (.cells (cellsF (.slice none 0 0) (.mk nm 108 v [] []) ++ cellsF (.slice none 0 0) (.mk nm 86 0 [] [])).toArray 49))
      have htN := TabH.below HT.out ((Below.alloc (Below.refl wr.heap.size wr) (Nat.le_refl _) (.cells (cellsF (.slice none 0 0) (.mk nm 73 v [] [])).toArray 49)).alloc (by simp) (.cells (cellsF (.slice none 0 0) (.mk nm 108 v [] []) ++ cellsF (.slice none 0 0) (.mk nm 86 0 [] [])).toArray 49))
      have hbb : Below w.heap.size w ((wr.alloc (.cells (cellsF (.slice none 0 0) (.mk nm 73 v [] [])).toArray 49)).alloc (.cells (cellsF (.slice none 0 0) (.mk nm 108 v [] []) ++ cellsF (.slice none 0 0) (.mk nm 86 0 [] [])).toArray 49)) := (HB.out.alloc hsz _).alloc (by simp; omega) _
      obtain ⟨wx, hwx⟩ : ∃ wx, wx = (wr.alloc (.cells (cellsF (.slice none 0 0) (.mk nm 73 v [] [])).toArray 49)).alloc (.cells (cellsF (.slice none 0 0) (.mk nm 108 v [] []) ++ cellsF (.slice none 0 0) (.mk nm 86 0 [] [])).toArray 49) := ⟨_, rfl⟩
      have hxs : wx.heap.size = wr.heap.size + 2 := by rw [hwx]; simp
      rw [← hwx] at htwo hone2 htN hbb
      have HONE := Lib.hid hone2
      have HTWO := Lib.hid htwo
      have HTN := Lib.hid htN
      have HBB := Lib.hid hbb
      have HXS := Lib.hid hxs
      have HWX := Lib.hid hwx
      clear hone htwo esz hone2 htN hbb hxs hwx
      have HOK := Lib.hid (tabN_ok j (by omega))
      have HTL : Hid ((tabN j).length = 1) := Lib.hid (tabN_one j)
      obtain ⟨l, hl⟩ : ∃ l, l = tabN j := ⟨_, rfl⟩
      rw [← hl] at HTN HOK HTL
      clear hl
      go_wp2_with fail
      rw [show ((wr.alloc (.cells #[.string ⟨nm.toArray⟩, .int .u8 73, .int .i64 v, .string ⟨#[]⟩, .slice none 0 0] 49)).alloc (.cells #[.string ⟨nm.toArray⟩, .int .u8 108, .int .i64 v, .string ⟨#[]⟩, .slice none 0 0, .string ⟨nm.toArray⟩, .int .u8 86, .int .i64 0, .string ⟨#[]⟩, .slice none 0 0] 49)) = wx from HWX.out.symm]
      rw [show (Value.slice A 1 1) = .slice A l.length 1 from by rw [HTL.out]]
      refine (append_any none 0 [] wr.heap.size A 1 (j + 1) l wx (Lies.empty _ _ _) (by rw [HXS.out]; omega) HTN.out (by simp)).mono ?_
      rintro e w1 ⟨v1, rfl, hown, hb1⟩
      have hz1 := hb1.size
      have HONE1 := Lib.hid (TabH.below HONE.out (hb1.mono (by rw [HXS.out]; omega)))
      have HTWO1 := Lib.hid (TabH.below HTWO.out (hb1.mono (by rw [HXS.out]; omega)))
      have HTN1 := Lib.hid (TabH.below HTN.out (hb1.mono (by rw [HXS.out]; omega)))
      have HB1 := Lib.hid (HBB.out.trans (hb1.mono (by rw [HXS.out]; omega)))
      rw [HXS.out] at hz1
      obtain ⟨X, hX⟩ : ∃ X, X = appB [] l := ⟨_, rfl⟩
      rw [← hX] at hown
      obtain ⟨A1, c1, rfl, hc1, hm1⟩ := own_form hown
      have L1 := Lib.hid (Lies.own hown (Nat.le_refl _))
      have HX := Lib.hid hX
      have HXM : Hid (X.length ≤ maxLen) := Lib.hid (Nat.le_trans hc1 hm1)
      clear hown hb1 hX hc1 hm1
      rw [HOK.out]
      by_cases h8 : j + 1 ≤ 8
      · have hok : okB l = true := by rw [HOK.out]; exact decide_eq_true h8
        have HPAR : Hid (parseB X = some l) := Lib.hid (by rw [HX.out]; exact parse_app l hok)
        have HOK1 := Lib.hid hok
        rw [decide_eq_true h8]
        clear hok
        go_wp2_with fail
        refine (parse_any A1 c1 X w1.heap.size _ L1.out (Nat.le_refl _) HXM.out).mono ?_
        rw [HPAR.out]
        rintro e w4 (⟨hn, _⟩ | ⟨l4, A4, c4, hn, rfl, ht4, hb4⟩)
        case inl => cases hn
        injection hn with hn
        subst hn
        have hz4 := hb4.size
        have HN4 := Lib.hid ht4
        have HONE4 := Lib.hid (TabH.below HONE1.out (hb4.mono (by omega)))
        have HTWO4 := Lib.hid (TabH.below HTWO1.out (hb4.mono (by omega)))
        have HTN4 := Lib.hid (TabH.below HTN1.out (hb4.mono (by omega)))
        have HB4 := Lib.hid (HB1.out.trans (hb4.mono (by omega)))
        clear ht4 hb4
        go_wp2_with fail
        refine (ok_any l A 1 (j + 1) wr.heap.size _ HTN4.out (by omega)).mono ?_
        rintro e w5 ⟨rfl, hb5⟩
        rw [HOK1.out]
        have hz5 := hb5.size
        have HN5 := Lib.hid (TabNew.grown HN4.out (only_below hb5 none) (fun q hq => by cases hq))
        have HONE5 := Lib.hid (TabH.below HONE4.out (hb5.mono (by omega)))
        have HTWO5 := Lib.hid (TabH.below HTWO4.out (hb5.mono (by omega)))
        have HTN5 := Lib.hid (TabH.below HTN4.out (hb5.mono (by omega)))
        have HB5 := Lib.hid (HB4.out.trans (hb5.mono (by omega)))
        clear hb5
        go_wp2_with fail
        refine (same_table 8 l l A4 A c4 1 (j + 1) w5.heap.size wr.heap.size _ HN5.out.at_ HTN5.out (Nat.le_refl _) (by omega)).mono ?_
        rintro e w6 ⟨r, rfl, hr, hb6⟩
        rw [hr.2 rfl]
        have hz6 := hb6.size
        have HONE6 := Lib.hid (TabH.below HONE5.out (hb6.mono (by omega)))
        have HTWO6 := Lib.hid (TabH.below HTWO5.out (hb6.mono (by omega)))
        have HB6 := Lib.hid (HB5.out.trans (hb6.mono (by omega)))
        clear hr hb6
        go_wp2_with fail
        have hk1 : okB [.mk nm 73 v [] []] = false := by rw [okI nm v (by omega)]; rw [decide_eq_false (show ¬ (1 ≤ nm.length ∧ nm.length ≤ 128) by omega), Bool.false_and]
        have hk2 : okB [.mk nm 108 v [] [], .mk nm 86 0 [] []] = false := two_no _ _ rfl
        have hk3 : okB [.mk nm 108 v [] []] = false := by rw [okl nm v (by omega) HV.out]; exact decide_eq_false (by omega)
        have HK1 := Lib.hid hk1
        have HK2 := Lib.hid hk2
        have HK3 := Lib.hid hk3
        clear hk1 hk2 hk3
        refine (ok_any [.mk nm 73 v [] []] _ 1 1 (wr.heap.size + 1) _ HONE6.out (by omega)).mono ?_
        rintro e w7 ⟨rfl, hb7⟩
        rw [HK1.out]
        have hz7 := hb7.size
        have HTWO7 := Lib.hid (TabH.below HTWO6.out (hb7.mono (by omega)))
        have HB7 := Lib.hid (HB6.out.trans (hb7.mono (by omega)))
        clear hb7
        go_wp2_with fail
        refine (ok_any [.mk nm 108 v [] [], .mk nm 86 0 [] []] _ 2 1 (wr.heap.size + 2) _ HTWO7.out (by omega)).mono ?_
        rintro e w8 ⟨rfl, hb8⟩
        rw [HK2.out]
        have hz8 := hb8.size
        have HTWO8 := Lib.hid (twoF_first (TabH.below HTWO7.out (hb8.mono (by omega))))
        have HB8 := Lib.hid (HB7.out.trans (hb8.mono (by omega)))
        clear hb8
        go_wp2_with fail
        refine (ok_any [.mk nm 108 v [] []] _ 2 1 (wr.heap.size + 2) _ HTWO8.out (by omega)).mono ?_
        rintro e w9 ⟨rfl, hb9⟩
        rw [HK3.out]
        have hz9 := hb9.size
        have HB9 := Lib.hid (HB8.out.trans (hb9.mono (by omega)))
        clear hb9
        go_wp2_with fail
        refine (awake2_any _).mono ?_
        rintro e wa ⟨rfl, hba⟩
        have HBA := Lib.hid (HB9.out.trans (hba.mono HB9.out.size))
        clear hba
        go_wp2_with fail
        go_ret
        exact ⟨rfl, HBA.out⟩
      · have hok : okB l = false := by rw [HOK.out]; exact decide_eq_false h8
        have HXE : Hid (X = []) := Lib.hid (by rw [HX.out]; unfold appB; rw [hok]; rfl)
        have HOK1 := Lib.hid hok
        have HPAR : Hid (parseB X = some []) := Lib.hid (by rw [HXE.out]; rfl)
        rw [decide_eq_false h8]
        have h8' : (8 : Int) < (j : Int) + 1 := by omega
        have hd8 : decide ((j : Int) + 1 ≤ 8) = false := decide_eq_false (by omega)
        clear hok
        go_wp2_with fail
        refine (parse_any A1 c1 X w1.heap.size _ L1.out (Nat.le_refl _) HXM.out).mono ?_
        rw [HPAR.out]
        rintro e w4 (⟨hn, _⟩ | ⟨l4, A4, c4, hn, rfl, ht4, hb4⟩)
        case inl => cases hn
        injection hn with hn
        subst hn
        have hz4 := hb4.size
        have HONE4 := Lib.hid (TabH.below HONE1.out (hb4.mono (by omega)))
        have HTWO4 := Lib.hid (TabH.below HTWO1.out (hb4.mono (by omega)))
        have HTN4 := Lib.hid (TabH.below HTN1.out (hb4.mono (by omega)))
        have HB4 := Lib.hid (HB1.out.trans (hb4.mono (by omega)))
        clear ht4 hb4
        go_wp2_with fail
        refine (ok_any l A 1 (j + 1) wr.heap.size _ HTN4.out (by omega)).mono ?_
        rintro e w6 ⟨rfl, hb6⟩
        rw [HOK1.out]
        have hz6 := hb6.size
        have hz5 := hz4
        have HONE6 := Lib.hid (TabH.below HONE4.out (hb6.mono (by omega)))
        have HTWO6 := Lib.hid (TabH.below HTWO4.out (hb6.mono (by omega)))
        have HB6 := Lib.hid (HB4.out.trans (hb6.mono (by omega)))
        clear hb6
        go_wp2_with fail
        have hk1 : okB [.mk nm 73 v [] []] = false := by rw [okI nm v (by omega)]; rw [decide_eq_false (show ¬ (1 ≤ nm.length ∧ nm.length ≤ 128) by omega), Bool.false_and]
        have hk2 : okB [.mk nm 108 v [] [], .mk nm 86 0 [] []] = false := two_no _ _ rfl
        have hk3 : okB [.mk nm 108 v [] []] = false := by rw [okl nm v (by omega) HV.out]; exact decide_eq_false (by omega)
        have HK1 := Lib.hid hk1
        have HK2 := Lib.hid hk2
        have HK3 := Lib.hid hk3
        clear hk1 hk2 hk3
        refine (ok_any [.mk nm 73 v [] []] _ 1 1 (wr.heap.size + 1) _ HONE6.out (by omega)).mono ?_
        rintro e w7 ⟨rfl, hb7⟩
        rw [HK1.out]
        have hz7 := hb7.size
        have HTWO7 := Lib.hid (TabH.below HTWO6.out (hb7.mono (by omega)))
        have HB7 := Lib.hid (HB6.out.trans (hb7.mono (by omega)))
        clear hb7
        go_wp2_with fail
        refine (ok_any [.mk nm 108 v [] [], .mk nm 86 0 [] []] _ 2 1 (wr.heap.size + 2) _ HTWO7.out (by omega)).mono ?_
        rintro e w8 ⟨rfl, hb8⟩
        rw [HK2.out]
        have hz8 := hb8.size
        have HTWO8 := Lib.hid (twoF_first (TabH.below HTWO7.out (hb8.mono (by omega))))
        have HB8 := Lib.hid (HB7.out.trans (hb8.mono (by omega)))
        clear hb8
        go_wp2_with fail
        refine (ok_any [.mk nm 108 v [] []] _ 2 1 (wr.heap.size + 2) _ HTWO8.out (by omega)).mono ?_
        rintro e w9 ⟨rfl, hb9⟩
        rw [HK3.out]
        have hz9 := hb9.size
        have HB9 := Lib.hid (HB8.out.trans (hb9.mono (by omega)))
        clear hb9
        go_wp2_with fail
        refine (awake2_any _).mono ?_
        rintro e wa ⟨rfl, hba⟩
        have HBA := Lib.hid (HB9.out.trans (hba.mono HB9.out.size))
        clear hba
        go_wp2_with fail
        go_ret
        exact ⟨rfl, HBA.out⟩

set_option maxHeartbeats 4000000 in
set_option maxRecDepth 100000 in
theorem deep_fits (n v : Int) (nm : List UInt8) (w : World) (h200 : (nm.length : Int) ≤ 200) (hL1 : 1 ≤ (nm.length : Int)) (hL : (nm.length : Int) ≤ 128) (hv1 : -2147483648 ≤ v) (hv2 : v ≤ 2147483647) (HV : Hid (I64 v)) :
    Calls Try.prog 11 #[.int .i64 n, .int .i64 v, .string ⟨nm.toArray⟩] w fun e w' => e = .returned (.bool true) ∧ Below w.heap.size w w' := by
  obtain ⟨m, hm, _, em⟩ := mask_is n 255 8 (by omega) rfl
  have hm256 : m < 256 := hm
  clear hm
  obtain ⟨N, hN⟩ : ∃ N, N = m % 12 := ⟨_, rfl⟩
  have hN12 : N < 12 := by omega
  have hmN : (m : Int) % 12 = (N : Int) := by omega
  have hnl : nm.length ≤ 140737488355328 := by omega
  have HNL := Lib.hid hnl
  clear hN hnl
  have h0 := tabN_zero_at w
  have H0 := Lib.hid h0
  clear h0
  go_enter Try.func11, Try.ntmps11
  go_wp2_with fail
  go_loopw [7, 8] (fun l i wr => ∃ (j : Nat) (A : Option Addr), j ≤ N ∧ i = .int .i64 ((j : Int) + 1) ∧ l = .slice A 1 1 ∧ TabAt (j + 1) wr wr.heap.size (tabN j) A 1 ∧ Below w.heap.size w wr) (fun _ i _ => N + 1 - (intOf i).toNat)
  case atStart => exact ⟨0, _, Nat.zero_le _, rfl, rfl, TabH.more (by simp) _ _ _ _ H0.out, (Below.refl _ _).alloc (Nat.le_refl _) _⟩
  case round =>
    obtain ⟨j, A, hj, rfl, rfl, ht, hbel⟩ := hrel
    have HT := Lib.hid ht
    have HB := Lib.hid hbel
    have hsz := hbel.size
    clear ht hbel
    by_cases hlt : j < N
    · have hs := tabN_succ_at wr j A HT.out
      have HS := Lib.hid hs
      clear hs
      go_wp2_with fail
      go_roundw
      case rel => exact ⟨j + 1, _, by omega, by go_num, rfl, TabH.more (by simp) _ _ _ _ HS.out, HB.out.alloc hsz _⟩
      case measure => simp [intOf]; omega
    · obtain rfl : j = N := by omega
      have hone := oneF_at wr (.mk nm 73 v [] []) (held_lit _ _ _ _ _ HV.out HNL.out (by decide)) rfl
      have htwo := twoF_at (wr.alloc (.cells (cellsF (.slice none 0 0) (.mk nm 73 v [] [])).toArray 49)) (.mk nm 108 v [] []) (.mk nm 86 0 [] []) (held_lit _ _ _ _ _ HV.out HNL.out (by decide)) rfl (held_lit _ _ _ _ _ (by decide) HNL.out (by decide)) rfl
      have esz : (wr.alloc (.cells (cellsF (.slice none 0 0) (.mk nm 73 v [] [])).toArray 49)).heap.size = wr.heap.size + 1 := by simp
      rw [esz] at htwo
      have hone2 := TabH.below hone (Below.alloc (Below.refl (wr.heap.size + 1) (wr.alloc (.cells (cellsF (.slice none 0 0) (.mk nm 73 v [] [])).toArray 49))) (by simp) (.cells (cellsF (.slice none 0 0) (.mk nm 108 v [] []) ++ cellsF (.slice none 0 0) (.mk nm 86 0 [] [])).toArray 49))
      have htN := TabH.below HT.out ((Below.alloc (Below.refl wr.heap.size wr) (Nat.le_refl _) (.cells (cellsF (.slice none 0 0) (.mk nm 73 v [] [])).toArray 49)).alloc (by simp) (.cells (cellsF (.slice none 0 0) (.mk nm 108 v [] []) ++ cellsF (.slice none 0 0) (.mk nm 86 0 [] [])).toArray 49))
      have hbb : Below w.heap.size w ((wr.alloc (.cells (cellsF (.slice none 0 0) (.mk nm 73 v [] [])).toArray 49)).alloc (.cells (cellsF (.slice none 0 0) (.mk nm 108 v [] []) ++ cellsF (.slice none 0 0) (.mk nm 86 0 [] [])).toArray 49)) := (HB.out.alloc hsz _).alloc (by simp; omega) _
      obtain ⟨wx, hwx⟩ : ∃ wx, wx = (wr.alloc (.cells (cellsF (.slice none 0 0) (.mk nm 73 v [] [])).toArray 49)).alloc (.cells (cellsF (.slice none 0 0) (.mk nm 108 v [] []) ++ cellsF (.slice none 0 0) (.mk nm 86 0 [] [])).toArray 49) := ⟨_, rfl⟩
      have hxs : wx.heap.size = wr.heap.size + 2 := by rw [hwx]; simp
      rw [← hwx] at htwo hone2 htN hbb
      have HONE := Lib.hid hone2
      have HTWO := Lib.hid htwo
      have HTN := Lib.hid htN
      have HBB := Lib.hid hbb
      have HXS := Lib.hid hxs
      have HWX := Lib.hid hwx
      clear hone htwo esz hone2 htN hbb hxs hwx
      have HOK := Lib.hid (tabN_ok j (by omega))
      have HTL : Hid ((tabN j).length = 1) := Lib.hid (tabN_one j)
      obtain ⟨l, hl⟩ : ∃ l, l = tabN j := ⟨_, rfl⟩
      rw [← hl] at HTN HOK HTL
      clear hl
      go_wp2_with fail
      rw [show ((wr.alloc (.cells #[.string ⟨nm.toArray⟩, .int .u8 73, .int .i64 v, .string ⟨#[]⟩, .slice none 0 0] 49)).alloc (.cells #[.string ⟨nm.toArray⟩, .int .u8 108, .int .i64 v, .string ⟨#[]⟩, .slice none 0 0, .string ⟨nm.toArray⟩, .int .u8 86, .int .i64 0, .string ⟨#[]⟩, .slice none 0 0] 49)) = wx from HWX.out.symm]
      rw [show (Value.slice A 1 1) = .slice A l.length 1 from by rw [HTL.out]]
      refine (append_any none 0 [] wr.heap.size A 1 (j + 1) l wx (Lies.empty _ _ _) (by rw [HXS.out]; omega) HTN.out (by simp)).mono ?_
      rintro e w1 ⟨v1, rfl, hown, hb1⟩
      have hz1 := hb1.size
      have HONE1 := Lib.hid (TabH.below HONE.out (hb1.mono (by rw [HXS.out]; omega)))
      have HTWO1 := Lib.hid (TabH.below HTWO.out (hb1.mono (by rw [HXS.out]; omega)))
      have HTN1 := Lib.hid (TabH.below HTN.out (hb1.mono (by rw [HXS.out]; omega)))
      have HB1 := Lib.hid (HBB.out.trans (hb1.mono (by rw [HXS.out]; omega)))
      rw [HXS.out] at hz1
      obtain ⟨X, hX⟩ : ∃ X, X = appB [] l := ⟨_, rfl⟩
      rw [← hX] at hown
      obtain ⟨A1, c1, rfl, hc1, hm1⟩ := own_form hown
      have L1 := Lib.hid (Lies.own hown (Nat.le_refl _))
      have HX := Lib.hid hX
      have HXM : Hid (X.length ≤ maxLen) := Lib.hid (Nat.le_trans hc1 hm1)
      clear hown hb1 hX hc1 hm1
      rw [HOK.out]
      by_cases h8 : j + 1 ≤ 8
      · have hok : okB l = true := by rw [HOK.out]; exact decide_eq_true h8
        have HPAR : Hid (parseB X = some l) := Lib.hid (by rw [HX.out]; exact parse_app l hok)
        have HOK1 := Lib.hid hok
        rw [decide_eq_true h8]
        clear hok
        go_wp2_with fail
        refine (parse_any A1 c1 X w1.heap.size _ L1.out (Nat.le_refl _) HXM.out).mono ?_
        rw [HPAR.out]
        rintro e w4 (⟨hn, _⟩ | ⟨l4, A4, c4, hn, rfl, ht4, hb4⟩)
        case inl => cases hn
        injection hn with hn
        subst hn
        have hz4 := hb4.size
        have HN4 := Lib.hid ht4
        have HONE4 := Lib.hid (TabH.below HONE1.out (hb4.mono (by omega)))
        have HTWO4 := Lib.hid (TabH.below HTWO1.out (hb4.mono (by omega)))
        have HTN4 := Lib.hid (TabH.below HTN1.out (hb4.mono (by omega)))
        have HB4 := Lib.hid (HB1.out.trans (hb4.mono (by omega)))
        clear ht4 hb4
        go_wp2_with fail
        refine (ok_any l A 1 (j + 1) wr.heap.size _ HTN4.out (by omega)).mono ?_
        rintro e w5 ⟨rfl, hb5⟩
        rw [HOK1.out]
        have hz5 := hb5.size
        have HN5 := Lib.hid (TabNew.grown HN4.out (only_below hb5 none) (fun q hq => by cases hq))
        have HONE5 := Lib.hid (TabH.below HONE4.out (hb5.mono (by omega)))
        have HTWO5 := Lib.hid (TabH.below HTWO4.out (hb5.mono (by omega)))
        have HTN5 := Lib.hid (TabH.below HTN4.out (hb5.mono (by omega)))
        have HB5 := Lib.hid (HB4.out.trans (hb5.mono (by omega)))
        clear hb5
        go_wp2_with fail
        refine (same_table 8 l l A4 A c4 1 (j + 1) w5.heap.size wr.heap.size _ HN5.out.at_ HTN5.out (Nat.le_refl _) (by omega)).mono ?_
        rintro e w6 ⟨r, rfl, hr, hb6⟩
        rw [hr.2 rfl]
        have hz6 := hb6.size
        have HONE6 := Lib.hid (TabH.below HONE5.out (hb6.mono (by omega)))
        have HTWO6 := Lib.hid (TabH.below HTWO5.out (hb6.mono (by omega)))
        have HB6 := Lib.hid (HB5.out.trans (hb6.mono (by omega)))
        clear hr hb6
        go_wp2_with fail
        have hk1 : okB [.mk nm 73 v [] []] = true := by rw [okI nm v (by omega)]; rw [decide_eq_true (show 1 ≤ nm.length ∧ nm.length ≤ 128 from ⟨by omega, by omega⟩), decide_eq_true (show I32 v from ⟨by omega, by omega⟩)]; rfl
        have hk2 : okB [.mk nm 108 v [] [], .mk nm 86 0 [] []] = false := two_no _ _ rfl
        have hk3 : okB [.mk nm 108 v [] []] = true := by rw [okl nm v (by omega) HV.out]; exact decide_eq_true ⟨by omega, by omega⟩
        have HK1 := Lib.hid hk1
        have HK2 := Lib.hid hk2
        have HK3 := Lib.hid hk3
        clear hk1 hk2 hk3
        refine (ok_any [.mk nm 73 v [] []] _ 1 1 (wr.heap.size + 1) _ HONE6.out (by omega)).mono ?_
        rintro e w7 ⟨rfl, hb7⟩
        rw [HK1.out]
        have hz7 := hb7.size
        have HTWO7 := Lib.hid (TabH.below HTWO6.out (hb7.mono (by omega)))
        have HB7 := Lib.hid (HB6.out.trans (hb7.mono (by omega)))
        clear hb7
        go_wp2_with fail
        refine (ok_any [.mk nm 108 v [] [], .mk nm 86 0 [] []] _ 2 1 (wr.heap.size + 2) _ HTWO7.out (by omega)).mono ?_
        rintro e w8 ⟨rfl, hb8⟩
        rw [HK2.out]
        have hz8 := hb8.size
        have HTWO8 := Lib.hid (twoF_first (TabH.below HTWO7.out (hb8.mono (by omega))))
        have HB8 := Lib.hid (HB7.out.trans (hb8.mono (by omega)))
        clear hb8
        go_wp2_with fail
        refine (ok_any [.mk nm 108 v [] []] _ 2 1 (wr.heap.size + 2) _ HTWO8.out (by omega)).mono ?_
        rintro e w9 ⟨rfl, hb9⟩
        rw [HK3.out]
        have hz9 := hb9.size
        have HB9 := Lib.hid (HB8.out.trans (hb9.mono (by omega)))
        clear hb9
        go_wp2_with fail
        refine (awake2_any _).mono ?_
        rintro e wa ⟨rfl, hba⟩
        have HBA := Lib.hid (HB9.out.trans (hba.mono HB9.out.size))
        clear hba
        go_wp2_with fail
        go_ret
        exact ⟨rfl, HBA.out⟩
      · have hok : okB l = false := by rw [HOK.out]; exact decide_eq_false h8
        have HXE : Hid (X = []) := Lib.hid (by rw [HX.out]; unfold appB; rw [hok]; rfl)
        have HOK1 := Lib.hid hok
        have HPAR : Hid (parseB X = some []) := Lib.hid (by rw [HXE.out]; rfl)
        rw [decide_eq_false h8]
        have h8' : (8 : Int) < (j : Int) + 1 := by omega
        have hd8 : decide ((j : Int) + 1 ≤ 8) = false := decide_eq_false (by omega)
        clear hok
        go_wp2_with fail
        refine (parse_any A1 c1 X w1.heap.size _ L1.out (Nat.le_refl _) HXM.out).mono ?_
        rw [HPAR.out]
        rintro e w4 (⟨hn, _⟩ | ⟨l4, A4, c4, hn, rfl, ht4, hb4⟩)
        case inl => cases hn
        injection hn with hn
        subst hn
        have hz4 := hb4.size
        have HONE4 := Lib.hid (TabH.below HONE1.out (hb4.mono (by omega)))
        have HTWO4 := Lib.hid (TabH.below HTWO1.out (hb4.mono (by omega)))
        have HTN4 := Lib.hid (TabH.below HTN1.out (hb4.mono (by omega)))
        have HB4 := Lib.hid (HB1.out.trans (hb4.mono (by omega)))
        clear ht4 hb4
        go_wp2_with fail
        refine (ok_any l A 1 (j + 1) wr.heap.size _ HTN4.out (by omega)).mono ?_
        rintro e w6 ⟨rfl, hb6⟩
        rw [HOK1.out]
        have hz6 := hb6.size
        have hz5 := hz4
        have HONE6 := Lib.hid (TabH.below HONE4.out (hb6.mono (by omega)))
        have HTWO6 := Lib.hid (TabH.below HTWO4.out (hb6.mono (by omega)))
        have HB6 := Lib.hid (HB4.out.trans (hb6.mono (by omega)))
        clear hb6
        go_wp2_with fail
        have hk1 : okB [.mk nm 73 v [] []] = true := by rw [okI nm v (by omega)]; rw [decide_eq_true (show 1 ≤ nm.length ∧ nm.length ≤ 128 from ⟨by omega, by omega⟩), decide_eq_true (show I32 v from ⟨by omega, by omega⟩)]; rfl
        have hk2 : okB [.mk nm 108 v [] [], .mk nm 86 0 [] []] = false := two_no _ _ rfl
        have hk3 : okB [.mk nm 108 v [] []] = true := by rw [okl nm v (by omega) HV.out]; exact decide_eq_true ⟨by omega, by omega⟩
        have HK1 := Lib.hid hk1
        have HK2 := Lib.hid hk2
        have HK3 := Lib.hid hk3
        clear hk1 hk2 hk3
        refine (ok_any [.mk nm 73 v [] []] _ 1 1 (wr.heap.size + 1) _ HONE6.out (by omega)).mono ?_
        rintro e w7 ⟨rfl, hb7⟩
        rw [HK1.out]
        have hz7 := hb7.size
        have HTWO7 := Lib.hid (TabH.below HTWO6.out (hb7.mono (by omega)))
        have HB7 := Lib.hid (HB6.out.trans (hb7.mono (by omega)))
        clear hb7
        go_wp2_with fail
        refine (ok_any [.mk nm 108 v [] [], .mk nm 86 0 [] []] _ 2 1 (wr.heap.size + 2) _ HTWO7.out (by omega)).mono ?_
        rintro e w8 ⟨rfl, hb8⟩
        rw [HK2.out]
        have hz8 := hb8.size
        have HTWO8 := Lib.hid (twoF_first (TabH.below HTWO7.out (hb8.mono (by omega))))
        have HB8 := Lib.hid (HB7.out.trans (hb8.mono (by omega)))
        clear hb8
        go_wp2_with fail
        refine (ok_any [.mk nm 108 v [] []] _ 2 1 (wr.heap.size + 2) _ HTWO8.out (by omega)).mono ?_
        rintro e w9 ⟨rfl, hb9⟩
        rw [HK3.out]
        have hz9 := hb9.size
        have HB9 := Lib.hid (HB8.out.trans (hb9.mono (by omega)))
        clear hb9
        go_wp2_with fail
        refine (awake2_any _).mono ?_
        rintro e wa ⟨rfl, hba⟩
        have HBA := Lib.hid (HB9.out.trans (hba.mono HB9.out.size))
        clear hba
        go_wp2_with fail
        go_ret
        exact ⟨rfl, HBA.out⟩

set_option maxHeartbeats 4000000 in
set_option maxRecDepth 100000 in
theorem deep_low (n v : Int) (nm : List UInt8) (w : World) (h200 : (nm.length : Int) ≤ 200) (hL1 : 1 ≤ (nm.length : Int)) (hL : (nm.length : Int) ≤ 128) (hv1 : v < -2147483648) (HV : Hid (I64 v)) :
    Calls Try.prog 11 #[.int .i64 n, .int .i64 v, .string ⟨nm.toArray⟩] w fun e w' => e = .returned (.bool true) ∧ Below w.heap.size w w' := by
  obtain ⟨m, hm, _, em⟩ := mask_is n 255 8 (by omega) rfl
  have hm256 : m < 256 := hm
  clear hm
  obtain ⟨N, hN⟩ : ∃ N, N = m % 12 := ⟨_, rfl⟩
  have hN12 : N < 12 := by omega
  have hmN : (m : Int) % 12 = (N : Int) := by omega
  have hnl : nm.length ≤ 140737488355328 := by omega
  have HNL := Lib.hid hnl
  clear hN hnl
  have h0 := tabN_zero_at w
  have H0 := Lib.hid h0
  clear h0
  go_enter Try.func11, Try.ntmps11
  go_wp2_with fail
  go_loopw [7, 8] (fun l i wr => ∃ (j : Nat) (A : Option Addr), j ≤ N ∧ i = .int .i64 ((j : Int) + 1) ∧ l = .slice A 1 1 ∧ TabAt (j + 1) wr wr.heap.size (tabN j) A 1 ∧ Below w.heap.size w wr) (fun _ i _ => N + 1 - (intOf i).toNat)
  case atStart => exact ⟨0, _, Nat.zero_le _, rfl, rfl, TabH.more (by simp) _ _ _ _ H0.out, (Below.refl _ _).alloc (Nat.le_refl _) _⟩
  case round =>
    obtain ⟨j, A, hj, rfl, rfl, ht, hbel⟩ := hrel
    have HT := Lib.hid ht
    have HB := Lib.hid hbel
    have hsz := hbel.size
    clear ht hbel
    by_cases hlt : j < N
    · have hs := tabN_succ_at wr j A HT.out
      have HS := Lib.hid hs
      clear hs
      go_wp2_with fail
      go_roundw
      case rel => exact ⟨j + 1, _, by omega, by go_num, rfl, TabH.more (by simp) _ _ _ _ HS.out, HB.out.alloc hsz _⟩
      case measure => simp [intOf]; omega
    · obtain rfl : j = N := by omega
      have hone := oneF_at wr (.mk nm 73 v [] []) (held_lit _ _ _ _ _ HV.out HNL.out (by decide)) rfl
      have htwo := twoF_at (wr.alloc (.cells (cellsF (.slice none 0 0) (.mk nm 73 v [] [])).toArray 49)) (.mk nm 108 v [] []) (.mk nm 86 0 [] []) (held_lit _ _ _ _ _ HV.out HNL.out (by decide)) rfl (held_lit _ _ _ _ _ (by decide) HNL.out (by decide)) rfl
      have esz : (wr.alloc (.cells (cellsF (.slice none 0 0) (.mk nm 73 v [] [])).toArray 49)).heap.size = wr.heap.size + 1 := by simp
      rw [esz] at htwo
      have hone2 := TabH.below hone (Below.alloc (Below.refl (wr.heap.size + 1) (wr.alloc (.cells (cellsF (.slice none 0 0) (.mk nm 73 v [] [])).toArray 49))) (by simp) (.cells (cellsF (.slice none 0 0) (.mk nm 108 v [] []) ++ cellsF (.slice none 0 0) (.mk nm 86 0 [] [])).toArray 49))
      have htN := TabH.below HT.out ((Below.alloc (Below.refl wr.heap.size wr) (Nat.le_refl _) (.cells (cellsF (.slice none 0 0) (.mk nm 73 v [] [])).toArray 49)).alloc (by simp) (.cells (cellsF (.slice none 0 0) (.mk nm 108 v [] []) ++ cellsF (.slice none 0 0) (.mk nm 86 0 [] [])).toArray 49))
      have hbb : Below w.heap.size w ((wr.alloc (.cells (cellsF (.slice none 0 0) (.mk nm 73 v [] [])).toArray 49)).alloc (.cells (cellsF (.slice none 0 0) (.mk nm 108 v [] []) ++ cellsF (.slice none 0 0) (.mk nm 86 0 [] [])).toArray 49)) := (HB.out.alloc hsz _).alloc (by simp; omega) _
      obtain ⟨wx, hwx⟩ : ∃ wx, wx = (wr.alloc (.cells (cellsF (.slice none 0 0) (.mk nm 73 v [] [])).toArray 49)).alloc (.cells (cellsF (.slice none 0 0) (.mk nm 108 v [] []) ++ cellsF (.slice none 0 0) (.mk nm 86 0 [] [])).toArray 49) := ⟨_, rfl⟩
      have hxs : wx.heap.size = wr.heap.size + 2 := by rw [hwx]; simp
      rw [← hwx] at htwo hone2 htN hbb
      have HONE := Lib.hid hone2
      have HTWO := Lib.hid htwo
      have HTN := Lib.hid htN
      have HBB := Lib.hid hbb
      have HXS := Lib.hid hxs
      have HWX := Lib.hid hwx
      clear hone htwo esz hone2 htN hbb hxs hwx
      have HOK := Lib.hid (tabN_ok j (by omega))
      have HTL : Hid ((tabN j).length = 1) := Lib.hid (tabN_one j)
      obtain ⟨l, hl⟩ : ∃ l, l = tabN j := ⟨_, rfl⟩
      rw [← hl] at HTN HOK HTL
      clear hl
      go_wp2_with fail
      rw [show ((wr.alloc (.cells #[.string ⟨nm.toArray⟩, .int .u8 73, .int .i64 v, .string ⟨#[]⟩, .slice none 0 0] 49)).alloc (.cells #[.string ⟨nm.toArray⟩, .int .u8 108, .int .i64 v, .string ⟨#[]⟩, .slice none 0 0, .string ⟨nm.toArray⟩, .int .u8 86, .int .i64 0, .string ⟨#[]⟩, .slice none 0 0] 49)) = wx from HWX.out.symm]
      rw [show (Value.slice A 1 1) = .slice A l.length 1 from by rw [HTL.out]]
      refine (append_any none 0 [] wr.heap.size A 1 (j + 1) l wx (Lies.empty _ _ _) (by rw [HXS.out]; omega) HTN.out (by simp)).mono ?_
      rintro e w1 ⟨v1, rfl, hown, hb1⟩
      have hz1 := hb1.size
      have HONE1 := Lib.hid (TabH.below HONE.out (hb1.mono (by rw [HXS.out]; omega)))
      have HTWO1 := Lib.hid (TabH.below HTWO.out (hb1.mono (by rw [HXS.out]; omega)))
      have HTN1 := Lib.hid (TabH.below HTN.out (hb1.mono (by rw [HXS.out]; omega)))
      have HB1 := Lib.hid (HBB.out.trans (hb1.mono (by rw [HXS.out]; omega)))
      rw [HXS.out] at hz1
      obtain ⟨X, hX⟩ : ∃ X, X = appB [] l := ⟨_, rfl⟩
      rw [← hX] at hown
      obtain ⟨A1, c1, rfl, hc1, hm1⟩ := own_form hown
      have L1 := Lib.hid (Lies.own hown (Nat.le_refl _))
      have HX := Lib.hid hX
      have HXM : Hid (X.length ≤ maxLen) := Lib.hid (Nat.le_trans hc1 hm1)
      clear hown hb1 hX hc1 hm1
      rw [HOK.out]
      by_cases h8 : j + 1 ≤ 8
      · have hok : okB l = true := by rw [HOK.out]; exact decide_eq_true h8
        have HPAR : Hid (parseB X = some l) := Lib.hid (by rw [HX.out]; exact parse_app l hok)
        have HOK1 := Lib.hid hok
        rw [decide_eq_true h8]
        clear hok
        go_wp2_with fail
        refine (parse_any A1 c1 X w1.heap.size _ L1.out (Nat.le_refl _) HXM.out).mono ?_
        rw [HPAR.out]
        rintro e w4 (⟨hn, _⟩ | ⟨l4, A4, c4, hn, rfl, ht4, hb4⟩)
        case inl => cases hn
        injection hn with hn
        subst hn
        have hz4 := hb4.size
        have HN4 := Lib.hid ht4
        have HONE4 := Lib.hid (TabH.below HONE1.out (hb4.mono (by omega)))
        have HTWO4 := Lib.hid (TabH.below HTWO1.out (hb4.mono (by omega)))
        have HTN4 := Lib.hid (TabH.below HTN1.out (hb4.mono (by omega)))
        have HB4 := Lib.hid (HB1.out.trans (hb4.mono (by omega)))
        clear ht4 hb4
        go_wp2_with fail
        refine (ok_any l A 1 (j + 1) wr.heap.size _ HTN4.out (by omega)).mono ?_
        rintro e w5 ⟨rfl, hb5⟩
        rw [HOK1.out]
        have hz5 := hb5.size
        have HN5 := Lib.hid (TabNew.grown HN4.out (only_below hb5 none) (fun q hq => by cases hq))
        have HONE5 := Lib.hid (TabH.below HONE4.out (hb5.mono (by omega)))
        have HTWO5 := Lib.hid (TabH.below HTWO4.out (hb5.mono (by omega)))
        have HTN5 := Lib.hid (TabH.below HTN4.out (hb5.mono (by omega)))
        have HB5 := Lib.hid (HB4.out.trans (hb5.mono (by omega)))
        clear hb5
        go_wp2_with fail
        refine (same_table 8 l l A4 A c4 1 (j + 1) w5.heap.size wr.heap.size _ HN5.out.at_ HTN5.out (Nat.le_refl _) (by omega)).mono ?_
        rintro e w6 ⟨r, rfl, hr, hb6⟩
        rw [hr.2 rfl]
        have hz6 := hb6.size
        have HONE6 := Lib.hid (TabH.below HONE5.out (hb6.mono (by omega)))
        have HTWO6 := Lib.hid (TabH.below HTWO5.out (hb6.mono (by omega)))
        have HB6 := Lib.hid (HB5.out.trans (hb6.mono (by omega)))
        clear hr hb6
        go_wp2_with fail
        have hk1 : okB [.mk nm 73 v [] []] = false := by rw [okI nm v (by omega)]; rw [show decide (I32 v) = false from decide_eq_false (by unfold I32; omega), Bool.and_false]
        have hk2 : okB [.mk nm 108 v [] [], .mk nm 86 0 [] []] = false := two_no _ _ rfl
        have hk3 : okB [.mk nm 108 v [] []] = true := by rw [okl nm v (by omega) HV.out]; exact decide_eq_true ⟨by omega, by omega⟩
        have HK1 := Lib.hid hk1
        have HK2 := Lib.hid hk2
        have HK3 := Lib.hid hk3
        clear hk1 hk2 hk3
        refine (ok_any [.mk nm 73 v [] []] _ 1 1 (wr.heap.size + 1) _ HONE6.out (by omega)).mono ?_
        rintro e w7 ⟨rfl, hb7⟩
        rw [HK1.out]
        have hz7 := hb7.size
        have HTWO7 := Lib.hid (TabH.below HTWO6.out (hb7.mono (by omega)))
        have HB7 := Lib.hid (HB6.out.trans (hb7.mono (by omega)))
        clear hb7
        go_wp2_with fail
        refine (ok_any [.mk nm 108 v [] [], .mk nm 86 0 [] []] _ 2 1 (wr.heap.size + 2) _ HTWO7.out (by omega)).mono ?_
        rintro e w8 ⟨rfl, hb8⟩
        rw [HK2.out]
        have hz8 := hb8.size
        have HTWO8 := Lib.hid (twoF_first (TabH.below HTWO7.out (hb8.mono (by omega))))
        have HB8 := Lib.hid (HB7.out.trans (hb8.mono (by omega)))
        clear hb8
        go_wp2_with fail
        refine (ok_any [.mk nm 108 v [] []] _ 2 1 (wr.heap.size + 2) _ HTWO8.out (by omega)).mono ?_
        rintro e w9 ⟨rfl, hb9⟩
        rw [HK3.out]
        have hz9 := hb9.size
        have HB9 := Lib.hid (HB8.out.trans (hb9.mono (by omega)))
        clear hb9
        go_wp2_with fail
        refine (awake2_any _).mono ?_
        rintro e wa ⟨rfl, hba⟩
        have HBA := Lib.hid (HB9.out.trans (hba.mono HB9.out.size))
        clear hba
        go_wp2_with fail
        go_ret
        exact ⟨rfl, HBA.out⟩
      · have hok : okB l = false := by rw [HOK.out]; exact decide_eq_false h8
        have HXE : Hid (X = []) := Lib.hid (by rw [HX.out]; unfold appB; rw [hok]; rfl)
        have HOK1 := Lib.hid hok
        have HPAR : Hid (parseB X = some []) := Lib.hid (by rw [HXE.out]; rfl)
        rw [decide_eq_false h8]
        have h8' : (8 : Int) < (j : Int) + 1 := by omega
        have hd8 : decide ((j : Int) + 1 ≤ 8) = false := decide_eq_false (by omega)
        clear hok
        go_wp2_with fail
        refine (parse_any A1 c1 X w1.heap.size _ L1.out (Nat.le_refl _) HXM.out).mono ?_
        rw [HPAR.out]
        rintro e w4 (⟨hn, _⟩ | ⟨l4, A4, c4, hn, rfl, ht4, hb4⟩)
        case inl => cases hn
        injection hn with hn
        subst hn
        have hz4 := hb4.size
        have HONE4 := Lib.hid (TabH.below HONE1.out (hb4.mono (by omega)))
        have HTWO4 := Lib.hid (TabH.below HTWO1.out (hb4.mono (by omega)))
        have HTN4 := Lib.hid (TabH.below HTN1.out (hb4.mono (by omega)))
        have HB4 := Lib.hid (HB1.out.trans (hb4.mono (by omega)))
        clear ht4 hb4
        go_wp2_with fail
        refine (ok_any l A 1 (j + 1) wr.heap.size _ HTN4.out (by omega)).mono ?_
        rintro e w6 ⟨rfl, hb6⟩
        rw [HOK1.out]
        have hz6 := hb6.size
        have hz5 := hz4
        have HONE6 := Lib.hid (TabH.below HONE4.out (hb6.mono (by omega)))
        have HTWO6 := Lib.hid (TabH.below HTWO4.out (hb6.mono (by omega)))
        have HB6 := Lib.hid (HB4.out.trans (hb6.mono (by omega)))
        clear hb6
        go_wp2_with fail
        have hk1 : okB [.mk nm 73 v [] []] = false := by rw [okI nm v (by omega)]; rw [show decide (I32 v) = false from decide_eq_false (by unfold I32; omega), Bool.and_false]
        have hk2 : okB [.mk nm 108 v [] [], .mk nm 86 0 [] []] = false := two_no _ _ rfl
        have hk3 : okB [.mk nm 108 v [] []] = true := by rw [okl nm v (by omega) HV.out]; exact decide_eq_true ⟨by omega, by omega⟩
        have HK1 := Lib.hid hk1
        have HK2 := Lib.hid hk2
        have HK3 := Lib.hid hk3
        clear hk1 hk2 hk3
        refine (ok_any [.mk nm 73 v [] []] _ 1 1 (wr.heap.size + 1) _ HONE6.out (by omega)).mono ?_
        rintro e w7 ⟨rfl, hb7⟩
        rw [HK1.out]
        have hz7 := hb7.size
        have HTWO7 := Lib.hid (TabH.below HTWO6.out (hb7.mono (by omega)))
        have HB7 := Lib.hid (HB6.out.trans (hb7.mono (by omega)))
        clear hb7
        go_wp2_with fail
        refine (ok_any [.mk nm 108 v [] [], .mk nm 86 0 [] []] _ 2 1 (wr.heap.size + 2) _ HTWO7.out (by omega)).mono ?_
        rintro e w8 ⟨rfl, hb8⟩
        rw [HK2.out]
        have hz8 := hb8.size
        have HTWO8 := Lib.hid (twoF_first (TabH.below HTWO7.out (hb8.mono (by omega))))
        have HB8 := Lib.hid (HB7.out.trans (hb8.mono (by omega)))
        clear hb8
        go_wp2_with fail
        refine (ok_any [.mk nm 108 v [] []] _ 2 1 (wr.heap.size + 2) _ HTWO8.out (by omega)).mono ?_
        rintro e w9 ⟨rfl, hb9⟩
        rw [HK3.out]
        have hz9 := hb9.size
        have HB9 := Lib.hid (HB8.out.trans (hb9.mono (by omega)))
        clear hb9
        go_wp2_with fail
        refine (awake2_any _).mono ?_
        rintro e wa ⟨rfl, hba⟩
        have HBA := Lib.hid (HB9.out.trans (hba.mono HB9.out.size))
        clear hba
        go_wp2_with fail
        go_ret
        exact ⟨rfl, HBA.out⟩

set_option maxHeartbeats 4000000 in
set_option maxRecDepth 100000 in
theorem deep_high (n v : Int) (nm : List UInt8) (w : World) (h200 : (nm.length : Int) ≤ 200) (hL1 : 1 ≤ (nm.length : Int)) (hL : (nm.length : Int) ≤ 128) (hv1 : -2147483648 ≤ v) (hv2 : 2147483647 < v) (hdv : decide (v < 2147483648) = false) (HV : Hid (I64 v)) :
    Calls Try.prog 11 #[.int .i64 n, .int .i64 v, .string ⟨nm.toArray⟩] w fun e w' => e = .returned (.bool true) ∧ Below w.heap.size w w' := by
  obtain ⟨m, hm, _, em⟩ := mask_is n 255 8 (by omega) rfl
  have hm256 : m < 256 := hm
  clear hm
  obtain ⟨N, hN⟩ : ∃ N, N = m % 12 := ⟨_, rfl⟩
  have hN12 : N < 12 := by omega
  have hmN : (m : Int) % 12 = (N : Int) := by omega
  have hnl : nm.length ≤ 140737488355328 := by omega
  have HNL := Lib.hid hnl
  clear hN hnl
  have h0 := tabN_zero_at w
  have H0 := Lib.hid h0
  clear h0
  go_enter Try.func11, Try.ntmps11
  go_wp2_with fail
  go_loopw [7, 8] (fun l i wr => ∃ (j : Nat) (A : Option Addr), j ≤ N ∧ i = .int .i64 ((j : Int) + 1) ∧ l = .slice A 1 1 ∧ TabAt (j + 1) wr wr.heap.size (tabN j) A 1 ∧ Below w.heap.size w wr) (fun _ i _ => N + 1 - (intOf i).toNat)
  case atStart => exact ⟨0, _, Nat.zero_le _, rfl, rfl, TabH.more (by simp) _ _ _ _ H0.out, (Below.refl _ _).alloc (Nat.le_refl _) _⟩
  case round =>
    obtain ⟨j, A, hj, rfl, rfl, ht, hbel⟩ := hrel
    have HT := Lib.hid ht
    have HB := Lib.hid hbel
    have hsz := hbel.size
    clear ht hbel
    by_cases hlt : j < N
    · have hs := tabN_succ_at wr j A HT.out
      have HS := Lib.hid hs
      clear hs
      go_wp2_with fail
      go_roundw
      case rel => exact ⟨j + 1, _, by omega, by go_num, rfl, TabH.more (by simp) _ _ _ _ HS.out, HB.out.alloc hsz _⟩
      case measure => simp [intOf]; omega
    · obtain rfl : j = N := by omega
      have hone := oneF_at wr (.mk nm 73 v [] []) (held_lit _ _ _ _ _ HV.out HNL.out (by decide)) rfl
      have htwo := twoF_at (wr.alloc (.cells (cellsF (.slice none 0 0) (.mk nm 73 v [] [])).toArray 49)) (.mk nm 108 v [] []) (.mk nm 86 0 [] []) (held_lit _ _ _ _ _ HV.out HNL.out (by decide)) rfl (held_lit _ _ _ _ _ (by decide) HNL.out (by decide)) rfl
      have esz : (wr.alloc (.cells (cellsF (.slice none 0 0) (.mk nm 73 v [] [])).toArray 49)).heap.size = wr.heap.size + 1 := by simp
      rw [esz] at htwo
      have hone2 := TabH.below hone (Below.alloc (Below.refl (wr.heap.size + 1) (wr.alloc (.cells (cellsF (.slice none 0 0) (.mk nm 73 v [] [])).toArray 49))) (by simp) (.cells (cellsF (.slice none 0 0) (.mk nm 108 v [] []) ++ cellsF (.slice none 0 0) (.mk nm 86 0 [] [])).toArray 49))
      have htN := TabH.below HT.out ((Below.alloc (Below.refl wr.heap.size wr) (Nat.le_refl _) (.cells (cellsF (.slice none 0 0) (.mk nm 73 v [] [])).toArray 49)).alloc (by simp) (.cells (cellsF (.slice none 0 0) (.mk nm 108 v [] []) ++ cellsF (.slice none 0 0) (.mk nm 86 0 [] [])).toArray 49))
      have hbb : Below w.heap.size w ((wr.alloc (.cells (cellsF (.slice none 0 0) (.mk nm 73 v [] [])).toArray 49)).alloc (.cells (cellsF (.slice none 0 0) (.mk nm 108 v [] []) ++ cellsF (.slice none 0 0) (.mk nm 86 0 [] [])).toArray 49)) := (HB.out.alloc hsz _).alloc (by simp; omega) _
      obtain ⟨wx, hwx⟩ : ∃ wx, wx = (wr.alloc (.cells (cellsF (.slice none 0 0) (.mk nm 73 v [] [])).toArray 49)).alloc (.cells (cellsF (.slice none 0 0) (.mk nm 108 v [] []) ++ cellsF (.slice none 0 0) (.mk nm 86 0 [] [])).toArray 49) := ⟨_, rfl⟩
      have hxs : wx.heap.size = wr.heap.size + 2 := by rw [hwx]; simp
      rw [← hwx] at htwo hone2 htN hbb
      have HONE := Lib.hid hone2
      have HTWO := Lib.hid htwo
      have HTN := Lib.hid htN
      have HBB := Lib.hid hbb
      have HXS := Lib.hid hxs
      have HWX := Lib.hid hwx
      clear hone htwo esz hone2 htN hbb hxs hwx
      have HOK := Lib.hid (tabN_ok j (by omega))
      have HTL : Hid ((tabN j).length = 1) := Lib.hid (tabN_one j)
      obtain ⟨l, hl⟩ : ∃ l, l = tabN j := ⟨_, rfl⟩
      rw [← hl] at HTN HOK HTL
      clear hl
      go_wp2_with fail
      rw [show ((wr.alloc (.cells #[.string ⟨nm.toArray⟩, .int .u8 73, .int .i64 v, .string ⟨#[]⟩, .slice none 0 0] 49)).alloc (.cells #[.string ⟨nm.toArray⟩, .int .u8 108, .int .i64 v, .string ⟨#[]⟩, .slice none 0 0, .string ⟨nm.toArray⟩, .int .u8 86, .int .i64 0, .string ⟨#[]⟩, .slice none 0 0] 49)) = wx from HWX.out.symm]
      rw [show (Value.slice A 1 1) = .slice A l.length 1 from by rw [HTL.out]]
      refine (append_any none 0 [] wr.heap.size A 1 (j + 1) l wx (Lies.empty _ _ _) (by rw [HXS.out]; omega) HTN.out (by simp)).mono ?_
      rintro e w1 ⟨v1, rfl, hown, hb1⟩
      have hz1 := hb1.size
      have HONE1 := Lib.hid (TabH.below HONE.out (hb1.mono (by rw [HXS.out]; omega)))
      have HTWO1 := Lib.hid (TabH.below HTWO.out (hb1.mono (by rw [HXS.out]; omega)))
      have HTN1 := Lib.hid (TabH.below HTN.out (hb1.mono (by rw [HXS.out]; omega)))
      have HB1 := Lib.hid (HBB.out.trans (hb1.mono (by rw [HXS.out]; omega)))
      rw [HXS.out] at hz1
      obtain ⟨X, hX⟩ : ∃ X, X = appB [] l := ⟨_, rfl⟩
      rw [← hX] at hown
      obtain ⟨A1, c1, rfl, hc1, hm1⟩ := own_form hown
      have L1 := Lib.hid (Lies.own hown (Nat.le_refl _))
      have HX := Lib.hid hX
      have HXM : Hid (X.length ≤ maxLen) := Lib.hid (Nat.le_trans hc1 hm1)
      clear hown hb1 hX hc1 hm1
      rw [HOK.out]
      by_cases h8 : j + 1 ≤ 8
      · have hok : okB l = true := by rw [HOK.out]; exact decide_eq_true h8
        have HPAR : Hid (parseB X = some l) := Lib.hid (by rw [HX.out]; exact parse_app l hok)
        have HOK1 := Lib.hid hok
        rw [decide_eq_true h8]
        clear hok
        go_wp2_with fail
        refine (parse_any A1 c1 X w1.heap.size _ L1.out (Nat.le_refl _) HXM.out).mono ?_
        rw [HPAR.out]
        rintro e w4 (⟨hn, _⟩ | ⟨l4, A4, c4, hn, rfl, ht4, hb4⟩)
        case inl => cases hn
        injection hn with hn
        subst hn
        have hz4 := hb4.size
        have HN4 := Lib.hid ht4
        have HONE4 := Lib.hid (TabH.below HONE1.out (hb4.mono (by omega)))
        have HTWO4 := Lib.hid (TabH.below HTWO1.out (hb4.mono (by omega)))
        have HTN4 := Lib.hid (TabH.below HTN1.out (hb4.mono (by omega)))
        have HB4 := Lib.hid (HB1.out.trans (hb4.mono (by omega)))
        clear ht4 hb4
        go_wp2_with fail
        refine (ok_any l A 1 (j + 1) wr.heap.size _ HTN4.out (by omega)).mono ?_
        rintro e w5 ⟨rfl, hb5⟩
        rw [HOK1.out]
        have hz5 := hb5.size
        have HN5 := Lib.hid (TabNew.grown HN4.out (only_below hb5 none) (fun q hq => by cases hq))
        have HONE5 := Lib.hid (TabH.below HONE4.out (hb5.mono (by omega)))
        have HTWO5 := Lib.hid (TabH.below HTWO4.out (hb5.mono (by omega)))
        have HTN5 := Lib.hid (TabH.below HTN4.out (hb5.mono (by omega)))
        have HB5 := Lib.hid (HB4.out.trans (hb5.mono (by omega)))
        clear hb5
        go_wp2_with fail
        refine (same_table 8 l l A4 A c4 1 (j + 1) w5.heap.size wr.heap.size _ HN5.out.at_ HTN5.out (Nat.le_refl _) (by omega)).mono ?_
        rintro e w6 ⟨r, rfl, hr, hb6⟩
        rw [hr.2 rfl]
        have hz6 := hb6.size
        have HONE6 := Lib.hid (TabH.below HONE5.out (hb6.mono (by omega)))
        have HTWO6 := Lib.hid (TabH.below HTWO5.out (hb6.mono (by omega)))
        have HB6 := Lib.hid (HB5.out.trans (hb6.mono (by omega)))
        clear hr hb6
        go_wp2_with fail
        have hk1 : okB [.mk nm 73 v [] []] = false := by rw [okI nm v (by omega)]; rw [show decide (I32 v) = false from decide_eq_false (by unfold I32; omega), Bool.and_false]
        have hk2 : okB [.mk nm 108 v [] [], .mk nm 86 0 [] []] = false := two_no _ _ rfl
        have hk3 : okB [.mk nm 108 v [] []] = true := by rw [okl nm v (by omega) HV.out]; exact decide_eq_true ⟨by omega, by omega⟩
        have HK1 := Lib.hid hk1
        have HK2 := Lib.hid hk2
        have HK3 := Lib.hid hk3
        clear hk1 hk2 hk3
        refine (ok_any [.mk nm 73 v [] []] _ 1 1 (wr.heap.size + 1) _ HONE6.out (by omega)).mono ?_
        rintro e w7 ⟨rfl, hb7⟩
        rw [HK1.out]
        have hz7 := hb7.size
        have HTWO7 := Lib.hid (TabH.below HTWO6.out (hb7.mono (by omega)))
        have HB7 := Lib.hid (HB6.out.trans (hb7.mono (by omega)))
        clear hb7
        go_wp2_with fail
        refine (ok_any [.mk nm 108 v [] [], .mk nm 86 0 [] []] _ 2 1 (wr.heap.size + 2) _ HTWO7.out (by omega)).mono ?_
        rintro e w8 ⟨rfl, hb8⟩
        rw [HK2.out]
        have hz8 := hb8.size
        have HTWO8 := Lib.hid (twoF_first (TabH.below HTWO7.out (hb8.mono (by omega))))
        have HB8 := Lib.hid (HB7.out.trans (hb8.mono (by omega)))
        clear hb8
        go_wp2_with fail
        refine (ok_any [.mk nm 108 v [] []] _ 2 1 (wr.heap.size + 2) _ HTWO8.out (by omega)).mono ?_
        rintro e w9 ⟨rfl, hb9⟩
        rw [HK3.out]
        have hz9 := hb9.size
        have HB9 := Lib.hid (HB8.out.trans (hb9.mono (by omega)))
        clear hb9
        go_wp2_with fail
        refine (awake2_any _).mono ?_
        rintro e wa ⟨rfl, hba⟩
        have HBA := Lib.hid (HB9.out.trans (hba.mono HB9.out.size))
        clear hba
        go_wp2_with fail
        go_ret
        exact ⟨rfl, HBA.out⟩
      · have hok : okB l = false := by rw [HOK.out]; exact decide_eq_false h8
        have HXE : Hid (X = []) := Lib.hid (by rw [HX.out]; unfold appB; rw [hok]; rfl)
        have HOK1 := Lib.hid hok
        have HPAR : Hid (parseB X = some []) := Lib.hid (by rw [HXE.out]; rfl)
        rw [decide_eq_false h8]
        have h8' : (8 : Int) < (j : Int) + 1 := by omega
        have hd8 : decide ((j : Int) + 1 ≤ 8) = false := decide_eq_false (by omega)
        clear hok
        go_wp2_with fail
        refine (parse_any A1 c1 X w1.heap.size _ L1.out (Nat.le_refl _) HXM.out).mono ?_
        rw [HPAR.out]
        rintro e w4 (⟨hn, _⟩ | ⟨l4, A4, c4, hn, rfl, ht4, hb4⟩)
        case inl => cases hn
        injection hn with hn
        subst hn
        have hz4 := hb4.size
        have HONE4 := Lib.hid (TabH.below HONE1.out (hb4.mono (by omega)))
        have HTWO4 := Lib.hid (TabH.below HTWO1.out (hb4.mono (by omega)))
        have HTN4 := Lib.hid (TabH.below HTN1.out (hb4.mono (by omega)))
        have HB4 := Lib.hid (HB1.out.trans (hb4.mono (by omega)))
        clear ht4 hb4
        go_wp2_with fail
        refine (ok_any l A 1 (j + 1) wr.heap.size _ HTN4.out (by omega)).mono ?_
        rintro e w6 ⟨rfl, hb6⟩
        rw [HOK1.out]
        have hz6 := hb6.size
        have hz5 := hz4
        have HONE6 := Lib.hid (TabH.below HONE4.out (hb6.mono (by omega)))
        have HTWO6 := Lib.hid (TabH.below HTWO4.out (hb6.mono (by omega)))
        have HB6 := Lib.hid (HB4.out.trans (hb6.mono (by omega)))
        clear hb6
        go_wp2_with fail
        have hk1 : okB [.mk nm 73 v [] []] = false := by rw [okI nm v (by omega)]; rw [show decide (I32 v) = false from decide_eq_false (by unfold I32; omega), Bool.and_false]
        have hk2 : okB [.mk nm 108 v [] [], .mk nm 86 0 [] []] = false := two_no _ _ rfl
        have hk3 : okB [.mk nm 108 v [] []] = true := by rw [okl nm v (by omega) HV.out]; exact decide_eq_true ⟨by omega, by omega⟩
        have HK1 := Lib.hid hk1
        have HK2 := Lib.hid hk2
        have HK3 := Lib.hid hk3
        clear hk1 hk2 hk3
        refine (ok_any [.mk nm 73 v [] []] _ 1 1 (wr.heap.size + 1) _ HONE6.out (by omega)).mono ?_
        rintro e w7 ⟨rfl, hb7⟩
        rw [HK1.out]
        have hz7 := hb7.size
        have HTWO7 := Lib.hid (TabH.below HTWO6.out (hb7.mono (by omega)))
        have HB7 := Lib.hid (HB6.out.trans (hb7.mono (by omega)))
        clear hb7
        go_wp2_with fail
        refine (ok_any [.mk nm 108 v [] [], .mk nm 86 0 [] []] _ 2 1 (wr.heap.size + 2) _ HTWO7.out (by omega)).mono ?_
        rintro e w8 ⟨rfl, hb8⟩
        rw [HK2.out]
        have hz8 := hb8.size
        have HTWO8 := Lib.hid (twoF_first (TabH.below HTWO7.out (hb8.mono (by omega))))
        have HB8 := Lib.hid (HB7.out.trans (hb8.mono (by omega)))
        clear hb8
        go_wp2_with fail
        refine (ok_any [.mk nm 108 v [] []] _ 2 1 (wr.heap.size + 2) _ HTWO8.out (by omega)).mono ?_
        rintro e w9 ⟨rfl, hb9⟩
        rw [HK3.out]
        have hz9 := hb9.size
        have HB9 := Lib.hid (HB8.out.trans (hb9.mono (by omega)))
        clear hb9
        go_wp2_with fail
        refine (awake2_any _).mono ?_
        rintro e wa ⟨rfl, hba⟩
        have HBA := Lib.hid (HB9.out.trans (hba.mono HB9.out.size))
        clear hba
        go_wp2_with fail
        go_ret
        exact ⟨rfl, HBA.out⟩

theorem deep_all (n v : Int) (s : ByteArray) (w : World) (hm : s.size ≤ maxLen) (hv : I64 v) :
    Calls Try.prog 11 #[.int .i64 n, .int .i64 v, .string s] w fun e w' => e = .returned (.bool true) ∧ Below w.heap.size w w' := by
  obtain ⟨⟨nm⟩⟩ := s
  have hm' : nm.length ≤ maxLen := hm
  by_cases h : 200 < (nm.length : Int)
  · exact deep_long n v nm w hm' h
  · by_cases h0 : nm = []
    · exact deep_none n v nm w (by omega) (Lib.hid h0) (by rw [h0]; exact Int.le_refl 0) (Lib.hid hv)
    · have h1 : 1 ≤ (nm.length : Int) := by
        cases nm with
        | nil => exact absurd rfl h0
        | cons x l => simp; omega
      by_cases h2 : 128 < (nm.length : Int)
      · exact deep_more n v nm w (by omega) h2 h1 (Lib.hid hv)
      · by_cases h3 : v < -2147483648
        · exact deep_low n v nm w (by omega) h1 (by omega) h3 (Lib.hid hv)
        · by_cases h4 : 2147483647 < v
          · exact deep_high n v nm w (by omega) h1 (by omega) (by omega) h4 (decide_eq_false (by omega)) (Lib.hid hv)
          · exact deep_fits n v nm w (by omega) h1 (by omega) (by omega) (by omega) (Lib.hid hv)
end Go.Proofs.Ythaakbmdfdkjgaa
