/- The fixed call that every statement of layer 2 asks. -/
import Derived.Test.YtplijhhjclfhaaaTablU
namespace Go.Proofs.Ytplijhhjclfhaaa
open Go.RowKit

def tabC : Fld := .mk [99] 83 0 [120] []
def tabW : List Fld := [.mk [97] 73 (-1) [] [], .mk [98] 70 0 [] [tabC]]
def tabX : List Fld := [.mk [97] 120 0 [] []]
theorem tabW_ok : okB tabW = true := by rfl
theorem tabX_no : okB tabX = false := by rfl
theorem one_no : parseB [1] = none := by rfl
theorem parse_app (t : List Fld) (h : okB t = true) : parseB (appB [] t) = some t := by
  obtain ⟨h1, h2⟩ := okB_parts h
  unfold parseB appB
  rw [h, if_pos rfl, List.nil_append, if_pos h2]
  exact parsed_of_ok codeP code_complete t h
theorem held_lit (nm s : List UInt8) (k : UInt8) (n : Int) (t : List Fld) (hn : I64 n) (h1 : nm.length ≤ 140737488355328) (h2 : s.length ≤ 140737488355328) : Held (.mk nm k n s t) := ⟨hn, h1, h2⟩
/-- cells of the call's own that are a table -/
theorem tab_lit {d : Nat} {w : World} {S : Nat → Prop} {l : List Fld} {xs : List Value} {A : Option Addr} (hd : DescL Held (TabS Held d w S) l xs) (hl : LiesS w S A xs) (c : Nat) (hc : l.length ≤ c) (hm : c ≤ maxLen) : TabS Held (d + 1) w S l A c := ⟨hc, hm, xs, hl, hd⟩
theorem lies_lit (w : World) (t : TypeId) (cs : List Value) : LiesS (w.alloc (.cells cs.toArray t)) (fun b => b < w.heap.size + 1) (some ⟨w.heap.size, 0, none⟩) cs := Lies.lit w t cs
theorem desc_cons {H : Fld → Prop} {P : List Fld → Option Addr → Nat → Prop} {f : Fld} {l : List Fld} {A : Option Addr} {c : Nat} {ys : List Value} (hf : H f) (hp : P f.t A c) (hd : DescL H P l ys) : DescL H P (f :: l) (cellsF (.slice A f.t.length c) f ++ ys) := ⟨A, c, ys, rfl, hf, hp, hd⟩
theorem tabC_at (w : World) : TabAt 1 (w.alloc (.cells (cellsF (.slice none 0 0) tabC).toArray 54)) (w.heap.size + 1) [tabC] (some ⟨w.heap.size, 0, none⟩) 1 := by
  have hd : DescL Held (TabS Held 0 (w.alloc (.cells (cellsF (.slice none 0 0) tabC).toArray 54)) (fun b => b < w.heap.size + 1)) [tabC] (cellsF (.slice none 0 0) tabC ++ []) :=
    desc_cons (f := tabC) (A := none) (c := 0) (held_lit _ _ _ _ _ (by decide) (by decide) (by decide)) ⟨rfl, Nat.zero_le _⟩ rfl
  rw [List.append_nil] at hd
  exact tab_lit hd (lies_lit w 54 _) 1 (Nat.le_refl _) (by decide)
def twoC (w : World) : List Value := cellsF (.slice none 0 0) (.mk [97] 73 (-1) [] []) ++ cellsF (.slice (some ⟨w.heap.size, 0, none⟩) 1 1) (.mk [98] 70 0 [] [tabC])
theorem tabW_at (w : World) : TabAt 2 ((w.alloc (.cells (cellsF (.slice none 0 0) tabC).toArray 54)).alloc (.cells (twoC w).toArray 54)) (w.heap.size + 2) tabW (some ⟨w.heap.size + 1, 0, none⟩) 2 := by
  have h2 := TabH.below (tabC_at w) (Below.alloc (Below.refl (w.heap.size + 1) (w.alloc (.cells (cellsF (.slice none 0 0) tabC).toArray 54))) (by simp) (.cells (twoC w).toArray 54))
  have h3 := lies_lit (w.alloc (.cells (cellsF (.slice none 0 0) tabC).toArray 54)) 54 (twoC w)
  rw [show (w.alloc (.cells (cellsF (.slice none 0 0) tabC).toArray 54)).heap.size = w.heap.size + 1 from by simp] at h3
  have h4 := TabH.more (show w.heap.size + 1 ≤ w.heap.size + 2 by omega) _ _ _ _ h2
  have hd : DescL Held (TabS Held 1 ((w.alloc (.cells (cellsF (.slice none 0 0) tabC).toArray 54)).alloc (.cells (twoC w).toArray 54)) (fun b => b < w.heap.size + 2)) tabW (cellsF (.slice none 0 0) (.mk [97] 73 (-1) [] []) ++ (cellsF (.slice (some ⟨w.heap.size, 0, none⟩) 1 1) (.mk [98] 70 0 [] [tabC]) ++ [])) :=
    desc_cons (f := .mk [97] 73 (-1) [] []) (A := none) (c := 0) (held_lit _ _ _ _ _ (by decide) (by decide) (by decide)) (TabS.nil _ _ _ _ _ (Nat.zero_le _)) (desc_cons (f := .mk [98] 70 0 [] [tabC]) (A := some ⟨w.heap.size, 0, none⟩) (c := 1) (held_lit _ _ _ _ _ (by decide) (by decide) (by decide)) h4 rfl)
  rw [List.append_nil] at hd
  exact tab_lit hd h3 2 (Nat.le_refl _) (by decide)
theorem tabX_at (w : World) : TabAt 1 (w.alloc (.cells (cellsF (.slice none 0 0) (.mk [97] 120 0 [] [])).toArray 54)) (w.heap.size + 1) tabX (some ⟨w.heap.size, 0, none⟩) 1 := by
  have hd : DescL Held (TabS Held 0 (w.alloc (.cells (cellsF (.slice none 0 0) (.mk [97] 120 0 [] [])).toArray 54)) (fun b => b < w.heap.size + 1)) tabX (cellsF (.slice none 0 0) (.mk [97] 120 0 [] []) ++ []) :=
    desc_cons (f := .mk [97] 120 0 [] []) (A := none) (c := 0) (held_lit _ _ _ _ _ (by decide) (by decide) (by decide)) ⟨rfl, Nat.zero_le _⟩ rfl
  rw [List.append_nil] at hd
  exact tab_lit hd (lies_lit w 54 _) 1 (Nat.le_refl _) (by decide)

set_option maxHeartbeats 1000000 in
set_option maxRecDepth 100000 in
theorem awake2_any (w : World) : Calls Try.prog 10 #[] w fun e w' => e = .returned (.bool true) ∧ Below w.heap.size w w' := by
  have ht := Lib.hid (tabW_at w)
  have hb0 : Below w.heap.size w ((w.alloc (.cells (cellsF (.slice none 0 0) tabC).toArray 54)).alloc (.cells (twoC w).toArray 54)) := ((Below.refl _ w).alloc (Nat.le_refl _) _).alloc (by simp) _
  have HB0 := Lib.hid hb0
  have hs0 : ((w.alloc (.cells (cellsF (.slice none 0 0) tabC).toArray 54)).alloc (.cells (twoC w).toArray 54)).heap.size = w.heap.size + 2 := by simp
  have HS0 := Lib.hid hs0
  clear hb0 hs0
  go_enter Try.func10, Try.ntmps10
  go_wp2_with fail
  refine (append_any none 0 [] (w.heap.size + 2) (some ⟨w.heap.size + 1, 0, none⟩) 2 2 tabW ((w.alloc (.cells (cellsF (.slice none 0 0) tabC).toArray 54)).alloc (.cells (twoC w).toArray 54)) (Lies.empty _ _ _) (Nat.le_of_eq HS0.out.symm) ht.out (by simp)).mono ?_
  rintro e w1 ⟨v1, rfl, hown, hb1⟩
  rw [tabW_ok]
  obtain ⟨X, hX⟩ : ∃ X, X = appB [] tabW := ⟨_, rfl⟩
  rw [← hX] at hown
  have hXl : X.length ≤ 2000 := by
    rw [hX]
    unfold appB
    rw [tabW_ok, if_pos rfl, List.nil_append]
    exact (okB_parts tabW_ok).2
  rw [HS0.out] at hb1
  have hz1 := hb1.size
  rw [HS0.out] at hz1
  have HT1 := Lib.hid (TabH.below ht.out hb1)
  have HB1 := Lib.hid (HB0.out.trans (hb1.mono (by omega)))
  obtain ⟨A1, c1, rfl, _, _⟩ := own_form hown
  have L1 := Lib.hid (Lies.own hown (Nat.le_refl _))
  have HX := Lib.hid hX
  clear hown hb1 hX
  go_wp2_with fail
  refine (parse_any A1 c1 X w1.heap.size _ L1.out (Nat.le_refl _) (by unfold maxLen; omega)).mono ?_
  rw [HX.out, parse_app tabW tabW_ok]
  rintro e w2 (⟨hn, _⟩ | ⟨l, A2, c2, hn, rfl, ht2, hb2⟩)
  · cases hn
  injection hn with hn
  subst hn
  have hz2 := hb2.size
  have HT2 := Lib.hid ht2
  have HT1' := Lib.hid (TabH.below HT1.out (hb2.mono (by omega)))
  have HB2 := Lib.hid (HB1.out.trans (hb2.mono (by omega)))
  clear ht2 hb2
  have hl1 : Lies (w2.alloc (.cells #[.int .u8 1] 5)) (w2.heap.size + 1) (some ⟨w2.heap.size, 0, none⟩) (B8 [1]) := Lies.lit w2 5 [.int .u8 1]
  have HL1 := Lib.hid hl1
  have hb3 : Below w2.heap.size w2 (w2.alloc (.cells #[.int .u8 1] 5)) := (Below.refl _ _).alloc (Nat.le_refl _) _
  have HB3 := Lib.hid hb3
  clear hl1 hb3
  go_wp2_with fail
  refine (parse_any (some ⟨w2.heap.size, 0, none⟩) 1 [1] (w2.heap.size + 1) _ HL1.out (by simp) (by decide)).mono ?_
  rw [one_no]
  rintro e w3 (⟨_, rfl, hb4⟩ | ⟨l, A3, c3, hn, _⟩)
  case inr => cases hn
  have hb5 := HB3.out.trans (hb4.mono (by simp))
  have hz3 := hb5.size
  have HT3 := Lib.hid (TabNew.grown HT2.out (only_below hb5 none) (fun q hq => by cases hq))
  have HT3' := Lib.hid (TabH.below HT1'.out (hb5.mono (by omega)))
  have HB4 := Lib.hid (HB2.out.trans (hb5.mono (by omega)))
  clear hb4 hb5
  go_wp2_with fail
  refine (same_table 2 tabW tabW _ _ 2 c2 8 (w.heap.size + 2) w3.heap.size _ HT3'.out HT3.out.at_ (by omega) (Nat.le_refl _)).mono ?_
  rintro e w4 ⟨r, rfl, hr, hb4⟩
  rw [hr.2 rfl]
  have hz4 := hb4.size
  have HT4 := Lib.hid (TabH.below HT3'.out (hb4.mono (by omega)))
  have HB5 := Lib.hid (HB4.out.trans (hb4.mono (by omega)))
  clear hb4 hr
  go_wp2_with fail
  refine (ok_any tabW _ 2 2 (w.heap.size + 2) _ HT4.out (by omega)).mono ?_
  rintro e w5 ⟨rfl, hb5⟩
  rw [tabW_ok]
  have hz5 := hb5.size
  have HB6 := Lib.hid (HB5.out.trans (hb5.mono (by omega)))
  have HX5 := Lib.hid (tabX_at w5)
  have HB7 : Hid (Below w.heap.size w (w5.alloc (.cells (cellsF (.slice none 0 0) (.mk [97] 120 0 [] [])).toArray 54))) := Lib.hid (HB6.out.alloc (by omega) _)
  clear hb5
  go_wp2_with fail
  refine (ok_any tabX _ 1 1 (w5.heap.size + 1) _ HX5.out (by simp)).mono ?_
  rintro e w6 ⟨rfl, hb6⟩
  rw [tabX_no]
  have HB8 := Lib.hid (HB7.out.trans (hb6.mono (by simp; omega)))
  clear hb6
  go_wp2_with fail
  go_ret
  exact ⟨rfl, HB8.out⟩
end Go.Proofs.Ytplijhhjclfhaaa
