/- Contracts of the document's own answer for layer 2: may a table be, and its octets. -/
import Derived.Test.YtplijhhjclfhaaaTablK
namespace Go.Proofs.Ytplijhhjclfhaaa
open Go.RowKit

set_option maxHeartbeats 400000 in
set_option maxRecDepth 100000 in
theorem tableok_any (l : List Fld) (A : Option Addr) (c d B : Nat) (w : World) (ht : TabAt d w B l A c) (hB : B ≤ w.heap.size) (hx : formedB 8 l = true → (rowsD 8 l).length ≤ 70368744177664) :
    Calls Try.prog 26 #[.slice A l.length c] w fun e w' => e = .returned (.bool (okB l)) ∧ Below w.heap.size w w' := by
  have HT := Lib.hid ht
  have HX := Lib.hid hx
  have HO : Hid (okB l = (formedB 8 l && decide ((rowsD 8 l).length ≤ 2000))) := Lib.hid rfl
  have HW : Hid (formedB 8 l = true → weightD 8 l ≤ 2000 → (rowsD 8 l).length ≤ weightD 8 l) := Lib.hid (weight_rows 8 l)
  obtain ⟨ok, hok⟩ : ∃ ok, ok = okB l := ⟨_, rfl⟩
  rw [← hok]
  rw [← hok] at HO
  clear ht hx hok
  go_enter Try.func26, Try.ntmps26
  go_wp2_with fail
  refine (formed_any 8 l A c d B 1 _ (by omega) (by omega) HT.out hB).mono ?_
  rintro e w1 ⟨rfl, hb1⟩
  have HB1 := Lib.hid hb1
  have hz1 := hb1.size
  clear hb1
  cases hf : formedB 8 l with
  | false =>
    have D : Hid (ok = false) := Lib.hid (by rw [HO.out, hf]; rfl)
    clear hf
    go_wp2_with fail
    go_ret
    exact ⟨by rw [D.out]; rfl, HB1.out⟩
  | true =>
    have HF := Lib.hid hf
    have hr := HX.out hf
    obtain ⟨V, hV⟩ : ∃ V, V = weightD 8 l := ⟨_, rfl⟩
    obtain ⟨R, hR⟩ : ∃ R, R = rowsD 8 l := ⟨_, rfl⟩
    have HV := Lib.hid hV
    have HR := Lib.hid hR
    rw [← hR] at hr
    have HWR : Hid (V ≤ 2000 → R.length ≤ V) := Lib.hid (by rw [hV, hR]; exact HW.out hf)
    have HOK : Hid (ok = decide (R.length ≤ 2000)) := Lib.hid (by rw [HO.out, hf, hR]; rfl)
    clear hf hV hR
    go_wp2_with fail
    refine (weight_any 8 l A c d B 1 _ (by omega) (by omega) (HT.out.below (HB1.out.mono hB))).mono ?_
    rintro e w2 ⟨rfl, q, rfl⟩
    rw [← HV.out]
    have HB2 := Lib.hid (below_drewN HB1.out q)
    by_cases h9 : V ≤ 1900
    · have D : Hid (ok = true) := Lib.hid (by rw [HOK.out]; exact decide_eq_true (Nat.le_trans (HWR.out (by omega)) (by omega)))
      have h9' : (V : Int) ≤ 1900 := by omega
      clear h9
      go_wp2_with fail
      go_ret
      exact ⟨by rw [D.out]; rfl, HB2.out⟩
    · have h9' : (1900 : Int) < (V : Int) := by omega
      have hzq := HB2.out.size
      clear h9
      go_wp2_with fail
      refine (rrows_any 8 l A c d B _ HF.out (HT.out.below (HB2.out.mono hB)) (by omega) (by rw [← HR.out]; exact hr)).mono ?_
      rw [← HR.out]
      rintro e w3 ⟨v3, rfl, hown3, hb3⟩
      obtain ⟨A3, c3, rfl, _, _⟩ := own_form hown3
      have HB3 := Lib.hid (HB2.out.trans (hb3.mono (by omega)))
      clear hown3 hb3
      by_cases h2 : R.length ≤ 2000
      · have D : Hid (ok = true) := Lib.hid (by rw [HOK.out]; exact decide_eq_true h2)
        have h2' : (R.length : Int) ≤ 2000 := by omega
        clear h2
        go_wp2_with fail
        go_ret
        exact ⟨by rw [D.out]; rfl, HB3.out⟩
      · have D : Hid (ok = false) := Lib.hid (by rw [HOK.out]; exact decide_eq_false h2)
        have h2' : (2000 : Int) < (R.length : Int) := by omega
        clear h2
        go_wp2_with fail
        go_ret
        refine ⟨?_, HB3.out⟩
        rw [D.out]
        show Ending.returned (Value.bool (decide ((V : Int) ≤ 1900) || decide ((R.length : Int) ≤ 2000))) = _
        rw [decide_eq_false (Int.not_le.mpr h2'), decide_eq_false (Int.not_le.mpr h9')]
        rfl

/-- a table's octets, or none -/
def tableB (l : List Fld) : List UInt8 := if okB l then rowsD 8 l else []
set_option maxHeartbeats 400000 in
set_option maxRecDepth 100000 in
theorem table_any (l : List Fld) (A : Option Addr) (c d B : Nat) (w : World) (ht : TabAt d w B l A c) (hB : B ≤ w.heap.size) (hx : formedB 8 l = true → (rowsD 8 l).length ≤ 70368744177664) :
    Calls Try.prog 12 #[.slice A l.length c] w (NewOctsOk w.heap.size (tableB l) (okB l) w) := by
  have HT := Lib.hid ht
  have HX := Lib.hid hx
  have HK : Hid (∀ r, okB l = r → tableB l = if r then rowsD 8 l else []) := Lib.hid (fun r h => by unfold tableB; rw [h])
  have HO : Hid (okB l = true → formedB 8 l = true ∧ (rowsD 8 l).length ≤ 2000) := Lib.hid okB_parts
  obtain ⟨ok, hok⟩ : ∃ ok, ok = okB l := ⟨_, rfl⟩
  obtain ⟨Z, hZ⟩ : ∃ Z, Z = tableB l := ⟨_, rfl⟩
  rw [← hok, ← hZ]
  have HOK := Lib.hid hok
  have HZ := Lib.hid hZ
  clear ht hx hok hZ
  go_enter Try.func12, Try.ntmps12
  go_wp2_with fail
  refine (tableok_any l A c d B _ HT.out hB HX.out).mono ?_
  rintro e w1 ⟨rfl, hb1⟩
  rw [← HOK.out]
  have HB1 := Lib.hid hb1
  have hz1 := hb1.size
  clear hb1
  cases ok with
  | false =>
    have D : Hid (NewOctsOk w.heap.size Z false w (.returned (.tuple #[.slice none 0 0, .bool false])) w1) := Lib.hid (by
      rw [HZ.out, HK.out _ HOK.out.symm]
      exact ⟨_, rfl, World.ownsRow_nil _ _ _ _, HB1.out⟩)
    go_wp2_with fail
    go_ret2
    exact D.out
  | true =>
    have hp := HO.out HOK.out.symm
    have HP := Lib.hid hp
    have HZ2 : Hid (Z = rowsD 8 l) := Lib.hid (by rw [HZ.out, HK.out _ HOK.out.symm]; rfl)
    clear hp
    go_wp2_with fail
    refine (rrows_any 8 l A c d B _ HP.out.1 (HT.out.below (HB1.out.mono hB)) (by omega) (HX.out HP.out.1)).mono ?_
    rw [← HZ2.out]
    rintro e w3 ⟨v3, rfl, hown3, hb3⟩
    have D : Hid (NewOctsOk w.heap.size Z true w (.returned (.tuple #[v3, .bool true])) w3) := Lib.hid ⟨_, rfl, own_base hown3 (by omega), HB1.out.trans (hb3.mono (by omega))⟩
    clear hown3 hb3
    go_wp2_with fail
    go_ret2
    exact D.out
end Go.Proofs.Ytplijhhjclfhaaa
