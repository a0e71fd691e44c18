/- Contracts of package tabl: Parse and Append. -/
import Derived.Test.YtplijhhjclfhaaaTablQ4
namespace Go.Proofs.Ytplijhhjclfhaaa
open Go.RowKit

/-- what Parse tells -/
def parseB (b : List UInt8) : Option (List Fld) := if b.length ≤ 2000 then parsed codeP b else none
set_option maxRecDepth 100000 in
theorem parse_any (A : Option Addr) (c : Nat) (b : List UInt8) (B : Nat) (w : World) (hl : Lies w B A (B8 b)) (hB : B ≤ w.heap.size) (hm : b.length ≤ maxLen) :
    Calls Try.prog 14 #[.slice A b.length c] w (ParseIs (parseB b) 8 w) := by
  unfold maxLen at hm
  by_cases h : b.length ≤ 2000
  · have hp : parseB b = parsed codeP b := if_pos h
    rw [hp]
    have HL := Lib.hid hl
    clear hl hp
    obtain ⟨P, hP⟩ : ∃ P, P = parsed codeP b := ⟨_, rfl⟩
    rw [← hP]
    have HP := Lib.hid hP
    clear hP
    go_enter Try.func14, Try.ntmps14
    go_wp2_with fail
    refine (parseRows_any 8 A c b B 1 _ (by omega) (by omega) HL.out hB (by omega)).mono ?_
    intro e w1 hq
    rcases hq with ⟨hn, rfl, hb⟩ | ⟨l, A1, c1, hn, rfl, ht, hb⟩
    · have D : Hid (ParseIs P 8 w (.returned (.tuple #[.slice none 0 0, .bool false])) w1) := Lib.hid (ParseIs.no (by rw [HP.out]; unfold parsed; rw [hn]) hb)
      clear hn hb
      go_wp2_with fail
      go_ret2
      exact D.out
    · have HN := Lib.hid hn
      have HT := Lib.hid ht
      have HB := Lib.hid hb
      have hz := hb.size
      clear hn ht hb
      go_wp2_with fail
      refine (ok_any l A1 c1 8 w1.heap.size _ HT.out.at_ (Nat.le_refl _)).mono ?_
      rintro e w2 ⟨rfl, hb2⟩
      have HB2 := Lib.hid (HB.out.trans (hb2.mono hz))
      have HT2 := Lib.hid (TabNew.grown HT.out (only_below hb2 none) (fun q hq => by cases hq))
      clear hb2
      cases hok : okB l with
      | false =>
        have D : Hid (ParseIs P 8 w (.returned (.tuple #[.slice none 0 0, .bool false])) w2) := Lib.hid (ParseIs.no (by rw [HP.out]; unfold parsed; rw [HN.out]; simp [hok]) HB2.out)
        clear hok
        go_wp2_with fail
        go_ret2
        exact D.out
      | true =>
        have D : Hid (ParseIs P 8 w (.returned (.tuple #[.slice A1 l.length c1, .bool true])) w2) := Lib.hid (.inr ⟨l, A1, c1, by rw [HP.out]; unfold parsed; rw [HN.out]; simp [hok], rfl, HT2.out, HB2.out⟩)
        clear hok
        go_wp2_with fail
        go_ret2
        exact D.out
  · have hp : parseB b = none := if_neg h
    have D : Hid (ParseIs (parseB b) 8 w (.returned (.tuple #[.slice none 0 0, .bool false])) w) := Lib.hid (ParseIs.no hp (Below.refl _ _))
    clear hl hp
    go_enter Try.func14, Try.ntmps14
    go_wp2_with fail
    go_ret2
    exact D.out

/-- what Append tells -/
def appB (l : List UInt8) (t : List Fld) : List UInt8 := if okB t then l ++ rowsD 8 t else l
set_option maxRecDepth 100000 in
theorem append_any (A : Option Addr) (c : Nat) (l : List UInt8) (B : Nat) (A2 : Option Addr) (c2 d : Nat) (t : List Fld) (w : World) (hl : Lies w B A (B8 l)) (hB : B ≤ w.heap.size) (ht : TabAt d w B t A2 c2) (hs : l.length ≤ 70368744177664) :
    Calls Try.prog 11 #[.slice A l.length c, .slice A2 t.length c2] w (NewOctsOk w.heap.size (appB l t) (okB t) w) := by
  obtain ⟨i0, hi, hz0, hz1, hz2⟩ := info_parts u8_info
  have HI := Lib.hid hi
  have H0 := Lib.hid hz0
  have H1 := Lib.hid hz1
  have H2 := Lib.hid hz2
  have HL := Lib.hid hl
  have HT := Lib.hid ht
  have HK : Hid (∀ r, okB t = r → appB l t = if r then l ++ rowsD 8 t else l) := Lib.hid (fun r h => by unfold appB; rw [h])
  have HO : Hid (okB t = true → formedB 8 t = true ∧ (rowsD 8 t).length ≤ 2000) := Lib.hid okB_parts
  obtain ⟨ok, hok⟩ : ∃ ok, ok = okB t := ⟨_, rfl⟩
  obtain ⟨Z, hZ⟩ : ∃ Z, Z = appB l t := ⟨_, rfl⟩
  rw [← hok, ← hZ]
  have HOK := Lib.hid hok
  have HZ := Lib.hid hZ
  clear hi hz0 hz1 hz2 hl ht hok hZ
  go_enter Try.func11, Try.ntmps11
  go_wp2_with fail
  refine (clone_any A c l B _ HL.out hB (by omega)).mono ?_
  rintro e w1 ⟨v1, rfl, hown, hb1⟩
  have hz1 := hb1.size
  have HO1 := Lib.hid hown
  have HB1 := Lib.hid hb1
  clear hown hb1
  go_wp2_with fail
  refine (ok_any t A2 c2 d B _ (HT.out.below (HB1.out.mono hB)) (by omega)).mono ?_
  rintro e w2 ⟨rfl, hb2⟩
  rw [← HOK.out]
  have HB2 := Lib.hid (HB1.out.trans (hb2.mono hz1))
  have HO2 := Lib.hid (own_below HO1.out hb2)
  have hz2 := hb2.size
  clear hb2
  cases ok with
  | false =>
    have D : Hid (NewOctsOk w.heap.size Z false w (.returned (.tuple #[v1, .bool false])) w2) := by
      refine Lib.hid ⟨v1, rfl, ?_, HB2.out⟩
      rw [HZ.out, HK.out false HOK.out.symm]
      exact HO2.out
    go_wp2_with fail
    go_ret2
    exact D.out
  | true =>
    obtain ⟨hf, hr⟩ := HO.out HOK.out.symm
    go_wp2_with fail
    refine (rows_any 8 t A2 c2 d B _ hf (HT.out.below (HB2.out.mono hB)) (by omega) (by omega)).mono ?_
    rintro e w3 ⟨v3, rfl, hown3, hb3⟩
    obtain ⟨X, hX⟩ : ∃ X, X = rowsD 8 t := ⟨_, rfl⟩
    rw [← hX] at hown3 hr
    obtain ⟨A3, c3, rfl, _, _⟩ := own_form hown3
    have L3 := Lib.hid (Lies.own hown3 (Nat.le_refl _))
    have HB3 := Lib.hid (HB2.out.trans (hb3.mono (by omega)))
    have HO3 := Lib.hid (own_below HO2.out hb3)
    have hz3 := hb3.size
    have hs' : l.length + X.length ≤ 140737488355328 := by omega
    have hbase : w.heap.size ≤ w3.heap.size := by omega
    have HX := Lib.hid hX
    clear hown3 hb3 hX hf
    go_wp2_with (at_builtin; refine wpList_append_cells rfl _ _ 22 rfl w.heap.size 5 i0 (.int .u8 0) 1 1 Try.underlying22 HI.out H0.out H1.out H2.out rfl (by omega) _ l.length _ rfl HO3.out _ A3 X.length c3 (B8 X) rfl L3.out (B8_len1 X) (B8_one X) (room63 hs') (room1 hs') hbase ?_; intro v4 w4 hown4 hb4; have HO4 := Lib.hid hown4; have HB4 := Lib.hid (HB3.out.trans hb4); clear hown4 hb4)
    go_ret2
    refine ⟨_, rfl, ?_, HB4.out⟩
    rw [HZ.out, HK.out true HOK.out.symm, if_pos rfl, ← HX.out, List.length_append, B8_append]
    exact HO4.out
end Go.Proofs.Ytplijhhjclfhaaa
