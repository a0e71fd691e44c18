/- Contract of the document's own answer for layer 2: are octets a table, and which. -/
import Derived.Test.YtplijhhjclfhaaaTablX
import Derived.Test.YtplijhhjclfhaaaTabl
namespace Go.Proofs.Ytplijhhjclfhaaa
open Go.RowKit

set_option maxRecDepth 100000 in
theorem readtable_any (A : Option Addr) (c : Nat) (b : List UInt8) (B : Nat) (w : World) (hl : Lies w B A (B8 b)) (hB : B ≤ w.heap.size) (hm : b.length ≤ maxLen) (hc : b.length ≤ c) (hcm : c ≤ maxLen) :
    Calls Try.prog 15 #[.slice A b.length c] w (ParseIs (parseB b) 8 w) := by
  unfold maxLen at hm
  by_cases h : b.length ≤ 2000
  · have hp : parseB b = parsed refP b := (if_pos h).trans (code_ref b)
    rw [hp]
    have HL := Lib.hid hl
    clear hl hp
    obtain ⟨P, hP⟩ : ∃ P, P = parsed refP b := ⟨_, rfl⟩
    rw [← hP]
    have HP := Lib.hid hP
    clear hP
    go_enter Try.func15, Try.ntmps15
    go_wp2_with fail
    refine (read_any 8 A c b B 1 _ (by omega) (by omega) HL.out hB (by omega) hc hcm).mono ?_
    intro e w1 hq
    rcases hq with ⟨hn, rfl, hb⟩ | ⟨l, A1, c1, hn, rfl, ht, hb⟩
    · have D : Hid (ParseIs P 8 w (.returned (.tuple #[.slice none 0 0, .bool false])) w1) := Lib.hid (ParseIs.no (by rw [HP.out]; unfold parsed; rw [hn]) hb)
      clear hn hb
      go_wp2_with fail
      go_ret2
      exact D.out
    · have HN := Lib.hid hn
      have HT := Lib.hid ht
      have HB := Lib.hid hb
      have HX : Hid (formedB 8 l = true → (rowsD 8 l).length ≤ 70368744177664) := Lib.hid (fun hf => by rw [ref_sound 8 b l hn hf]; omega)
      have hz := hb.size
      clear hn ht hb
      go_wp2_with fail
      refine (tableok_any l A1 c1 8 w1.heap.size _ HT.out.at_ (Nat.le_refl _) HX.out).mono ?_
      rintro e w2 ⟨rfl, hb2⟩
      have HB2 := Lib.hid (HB.out.trans (hb2.mono hz))
      have HT2 := Lib.hid (TabNew.grown HT.out (only_below hb2 none) (fun q hq => by cases hq))
      clear hb2
      cases hok : okB l with
      | false =>
        have D : Hid (ParseIs P 8 w (.returned (.tuple #[.slice none 0 0, .bool false])) w2) := Lib.hid (ParseIs.no (by rw [HP.out]; unfold parsed; rw [HN.out]; simp [hok]) HB2.out)
        clear hok
        go_wp2_with fail
        go_ret2
        exact D.out
      | true =>
        have D : Hid (ParseIs P 8 w (.returned (.tuple #[.slice A1 l.length c1, .bool true])) w2) := Lib.hid (.inr ⟨l, A1, c1, by rw [HP.out]; unfold parsed; rw [HN.out]; simp [hok], rfl, HT2.out, HB2.out⟩)
        clear hok
        go_wp2_with fail
        go_ret2
        exact D.out
  · have hp : parseB b = none := if_neg h
    have D : Hid (ParseIs (parseB b) 8 w (.returned (.tuple #[.slice none 0 0, .bool false])) w) := Lib.hid (ParseIs.no hp (Below.refl _ _))
    clear hl hp
    go_enter Try.func15, Try.ntmps15
    go_wp2_with fail
    go_ret2
    exact D.out
end Go.Proofs.Ytplijhhjclfhaaa
