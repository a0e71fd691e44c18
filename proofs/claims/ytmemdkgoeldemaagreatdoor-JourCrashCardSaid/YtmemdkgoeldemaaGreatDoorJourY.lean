/- Layer 7: names of a device's files, as a call. Layer 8: each file of the batches is synced. -/
import Derived.Test.YtmemdkgoeldemaaGreatDoorSectZ
import Derived.Test.YtmemdkgoeldemaaGreatDoorSectO
import Derived.Test.YtmemdkgoeldemaaGreatDoorJourB
namespace Go.Proofs.YtmemdkgoeldemaaGreatDoor
section
open Go.RowKit Go.Maps
set_option maxRecDepth 100000
set_option linter.unusedSimpArgs false
set_option linter.unusedVariables false
section
variable {B g : Nat} {X : Nat → Prop} {w0 W : World} {S : Dv}
theorem at_names2 (h : At B X w0 g S W) : Calls Tryz.prog 49 #[ptr g] W fun e w' =>
    ∃ v, e = .returned v ∧ w'.ownsRow (W.heap.size + 1) 9 1 v S.fs.length ((S.fs.map (·.1)).map encStr) ∧ At B X w0 g S w' ∧ KeptX X W w' ∧ Below W.heap.size W w' := by
  obtain ⟨hO, b1, b2, b3, sv, hd⟩ := h.dev
  exact (names_any hd hO).mono fun e w' ⟨v, e1, e2, e3⟩ => ⟨v, e1, e2, (h.below e3).1, (h.below e3).2, e3⟩
end
end
section
open Go.RowKit Go.Maps
set_option maxRecDepth 100000
set_option linter.unusedSimpArgs false
set_option linter.unusedVariables false
/-- what is synced of the files of these batches; f was synced last -/
def syA (S : Dv) : Int → List Bt → Int × Dv
  | _, [] => (0, S)
  | f, x :: r => if x.file = f then syA S f r else if (pSync S (nmJ x.file)).1 ≠ 0 then pSync S (nmJ x.file) else syA (pSync S (nmJ x.file)).2 x.file r
section
variable {B g : Nat} {X : Nat → Prop} {w0 W : World} {S : Dv}
theorem BmsAt.keptX {w w' : World} {l : List Bm} {A : Option Addr} {c : Nat} (h : BmsAt w X l A c) (hk : KeptX X w w') : BmsAt w' X l A c := h.kept (fun i _ hi => hk.1 i hi) hk.2
def SyncAt (B g : Nat) (X : Nat → Prop) (w0 W : World) (S : Dv) (l : List Bt) (vf vi : Value) (wr : World) : Prop :=
  ∃ (k : Nat) (f : Int) (S' : Dv), vi = .int .i64 (k : Int) ∧ vf = .int .i64 f ∧ k ≤ l.length ∧ At B X w0 g S' wr ∧ KeptX X W wr ∧ syA S 0 l = syA S' f (l.drop k)
set_option maxHeartbeats 4000000 in
theorem syncAll_any (h : At B X w0 g S W) (ms : List Bm) (A : Option Addr) (c : Nat) (hm : BmsAt W X ms A c) (hf : ∀ m ∈ ms, 1 ≤ m.x.file ∧ m.x.file < 100) (hlen : ms.length ≤ 1000000000000) :
    Calls Tryz.prog 40 #[ptr g, .slice A ms.length c] W fun e w' => e = .returned (.int .i64 (syA S 0 (ms.map (·.x))).1) ∧ At B X w0 g (syA S 0 (ms.map (·.x))).2 w' ∧ KeptX X W w' := by
  obtain ⟨L, hL⟩ : ∃ L, L = ms.map (·.x) := ⟨_, rfl⟩
  have hLl : L.length = ms.length := by rw [hL]; simp
  have HL := Lib.hid hL
  have H := Lib.hid h
  have HM := Lib.hid hm
  have HF := Lib.hid hf
  rw [← hL]
  clear h hm hf hL
  go_enter Tryz.func40, Tryz.ntmps40
  go_wp2_with fail
  go_loopw [5, 11] (fun vf vi wr => SyncAt B g X w0 W S L vf vi wr) (fun _ vi _ => ms.length - (intOf vi).toNat)
  case atStart => exact ⟨0, 0, S, rfl, rfl, Nat.zero_le _, H.out, KeptX.refl' _ _, rfl⟩
  case round =>
    obtain ⟨k, f, S', rfl, rfl, hk, hat, hkx, hsy⟩ := hrel
    have AT := Lib.hid hat
    have KX := Lib.hid hkx
    have SY := Lib.hid hsy
    by_cases hlt : k < ms.length
    · have hi1 : (k : Int) < (ms.length : Int) := by omega
      obtain ⟨b, o, rfl, hb, d0, d1, d2, d3, d4⟩ := lies_bm (HM.out.keptX hkx).2.2.1.lies k hlt
      have hfk := HF.out _ (List.getElem_mem hlt)
      have hd : L.drop k = (ms[k]'hlt).x :: L.drop (k + 1) := by
        rw [List.drop_eq_getElem_cons (by omega)]
        congr 1
        simp [HL.out]
      obtain ⟨⟨⟨seq, kind, bb, file, pos⟩, A2, cc⟩, hm⟩ : ∃ m, m = ms[k]'hlt := ⟨_, rfl⟩
      rw [← hm] at d0 d1 d2 d3 d4 hfk hd
      simp only at d0 d1 d2 d3 d4 hfk hd
      have HD := Lib.hid hd
      clear hd hm hat hkx hsy
      by_cases hfe : file = f
      · subst hfe
        go_wp2_with fail
        go_roundw
        case rel => exact ⟨k + 1, file, S', by go_num, rfl, by omega, (AT.out.below ((Below.refl _ _).alloc (Nat.le_refl _) _)).1, KX.out.trans' (AT.out.below ((Below.refl _ _).alloc (Nat.le_refl _) _)).2, by rw [SY.out, HD.out]; simp [syA]⟩
        case measure => simp [intOf]; omega
      · obtain ⟨hf1, hf2⟩ := hfk
        have hname := fun w' => name_any file w' (by omega) (fun _ => itoas_small file (by omega) w')
        have HN := Lib.hid hname
        obtain ⟨nm, hnm⟩ : ∃ nm, nm = nmJ file := ⟨_, rfl⟩
        have hml : nm.length ≤ maxLen := by rw [hnm]; have := nmJ_le file; unfold maxLen; omega
        have ML := Lib.hid hml
        obtain ⟨e1, S2, hS2⟩ : ∃ e1 S2, pSync S' nm = (e1, S2) := ⟨_, _, rfl⟩
        have HS2 := Lib.hid hS2
        have HNM := Lib.hid hnm
        clear hname hml hS2 hnm
        by_cases he : e1 = 0
        · subst he
          go_wp2_with (first
            | (go_at_call 16; go_must (refine (HN.out _).mono ?_); rintro e w1 ⟨he, hb1⟩; rw [← HNM.out] at he; subst he; have B1 := Lib.hid (((Below.refl _ wr).alloc (Nat.le_refl _) _).trans (hb1.mono (by simp))); clear hb1)
            | (go_at_call 75; go_must (refine (at_sync (AT.out.below B1.out).1 nm ML.out 0 HS2.out).mono ?_); rintro e w2 ⟨rfl, h2, k2⟩; have A2 := Lib.hid h2; have K2 := Lib.hid (KX.out.trans' ((AT.out.below B1.out).2.trans' k2)); clear h2 k2))
          go_roundw
          case rel => exact ⟨k + 1, file, S2, by go_num, rfl, by omega, A2.out, K2.out, by rw [SY.out, HD.out]; simp only [syA]; rw [if_neg hfe, ← HNM.out, HS2.out, if_neg (by simp)]⟩
          case measure => simp [intOf]; omega
        · go_wp2_with (first
            | (go_at_call 16; go_must (refine (HN.out _).mono ?_); rintro e w1 ⟨he, hb1⟩; rw [← HNM.out] at he; subst he; have B1 := Lib.hid (((Below.refl _ wr).alloc (Nat.le_refl _) _).trans (hb1.mono (by simp))); clear hb1)
            | (go_at_call 75; go_must (refine (at_sync (AT.out.below B1.out).1 nm ML.out e1 HS2.out).mono ?_); rintro e w2 ⟨rfl, h2, k2⟩; have A2 := Lib.hid h2; have K2 := Lib.hid (KX.out.trans' ((AT.out.below B1.out).2.trans' k2)); clear h2 k2))
          go_ret
          have e3 : syA S 0 L = (e1, S2) := by
            rw [SY.out, HD.out]
            simp only [syA]
            rw [if_neg hfe, ← HNM.out, HS2.out, if_pos he]
          rw [e3]
          exact ⟨rfl, A2.out, K2.out⟩
    · have hk2 : k = ms.length := by omega
      subst hk2
      have e3 : syA S 0 L = (0, S') := by
        rw [hsy, List.drop_of_length_le (by omega)]
        rfl
      clear hat hkx hsy
      go_wp2_with fail
      go_ret
      rw [e3]
      exact ⟨rfl, AT.out, KX.out⟩
end
end
end Go.Proofs.YtmemdkgoeldemaaGreatDoor
