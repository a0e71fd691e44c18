/- Layer 8: a journal in memory; Seq, File, refuses, Next. -/
import Derived.Test.YtmemdkgoeldemaaGreatDoorSectUs
import Derived.Test.YtmemdkgoeldemaaGreatDoorJourN
import Derived.Test.YtmemdkgoeldemaaGreatDoorJourQ
import Derived.Test.YtmemdkgoeldemaaGreatDoorSectE0
import Derived.Test.YtmemdkgoeldemaaGreatDoorSectL
import Derived.BigQuiet
import Derived.Deep.RegionHeld
namespace Go.Proofs.YtmemdkgoeldemaaGreatDoor
open Go.RowKit Go.Maps
set_option maxRecDepth 100000
set_option linter.unusedSimpArgs false
set_option linter.unusedVariables false
def JAt (W : World) (jb g : Nat) (J : Jr) : Prop := Whole W jb 87 #[ptr g, .int .u64 (J.seq : Int), .int .i64 (J.file : Int), .int .i64 (J.next : Int), .bool J.dead]
section
variable {W w' : World} {jb g : Nat} {J : Jr}
theorem JAt.cells (h : JAt W jb g J) : W.cell? ⟨jb, 0, none⟩ = some (ptr g) ∧ W.cell? ⟨jb, 1, none⟩ = some (.int .u64 (J.seq : Int)) ∧ W.cell? ⟨jb, 2, none⟩ = some (.int .i64 (J.file : Int)) ∧
    W.cell? ⟨jb, 3, none⟩ = some (.int .i64 (J.next : Int)) ∧ W.cell? ⟨jb, 4, none⟩ = some (.bool J.dead) :=
  ⟨by rw [Whole.cell h]; rfl, by rw [Whole.cell h]; rfl, by rw [Whole.cell h]; rfl, by rw [Whole.cell h]; rfl, by rw [Whole.cell h]; rfl⟩
theorem JAt.kept {X : Nat → Prop} (h : JAt W jb g J) (hk : KeptX X W w') (hX : X jb) : JAt w' jb g J := (hk.1 jb hX).trans h
theorem JAt.die (h : JAt W jb g J) : JAt (W.setCell ⟨jb, 4, none⟩ (.bool true)) jb g { J with dead := true } := Whole.put h 4 _
theorem JAt.go (h : JAt W jb g J) : JAt (W.setCell ⟨jb, 1, none⟩ (.int .u64 ((J.seq + 1 : Nat) : Int))) jb g { J with seq := J.seq + 1 } := Whole.put h 1 _
theorem JAt.open (h : JAt W jb g J) : JAt ((W.setCell ⟨jb, 2, none⟩ (.int .i64 (J.next : Int))).setCell ⟨jb, 3, none⟩ (.int .i64 ((J.next + 1 : Nat) : Int))) jb g { J with file := J.next, next := J.next + 1 } := Whole.put (Whole.put h 2 _) 3 _
theorem jseq_any (h : JAt W jb g J) : Calls Tryz.prog 20 #[ptr jb] W fun e w' => e = .returned (.int .u64 (J.seq : Int)) ∧ W = w' := by
  obtain ⟨c0, c1, c2, c3, c4⟩ := h.cells
  clear h
  go_enter Tryz.func20, Tryz.ntmps20
  go_wp2
  go_ret
  exact ⟨rfl, rfl⟩
theorem jfile_any (h : JAt W jb g J) : Calls Tryz.prog 21 #[ptr jb] W fun e w' => e = .returned (.int .i64 (J.file : Int)) ∧ W = w' := by
  obtain ⟨c0, c1, c2, c3, c4⟩ := h.cells
  clear h
  go_enter Tryz.func21, Tryz.ntmps21
  go_wp2
  go_ret
  exact ⟨rfl, rfl⟩
end
section
variable {B g jb : Nat} {X : Nat → Prop} {w0 W : World} {S : Dv} {J : Jr}
set_option maxHeartbeats 4000000 in
theorem refuses_any (h : At B X w0 g S W) (hj : JAt W jb g J) (kind : Int) (n : Nat) (hn : n ≤ 9000000000000000000) :
    Calls Tryz.prog 41 #[ptr jb, .int .i64 kind, .int .i64 (n : Int)] W fun e w' => e = .returned (.int .i64 (rfP S J kind n)) ∧ ∃ k, w' = W.drewN k := by
  obtain ⟨c0, c1, c2, c3, c4⟩ := hj.cells
  have H := Lib.hid h
  have hO := h.dev.1
  have hu : S.used ≤ 100000 := Nat.le_trans hO.room hO.most
  have hm : S.most ≤ 100000 := hO.most
  have hu2 : ∀ n, Calls Tryz.prog 36 #[ptr g] (W.drewN n) fun e w' => e = .returned (.int .i64 (S.used : Int)) ∧ w' = W.drewN n := fun n => (used_any (h.dev.kept (w' := W.drewN n) fun i _ _ => rfl)).mono fun e w' ⟨h1, h2⟩ => ⟨h1, h2.symm⟩
  have hm2 : ∀ n, Calls Tryz.prog 73 #[ptr g] (W.drewN n) fun e w' => e = .returned (.int .i64 (S.most : Int)) ∧ w' = W.drewN n := fun n => (most_any (h.dev.kept (w' := W.drewN n) fun i _ _ => rfl)).mono fun e w' ⟨h1, h2⟩ => ⟨h1, h2.symm⟩
  have HU := Lib.hid hu2
  have HM := Lib.hid hm2
  clear hu2 hm2
  have hw : IntKind.i64.wrap ((S.used : Int) + (n : Int)) = (S.used : Int) + (n : Int) := IntWalk.i64_in _ ⟨by omega, by omega⟩
  clear h hj hO
  unfold rfP
  cases hd : J.dead with
  | true =>
    rw [hd] at c4
    go_enter Tryz.func41, Tryz.ntmps41
    go_wp2
    all_goals
      go_ret
      exact ⟨by simp, 0, rfl⟩
  | false =>
    rw [hd] at c4
    rw [if_neg (by simp)]
    by_cases hk : kind < 1 ∨ 255 < kind
    · rw [if_pos hk]
      rcases hk with hk | hk
      all_goals
        go_enter Tryz.func41, Tryz.ntmps41
        go_wp2
        all_goals
          go_ret
          exact ⟨rfl, by first | exact ⟨_, rfl⟩ | exact ⟨0, rfl⟩⟩
    · have hk1 : ¬ kind < 1 := fun e => hk (.inl e)
      have hk2 : ¬ 255 < kind := fun e => hk (.inr e)
      rw [if_neg hk]
      clear hk
      by_cases hb : 4096 < n ∨ J.seq = 18446744073709551615
      · rw [if_pos hb]
        have hb' : (4096 : Int) < (n : Int) ∨ (J.seq : Int) = 18446744073709551615 := by omega
        rcases hb' with hb' | hb'
        all_goals
          go_enter Tryz.func41, Tryz.ntmps41
          go_wp2
          all_goals
            go_ret
            exact ⟨rfl, by first | exact ⟨_, rfl⟩ | exact ⟨0, rfl⟩⟩
      · have hb1 : ¬ (4096 : Int) < (n : Int) := by omega
        have hb2 : ¬ (J.seq : Int) = 18446744073709551615 := by omega
        rw [if_neg hb]
        clear hb
        by_cases hf : S.most < S.used + n
        · have hf' : (S.most : Int) < (S.used : Int) + (n : Int) := by omega
          rw [if_pos hf]
          clear hf
          go_enter Tryz.func41, Tryz.ntmps41
          go_upto_region 7 with fail
          go_quiet (first | (go_at_call 36; exact Calls.quiet_of_same (HU.out _)) | (go_at_call 73; exact Calls.quiet_of_same (HM.out _)))
          go_wp2
          all_goals
            go_ret
            exact ⟨rfl, by first | exact ⟨_, rfl⟩ | exact ⟨0, rfl⟩⟩
        · have hf' : ¬ (S.most : Int) < (S.used : Int) + (n : Int) := by omega
          rw [if_neg hf]
          clear hf
          go_enter Tryz.func41, Tryz.ntmps41
          go_upto_region 7 with fail
          go_quiet (first | (go_at_call 36; exact Calls.quiet_of_same (HU.out _)) | (go_at_call 73; exact Calls.quiet_of_same (HM.out _)))
          go_wp2
          all_goals
            go_ret
            exact ⟨rfl, by first | exact ⟨_, rfl⟩ | exact ⟨0, rfl⟩⟩
set_option maxHeartbeats 4000000 in
theorem next_any (h : At B X w0 g S W) (hX : X jb) (hj : JAt W jb g J) (hfew : S.fs.length < 1000000) (hnx : J.next ≤ 9000000000000000000) (hI : 1 ≤ (J.next : Int) ∧ (J.next : Int) ≤ 999999 → ∀ w', Itoas (J.next : Int) w') (h0 : 1 ≤ J.next) :
    Calls Tryz.prog 25 #[ptr jb] W fun e w' => e = .returned (.tuple #[.int .i64 (nxP S J).n, .int .i64 (nxP S J).e]) ∧ At B X w0 g (nxP S J).S w' ∧ JAt w' jb g (nxP S J).J ∧ KeptO X jb W w' := by
  obtain ⟨c0, c1, c2, c3, c4⟩ := hj.cells
  have H := Lib.hid h
  have HJ := Lib.hid hj
  have HF := Lib.hid hfew
  have hlt := Whole.lt hj
  clear h hj
  cases hd : J.dead with
  | true =>
    have e : nxP S J = ⟨0, 8, S, J⟩ := by unfold nxP; rw [if_pos hd]
    rw [e]
    rw [hd] at c4
    go_enter Tryz.func25, Tryz.ntmps25
    go_wp2
    go_ret2
    exact ⟨rfl, H.out, HJ.out, KeptO.refl _ _ _⟩
  | false =>
    rw [hd] at c4
    by_cases hm : 999999 < J.next
    · have e : nxP S J = ⟨0, 11, S, J⟩ := by unfold nxP; rw [if_neg (by simp [hd]), if_pos hm]
      rw [e]
      have hm' : (999999 : Int) < (J.next : Int) := by omega
      clear hm
      go_enter Tryz.func25, Tryz.ntmps25
      go_wp2
      go_ret2
      exact ⟨rfl, H.out, HJ.out, KeptO.refl _ _ _⟩
    · have hm' : ¬ (999999 : Int) < (J.next : Int) := by omega
      have hname := fun w' => name_any (J.next : Int) w' (by omega) (fun hh => hI hh w')
      have HN := Lib.hid hname
      obtain ⟨nm, hnm⟩ : ∃ nm, nm = nmJ (J.next : Int) := ⟨_, rfl⟩
      have hml : nm.length ≤ maxLen := by rw [hnm]; have := nmJ_le (J.next : Int); unfold maxLen; omega
      have ML := Lib.hid hml
      obtain ⟨c, S', hc⟩ : ∃ c S', pMake S nm = (c, S') := ⟨_, _, rfl⟩
      have HC := Lib.hid hc
      have HNM := Lib.hid hnm
      clear hm hI hname hml hc hnm
      by_cases hc0 : c = 0
      · subst hc0
        have e : nxP S J = ⟨J.next, 0, S', { J with file := J.next, next := J.next + 1 }⟩ := by
          unfold nxP
          rw [if_neg (by simp [hd]), if_neg (by omega), ← HNM.out, HC.out, if_neg (by simp)]
        rw [e]
        have hw : IntKind.i64.wrap ((J.next : Int) + 1) = (J.next : Int) + 1 := IntWalk.i64_in _ ⟨by omega, by omega⟩
        go_enter Tryz.func25, Tryz.ntmps25
        go_upto_region 5 with fail
        have D0 : Hid (At B X w0 g S W.drew) := Lib.hid (H.out.drewN 1)
        have J0 : Hid (JAt W.drew jb g J) := HJ
        have K0 : Hid (KeptO X jb W W.drew) := Lib.hid ⟨fun _ _ _ => rfl, Nat.le_refl _⟩
        go_region_held (fun w' => w'.cell? ⟨jb, 0, none⟩ = some (ptr g) ∧ w'.cell? ⟨jb, 3, none⟩ = some (.int .i64 (J.next : Int))) (exact ⟨c0, c3⟩) (first
          | (go_at_call 16; go_must (refine (HN.out _).mono ?_); rintro e w1 ⟨he, hb1⟩; rw [← HNM.out] at he; subst he; have D1 := Lib.hid (D0.out.below hb1).1; have J1 := Lib.hid (J0.out.kept (D0.out.below hb1).2 hX); have K1 := Lib.hid (K0.out.trans (KeptO.of (jb := jb) (D0.out.below hb1).2)); obtain ⟨c0, c1, c2, c3, c4⟩ := J1.out.cells; clear hb1)
          | (go_at_call 58; go_must (refine (at_make D1.out nm ML.out HF.out 0 HC.out).mono ?_); rintro e w2 ⟨rfl, h2, k2⟩; have D2 := Lib.hid h2; have J2 := Lib.hid (J1.out.kept k2 hX); have K2 := Lib.hid (K1.out.trans (KeptO.of (jb := jb) k2)); obtain ⟨c0, c1, c2, c3, c4⟩ := J2.out.cells; clear h2 k2))
        all_goals
          obtain ⟨c0, c1, c2, c3, c4⟩ := J2.out.cells
          have f2 := Whole.frozen J2.out 2
          have f3 := Whole.frozen J2.out 3
          go_wp2
          go_ret2
          exact ⟨rfl, (D2.out.cell jb 2 hX _).cell jb 3 hX _, JAt.open J2.out, (K2.out.set 2 _).set 3 _⟩
      · have e : nxP S J = ⟨0, c, S', { J with dead := true }⟩ := by
          unfold nxP
          rw [if_neg (by simp [hd]), if_neg (by omega), ← HNM.out, HC.out, if_pos hc0]
        rw [e]
        go_enter Tryz.func25, Tryz.ntmps25
        go_upto_region 5 with fail
        have D0 : Hid (At B X w0 g S W.drew) := Lib.hid (H.out.drewN 1)
        have J0 : Hid (JAt W.drew jb g J) := HJ
        have K0 : Hid (KeptO X jb W W.drew) := Lib.hid ⟨fun _ _ _ => rfl, Nat.le_refl _⟩
        go_region_held (fun w' => w'.cell? ⟨jb, 0, none⟩ = some (ptr g) ∧ w'.cell? ⟨jb, 3, none⟩ = some (.int .i64 (J.next : Int))) (exact ⟨c0, c3⟩) (first
          | (go_at_call 16; go_must (refine (HN.out _).mono ?_); rintro e w1 ⟨he, hb1⟩; rw [← HNM.out] at he; subst he; have D1 := Lib.hid (D0.out.below hb1).1; have J1 := Lib.hid (J0.out.kept (D0.out.below hb1).2 hX); have K1 := Lib.hid (K0.out.trans (KeptO.of (jb := jb) (D0.out.below hb1).2)); obtain ⟨c0, c1, c2, c3, c4⟩ := J1.out.cells; clear hb1)
          | (go_at_call 58; go_must (refine (at_make D1.out nm ML.out HF.out c HC.out).mono ?_); rintro e w2 ⟨rfl, h2, k2⟩; have D2 := Lib.hid h2; have J2 := Lib.hid (J1.out.kept k2 hX); have K2 := Lib.hid (K1.out.trans (KeptO.of (jb := jb) k2)); obtain ⟨c0, c1, c2, c3, c4⟩ := J2.out.cells; clear h2 k2))
        all_goals
          obtain ⟨c0, c1, c2, c3, c4⟩ := J2.out.cells
          have f4 := Whole.frozen J2.out 4
          go_wp2
          go_ret2
          exact ⟨rfl, D2.out.cell jb 4 hX _, JAt.die J2.out, K2.out.set 4 _⟩
end
end Go.Proofs.YtmemdkgoeldemaaGreatDoor
