/- Layer 8: a batch's sectors are written. -/
import Derived.Test.YtmemdkgoeldemaaGreatDoorJourB
import Derived.Test.YtmemdkgoeldemaaGreatDoorJourY
import Derived.Test.YtmemdkgoeldemaaGreatDoorJourW
import Derived.Deep.DeepCutAuto
namespace Go.Proofs.YtmemdkgoeldemaaGreatDoor
open Go.RowKit Go.Maps
set_option maxRecDepth 100000
set_option linter.unusedSimpArgs false
set_option linter.unusedVariables false
theorem wp_rename5 {P : Program} {c : Code} {Q : Exit → Act → World → Prop} {a : Act} {W : World} (I : World → Prop) (hI : I W) (k : ∀ W', I W' → Code.wp P c Q a W') : Code.wp P c Q a W := k W hI
theorem need_le' {n : Nat} (h : n ≤ 196608) : need n ≤ 4096 := by unfold need; split <;> omega
theorem wrP_round {S : Dv} {nm : Nm} {pos : Int} {x : Bt} {k : Nat} (hk : k < need x.b.length) : wrP nm pos x (need x.b.length - k) S =
    if (pWrite S nm (pos + (k : Int)) (btSec x k)).1 ≠ 0 then pWrite S nm (pos + (k : Int)) (btSec x k) else wrP nm pos x (need x.b.length - (k + 1)) (pWrite S nm (pos + (k : Int)) (btSec x k)).2 := by
  obtain ⟨n, hn⟩ : ∃ n, n = need x.b.length - (k + 1) := ⟨_, rfl⟩
  rw [show need x.b.length - k = n + 1 by omega, ← hn]
  conv => lhs; unfold wrP
  rw [show need x.b.length - (n + 1) = k by omega]
section
variable {B g : Nat} {X : Nat → Prop} {w0 W : World} {S : Dv}
def WrAt (B g : Nat) (X4 X : Nat → Prop) (w0 W : World) (S : Dv) (nm : Nm) (x : Bt) (vB : Value) (N b3 bh : Nat) (vr : Value) (wr : World) : Prop :=
  ∃ (k z : Nat) (S' : Dv) (A : Option Addr) (c : Nat), k ≤ N ∧ z < 65536 ∧ At B X4 w0 g S' wr ∧ KeptX X W wr ∧ Whole wr b3 32 #[.int .u64 (x.seq : Int), .int .i64 (x.kind : Int), vB, .int .i64 x.file, .int .i64 x.pos] ∧
    Whole wr bh 127 #[.int .u64 (x.seq : Int), .int .i64 (k : Int), .int .i64 (N : Int), .int .i64 (x.kind : Int), .int .i64 (z : Int)] ∧
    vr = .slice A (x.b.drop (48 * k)).length c ∧ LiesP wr X A (B8 (x.b.drop (48 * k))) ∧ (x.b.drop (48 * k)).length ≤ c ∧ c ≤ maxLen ∧ wrP nm x.pos x N S = wrP nm x.pos x (N - k) S'
def WrCut (B g : Nat) (X3 X : Nat → Prop) (w0 W : World) (S : Dv) (x : Bt) (A : Option Addr) (vB : Value) (N b3 : Nat) (v7 : Value) (wx : World) : Prop :=
  ∃ bh, v7 = .pointer (some ⟨bh, 0, none⟩) ∧ At B (fun i => X3 i ∨ i = bh) w0 g S wx ∧ ¬ X3 bh ∧ Whole wx b3 32 #[.int .u64 (x.seq : Int), .int .i64 (x.kind : Int), vB, .int .i64 x.file, .int .i64 x.pos] ∧
    Whole wx bh 127 #[.int .u64 (x.seq : Int), .int .i64 0, .int .i64 (N : Int), .int .i64 (x.kind : Int), .int .i64 0] ∧ LiesP wx X A (B8 x.b) ∧ KeptX X W wx
set_option maxHeartbeats 4000000 in
theorem write_any (h : At B X w0 g S W) (m : Bm) (hl : LiesP W X m.A (B8 m.x.b)) (hc1 : m.x.b.length ≤ m.c) (hc2 : m.c ≤ maxLen) (hg : 0 < m.x.seq ∧ m.x.seq < 18446744073709551616 ∧ 0 < m.x.kind ∧ m.x.kind < 256 ∧ m.x.b.length ≤ 196608) (hf : 1 ≤ m.x.file ∧ m.x.file < 100) (hp : 0 ≤ m.x.pos ∧ m.x.pos ≤ 100000) :
    Calls Tryz.prog 44 #[ptr g, btV m] W fun e w' => e = .returned (.int .i64 (wrP (nmJ m.x.file) m.x.pos m.x (need m.x.b.length) S).1) ∧ At B X w0 g (wrP (nmJ m.x.file) m.x.pos m.x (need m.x.b.length) S).2 w' ∧ KeptX X W w' := by
  obtain ⟨⟨seq, kind, bb, file, pos⟩, A, c⟩ := m
  simp only at hl hc1 hc2 hg hf hp ⊢
  obtain ⟨g1, g2, g3, g4, g5⟩ := hg
  obtain ⟨f1, f2⟩ := hf
  obtain ⟨p1, p2⟩ := hp
  have hname := fun w' => name_any file w' (by omega) (fun _ => itoas_small file (by omega) w')
  have HN := Lib.hid hname
  obtain ⟨nm, hnm⟩ : ∃ nm, nm = nmJ file := ⟨_, rfl⟩
  have hml : nm.length ≤ maxLen := by rw [hnm]; have := nmJ_le file; unfold maxLen; omega
  have ML := Lib.hid hml
  rw [← hnm]
  have HNM := Lib.hid hnm
  have H := Lib.hid h
  have HL := Lib.hid hl
  clear hname hml hnm h hl
  unfold btV
  simp only []
  go_enter Tryz.func44, Tryz.ntmps44
  go_upto_region 1 with fail
  refine wp_rename5 (fun W' => At B (fun i => X i ∨ i = W.heap.size) w0 g S W' ∧ KeptX X W W' ∧ Whole W' W.heap.size 32 #[.int .u64 (seq : Int), .int .i64 (kind : Int), .slice A bb.length c, .int .i64 file, .int .i64 pos]) ⟨H.out.own _, (H.out.below ((Below.refl _ _).alloc (Nat.le_refl _) _)).2, Whole.new _ _ _⟩ ?_
  rintro W1 ⟨hat1, hk1, hw1⟩
  obtain ⟨b3, hb3⟩ : ∃ b3, b3 = W.heap.size := ⟨_, rfl⟩
  rw [← hb3] at hat1 hw1 ⊢
  have NX3 : Hid (¬ X b3) := Lib.hid (fun e => by have := (H.out.xs b3 e).2; omega)
  obtain ⟨X3, hX3⟩ : ∃ X3 : Nat → Prop, X3 = fun i => X i ∨ i = b3 := ⟨_, rfl⟩
  rw [← hX3] at hat1
  have hXX : Hid (∀ i, X i → X3 i) := Lib.hid (fun i hi => by rw [hX3]; exact .inl hi)
  have hXb : X3 b3 := by rw [hX3]; exact .inr rfl
  have HX3 := Lib.hid hX3
  have L1 : Hid (LiesP W1.drew X A (B8 bb)) := Lib.hid (HL.out.kept (fun i _ hi => hk1.1 i hi) hk1.2)
  have D1 : Hid (At B X3 w0 g S W1.drew) := Lib.hid (hat1.drewN 1)
  have M1 : Hid (Whole W1.drew b3 32 #[.int .u64 (seq : Int), .int .i64 (kind : Int), .slice A bb.length c, .int .i64 file, .int .i64 pos]) := Lib.hid hw1
  have K1 : Hid (KeptX X W W1.drew) := Lib.hid hk1
  obtain ⟨c0, c1, c2, c3, c4⟩ := hw1.five
  clear hat1 hk1 hw1 hb3 hX3
  go_region_held (fun w' => w'.cell? ⟨b3, 3, none⟩ = some (.int .i64 file) ∧ w'.cell? ⟨b3, 2, none⟩ = some (.slice A bb.length c)) (exact ⟨c3, c2⟩) (first | (go_at_call 16; go_must (refine (HN.out _).mono ?_); rintro e w1 ⟨he, hb1⟩; rw [← HNM.out] at he; subst he; have D2 := Lib.hid (D1.out.below hb1).1; have M2 := Lib.hid (M1.out.kept (D1.out.below hb1).2 hXb); have L2 := Lib.hid (L1.out.below hb1); have K2 := Lib.hid (K1.out.trans' ⟨fun i hi => hb1.block i (by have := D1.out.xs i (hXX.out i hi); omega), hb1.size⟩); obtain ⟨c0, c1, c2, c3, c4⟩ := Whole.five M2.out; clear hb1))
  go_upto_region 2 with fail
  have hne := fun w => need_any bb.length w (by omega)
  obtain ⟨N, hN⟩ : ∃ N, N = need bb.length := ⟨_, rfl⟩
  rw [← hN] at hne
  have hN1 := need_pos bb.length
  have hN2 := need_le' g5
  rw [← hN] at hN1 hN2
  have HNE := Lib.hid hne
  have HNN := Lib.hid hN
  clear hne hN
  go_cut [7] (fun v7 wx => WrCut B g X3 X w0 W S ⟨seq, kind, bb, file, pos⟩ A (.slice A bb.length c) N b3 v7 wx)
  case first =>
    go_region_held (fun w' => w'.cell? ⟨b3, 0, none⟩ = some (.int .u64 (seq : Int)) ∧ w'.cell? ⟨b3, 2, none⟩ = some (.slice A bb.length c) ∧ w'.cell? ⟨b3, 1, none⟩ = some (.int .i64 (kind : Int))) (first | exact ⟨c0, c2, c1⟩ | go_keep) (first | (go_at_call 17; go_must (refine (HNE.out _).mono ?_); rintro e w2 ⟨rfl, rfl⟩))
    all_goals
      go_wp2_with fail
      go_meet
      have hbo : Below w1.heap.size w1 (w1.alloc (.cells #[.int .u64 (seq : Int), .int .i64 0, .int .i64 (N : Int), .int .i64 (kind : Int), .int .i64 0] 127)) := (Below.refl _ _).alloc (Nat.le_refl _) _
      refine ⟨w1.heap.size, rfl, (D2.out.own _).drewN 1, fun e => by have := (D2.out.xs _ e).2; omega, M2.out.alloc _, Whole.new w1 _ _, L2.out.below hbo.drew, K2.out.trans' ⟨fun i hi => hbo.block i (D2.out.xs i (hXX.out i hi)).2, hbo.size⟩⟩
  case rest =>
    obtain ⟨bh, rfl, hat, hnb, hwb, hwh, hl, hk⟩ := hcut
    obtain ⟨X4, hX4⟩ : ∃ X4 : Nat → Prop, X4 = fun i => X3 i ∨ i = bh := ⟨_, rfl⟩
    rw [← hX4] at hat
    have hX4b : X4 bh := by rw [hX4]; exact .inr rfl
    have hX43 : X4 b3 := by rw [hX4]; exact .inl hXb
    have hXX4 : Hid (∀ i, X i → X4 i) := Lib.hid (fun i hi => by rw [hX4]; exact .inl (hXX.out i hi))
    have hne : bh ≠ b3 := fun e => hnb (by rw [e]; exact hXb)
    have hnX : Hid (∀ i, X i → i ≠ bh ∧ i ≠ b3) := Lib.hid (fun i hi => ⟨fun e => hnb (by rw [← e]; exact hXX.out i hi), fun e => NX3.out (by rw [← e]; exact hi)⟩)
    have W0 : Hid (WrAt B g X4 X w0 W S nm ⟨seq, kind, bb, file, pos⟩ (.slice A bb.length c) N b3 bh (.slice A bb.length c) wc) := Lib.hid ⟨0, 0, S, A, c, Nat.zero_le _, by omega, hat, hk, hwb, hwh, by simp, by simpa using hl, by simpa using hc1, hc2, rfl⟩
    have HX4 := Lib.hid hX4
    clear hat hnb hwb hwh hl hk hX4 D1 D2 M1 M2 L1 L2 K1 K2 c0 c1 c2 c3 c4
    go_wp2_with fail
    go_loopw [6] (fun vr wr => WrAt B g X4 X w0 W S nm ⟨seq, kind, bb, file, pos⟩ (.slice A bb.length c) N b3 bh vr wr) (fun _ wr => N - cellN wr bh 1)
    case atStart => exact W0.out
    case round =>
      obtain ⟨k, z, S', A', c', hk, hz, hat, hkx, hwb, hwh, rfl, hl, hc1', hc2', hwr⟩ := hrel
      simp only at hwb hwh hl hc1' hwr
      have AT := Lib.hid hat
      have KX := Lib.hid hkx
      have WB := Lib.hid hwb
      have WH := Lib.hid hwh
      have LR := Lib.hid hl
      have WR := Lib.hid hwr
      have HC2 := Lib.hid hc2'
      obtain ⟨p0, p1, p2, p3, p4⟩ := hwh.five
      have pf := Whole.frozen hwh
      by_cases hlt : k < N
      · have hi1 : (k : Int) < (N : Int) := by omega
        obtain ⟨R, hR⟩ : ∃ R, R = bb.drop (48 * k) := ⟨_, rfl⟩
        obtain ⟨P, hP⟩ : ∃ P, P = btPart bb k := ⟨_, rfl⟩
        have hPR : P = R.take 48 := by rw [hP, hR]; rfl
        have hpl : P.length = min R.length 48 := by rw [hPR, List.length_take]; omega
        have hmn : min (R.length : Int) 48 = (P.length : Int) := by omega
        rw [← hR] at hl hc1' ⊢
        have HR := Lib.hid hR
        have HP := Lib.hid hP
        have HPR := Lib.hid hPR
        have HPL := Lib.hid hpl
        have LR := Lib.hid hl
        have hp48 : P.length ≤ 48 := by omega
        have HCN : Hid (cellN wr bh 1 = k) := Lib.hid (by unfold cellN; rw [p1]; simp [intOf])
        have hsec : secH ⟨seq, k, N, kind, P.length⟩ P = btSec ⟨seq, kind, bb, file, pos⟩ k := by
          unfold btSec btHd
          simp only []
          rw [← hP, ← HNN.out]
        have hfit : (⟨seq, k, N, kind, P.length⟩ : Hd).fit := ⟨g2, by show k < 65536; omega, by show N < 65536; omega, g4, by show P.length < 65536; omega⟩
        have hsh := fun (w : World) (hw : Lies w w.heap.size A' (B8 P)) => sectorH_any ⟨seq, k, N, kind, P.length⟩ hfit P A' c' w.heap.size w hp48 hw (Nat.le_refl _)
        unfold hdV at hsh
        simp only [hsec] at hsh
        have HSH := Lib.hid hsh
        obtain ⟨x, hx⟩ : ∃ x, x = btSec ⟨seq, kind, bb, file, pos⟩ k := ⟨_, rfl⟩
        rw [← hx] at HSH
        obtain ⟨e1, S2, hS2⟩ : ∃ e1 S2, pWrite S' nm (pos + (k : Int)) x = (e1, S2) := ⟨_, _, rfl⟩
        have hrnd : wrP nm pos ⟨seq, kind, bb, file, pos⟩ N S = if e1 ≠ 0 then (e1, S2) else wrP nm pos ⟨seq, kind, bb, file, pos⟩ (N - (k + 1)) S2 := by
          have := wrP_round (S := S') (nm := nm) (pos := pos) (x := ⟨seq, kind, bb, file, pos⟩) (k := k) (by show k < need bb.length; rw [← HNN.out]; exact hlt)
          simp only at this
          rw [← HNN.out, ← hx, hS2] at this
          rw [hwr, this]
        have HRN := Lib.hid hrnd
        have HS2 := Lib.hid hS2
        have hwk : IntKind.i64.wrap (pos + (k : Int)) = pos + (k : Int) := IntWalk.i64_in _ ⟨by omega, by omega⟩
        have hpc : (P.length : Int) ≤ (c' : Int) := by omega
        have LP : Hid (LiesP wr X A' (B8 P)) := Lib.hid (by rw [hPR, show B8 (R.take 48) = (B8 R).take 48 by simp [B8]]; exact hl.take 48)
        have hlr := Lib.hid hl
        clear hat hkx hwb hwh hl hwr hR hP hPR hpl hsec hfit hsh hx hS2 hrnd LR
        go_upto_region 6 with fail
        refine wp_rename5 (fun W' => At B X4 w0 g S' W' ∧ KeptX X W W' ∧ Whole W' b3 32 #[.int .u64 (seq : Int), .int .i64 (kind : Int), .slice A bb.length c, .int .i64 file, .int .i64 pos] ∧ Whole W' bh 127 #[.int .u64 (seq : Int), .int .i64 (k : Int), .int .i64 (N : Int), .int .i64 (kind : Int), .int .i64 (P.length : Int)] ∧ LiesP W' X A' (B8 P) ∧ LiesP W' X A' (B8 R)) ?_ ?_
        · have kx : KeptX X wr (wr.setCell ⟨bh, 4, none⟩ (.int .i64 (P.length : Int))) := ⟨fun i hi => Below.heap_setCell _ _ _ _ (fun e => (hnX.out i hi).1 e), by simp⟩
          exact ⟨AT.out.cell bh 4 hX4b _, KX.out.trans' kx, (Below.heap_setCell _ ⟨bh, 4, none⟩ _ _ (by show b3 ≠ bh; omega)).trans WB.out, Whole.put WH.out 4 _, LP.out.kept (fun i _ hi => kx.1 i hi) kx.2, hlr.out.kept (fun i _ hi => kx.1 i hi) kx.2⟩
        rintro W6 ⟨hat, hkx, hwb, hwh, hlp, hlr2⟩
        have A6 : Hid (At B X4 w0 g S' W6.drew) := Lib.hid (hat.drewN 1)
        have K6 : Hid (KeptX X W W6.drew) := Lib.hid hkx
        have WB6 : Hid (Whole W6.drew b3 32 #[.int .u64 (seq : Int), .int .i64 (kind : Int), .slice A bb.length c, .int .i64 file, .int .i64 pos]) := Lib.hid hwb
        have WH6 : Hid (Whole W6.drew bh 127 #[.int .u64 (seq : Int), .int .i64 (k : Int), .int .i64 (N : Int), .int .i64 (kind : Int), .int .i64 (P.length : Int)]) := Lib.hid hwh
        have LP6 : Hid (LiesP W6.drew X A' (B8 P)) := Lib.hid hlp
        have LR6 : Hid (LiesP W6.drew X A' (B8 R)) := Lib.hid hlr2
        obtain ⟨b0, b1, b2, b3', b4⟩ := hwb.five
        obtain ⟨p0, p1, p2, p3, p4⟩ := hwh.five
        clear hat hkx hwb hwh hlp hlr2 AT KX WB WH LP hlr
        go_region_held (fun w' => w'.cell? ⟨b3, 4, none⟩ = some (.int .i64 pos) ∧ w'.cell? ⟨bh, 0, none⟩ = some (.int .u64 (seq : Int)) ∧ w'.cell? ⟨bh, 1, none⟩ = some (.int .i64 (k : Int)) ∧ w'.cell? ⟨bh, 2, none⟩ = some (.int .i64 (N : Int)) ∧ w'.cell? ⟨bh, 3, none⟩ = some (.int .i64 (kind : Int)) ∧ w'.cell? ⟨bh, 4, none⟩ = some (.int .i64 (P.length : Int))) (exact ⟨b4, p0, p1, p2, p3, p4⟩) (first
          | (go_at_call 76; go_must (refine (HSH.out _ LP6.out.lies).mono ?_); rintro e w7 ⟨rfl, hb7⟩; have A7 := Lib.hid (A6.out.below hb7).1; have Q7 := Lib.hid (A6.out.below hb7).2; have WB7 := Lib.hid (WB6.out.kept Q7.out hX43); have WH7 := Lib.hid (WH6.out.kept Q7.out hX4b); obtain ⟨b0, b1, b2, b3', b4⟩ := WB7.out.five; obtain ⟨p0, p1, p2, p3, p4⟩ := WH7.out.five; clear hb7)
          | (go_at_call 15; go_must (refine (at_write A7.out nm ML.out (pos + (k : Int)) x e1 HS2.out).mono ?_); rintro e w8 ⟨rfl, h8, k8⟩; have A8 := Lib.hid h8; have Q8 := Lib.hid (Q7.out.trans' k8); have WB8 := Lib.hid (WB6.out.kept Q8.out hX43); have WH8 := Lib.hid (WH6.out.kept Q8.out hX4b); obtain ⟨b0, b1, b2, b3', b4⟩ := WB8.out.five; obtain ⟨p0, p1, p2, p3, p4⟩ := WH8.out.five; clear h8 k8))
        have K8 : Hid (KeptX X W w8) := Lib.hid (K6.out.trans' ⟨fun i hi => Q8.out.1 i (hXX4.out i hi), Q8.out.2⟩)
        by_cases he : e1 = 0
        · subst he
          have HRN2 : Hid (wrP nm pos ⟨seq, kind, bb, file, pos⟩ N S = wrP nm pos ⟨seq, kind, bb, file, pos⟩ (N - (k + 1)) S2) := Lib.hid (by have := HRN.out; rwa [if_neg (by simp)] at this)
          have LR8 : Hid (LiesP w8 X A' (B8 R)) := Lib.hid (LR6.out.kept (fun i _ hi => Q8.out.1 i (hXX4.out i hi)) Q8.out.2)
          have pf := Whole.frozen WH8.out
          have hpr : (P.length : Int) ≤ (R.length : Int) := by have := HPL.out; omega
          have hRd : bb.drop (48 * (k + 1)) = R.drop P.length := by
            have h1 := HPL.out
            rw [HR.out, List.drop_drop]
            rw [HR.out, List.length_drop] at h1
            rcases Nat.le_total (bb.length) (48 * k + 48) with h2 | h2
            · rw [List.drop_of_length_le (by omega), List.drop_of_length_le (by omega)]
            · congr 1
              omega
          have HRD := Lib.hid hRd
          clear hRd
          go_wp2_with fail
          go_roundw
          case rel =>
            have kx : KeptX X w8 (w8.setCell ⟨bh, 1, none⟩ (.int .i64 ((k : Int) + 1))) := ⟨fun i hi => Below.heap_setCell _ _ _ _ (fun e => (hnX.out i hi).1 e), by simp⟩
            have hL := LR8.out.drop P.length c' (by rw [B8_length]; omega) (by rw [B8_length]; exact hc1')
            rw [show (B8 R).drop P.length = B8 (R.drop P.length) by simp [B8], ← HRD.out] at hL
            have hlen : R.length - P.length = (bb.drop (48 * (k + 1))).length := by rw [HRD.out, List.length_drop]
            refine ⟨k + 1, P.length, S2, _, c' - P.length, by omega, by omega, A8.out.cell bh 1 hX4b _, K8.out.trans' kx, ?_, Whole.put WH8.out 1 _, by rw [hlen], hL.kept (fun i _ hi => kx.1 i hi) kx.2, by show (bb.drop (48 * (k + 1))).length ≤ _; rw [← hlen]; omega, by have := HC2.out; omega, HRN2.out⟩
            exact (Below.heap_setCell _ ⟨bh, 1, none⟩ _ _ (by show b3 ≠ bh; omega)).trans WB8.out
          case measure =>
            have e1 : cellN wr bh 1 = k := HCN.out
            have e2 : cellN (w8.setCell ⟨bh, 1, none⟩ (.int .i64 ((k : Int) + 1))) bh 1 = k + 1 := by
              unfold cellN
              rw [((Whole.put WH8.out 1 (.int .i64 ((k : Int) + 1))).cell 1)]
              simp [intOf]
            rw [e1, e2]
            omega
        · go_wp2_with fail
          go_ret
          have E1 : wrP nm pos ⟨seq, kind, bb, file, pos⟩ N S = (e1, S2) := by have := HRN.out; rwa [if_pos he] at this
          rw [← HNN.out, E1]
          exact ⟨rfl, A8.out.less hXX4.out, K8.out⟩
      · have hkn : k = N := by omega
        subst hkn
        obtain ⟨e1, S2, hS2⟩ : ∃ e1 S2, pSync S' nm = (e1, S2) := ⟨_, _, rfl⟩
        have E1 : Hid (wrP nm pos ⟨seq, kind, bb, file, pos⟩ k S = (e1, S2)) := Lib.hid (by rw [hwr, Nat.sub_self]; exact hS2)
        have HS2 := Lib.hid hS2
        clear hat hkx hwb hwh hl hwr hc1' hc2' hS2
        go_wp2_with (go_at_call 75; go_must (refine (at_sync AT.out nm ML.out e1 HS2.out).mono ?_); rintro e w2 ⟨rfl, h2, k2⟩; have A2 := Lib.hid h2; have K2 := Lib.hid k2; clear h2 k2)
        go_ret
        rw [← HNN.out, E1.out]
        exact ⟨rfl, A2.out.less hXX4.out, KX.out.trans' ⟨fun i hi => K2.out.1 i (hXX4.out i hi), K2.out.2⟩⟩
end
end Go.Proofs.YtmemdkgoeldemaaGreatDoor
