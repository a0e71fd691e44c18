/- Layer 9: a meta is stored; a file is made. -/
import Derived.Test.YtcmffifehpbjnaaPageC
import Derived.Deep.RegionHeld
namespace Go.Proofs.Ytcmffifehpbjnaa
open Go.RowKit Go.Maps
set_option maxRecDepth 100000
set_option linter.unusedSimpArgs false
set_option linter.unusedVariables false
def mtC (m : Mt) : Array Value := #[.int .u64 (m.gen : Int), .int .i64 (m.root : Int), .int .i64 (m.count : Int), .int .u64 (m.mark : Int)]
theorem four {w : World} {g : Nat} {t : TypeId} {a0 a1 a2 a3 : Value} (h : Whole w g t #[a0, a1, a2, a3]) : w.cell? ⟨g, 0, none⟩ = some a0 ∧ w.cell? ⟨g, 1, none⟩ = some a1 ∧ w.cell? ⟨g, 2, none⟩ = some a2 ∧ w.cell? ⟨g, 3, none⟩ = some a3 :=
  ⟨(Whole.cell h 0).trans rfl, (Whole.cell h 1).trans rfl, (Whole.cell h 2).trans rfl, (Whole.cell h 3).trans rfl⟩
section
variable {B g : Nat} {X : Nat → Prop} {w0 W : World} {S : Dv}
set_option maxHeartbeats 4000000 in
theorem store_any (h : At B X w0 g S W) (m : Mt) (f : m.fit) (hr : m.root < 9223372036854775808) (hc : m.count < 9223372036854775808) :
    Calls Try.prog 37 #[ptr g, .agg #[.int .u64 (m.gen : Int), .int .i64 (m.root : Int), .int .i64 (m.count : Int), .int .u64 (m.mark : Int)]] W fun e w' => e = .returned (.int .i64 (storeP S m).1) ∧ At B X w0 g (storeP S m).2 w' ∧ KeptX X W w' := by
  have H := Lib.hid h
  have ml : nmP.length ≤ maxLen := by show 1 ≤ maxLen; unfold maxLen; omega
  have ML := Lib.hid ml
  have hsec := fun w => sectorM_any m f hr hc w
  obtain ⟨G, hG⟩ : ∃ G, G = m.gen := ⟨_, rfl⟩
  obtain ⟨R, hR⟩ : ∃ R, R = m.root := ⟨_, rfl⟩
  obtain ⟨C, hC⟩ : ∃ C, C = m.count := ⟨_, rfl⟩
  obtain ⟨M, hM⟩ : ∃ M, M = m.mark := ⟨_, rfl⟩
  obtain ⟨x, hx⟩ : ∃ x, x = secM m := ⟨_, rfl⟩
  simp only [← hG, ← hR, ← hC, ← hM, ← hx] at hsec
  rw [← hG, ← hR, ← hC, ← hM]
  have hGl : G < 18446744073709551616 := by rw [hG]; exact f.1
  obtain ⟨q, hq⟩ : ∃ q, q = G % 2 := ⟨_, rfl⟩
  have hq2 : q < 2 := by rw [hq]; exact Nat.mod_lt _ (by omega)
  obtain ⟨e1, S1, hS1⟩ : ∃ e1 S1, pSync S nmP = (e1, S1) := ⟨_, _, rfl⟩
  obtain ⟨e2, S2, hS2⟩ : ∃ e2 S2, pWrite S1 nmP ((q * 8 : Nat) : Int) x = (e2, S2) := ⟨_, _, rfl⟩
  obtain ⟨e3, S3, hS3⟩ : ∃ e3 S3, pSync S2 nmP = (e3, S3) := ⟨_, _, rfl⟩
  have hst : storeP S m = if e1 = 0 then (if e2 = 0 then (e3, S3) else (e2, S2)) else (e1, S1) := by
    unfold storeP
    rw [← hG, ← hq, ← hx, hS1]
    simp only [hS2, hS3]
  have HST := Lib.hid hst
  have hS2' : pWrite S1 nmP ((q : Int) * 8) x = (e2, S2) := by rw [← hS2]; congr 1
  have HS1 := Lib.hid hS1
  have HS2 := Lib.hid hS2'
  have HS3 := Lib.hid hS3
  have HSEC := Lib.hid hsec
  have hm1 : ((G : Int)).tmod 2 = (q : Int) := by rw [hq]; exact (Int.ofNat_tmod G 2).symm
  have hm2 : ((G : Int)) % 2 = (q : Int) := by rw [hq]; omega
  have hw1 : IntKind.u64.wrap (q : Int) = (q : Int) := IntWalk.u64_in _ ⟨by omega, by omega⟩
  have hw2 : IntKind.i64.wrap (q : Int) = (q : Int) := IntWalk.i64_in _ ⟨by omega, by omega⟩
  have hw3 : IntKind.i64.wrap ((q : Int) * 8) = (q : Int) * 8 := IntWalk.i64_in _ ⟨by omega, by omega⟩
  have n1 : ¬ ((2 : Int) = 0) := by omega
  have n2 : ((2 : Int) == 0) = false := rfl
  clear hst h ml hS1 hS2 hS2' hS3 hsec hx hG hR hC hM f hr hc hq
  go_enter Try.func37, Try.ntmps37
  go_upto_region 1 with fail
  obtain ⟨b3, hb3⟩ : ∃ b3, b3 = W.heap.size := ⟨_, rfl⟩
  rw [← hb3]
  obtain ⟨X3, hX3⟩ : ∃ X3 : Nat → Prop, X3 = fun i => X i ∨ i = b3 := ⟨_, rfl⟩
  have hXX : Hid (∀ i, X i → X3 i) := Lib.hid (fun i hi => by rw [hX3]; exact .inl hi)
  have hXb : Hid (X3 b3) := Lib.hid (by rw [hX3]; exact .inr rfl)
  refine wp_ren (fun W' => At B X3 w0 g S W' ∧ KeptX X W W' ∧ Whole W' b3 38 #[.int .u64 (G : Int), .int .i64 (R : Int), .int .i64 (C : Int), .int .u64 (M : Int)]) ⟨by rw [hX3, hb3]; exact H.out.own _, (H.out.below ((Below.refl _ _).alloc (Nat.le_refl _) _)).2, by rw [hb3]; exact Whole.new _ _ _⟩ ?_
  rintro W1 ⟨hat1, hk1, hw1'⟩
  have A1 := Lib.hid hat1
  have K1 := Lib.hid hk1
  have V1 := Lib.hid hw1'
  clear hat1 hk1 hw1' hX3 hb3
  by_cases he1 : e1 = 0
  · subst he1
    go_upto_region 4 with (go_at_call 32; go_must (refine (at_sync A1.out nmP ML.out 0 HS1.out).mono ?_); rintro e W2 ⟨rfl, h2, k2⟩; have A2 := Lib.hid h2; have V2 := Lib.hid (V1.out.kept k2 hXb.out); have K2 := Lib.hid (K1.out.trans' ⟨fun i hi => k2.1 i (hXX.out i hi), k2.2⟩); clear h2 k2)
    have A3 : Hid (At B X3 w0 g S1 W2.drew) := Lib.hid (A2.out.drewN 1)
    have V3 : Hid (Whole W2.drew b3 38 #[.int .u64 (G : Int), .int .i64 (R : Int), .int .i64 (C : Int), .int .u64 (M : Int)]) := V2
    have K3 : Hid (KeptX X W W2.drew) := K2
    obtain ⟨c0, c1, c2, c3⟩ := four V2.out
    go_region_held (fun w' => w'.cell? ⟨b3, 0, none⟩ = some (.int .u64 (G : Int)) ∧ w'.cell? ⟨b3, 1, none⟩ = some (.int .i64 (R : Int)) ∧ w'.cell? ⟨b3, 2, none⟩ = some (.int .i64 (C : Int)) ∧ w'.cell? ⟨b3, 3, none⟩ = some (.int .u64 (M : Int))) (exact ⟨c0, c1, c2, c3⟩) (first
      | (go_at_call 51; go_must (refine (HSEC.out _).mono ?_); rintro e W4 ⟨rfl, hb4⟩; have A4 := Lib.hid (A3.out.below hb4).1; have K4 := Lib.hid (A3.out.below hb4).2; have V4 := Lib.hid (V3.out.kept K4.out hXb.out); obtain ⟨c0, c1, c2, c3⟩ := four V4.out; clear hb4)
      | (go_at_call 30; go_must (refine (at_write A4.out nmP ML.out ((q : Int) * 8) x e2 HS2.out).mono ?_); rintro e W5 ⟨rfl, h5, k5⟩; have A5 := Lib.hid h5; have V5 := Lib.hid (V4.out.kept k5 hXb.out); have K5 := Lib.hid (K3.out.trans' ((show KeptX X _ _ from ⟨fun i hi => K4.out.1 i (hXX.out i hi), K4.out.2⟩).trans' ⟨fun i hi => k5.1 i (hXX.out i hi), k5.2⟩)); obtain ⟨c0, c1, c2, c3⟩ := four V5.out; clear h5 k5))
    by_cases he2 : e2 = 0
    · subst he2
      go_wp2_with (go_at_call 32; go_must (refine (at_sync A5.out nmP ML.out e3 HS3.out).mono ?_); rintro e W6 ⟨rfl, h6, k6⟩; have A6 := Lib.hid h6; have K6 := Lib.hid (K5.out.trans' ⟨fun i hi => k6.1 i (hXX.out i hi), k6.2⟩); clear h6 k6)
      go_ret
      have E := HST.out
      simp only [eq_self, if_true, if_false] at E
      rw [E]
      exact ⟨rfl, A6.out.less hXX.out, K6.out⟩
    · go_wp2_with fail
      go_ret
      have E := HST.out
      simp only [eq_self, if_true, if_false, he2] at E
      rw [E]
      exact ⟨rfl, A5.out.less hXX.out, K5.out⟩
  · go_wp2_with (go_at_call 32; go_must (refine (at_sync A1.out nmP ML.out e1 HS1.out).mono ?_); rintro e W2 ⟨rfl, h2, k2⟩; have A2 := Lib.hid h2; have K2 := Lib.hid (K1.out.trans' ⟨fun i hi => k2.1 i (hXX.out i hi), k2.2⟩); clear h2 k2)
    go_ret
    have E := HST.out
    simp only [eq_self, if_true, if_false, he1] at E
    rw [E]
    exact ⟨rfl, A2.out.less hXX.out, K2.out⟩
set_option maxHeartbeats 4000000 in
theorem create_any (h : At B X w0 g S W) (hfew : S.fs.length < 1000000) :
    Calls Try.prog 31 #[ptr g] W fun e w' => e = .returned (.int .i64 (createP S).1) ∧ At B X w0 g (createP S).2 w' ∧ KeptX X W w' := by
  have H := Lib.hid h
  have ml : nmP.length ≤ maxLen := by show 1 ≤ maxLen; unfold maxLen; omega
  have ML := Lib.hid ml
  have HF := Lib.hid hfew
  have hsec := fun w => sectorM_any ⟨1, 0, 0, 0⟩ (by refine ⟨?_, ?_, ?_, ?_⟩ <;> decide) (by decide) (by decide) w
  have HSEC := Lib.hid hsec
  obtain ⟨x, hx⟩ : ∃ x, x = secM ⟨1, 0, 0, 0⟩ := ⟨_, rfl⟩
  have HX := Lib.hid hx
  obtain ⟨e1, S1, hS1⟩ : ∃ e1 S1, pMake S nmP = (e1, S1) := ⟨_, _, rfl⟩
  obtain ⟨e2, S2, hS2⟩ : ∃ e2 S2, wpP nmP 0 [] 0 8 S1 = (e2, S2) := ⟨_, _, rfl⟩
  obtain ⟨e3, S3, hS3⟩ : ∃ e3 S3, wpP nmP 1 x.1 0 8 S2 = (e3, S3) := ⟨_, _, rfl⟩
  obtain ⟨e4, S4, hS4⟩ : ∃ e4 S4, pDrop S2 nmP = (e4, S4) := ⟨_, _, rfl⟩
  obtain ⟨e5, S5, hS5⟩ : ∃ e5 S5, pDrop S3 nmP = (e5, S5) := ⟨_, _, rfl⟩
  have hcr : createP S = if e1 = 0 then (if e2 = 0 then (if e3 = 0 then (0, S3) else (e3, S5)) else (e2, S4)) else (e1, S1) := by
    unfold createP fillP
    rw [hS1, ← hx]
    simp only [hS2, hS3]
    by_cases he2 : e2 = 0
    · simp only [he2, if_true]
      by_cases he3 : e3 = 0
      · simp [he3, hS3]
      · simp [he3, hS3, hS5]
    · simp [he2, hS4]
  have HCR := Lib.hid hcr
  have HS1 := Lib.hid hS1
  have HS2 := Lib.hid hS2
  have HS3 := Lib.hid hS3
  have HS4 := Lib.hid hS4
  have HS5 := Lib.hid hS5
  clear hcr h ml hfew hsec hx hS1 hS2 hS3 hS4 hS5
  have hwp0 := fun (W : World) (h : At B X w0 g S1 W) => wpage_any h 0 (by omega) [] none 0 (LiesP.nil _ _ _) (Nat.le_refl _) (Nat.zero_le _)
  simp only [HS2.out] at hwp0
  have HW0 := Lib.hid hwp0
  have hwp1 := fun (X : Nat → Prop) (W : World) (h : At B X w0 g S2 W) (A : Option Addr) (hl : LiesP W X A (B8 x.1)) => wpage_any h 1 (by omega) x.1 A 64 hl (by rw [x.2]; omega) (by unfold maxLen; omega)
  simp only [HS3.out, x.2] at hwp1
  have HW1 := Lib.hid hwp1
  clear hwp0 hwp1
  by_cases he1 : e1 = 0
  · subst he1
    by_cases he2 : e2 = 0
    · subst he2
      go_enter Try.func31, Try.ntmps31
      go_upto_region 6 with (first
        | (go_at_call 29; go_must (refine (at_make H.out nmP ML.out HF.out 0 HS1.out).mono ?_); rintro e W2 ⟨rfl, h2, k2⟩; have A2 := Lib.hid h2; have K2 := Lib.hid k2; clear h2 k2)
        | (go_at_call 34; go_must (refine (HW0.out _ A2.out).mono ?_); rintro e W3 ⟨rfl, h3, k3⟩; have A3 := Lib.hid h3; have K3 := Lib.hid (K2.out.trans' k3); clear h3 k3))
      go_upto_region 7 with (first
        | (go_at_call 51; go_must (refine (HSEC.out _).mono ?_); rintro e W4 ⟨he, hb4⟩; rw [← HX.out] at he; subst he; have A4 := Lib.hid (A3.out.below hb4).1; have K4 := Lib.hid (K3.out.trans' (A3.out.below hb4).2); clear hb4)
        | (with_reducible refine at_store36 ?_; go_must (refine wpList_store64 rfl (.tmp 5) (.tmp 16) rfl W4.heap.size x rfl rfl _ (heap_alloc_new W4 _) rfl ?_)))
      have hbo : Below W4.heap.size W4 (World.setRow (W4.alloc (.cells (csF zSec) 64)) W4.heap.size (csF x)) := below_setRow ((Below.refl _ _).alloc (Nat.le_refl _) _) (Nat.le_refl _) _
      have hrow : (World.setRow (W4.alloc (.cells (csF zSec) 64)) W4.heap.size (csF x)).heap[W4.heap.size]? = some (.cells (csF x) 64 (0, 0)) := setRow_heap _ _ _ _ _ _ (heap_alloc_new W4 _)
      have hsz : W4.heap.size < (World.setRow (W4.alloc (.cells (csF zSec) 64)) W4.heap.size (csF x)).heap.size := by simp [World.setRow]
      refine wp_ren (fun W' => At B (fun i => X i ∨ i = W4.heap.size) w0 g S2 W' ∧ KeptX X W W' ∧ LiesP W' (fun i => X i ∨ i = W4.heap.size) (some ⟨W4.heap.size, 0, none⟩) (B8 x.1)) ⟨A4.out.ownB hbo hsz, K4.out.trans' (A4.out.below hbo).2, ?_⟩ ?_
      · exact .inr ⟨W4.heap.size, 0, rfl, .inr rfl, hsz, fun j u hu => (cell_of_row _ _ (0 + j) _ _ _ hrow).trans (by rw [Nat.zero_add]; simpa [csF] using hu)⟩
      clear hbo hrow hsz
      rintro W5 ⟨h5, k5, l5⟩
      have A5 := Lib.hid h5
      have K5 := Lib.hid k5
      have L5 := Lib.hid l5
      clear h5 k5 l5
      by_cases he3 : e3 = 0
      · subst he3
        go_wp2_with (go_at_call 34; go_must (refine (HW1.out _ _ A5.out _ L5.out).mono ?_); rintro e W6 ⟨rfl, h6, k6⟩; have A6 := Lib.hid h6; have K6 := Lib.hid k6; clear h6 k6)
        go_ret
        have E := HCR.out
        simp only [eq_self, if_true, if_false] at E
        rw [E]
        exact ⟨rfl, A6.out.less (fun i hi => .inl hi), K5.out.trans' ⟨fun i hi => K6.out.1 i (.inl hi), K6.out.2⟩⟩
      · go_wp2_with (first
          | (go_at_call 34; go_must (refine (HW1.out _ _ A5.out _ L5.out).mono ?_); rintro e W6 ⟨rfl, h6, k6⟩; have A6 := Lib.hid h6; have K6 := Lib.hid k6; clear h6 k6)
          | (go_at_call 52; go_must (refine (at_drop A6.out nmP ML.out e5 HS5.out).mono ?_); rintro e W7 ⟨rfl, h7, k7⟩; have A7 := Lib.hid h7; have K7 := Lib.hid k7; clear h7 k7))
        go_ret
        have E := HCR.out
        simp only [eq_self, if_true, if_false, he3] at E
        rw [E]
        exact ⟨rfl, A7.out.less (fun i hi => .inl hi), K5.out.trans' ((show KeptX X _ _ from ⟨fun i hi => K6.out.1 i (.inl hi), K6.out.2⟩).trans' ⟨fun i hi => K7.out.1 i (.inl hi), K7.out.2⟩)⟩
    · go_enter Try.func31, Try.ntmps31
      go_wp2_with (first
        | (go_at_call 29; go_must (refine (at_make H.out nmP ML.out HF.out 0 HS1.out).mono ?_); rintro e W2 ⟨rfl, h2, k2⟩; have A2 := Lib.hid h2; have K2 := Lib.hid k2; clear h2 k2)
        | (go_at_call 34; go_must (refine (HW0.out _ A2.out).mono ?_); rintro e W3 ⟨rfl, h3, k3⟩; have A3 := Lib.hid h3; have K3 := Lib.hid (K2.out.trans' k3); clear h3 k3)
        | (go_at_call 52; go_must (refine (at_drop A3.out nmP ML.out e4 HS4.out).mono ?_); rintro e W7 ⟨rfl, h7, k7⟩; have A7 := Lib.hid h7; have K7 := Lib.hid (K3.out.trans' k7); clear h7 k7))
      go_ret
      have E := HCR.out
      simp only [eq_self, if_true, if_false, he2] at E
      rw [E]
      exact ⟨rfl, A7.out, K7.out⟩
  · go_enter Try.func31, Try.ntmps31
    go_wp2_with (go_at_call 29; go_must (refine (at_make H.out nmP ML.out HF.out e1 HS1.out).mono ?_); rintro e W2 ⟨rfl, h2, k2⟩; have A2 := Lib.hid h2; have K2 := Lib.hid k2; clear h2 k2)
    go_ret
    have E := HCR.out
    simp only [eq_self, if_true, if_false, he1] at E
    rw [E]
    exact ⟨rfl, A2.out, K2.out⟩
end
end Go.Proofs.Ytcmffifehpbjnaa
