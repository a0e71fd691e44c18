/- Layer 9: what the document fixes, walked. -/
import Derived.Test.YtcmffifehpbjnaaPageY
namespace Go.Proofs.Ytcmffifehpbjnaa
open Go.RowKit Go.Maps
set_option maxRecDepth 100000
set_option linter.unusedSimpArgs false
set_option linter.unusedVariables false
theorem LiesP.lit9 (w : World) (t : TypeId) (cs : List Value) (fr : Nat × Nat) (P : Nat → Prop) (hP : P w.heap.size) : LiesP (w.alloc (.cells cs.toArray t fr)) P (some ⟨w.heap.size, 0, none⟩) cs := by
  refine .inr ⟨w.heap.size, 0, rfl, hP, by simp, fun j x hx => ?_⟩
  rw [World.cell?_alloc_mark w cs.toArray t fr (0 + j), Nat.zero_add]
  simpa using hx
def k2m : Mt := ⟨2, 2, 3, 7⟩
theorem keeps_2 : keepsB 3 [2] = true := by decide
theorem cm_2 : cmBad 3 2 3 [2] = false := by decide
set_option maxHeartbeats 8000000 in
theorem awake9 (W : World) : Calls Try.prog 22 #[] W fun e w' => e = .returned (.bool true) ∧ Below W.heap.size W w' := by
  go_enter Try.func22, Try.ntmps22
  go_upto_region 4 with (go_at_call 9; go_must (refine (at_new 200 _ (by omega)).mono ?_); rintro e w1 ⟨g, rfl, h1⟩; have A1 := Lib.hid h1; clear h1)
  have hop := p_open (mo := 200) A1.out rfl (by omega) (by omega)
  have HOP := Lib.hid hop
  clear hop
  go_upto_region 5 with (go_at_call 10; go_must (refine HOP.out.mono ?_); rintro e w2 ⟨fb, rfl, hfb, hP, hk⟩; have P2 := Lib.hid hP; clear hP hk)
  have hme := fun (w : World) (hb : Below w2.heap.size w2 w) => p_meta (P2.out.below hb)
  have hln := fun (w : World) (hb : Below w2.heap.size w2 w) => p_len (P2.out.below hb)
  have hfr := fun (w : World) (hb : Below w2.heap.size w2 w) => p_free (P2.out.below hb) (by simp)
  have HME := Lib.hid hme
  have HLN := Lib.hid hln
  have HFR := Lib.hid hfr
  clear hme hln hfr
  go_upto_region 7 with (first
    | (go_at_call 16; go_must (refine (HME.out _ (Below.refl _ _)).mono ?_); rintro e w3 ⟨rfl, hb3⟩; have B3 := Lib.hid hb3; clear hb3)
    | (go_at_call 17; go_must (refine (HLN.out _ B3.out).mono ?_); rintro e w4 ⟨rfl, rfl⟩)
    | (go_at_call 18; go_must (refine (HFR.out _ B3.out).mono ?_); rintro e w5 ⟨v5, rfl, ho5, hb5⟩; obtain ⟨A5, c5, rfl, _, _⟩ := own_form ho5; have B5 := Lib.hid (B3.out.trans (hb5.mono B3.out.size)); clear ho5 hb5))
  have cvt := Lib.run_convert_bytes_const (P := Try.prog) w5 31 5 #[.int .u8 120] 1 1 Try.underlying31 Try.underlying5
  obtain ⟨w6, hw6⟩ : ∃ w6, w6 = w5.alloc (.cells #[.int .u8 120] 5 ((#[Value.int .u8 120] : Array Value).size, (#[Value.int .u8 120] : Array Value).size + 1)) := ⟨_, rfl⟩
  have b6 : Below w5.heap.size w5 w6 := by rw [hw6]; exact (Below.refl _ _).alloc (Nat.le_refl _) _
  have p6 := (P2.out.below B5.out).fence b6
  obtain ⟨Y6, hY6⟩ : ∃ Y6 : Nat → Prop, Y6 = fun i => False ∨ (w5.heap.size ≤ i ∧ i < w6.heap.size) := ⟨_, rfl⟩
  rw [← hY6] at p6
  have hl6 : LiesP w6 Y6 (some ⟨w5.heap.size, 0, none⟩) (B8 [120]) := by
    rw [hY6, hw6]
    exact LiesP.lit9 w5 5 [.int .u8 120] _ _ (.inr ⟨Nat.le_refl _, by simp⟩)
  have hput : Calls Try.prog 11 #[ptr fb, .slice (some ⟨w5.heap.size, 0, none⟩) 1 1] w6 fun e w' => e = .returned (.tuple #[.int .i64 2, .int .i64 0]) ∧ PAt W.heap.size g fb 200 Y6 W none (some ⟨1, 0, 0, 0⟩) [[120]] ⟨1, 0, 0, 0⟩ [2] 1 w' ∧ KeptX Y6 w6 w' :=
    p_put_new p6 [120] _ 1 hl6 (by decide) (by unfold maxLen; omega) (by simp) (by decide) rfl (by decide)
  have HPT := Lib.hid hput
  rw [← hw6] at cvt
  clear hput hl6 hY6 p6 b6 hw6
  go_upto_region 8 with (go_at_call 11; go_must (refine HPT.out.mono ?_); rintro e w7 ⟨rfl, hP7, _⟩; have P7 := Lib.hid hP7; clear hP7)
  clear cvt
  obtain ⟨w8, hw8⟩ : ∃ w8, w8 = w7.alloc (.cells #[.int .i64 2] 3) := ⟨_, rfl⟩
  have b8 : Below w7.heap.size w7 w8 := by rw [hw8]; exact (Below.refl _ _).alloc (Nat.le_refl _) _
  have p8 := P7.out.fence b8
  obtain ⟨Y8, hY8⟩ : ∃ Y8 : Nat → Prop, Y8 = fun i => Y6 i ∨ (w7.heap.size ≤ i ∧ i < w8.heap.size) := ⟨_, rfl⟩
  rw [← hY8] at p8
  have hl8 : LiesP w8 (fun i => Y8 i ∨ i < W.heap.size) (some ⟨w7.heap.size, 0, none⟩) (cellsZ [2]) := by
    rw [hY8, hw8]
    exact LiesP.lit9 w7 3 [.int .i64 2] _ _ (.inl (.inr ⟨Nat.le_refl _, by simp⟩))
  have hcom := p_commit p8 2 3 7 [2] _ 1 hl8 (by decide) (by unfold maxLen; omega) (fun p hp => by rw [List.mem_singleton.1 hp]; decide) (by decide) (by decide) (by decide) cm_2 keeps_2 (by decide)
  have hcom2 : Calls Try.prog 14 #[ptr fb, .int .i64 2, .int .i64 3, .int .u64 7, .slice (some ⟨w7.heap.size, 0, none⟩) 1 1] w8 fun e w' => e = .returned (.int .i64 0) ∧ ∃ a0 a1 L, PAt W.heap.size g fb 200 Y8 W a0 a1 [[120]] ⟨2, 2, 3, 7⟩ L 0 w' :=
    hcom.mono fun e w' ⟨r1, r2, _⟩ => ⟨r1, _, _, _, r2⟩
  have HCM := Lib.hid hcom2
  clear hcom hcom2 hl8 hY8 p8 b8
  go_upto_region 9 with (first
    | (go_at_call 14; go_must (rw [← hw8]; refine HCM.out.mono ?_); rintro e w9 ⟨rfl, a0, a1, L, hP9⟩; have P9 := Lib.hid hP9; clear hP9))
  clear hw8
  have hrd := p_read P9.out 0 [120] rfl (by decide)
  have HRD := Lib.hid hrd
  clear hrd
  go_upto_region 10 with (go_at_call 21; go_must (refine HRD.out.mono ?_); rintro e w10 ⟨v10, rfl, ho10, hb10⟩; obtain ⟨A10, c10, rfl, hc10, _⟩ := own_form ho10; have O10 := Lib.hid ho10; have B10 := Lib.hid hb10; clear ho10 hb10)
  have hrn := p_read_no (P9.out.below B10.out) 0 (by omega)
  have HRN := Lib.hid hrn
  clear hrn
  go_upto_region 11 with (go_at_call 21; go_must (refine HRN.out.mono ?_); rintro e w11 ⟨v11, rfl, ho11, hb11⟩; have B11 := Lib.hid (B10.out.trans (hb11.mono B10.out.size)); have L11 := Lib.hid ((Lies.own O10.out (Nat.le_refl _)).below hb11); clear ho11 hb11)
  have hme := fun (w : World) (hb : Below w11.heap.size w11 w) => p_meta ((P9.out.below B11.out).below hb)
  have HME2 := Lib.hid hme
  clear hme
  obtain ⟨b, o, rfl, _, hcells⟩ : ∃ b o, A10 = some ⟨b, o, none⟩ ∧ b < w10.heap.size ∧ ∀ j u, (B8 (pad [120]))[j]? = some u → w11.cell? ⟨b, o + j, none⟩ = some u := by
    rcases L11.out with h | ⟨b, o, h1, h2, h3⟩
    · exact absurd (congrArg List.length h) (by rw [B8_length, pad_length (by decide)]; decide)
    · exact ⟨b, o, h1, h2, h3⟩
  have hc0 := hcells 0 (.int .u8 120) (by rw [B8_get _ 0 (by rw [pad_length (by decide)]; omega)]; rfl)
  have hc1 := hcells 1 (.int .u8 0) (by rw [B8_get _ 1 (by rw [pad_length (by decide)]; omega)]; rfl)
  have hbw : Hid (b < w11.heap.size) := Lib.hid (World.block_lt_of_cell? w11 ⟨b, o + 0, none⟩ hc0)
  rw [Nat.add_zero] at hc0
  clear hcells
  go_wp2_with (go_at_call 16; go_must (refine (HME2.out _ (Below.refl _ _)).mono ?_); rintro e w12 ⟨rfl, hb12⟩; have B12 := Lib.hid (B11.out.trans (hb12.mono B11.out.size)); have hc0' := (hb12.cell (p := ⟨b, o, none⟩) hbw.out).trans hc0; have hc1' := (hb12.cell (p := ⟨b, o + 1, none⟩) hbw.out).trans hc1; clear hb12)
  go_ret
  exact ⟨rfl, (P9.out.bel).trans (B12.out.mono P9.out.le)⟩
end Go.Proofs.Ytcmffifehpbjnaa
