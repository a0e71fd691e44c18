/- The fixed call that every statement of layer 3 asks. -/
import Derived.Test.YtplijhhjclfhaaaFramB
import Derived.Lib.SlBytesConst
import Derived.Test.YtplijhhjclfhaaaWords2
namespace Go.Proofs.Ytplijhhjclfhaaa
open Go.RowKit

theorem wf_u8 {a : Int} (h : (Lit.int .u8 a).wf = true) : ∃ c : UInt8, a = (c.toNat : Int) := by
  simp [Lit.wf, IntKind.min, IntKind.max, IntKind.signed, IntKind.bits] at h
  refine ⟨UInt8.ofNat a.toNat, ?_⟩
  rw [UInt8.toNat_ofNat', Nat.mod_eq_of_lt (by omega)]
  omega
theorem fone_ok : frameOk ((1 : Nat) : Int) ((2 : Nat) : Int) ([120] : List UInt8).length = true := by decide
theorem fone_back : frameP (frameB 1 2 [120] ++ [9]) = .ok 1 2 [120] := frame_back 1 2 [120] [9] fone_ok
theorem fnil_more : frameP [] = .more := rfl
theorem fnine_bad : frameP [9] = .bad := by unfold frameP fkind; simp
theorem Lies.litm (w : World) (t : TypeId) (cs : List Value) (fr : Nat × Nat) : Lies (w.alloc (.cells cs.toArray t fr)) (w.heap.size + 1) (some ⟨w.heap.size, 0, none⟩) cs := by
  refine .inr ⟨w.heap.size, 0, rfl, by omega, fun j x hx => ?_⟩
  rw [World.cell?_alloc_mark w cs.toArray t fr (0 + j), Nat.zero_add]
  simpa using hx
set_option maxHeartbeats 400000 in
set_option maxRecDepth 100000 in
theorem awake3_any (w : World) : Calls Try.prog 17 #[] w fun e w' => e = .returned (.bool true) ∧ Below w.heap.size w w' := by
  have cvt := Lib.run_convert_bytes_const (P := Try.prog) w 22 5 #[.int .u8 120] 1 1 Try.underlying22 Try.underlying5
  obtain ⟨w0, hw0⟩ : ∃ w0, w0 = w.alloc (.cells #[.int .u8 120] 5 ((#[Value.int .u8 120] : Array Value).size, (#[Value.int .u8 120] : Array Value).size + 1)) := ⟨_, rfl⟩
  have h0 : Lies w0 (w.heap.size + 1) (some ⟨w.heap.size, 0, none⟩) (B8 [120]) := by rw [hw0]; exact Lies.litm w 5 [.int .u8 120] _
  have b0 : Below w.heap.size w w0 := by rw [hw0]; exact (Below.refl _ _).alloc (Nat.le_refl _) _
  have s0 : w0.heap.size = w.heap.size + 1 := by rw [hw0]; simp
  rw [← hw0] at cvt
  clear hw0
  have H0 := Lib.hid h0
  have B0 := Lib.hid b0
  have S0 := Lib.hid s0
  obtain ⟨Z, hZ⟩ : ∃ Z, Z = frameB 1 2 [120] := ⟨_, rfl⟩
  have hZl : Z.length = 9 := by rw [hZ]; rfl
  have HZ := Lib.hid hZ
  have HZL := Lib.hid hZl
  have hZ8 : (B8 Z)[8]? = some (.int .u8 206) := by rw [hZ]; rfl
  have HZ8 := Lib.hid hZ8
  clear h0 b0 s0 hZ hZ8 hZl
  go_enter Try.func17, Try.ntmps17
  go_wp2_with fail
  refine (fappend_yes none 0 [] (w.heap.size + 1) 1 2 (some ⟨w.heap.size, 0, none⟩) [120] 1 _ (Lies.empty _ _ _) (by rw [S0.out]; exact Nat.le_refl _) (by simp) H0.out fone_ok).mono ?_
  rw [← HZ.out, List.nil_append]
  rintro e w1 ⟨v1, rfl, ho, hb⟩
  rw [HZL.out] at ho
  obtain ⟨A1, c1, rfl, hc1, hm1⟩ := own_form ho
  have L1 := Lib.hid (Lies.own ho (Nat.le_refl _))
  have B1 := Lib.hid (B0.out.trans (hb.mono (by rw [S0.out]; omega)))
  have z1 := B1.out.size
  have hza : w1.heap.size ≤ (w1.alloc (.cells #[] 5)).heap.size := by simp
  have HZA := Lib.hid hza
  have hown0 : (w1.alloc (.cells #[] 5)).ownsRow w1.heap.size 5 1 (.slice (some ⟨w1.heap.size, 0, none⟩) 0 0) 0 [] := World.ownsRow_made w1 #[] 0 (Nat.le_refl _) (Nat.zero_le _) rfl
  have HO0 := Lib.hid hown0
  have LA := Lib.hid (L1.out.alloc (Nat.le_refl _) (.cells #[] 5))
  have BA : Hid (Below w1.heap.size w1 (w1.alloc (.cells #[] 5))) := Lib.hid ((Below.refl _ _).alloc (Nat.le_refl _) _)
  obtain ⟨i0, hi, hz0, hz1, hz2⟩ := info_parts u8_info
  have HI := Lib.hid hi
  have G0 := Lib.hid hz0
  have G1 := Lib.hid hz1
  have G2 := Lib.hid hz2
  have hlz : (B8 Z).length = 9 * 1 := by rw [B8_length, HZL.out]
  have HLZ := Lib.hid hlz
  clear ho hb hza hown0 hi hz0 hz1 hz2 hlz
  go_wp2_with (first
    | (at_builtin; refine wpList_append_cells rfl _ _ 22 rfl w1.heap.size 5 i0 (.int .u8 0) 1 1 Try.underlying22 HI.out G0.out G1.out G2.out rfl (by omega) _ 0 [] rfl HO0.out _ A1 9 c1 (B8 Z) rfl LA.out HLZ.out (B8_one Z) (by decide) (by decide) HZA.out ?_; intro v2 w2 hown2 hb2; rw [List.nil_append] at hown2; have HO2 := Lib.hid hown2; have B2 := Lib.hid (BA.out.trans hb2); clear hown2 hb2)
    | (at_builtin; refine wpList_append_cells rfl _ _ 22 rfl w1.heap.size 5 i0 (.int .u8 0) 1 1 Try.underlying22 HI.out G0.out G1.out G2.out rfl (by omega) _ 9 _ rfl (HO2.out.alloc _) _ _ 1 1 _ rfl (Lies.one w2 5 _) rfl (by simp [Value.oneCell']) (by decide) (by decide) (by have := B2.out.size; simp; omega) ?_; intro v3 w3 hown3 hb3; have HO3 := Lib.hid hown3; have B3 := Lib.hid ((B2.out.alloc B2.out.size _).trans hb3); clear hown3 hb3))
  have ho3 := HO3.out
  rw [show B8 Z ++ [Value.int .u8 9] = B8 (Z ++ [9]) from by rw [B8_append]; rfl] at ho3
  obtain ⟨A3, c3, rfl, hc3, hm3⟩ := own_form ho3
  have L3 := Lib.hid (Lies.own ho3 (Nat.le_refl _))
  have z3 := B3.out.size
  have BW3 := Lib.hid (B1.out.trans (B3.out.mono z1))
  have LZ3 := Lib.hid (L1.out.below B3.out)
  have HP : Hid (frameP (Z ++ [9]) = .ok 1 2 [120]) := Lib.hid (by rw [HZ.out]; exact fone_back)
  clear ho3
  have len10 : 9 + 1 = (Z ++ [9]).length := by rw [List.length_append, HZL.out]; rfl
  have LEN := Lib.hid len10
  clear len10
  refine (fparse_ok A3 c3 _ (Z ++ [9]) w3.heap.size _ 1 2 [120] 1 LEN.out L3.out (Nat.le_refl _) (by have := LEN.out; omega) hm3 HP.out rfl).mono ?_
  rintro e w4 ⟨A4, c4, rfl, hc4, hm4, hl4, hb4⟩
  have L4 := Lib.hid hl4
  have BW4 := Lib.hid (BW3.out.trans (hb4.mono (by omega)))
  have LZ4 := Lib.hid (LZ3.out.below (hb4.mono z3))
  have z34 := hb4.size
  have s4 : (w4.alloc (.cells #[.int .i64 1, .int .i64 2, .slice A4 1 c4] 37)).heap.size = w4.heap.size + 1 := by simp
  have S4 := Lib.hid s4
  have BA4 : Hid (Below w4.heap.size w4 (w4.alloc (.cells #[.int .i64 1, .int .i64 2, .slice A4 1 c4] 37))) := Lib.hid ((Below.refl _ _).alloc (Nat.le_refl _) _)
  have WF4 : Hid (Whole (w4.alloc (.cells #[.int .i64 1, .int .i64 2, .slice A4 1 c4] 37)) w4.heap.size 37 #[.int .i64 1, .int .i64 2, .slice A4 1 c4]) := Lib.hid (Whole.new _ _ _)
  clear hl4 hb4 s4
  go_wp2_with fail
  refine (fparse_more none 0 0 [] 0 _ rfl (Lies.empty _ _ _) (Nat.zero_le _) (Nat.le_refl _) (by decide) fnil_more).mono ?_
  rintro e w5 ⟨rfl, hb5⟩
  have z45 := hb5.size
  rw [S4.out] at z45 hb5
  have WF5 := Lib.hid (WF4.out.below hb5 (by omega))
  have L5 := Lib.hid (L4.out.below (BA4.out.trans (hb5.mono (by omega))))
  have LZ5 := Lib.hid (LZ4.out.below ((BA4.out.trans (hb5.mono (by omega))).mono (by omega)))
  have BW5 := Lib.hid (BW4.out.trans ((BA4.out.trans (hb5.mono (by omega))).mono (by omega)))
  obtain ⟨w5a, hw5a⟩ : ∃ w5a, w5a = (w5.alloc (.cells #[.int .i64 0, .int .i64 0, .slice none 0 0] 37)).alloc (.cells #[.int .u8 9] 5) := ⟨_, rfl⟩
  have h5a : Below w5.heap.size w5 w5a := by rw [hw5a]; exact ((Below.refl _ _).alloc (Nat.le_refl _) _).alloc (by simp) _
  have s5a : w5a.heap.size = w5.heap.size + 2 := by rw [hw5a]; simp
  have l5a : Lies w5a (w5.heap.size + 2) (some ⟨w5.heap.size + 1, 0, none⟩) (B8 [9]) := by
    have h := Lies.one (w5.alloc (.cells #[.int .i64 0, .int .i64 0, .slice none 0 0] 37)) 5 (.int .u8 9)
    rw [show (w5.alloc (.cells #[.int .i64 0, .int .i64 0, .slice none 0 0] 37)).heap.size = w5.heap.size + 1 from by simp, ← hw5a] at h
    exact h
  have B5a := Lib.hid h5a
  have S5a := Lib.hid s5a
  have L5a := Lib.hid l5a
  have HW5A := Lib.hid hw5a
  clear hb5 h5a s5a l5a hw5a
  go_wp2_with fail
  rw [← HW5A.out]
  refine (fparse_bad (some ⟨w5.heap.size + 1, 0, none⟩) 1 1 [9] _ _ rfl L5a.out (by rw [S5a.out]; exact Nat.le_refl _) (Nat.le_refl _) (by decide) fnine_bad).mono ?_
  rintro e w6 ⟨rfl, hb6⟩
  have hz6 := hb6.size
  rw [S5a.out] at hz6 hb6
  have b56 := B5a.out.trans (hb6.mono (by omega))
  obtain ⟨w7, hw7⟩ : ∃ w7, w7 = w6.alloc (.cells #[.int .i64 0, .int .i64 0, .slice none 0 0] 37) := ⟨_, rfl⟩
  have b57 : Below w5.heap.size w5 w7 := by rw [hw7]; exact b56.alloc (by omega) _
  have WF7 := Lib.hid (WF5.out.below b57 (by omega))
  have L7 := Lib.hid (L5.out.below (b57.mono (by omega)))
  have LZ7 := Lib.hid (LZ5.out.below (b57.mono (by omega)))
  have BW7 := Lib.hid (BW5.out.trans (b57.mono (by omega)))
  have HW7 := Lib.hid hw7
  obtain ⟨bz, oz, rfl, _, hz⟩ := LZ7.out.resolve_left (by intro h; have := HLZ.out; rw [h] at this; simp at this)
  have p8 : w7.cell? ⟨bz, oz + 8, none⟩ = some (.int .u8 206) := hz 8 _ HZ8.out
  have q1 : w7.cell? ⟨w4.heap.size, 1, none⟩ = some (.int .i64 2) := WF7.out.cell 1
  have q2 : w7.cell? ⟨w4.heap.size, 2, none⟩ = some (.slice A4 1 c4) := WF7.out.cell 2
  have cv : (convert 22 9 (.slice A4 1 c4)).run Try.prog w7 = .ok (.string ⟨#[120]⟩) w7 := run_octets_string (P := Try.prog) 22 9 5 Try.underlying22 Try.underlying5 Try.underlying9 L7.out c4
  unfold maxLen at hm1
  clear hb6 b56 b57 hz hw7
  rw [HW7.out] at p8 q1 q2 cv
  go_wp2_with fail
  go_ret
  exact ⟨rfl, by rw [← HW7.out]; exact BW7.out⟩
end Go.Proofs.Ytplijhhjclfhaaa
