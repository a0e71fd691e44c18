/- The law on how many sectors a batch has: its walk. -/
import Derived.Test.YtjmpbkgdkpkpoaaGreatDoorJourK
import Derived.Test.YtjmpbkgdkpkpoaaGreatDoorJourO
namespace Go.Proofs.YtjmpbkgdkpkpoaaGreatDoor
open Go.RowKit Go.Maps
set_option maxRecDepth 100000
set_option linter.unusedSimpArgs false
set_option linter.unusedVariables false
def fsB (k : Nat) (l : List UInt8) : Bt := ⟨1, k, l, 1, 0⟩
theorem fs_new (k : Nat) (l : List UInt8) : newB [] jr0 (k : Int) l = fsB k l := by
  unfold newB
  rw [if_neg (fun h => h.1 rfl), if_neg (fun h => h.1 rfl)]
  rfl
theorem fs_add (x : Bt) : addB [] jr0 x = [[x]] := by
  unfold addB
  rw [if_neg (fun h => h.1 rfl)]
  rfl
theorem LiesP.lit (w : World) (t : TypeId) (cs : List Value) (P : Nat → Prop) (hP : P w.heap.size) : LiesP (w.alloc (.cells cs.toArray t)) P (some ⟨w.heap.size, 0, none⟩) cs := LiesP.litm w t cs (0, 0) P hP
theorem needs_one (x : Bt) : needss [[x]] = need x.b.length := by simp [needss, needs]
theorem conv_of {w : World} {P : Nat → Prop} {A : Option Addr} {l : List UInt8} {N : Nat} (h : LiesP w P A (B8 l)) (hl : l.length = N) (c : Nat) : (convert 30 9 (.slice A N c)).run Tryz.prog w = .ok (.string ⟨l.toArray⟩) w := by
  subst hl
  exact run_octets_string (P := Tryz.prog) 30 9 5 Tryz.underlying30 Tryz.underlying5 Tryz.underlying9 h.lies c
/-- behind the append -/
structure NeAt (B g jb : Nat) (X : Nat → Prop) (w0 : World) (l : List UInt8) (K N : Nat) (S : Dv) (bx : Nat) (A4 : Option Addr) (c4 : Nat) (A3 : Option Addr) (w : World) : Prop where
  la : LAt B g jb (newDv 100).most X w0 [[fsB K l]] S (newJ [] jr0) w
  bx : Whole w bx 32 #[.int .u64 1, .int .i64 (K : Int), .slice A4 N c4, .int .i64 1, .int .i64 0]
  bm : BmAt w (fun _ => True) ⟨fsB K l, A4, c4⟩
  lb : LiesP w (fun _ => True) A3 (B8 l)
theorem NeAt.below {B g jb : Nat} {X : Nat → Prop} {w0 : World} {l : List UInt8} {K N : Nat} {S : Dv} {bx : Nat} {A4 : Option Addr} {c4 : Nat} {A3 : Option Addr} {w w' : World} (h : NeAt B g jb X w0 l K N S bx A4 c4 A3 w) (hb : Below w.heap.size w w') : NeAt B g jb X w0 l K N S bx A4 c4 A3 w' :=
  ⟨h.la.below hb, h.bx.below hb h.bx.lt, h.bm.below hb, h.lb.below hb⟩
theorem rdP_fs {S : Dv} {x : Bt} (h : whP S (nmJ 1) 1 0 = (0, x)) (n : Int) : rdP S 1 0 n = if n < 0 ∨ (x.b.length : Int) < n then ([], 1) else (x.b.take n.toNat, 0) := by
  unfold rdP
  rw [h]
  simp only []
  by_cases h1 : n < 0
  · rw [if_pos h1, if_pos (.inl h1)]
  · rw [if_neg h1, if_neg (by simp)]
    by_cases h2 : (x.b.length : Int) < n
    · rw [if_pos h2, if_pos (.inr h2)]
    · rw [if_neg h2, if_neg (by omega)]
theorem ne_read {B g jb : Nat} {X : Nat → Prop} {w0 : World} {l : List UInt8} {K N : Nat} {S : Dv} {bx : Nat} {A4 : Option Addr} {c4 : Nat} {A3 : Option Addr} {w : World} (h : NeAt B g jb X w0 l K N S bx A4 c4 A3 w) (hw : whP S (nmJ 1) 1 0 = (0, fsB K l)) (q : Nat) (hq : q < 1000000) (hl : q ≤ l.length) :
    Calls Tryz.prog 37 #[ptr g, .int .i64 1, .int .i64 0, .int .i64 (q : Int)] w fun e w' => ∃ A c, e = .returned (.tuple #[.slice A q c, .int .i64 0]) ∧ LiesP w' (fun i => w.heap.size ≤ i) A (B8 (l.take q)) ∧ Below w.heap.size w w' := by
  have hr : rdP S 1 0 (q : Int) = (l.take q, 0) := by
    rw [rdP_fs hw, if_neg (by show ¬ (_ ∨ (l.length : Int) < _); omega), Int.toNat_natCast]
    rfl
  have := jread_any h.la.at_ 1 (by omega) (fun _ w' => itoas_small 1 (by omega) w') 0 (by omega) (q : Int) (by omega)
  rw [hr] at this
  simp only [List.length_take, Nat.min_eq_left hl] at this
  exact this
theorem ne_no {B g jb : Nat} {X : Nat → Prop} {w0 : World} {l : List UInt8} {K N : Nat} {S : Dv} {bx : Nat} {A4 : Option Addr} {c4 : Nat} {A3 : Option Addr} {w : World} (h : NeAt B g jb X w0 l K N S bx A4 c4 A3 w) (hw : whP S (nmJ 1) 1 0 = (0, fsB K l)) (n : Int) (hn : -9223372036854775808 ≤ n ∧ n < 9223372036854775808) (hl : n < 0 ∨ (l.length : Int) < n) :
    Calls Tryz.prog 37 #[ptr g, .int .i64 1, .int .i64 0, .int .i64 n] w fun e w' => ∃ A c, e = .returned (.tuple #[.slice A 0 c, .int .i64 1]) ∧ Below w.heap.size w w' := by
  have hr : rdP S 1 0 n = ([], 1) := by
    rw [rdP_fs hw, if_pos (show n < 0 ∨ ((fsB K l).b.length : Int) < n from hl)]
  refine (jread_any h.la.at_ 1 (by omega) (fun _ w' => itoas_small 1 (by omega) w') 0 (by omega) n hn).mono ?_
  rintro e w' ⟨A, c, he, _, hb⟩
  rw [hr] at he
  exact ⟨A, c, he, hb⟩
set_option maxHeartbeats 8000000 in
theorem needs_law (a0 a1 a2 : Int) (h0 : -9223372036854775808 ≤ a0 ∧ a0 < 9223372036854775808) (h1 : -9223372036854775808 ≤ a1 ∧ a1 < 9223372036854775808) (h2 : -9223372036854775808 ≤ a2 ∧ a2 < 9223372036854775808) (W : World) :
    Calls Tryz.prog 7 #[.int .i64 a0, .int .i64 a1, .int .i64 a2] W fun e w' => e = .returned (.bool true) ∧ Below W.heap.size W w' := by
  obtain ⟨N, hN, _, hNe⟩ := mask_is a0 1023 10 (by omega) (by decide)
  obtain ⟨K, hK, _, hKe⟩ := mask_is a1 255 8 (by omega) (by decide)
  have hN' : N < 1024 := hN
  have hK' : K < 256 := hK
  clear hN hK
  go_enter Tryz.func7, Tryz.ntmps7
  go_upto_region 5 with (go_at_call 10; go_must (refine (at_new 100 _ (by omega)).mono ?_); rintro e w1 ⟨g, rfl, h1⟩; have A1 := Lib.hid h1; clear h1)
  have HOP := Lib.hid (k_open A1.out (JD.new 100) Seqs.nil (by simp))
  go_upto_region 6 with (go_at_call 11; go_must (refine HOP.out.mono ?_); rintro e w2 ⟨jb, A, c, ms, X2, S2, rfl, hms, hXX, hnj, hjb, hL, hk, hbm⟩; have L2 := Lib.hid hL; clear hms hXX hnj hjb hL hk hbm)
  have L2' : Hid (LAt W.heap.size g jb (newDv 100).most X2 W [] S2 jr0 w2) := L2
  have HOC := Lib.hid (fun w => octets_any N (by omega) (K : Int) ⟨by omega, by omega⟩ w)
  go_upto_region 9 with (go_at_call 13; go_must (refine (HOC.out _).mono ?_); rintro e w3 ⟨A3, c3, l, rfl, hl3, ho3, hb3⟩; have O3 := Lib.hid ho3; have B3 := Lib.hid hb3; have HL3 := Lib.hid hl3; clear hl3 ho3 hb3)
  have l3 := L2'.out.fence B3.out
  obtain ⟨X3, hX3⟩ : ∃ X3 : Nat → Prop, X3 = fun i => X2 i ∨ (w2.heap.size ≤ i ∧ i < w3.heap.size) := ⟨_, rfl⟩
  rw [← hX3] at l3
  have hjlt := L2'.out.jlt
  have LB3 : Hid (LiesP w3 (fun i => X3 i ∧ i ≠ jb) A3 (B8 l)) := Lib.hid (LiesP.own O3.out fun i hi => by
    have := O3.out.lt i hi
    exact ⟨by rw [hX3]; exact .inr this, by omega⟩)
  have hll : l.length = N := HL3.out
  have L3 := Lib.hid l3
  have hmo : (newDv 100).most = 100 := rfl
  have W3 : Hid (Below W.heap.size W w3) := Lib.hid l3.at_.bel
  clear l3 hX3 hjlt A1 HOP HOC
  rw [hll]
  by_cases hk0 : K = 0
  · subst hk0
    have hap := k_append_no L3.out 0 (by omega) A3 c3 l 1 (by unfold rfP; rw [if_neg (by rw [L3.out.i.dead]; simp), if_pos (by omega)]) (by omega) LB3.out (by omega) (by simp) (by simp)
    rw [hll] at hap
    have HAP := Lib.hid hap
    clear hap hll
    have hus : S2.used = 0 := by rw [L3.out.i.dev.used]; rfl
    have HUS := Lib.hid hus
    clear hus
    go_wp2_with (first
      | (go_at_call 12; go_must (refine HAP.out.mono ?_); rintro e w4 ⟨A4, c4, X4, rfl, hXX4, hL4, hk4⟩; unfold btV bt0; have L4 := Lib.hid hL4; have BA : Hid (LAt W.heap.size g jb (newDv 100).most X4 W [] S2 jr0 (w4.alloc (.cells #[.int .u64 0, .int .i64 0, .slice A4 0 c4, .int .i64 0, .int .i64 0] 32))) := Lib.hid (L4.out.below ((Below.refl _ _).alloc (Nat.le_refl _) _)); clear hL4 hXX4 hk4)
      | (go_at_call 36; go_must (refine (at_used BA.out.at_ 0 HUS.out).mono ?_); rintro e w5 ⟨rfl, rfl⟩)
      | (go_at_call 14; go_must (refine (awake8 _).mono ?_); rintro e w6 ⟨rfl, hb6⟩; have B6 := Lib.hid (BA.out.at_.bel.trans (hb6.mono BA.out.at_.le)); clear hb6))
    go_ret
    exact ⟨rfl, B6.out⟩
  · have hkz : ¬ (K : Int) = 0 := by omega
    have hn22 : need l.length ≤ 22 := by rw [hll]; unfold need; split <;> omega
    have hap := k_append L3.out (K : Int) (by omega) A3 c3 l LB3.out (by omega) (by rw [hmo]; show 0 + _ ≤ 100; omega) (by simp) (by simp)
    rw [fs_new, fs_add, hll] at hap
    have HAP := Lib.hid hap
    obtain ⟨nd, hnd⟩ : ∃ nd, nd = need N := ⟨_, rfl⟩
    have hnd2 : nd = max ((N + 47) / 48) 1 := by rw [hnd]; unfold need; split <;> omega
    have hnd3 : max (((N : Int) + 47) / 48) 1 = (nd : Int) := by omega
    have HND := Lib.hid hnd
    have HNE := Lib.hid (fun w => need_any N w (by omega))
    rw [← hnd] at HNE
    clear hap hn22 hnd hnd2
    go_upto_region 13 with (go_at_call 12; go_must (refine HAP.out.mono ?_); rintro e w4 ⟨A4, c4, X4, S4, rfl, hXX4, hL4, hk4, hbm4⟩; unfold btV fsB; rw [show (⟨⟨1, K, l, 1, 0⟩, A4, c4⟩ : Bm).x.b.length = N from HL3.out]; have L4 := Lib.hid hL4; have BM4 := Lib.hid hbm4; have LB4 := Lib.hid (LB3.out.kept (fun i _ hi => hk4.1 i hi.1 hi.2) hk4.2); clear hL4 hXX4 hk4 hbm4)
    have NE5 : Hid (NeAt W.heap.size g jb X4 W l K N S4 w4.heap.size A4 c4 A3 (w4.alloc (.cells #[.int .u64 1, .int .i64 (K : Int), .slice A4 N c4, .int .i64 1, .int .i64 0] 32))) := Lib.hid
      ⟨L4.out.below ((Below.refl _ _).alloc (Nat.le_refl _) _), Whole.new _ _ _, (BM4.out.mono (fun _ _ _ => trivial)).below ((Below.refl _ _).alloc (Nat.le_refl _) _), (LB4.out.mono (fun _ _ _ => trivial)).below ((Below.refl _ _).alloc (Nat.le_refl _) _)⟩
    have hus : S4.used = nd := by rw [L4.out.i.dev.used, needs_one, HND.out, ← HL3.out]; rfl
    have hwh : whP S4 (nmJ 1) 1 0 = (0, fsB K l) := L4.out.i.dev.whole (by simp) (x := fsB K l) (by simp)
    have HUS := Lib.hid hus
    have HWH := Lib.hid hwh
    have hsc := fun (w : World) (h : NeAt W.heap.size g jb X4 W l K N S4 w4.heap.size A4 c4 A3 w) => (k_scan h.la.at_ h.la.i.dev h.la.i.seqs (by simp)).mono (R' := fun e w' => ∃ A5 c5 A6 c6, e = .returned (.slice A5 1 c5) ∧ BmsAt w' (fun i => w.heap.size ≤ i) [⟨fsB K l, A6, c6⟩] A5 c5 ∧ Below w.heap.size w w') fun e w' ⟨A5, c5, ms5, h1, h2, h3, h4⟩ => by
      obtain ⟨⟨x, A6, c6⟩, h5, h6⟩ := map_one (show ms5.map (·.x) = [fsB K l] from h2)
      subst h5
      have h6' : x = fsB K l := h6
      subst h6'
      exact ⟨A5, c5, A6, c6, h1, h3, h4⟩
    have HSC := Lib.hid hsc
    have hsb := fun (w : World) (h : NeAt W.heap.size g jb X4 W l K N S4 w4.heap.size A4 c4 A3 w) (A5 : Option Addr) (c5 : Nat) (A6 : Option Addr) (c6 : Nat) (P : Nat → Prop) (hm : BmsAt w P [⟨fsB K l, A6, c6⟩] A5 c5) =>
      same_batches [⟨fsB K l, A6, c6⟩] [⟨fsB K l, A4, c4⟩] A5 (some ⟨w.heap.size, 0, none⟩) c5 1 (fun _ => True) (w.alloc (.cells #[.int .u64 1, .int .i64 (K : Int), .slice A4 N c4, .int .i64 1, .int .i64 0] 32))
        ((hm.mono (fun _ _ _ => trivial)).below ((Below.refl _ _).alloc (Nat.le_refl _) _)) ⟨by simp, by unfold maxLen; omega, by rw [← HL3.out]; exact LiesP.lit w 32 (cellsBs [⟨fsB K l, A4, c4⟩]) _ trivial, fun m hm' => by rw [List.mem_singleton.1 hm']; exact h.bm.below ((Below.refl _ _).alloc (Nat.le_refl _) _)⟩ rfl (by simp)
    have HSB := Lib.hid hsb
    have X4r := Lib.hid L4.out.at_.bel
    clear hus hwh hsc hsb
    go_upto_region 14 with (go_at_call 19; go_must (refine (HSC.out _ NE5.out).mono ?_); rintro e w6 ⟨A5, c5, A6, c6, rfl, hm6, hb6⟩; have NE6 := Lib.hid (NE5.out.below hb6); have BM6 := Lib.hid hm6; clear hm6 hb6)
    obtain ⟨x0, x1, x2, x3, x4⟩ := NE6.out.bx.five
    go_upto_region 16 with (first
      | (go_at_call 17; go_must (refine (HNE.out _).mono ?_); rintro e w6' ⟨rfl, rfl⟩)
      | (go_at_call 36; go_must (refine (at_used NE6.out.la.at_ nd HUS.out).mono ?_); rintro e w6' ⟨rfl, rfl⟩)
      | (go_at_call 18; go_must (refine (HSB.out w6 NE6.out A5 c5 A6 c6 _ BM6.out).mono ?_); rintro e w7 ⟨rfl, hb7⟩; have NE7 := Lib.hid ((NE6.out.below ((Below.refl _ _).alloc (Nat.le_refl _) _)).below hb7); obtain ⟨x0, x1, x2, x3, x4⟩ := NE7.out.bx.five; have cvA := conv_of NE7.out.bm.liesP (N := N) HL3.out c4; have cvB := conv_of NE7.out.lb (N := N) HL3.out c3; clear hb7))
    obtain ⟨q, hq, hqe⟩ := turn_at a2 (N + 1) (by omega)
    rw [show ((N + 1 : Nat) : Int) = (N : Int) + 1 by omega] at hqe
    have hq1 : q ≤ N := by omega
    have hwn : IntKind.i64.wrap ((N : Int) + 1) = (N : Int) + 1 := IntWalk.i64_in _ ⟨by omega, by omega⟩
    have hn0 : ¬ ((N : Int) + 1 = 0) := by omega
    have hrd1 := fun (w : World) (h : NeAt W.heap.size g jb X4 W l K N S4 w4.heap.size A4 c4 A3 w) => ne_read h HWH.out q (by omega) (by have := HL3.out; omega)
    have HR1 := Lib.hid hrd1
    have HR2 := Lib.hid (fun (w : World) (h : NeAt W.heap.size g jb X4 W l K N S4 w4.heap.size A4 c4 A3 w) => ne_no h HWH.out ((N : Int) + 1) (by omega) (by have := HL3.out; omega))
    have HR3 := Lib.hid (fun (w : World) (h : NeAt W.heap.size g jb X4 W l K N S4 w4.heap.size A4 c4 A3 w) => ne_no h HWH.out (-1) (by omega) (by omega))
    have HQ1 := Lib.hid hq1
    clear hrd1 hq hq1
    go_upto_region 17 with fail
    clear hqe hn0
    go_upto_region 18 with (go_at_call 37; go_must (refine (HR1.out w7 NE7.out).mono ?_); rintro e w8 ⟨A8, c8, rfl, hl8, hb8⟩; have NE8 := Lib.hid (NE7.out.below hb8); have L8 := Lib.hid hl8; obtain ⟨x0, x1, x2, x3, x4⟩ := NE8.out.bx.five; clear hb8 hl8)
    go_upto_region 19 with (go_at_call 37; go_must (refine (HR2.out w8 NE8.out).mono ?_); rintro e w9 ⟨A9, c9, rfl, hb9⟩; have NE9 := Lib.hid (NE8.out.below hb9); have L9 := Lib.hid (L8.out.below hb9); obtain ⟨x0, x1, x2, x3, x4⟩ := NE9.out.bx.five; clear hb9)
    go_upto_region 20 with (go_at_call 37; go_must (refine (HR3.out w9 NE9.out).mono ?_); rintro e w10 ⟨A10, c10, rfl, hb10⟩; have NE10 := Lib.hid (NE9.out.below hb10); have L10 := Lib.hid (L9.out.below hb10); clear hb10)
    have hc3 : N ≤ c3 := by
      obtain ⟨A', c', e, h1, _⟩ := own_form O3.out
      injection e with _ _ e
      subst e
      rw [← HL3.out]
      exact h1
    have hqc : (q : Int) ≤ (c3 : Int) := by have := HQ1.out; omega
    have hqt : (l.take q).length = q := by rw [List.length_take, HL3.out]; have := HQ1.out; omega
    have cvs := fun (w : World) (hb : Below w10.heap.size w10 w) => And.intro (conv_of (L10.out.below hb) hqt c8) (conv_of (N := q) (show LiesP w (fun _ => True) A3 (B8 (l.take q)) by rw [show B8 (l.take q) = (B8 l).take q by simp [B8]]; exact ((NE10.out.lb.below hb).take q)) hqt c3)
    have CVS := Lib.hid cvs
    have W10 := Lib.hid NE10.out.la.at_.bel
    have Z10 := Lib.hid NE10.out.la.at_.le
    clear hc3 hqt cvs
    go_region_held3 (fun w' => (convert 30 9 (.slice A8 q c8)).run Tryz.prog w' = .ok (.string ⟨(l.take q).toArray⟩) w' ∧ (convert 30 9 (.slice A3 q c3)).run Tryz.prog w' = .ok (.string ⟨(l.take q).toArray⟩) w') (first | exact CVS.out _ (Below.refl _ _).drew | exact CVS.out _ B11.out) (first
      | (go_at_call 14; go_must (refine (awake8 _).mono ?_); rintro e w11 ⟨rfl, hb11⟩; have B11 := Lib.hid ((Below.refl _ w10).drew.trans hb11); clear hb11))
    all_goals
      go_wp2_with fail
      go_ret
      refine ⟨?_, W10.out.trans (B11.out.mono Z10.out)⟩
      first | rfl | simp
theorem in64 {a : Int} (h : (Lit.int .i64 a).wf = true) : -9223372036854775808 ≤ a ∧ a < 9223372036854775808 := by
  have := wf_i64 h
  omega
theorem needs_all (a0 a1 a2 : Int) (W : World) (h0 : (Lit.int .i64 a0).wf = true) (h1 : (Lit.int .i64 a1).wf = true) (h2 : (Lit.int .i64 a2).wf = true) :
    Calls Tryz.prog 7 #[.int .i64 a0, .int .i64 a1, .int .i64 a2] W fun e w' => e = .returned (.bool true) ∧ Below W.heap.size W w' := needs_law a0 a1 a2 (in64 h0) (in64 h1) (in64 h2) W
end Go.Proofs.YtjmpbkgdkpkpoaaGreatDoor
