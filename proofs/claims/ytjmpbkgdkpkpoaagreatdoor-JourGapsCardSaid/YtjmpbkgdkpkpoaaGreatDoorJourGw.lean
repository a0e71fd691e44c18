/- The law on gaps: its walk. -/
import Derived.Test.YtjmpbkgdkpkpoaaGreatDoorJourGp
namespace Go.Proofs.YtjmpbkgdkpkpoaaGreatDoor
open Go.RowKit Go.Maps
set_option maxRecDepth 100000
set_option linter.unusedSimpArgs false
set_option linter.unusedVariables false
/-- the loop's state: behind i of the batches -/
def GapsAt (W : World) (g jb L : Nat) (v10 v11 : Value) (wr : World) : Prop :=
  ∃ (i : Nat) (X : Nat → Prop) (bss : List (List Bt)) (S : Dv) (J : Jr) (ms : List Bm), i ≤ L ∧ i ≤ 12 ∧ LAt W.heap.size g jb 3000 X W bss S J wr ∧ v11 = .int .i64 (i : Int) ∧ FewJ i bss J ∧ RowJ W.heap.size X jb wr v10 ms ∧ ms.map (·.x) = bss.flatten
theorem lies_lit2 (w : World) (o : Obj) (t : TypeId) (cs : List Value) : Lies ((w.alloc o).alloc (.cells cs.toArray t)) (w.heap.size + 1 + 1) (some ⟨w.heap.size + 1, 0, none⟩) cs := by
  have := Lies.lit (w.alloc o) t cs
  rw [show (w.alloc o).heap.size = w.heap.size + 1 by simp] at this
  exact this
theorem row_cells {B jb : Nat} {X : Nat → Prop} {w : World} {b o c : Nat} {ms : List Bm} (h : RowJ B X jb w (.slice (some ⟨b, o, none⟩) ms.length c) ms) (t : Nat) (ht : t < ms.length) :
    w.cell? ⟨b, o + t * 5 + 2, none⟩ = some (.slice ms[t].A ms[t].x.b.length ms[t].c) ∧ w.cell? ⟨b, o + t * 5 + 4, none⟩ = some (.int .i64 ms[t].x.pos) := by
  obtain ⟨b', o', e, _, d0, d1, d2, d3, d4⟩ := lies_bm h.bms.2.2.2.1.lies t ht
  injection e with e
  injection e with e1 e2 e3
  subst e1 e2
  exact ⟨d2, d4⟩
theorem same_take {B jb : Nat} {X P : Nat → Prop} {w : World} {A5 : Option Addr} {b o c5 cl n t : Nat} {ms5 ms : List Bm} (h5 : BmsAt w P ms5 A5 c5) (R : RowJ B X jb w (.slice (some ⟨b, o, none⟩) n cl) ms) (ht : t ≤ ms.length) (hx : ms5.map (·.x) = (ms.take t).map (·.x)) (hl : ms.length ≤ 100) :
    Calls Tryz.prog 18 #[.slice A5 ms5.length c5, .slice (some ⟨b, o, none⟩) t cl] w fun e w' => e = .returned (.bool true) ∧ Below w.heap.size w w' := by
  have e1 : (ms.take t).length = t := by rw [List.length_take]; omega
  have e2 : ms5.length = t := by have := congrArg List.length hx; rw [List.length_map, List.length_map, e1] at this; exact this
  have := same_batches ms5 (ms.take t) A5 (some ⟨b, o, none⟩) c5 cl (fun _ => True) w (h5.mono (fun _ _ _ => trivial)) ((R.bms.2.take t).mono (fun _ _ _ => trivial)) hx (by omega)
  rw [e1] at this
  exact this
theorem RowJ.move {B jb j2 : Nat} {X X' : Nat → Prop} {w w' : World} {v : Value} {ms : List Bm} (h : RowJ B X jb w v ms) (hX : ∀ i, X i → X' i) (hk : KeptX X w w') (hj : w.heap.size ≤ j2) : RowJ B X' j2 w' v ms :=
  ⟨own_block h.row (fun i hi => hk.1 i (h.blk i hi).1), fun i hi => ⟨hX i (h.blk i hi).1, by have := (h.row.lt i hi).2; omega⟩, fun m hm => (((h.mem m hm).mono (Q := fun i => X i ∧ i < w.heap.size) (fun i hi hi2 => ⟨hi2.1, hi⟩)).kept (fun i _ hi => hk.1 i hi.1)).mono (fun i _ hi2 => ⟨hX i hi2.1, by omega⟩)⟩
theorem gp_bt {pre : List Bt} {t : Nat} (h : pre.length = t) (b : List UInt8) : gpB [pre] 1 b = ⟨t + 1, 1, b, 2, 0⟩ := by
  unfold gpB
  rw [show [pre].flatten = pre by simp, h]
  rfl
theorem need_511 {n : Nat} (h : n ≤ 511) : need n ≤ 11 := by unfold need; split <;> omega
set_option maxHeartbeats 40000000 in
theorem gaps_law (l : List Int) (A : Option Addr) (cap : Nat) (a1 a2 : Int) (W : World) (c : l.length ≤ cap) (m : cap ≤ maxLen) (hl : Lies W W.heap.size A (cellsZ l)) (h64 : In64 l) (h1 : (Lit.int .i64 a1).wf = true) (h2 : (Lit.int .i64 a2).wf = true) :
    Calls Tryz.prog 3 #[.slice A l.length cap, .int .i64 a1, .int .i64 a2] W fun e w' => e = .returned (.bool true) ∧ Below W.heap.size W w' := by
  have hmo : (newDv (3000 : Int)).most = 3000 := rfl
  have hlm : l.length ≤ maxLen := Nat.le_trans c m
  unfold maxLen at hlm
  have HL := Lib.hid hl
  have HMO := Lib.hid hmo
  obtain ⟨i0, hi, hz0, hz1, hz2⟩ := info_parts batch_info
  have KI := Lib.hid hi
  have G0 := Lib.hid hz0
  have G1 := Lib.hid hz1
  have G2 := Lib.hid hz2
  clear hmo hl h64 c m h1 h2 hi hz0 hz1 hz2
  go_enter Tryz.func3, Tryz.ntmps3
  go_upto_region 4 with (go_at_call 10; go_must (refine (at_new (3000 : Int) _ (by omega)).mono ?_); rintro e w1 ⟨g, rfl, h1⟩; have A1 := Lib.hid h1; clear h1)
  have HOP := Lib.hid (k_open A1.out (JD.new (3000 : Int)) Seqs.nil (by simp))
  rw [HMO.out] at HOP
  go_upto_region 7 with (go_at_call 11; go_must (refine HOP.out.mono ?_); rintro e w2 ⟨jb, A, c, ms, X2, S2, rfl, hms, hXX, hnj, hjb, hL, hk, hbm⟩; have L2 := Lib.hid hL; clear hms hXX hnj hjb hL hk hbm)
  have L2' : Hid (LAt W.heap.size g jb 3000 X2 W [] S2 jr0 w2) := L2
  clear A1 HOP L2
  go_wp2_with fail
  go_loopw [10, 11] (fun v10 v11 wr => GapsAt W g jb l.length v10 v11 wr) (fun _ vi _ => 12 - (intOf vi).toNat)
  case atStart => exact ⟨0, X2, [], S2, jr0, [], Nat.zero_le _, by omega, L2'.out, rfl, .inl ⟨rfl, rfl, rfl⟩, RowJ.nil _, rfl⟩
  case round =>
    obtain ⟨i, X, bss, S, J, ms, hi1, hi2, hL, rfl, hF, hR, hM⟩ := hrel
    obtain ⟨Al, cl, rfl, _, _⟩ := own_form hR.row
    have hbd := hF.bounds
    have LL := Lib.hid hL
    have RR := Lib.hid hR
    have FF := Lib.hid hF
    have MM := Lib.hid hM
    have BD := Lib.hid hbd
    have hmi : ms.length = i := by have := congrArg List.length hM; rw [List.length_map] at this; omega
    clear hL hR hF hM hbd
    by_cases hlt : i < l.length ∧ i < 12
    · obtain ⟨hl1, hl2⟩ := hlt
      have hg1 : (i : Int) < (l.length : Int) := by omega
      have hg2 : (i : Int) < 12 := by omega
      obtain ⟨b, o, rfl, hcell⟩ := lies_get HL.out LL.out.at_.bel i hl1
      obtain ⟨v, hv⟩ : ∃ v, v = l.getD i 0 := ⟨_, rfl⟩
      rw [← hv] at hcell
      clear hv
      obtain ⟨n, hn, _, hne⟩ := mask_is v 511 9 (by omega) (by decide)
      have hn' : n < 512 := hn
      have hnd : need n ≤ 11 := need_511 (by omega)
      have HOC := Lib.hid (fun w => octets_any n (by omega) (i : Int) ⟨by omega, by omega⟩ w)
      have hap := fun (X3 : Nat → Prop) (w : World) (A3 : Option Addr) (c3 : Nat) (lb : List UInt8) (hlb : lb.length = n) (h : LAt W.heap.size g jb 3000 X3 W bss S J w) (hl : LiesP w (fun i => X3 i ∧ i ≠ jb) A3 (B8 lb)) => k_append h 1 (by omega) A3 c3 lb hl (by omega) (by rw [hlb]; have := BD.out; omega) (by have := BD.out; omega) (by have := BD.out; omega)
      have HAP := Lib.hid hap
      have HMR := Lib.hid (fun (lb : List UInt8) (h : lb.length = n) => FF.out.more hl2 lb (by rw [h]; exact hnd))
      have hs1 : ms.length + 1 ≤ maxLen := by unfold maxLen; omega
      have hs2 : (ms.length + 1) * 56 ≤ 140737488355328 := by omega
      have HS1 := Lib.hid hs1
      have HS2 := Lib.hid hs2
      have HMI := Lib.hid hmi
      clear hap hn hnd hs1 hs2 hmi
      go_wp2_with (first
        | (go_at_call 13; go_must (refine (HOC.out _).mono ?_); rintro e w3 ⟨A3, c3, lb, rfl, hlb, ho3, hb3⟩; obtain ⟨X3, hXX3, l3, lb3⟩ := oct_ready LL.out ho3 hb3; have L3 := Lib.hid l3; have LB3 := Lib.hid lb3; have HLB := Lib.hid hlb; have R3 := Lib.hid (RR.out.below hXX3 hb3); clear hlb ho3 hb3 l3 lb3 hXX3)
        | (go_at_call 12; go_must (refine (HAP.out X3 w3 A3 c3 lb HLB.out L3.out LB3.out).mono ?_); rintro e w4 ⟨A4, c4, X4, S4, he, hXX4, hL4, hk4, hbm4⟩; have R4 := Lib.hid (R3.out.kept hXX4 hk4); obtain ⟨x, hx⟩ : ∃ x, x = newB bss J 1 lb := ⟨_, rfl⟩; rw [← hx] at he hL4 hbm4; have hxf : x.file = 1 := (by rw [hx]; exact (HMR.out lb HLB.out).1); obtain ⟨seq, kind, bb, xf, pos⟩ := x; simp only at hxf; subst hxf; subst he; unfold btV; have L4 := Lib.hid hL4; have HX := Lib.hid hx; have M4 : Hid (BmAt w4 (fun i => X4 i ∧ i ≠ jb) ⟨⟨seq, kind, bb, 1, pos⟩, A4, c4⟩) := Lib.hid (hbm4.mono (fun i _ h => ⟨h.1, by have h5 := L3.out.jlt; have h6 := h.2; omega⟩)); have hle4 := Lib.hid hL4.at_.le; clear hL4 hXX4 hk4 hbm4 hx)
        | (at_builtin; go_must (refine wpList_append_own2 rfl _ _ 26 rfl W.heap.size 32 i0 _ 5 56 Tryz.underlying26 KI.out G0.out G1.out G2.out batch_zero (by omega) _ ms.length (cellsBs ms) rfl ((R4.out.row.alloc _).alloc _) _ _ 1 1 (cellsBm ⟨⟨seq, kind, bb, 1, pos⟩, A4, c4⟩) rfl (lies_lit2 w4 _ 32 (cellsBm ⟨⟨seq, kind, bb, 1, pos⟩, A4, c4⟩)) rfl (cellsBm_one _) HS1.out HS2.out (by have := hle4.out; simp; omega) ?_); intro v7 w7 hown7 hg7 hv7; have O7 := Lib.hid hown7; have G7 := Lib.hid hg7; have V7 := Lib.hid hv7; clear hown7 hg7 hv7))
      obtain ⟨X7, hXX7, hL7, hR7⟩ := row_more L4.out R4.out M4.out (((Below.refl _ _).alloc (Nat.le_refl _) _).alloc (by simp) _) G7.out O7.out V7.out
      obtain ⟨_, hf⟩ := HMR.out lb HLB.out
      rw [← HX.out] at hf
      have hfl := addB_flat LL.out.i.stays (⟨seq, kind, bb, 1, pos⟩ : Bt)
      go_roundw
      case rel => exact ⟨i + 1, X7, _, S4, _, _, by omega, by omega, hL7, by go_num, hf, hR7, by rw [hfl, List.map_append, MM.out]; rfl⟩
      case measure => simp [intOf]; omega
    · have hends : ¬ (i : Int) < (l.length : Int) ∨ ((i : Int) < (l.length : Int) ∧ ¬ (i : Int) < 12) := by omega
      clear hlt
      by_cases hi0 : i = 0
      · subst hi0
        rw [hmi] at *
        rcases hends with hg1 | ⟨hg1, hg2⟩
        · go_wp2_with (first
            | (go_at_call 14; go_must (refine (awake8 _).mono ?_); rintro e w6 ⟨rfl, hb6⟩; have B6 := Lib.hid (LL.out.at_.bel.trans (hb6.mono LL.out.at_.le)); clear hb6))
          go_ret
          exact ⟨by first | rfl | (simp; done) | (simp; omega), B6.out⟩
        · exact absurd hg2 (by omega)
      · subst hmi
        have hq0 : ¬ (ms.length : Int) = 0 := by omega
        obtain ⟨q1, _, _, hne1⟩ := mask_is a1 255 8 (by omega) rfl
        obtain ⟨t, ht⟩ : ∃ t, t = q1 % ms.length := ⟨_, rfl⟩
        have htl : t < ms.length := by rw [ht]; exact Nat.mod_lt _ (by omega)
        have hrem1 : (q1 : Int).tmod (ms.length : Int) = (t : Int) := by rw [ht]; exact (Int.ofNat_tmod q1 ms.length).symm
        have hrem : (q1 : Int) % (ms.length : Int) = (t : Int) := by rw [ht]; rfl
        obtain ⟨bs, hbss⟩ : ∃ bs, bss = [bs] ∧ J.file = 1 := by
          rcases FF.out with ⟨h, _⟩ | ⟨_, bs, h, h2, _⟩
          · exact absurd h hi0
          · exact ⟨bs, h, h2⟩
        obtain ⟨rfl, _⟩ := hbss
        have hmx : ms.map (·.x) = bs := by rw [MM.out]; simp
        have htm : t < ms.length := htl
        obtain ⟨mt, hmt⟩ : ∃ mt, mt = ms[t] := ⟨_, rfl⟩
        have hsp : bs = (ms.take t).map (·.x) ++ mt.x :: (ms.drop (t + 1)).map (·.x) := by
          rw [← hmx]
          conv => lhs; rw [← List.take_append_drop t ms, List.drop_eq_getElem_cons htm]
          rw [List.map_append, List.map_cons, ← hmt]
        obtain ⟨pre, hpre⟩ : ∃ pre, pre = (ms.take t).map (·.x) := ⟨_, rfl⟩
        rw [← hpre] at hsp
        obtain ⟨q2, _, _, hne2⟩ := mask_is a2 255 8 (by omega) rfl
        obtain ⟨Z, hZ⟩ : ∃ Z, Z = need mt.x.b.length := ⟨_, rfl⟩
        have hZ1 : 1 ≤ Z := by rw [hZ]; exact need_pos _
        obtain ⟨u, hu⟩ : ∃ u, u = q2 % Z := ⟨_, rfl⟩
        have huZ : u < Z := by rw [hu]; exact Nat.mod_lt _ (by omega)
        have hrem2 : (q2 : Int).tmod (Z : Int) = (u : Int) := by rw [hu]; exact (Int.ofNat_tmod q2 Z).symm
        have hrem3 : (q2 : Int) % (Z : Int) = (u : Int) := by rw [hu]; rfl
        have hz0 : ¬ (Z : Int) = 0 := by omega
        have hz1 : ¬ Z = 0 := by omega
        have hz2 : ((Z : Int) == 0) = false := by simp; omega
        have hz3 : ((Z : Int) = 0) = False := by simp; omega
        have hJD : JD 3000 [pre ++ mt.x :: (ms.drop (t + 1)).map (·.x)] S := by rw [← hsp]; exact LL.out.i.dev
        obtain ⟨S2, hpos, hwr, hJG, hused⟩ := hJD.turn (o := u) (by rw [← hZ]; exact huZ)
        obtain ⟨pp, hpp⟩ : ∃ pp, pp = needs pre := ⟨_, rfl⟩
        rw [← hpp] at hpos hwr
        have hnb : needs bs ≤ 132 := by have := BD.out.2.2; simp [needss] at this; omega
        have hppb : pp + Z ≤ 132 := by
          have := hnb
          rw [hsp, needs_two, needs_cons, ← hpp, ← hZ] at this
          omega
        have hbb : mt.x.b.length ≤ 196608 := (LL.out.i.dev.mem (x := mt.x) (by rw [hsp]; simp)).1.2.2.2.2
        have hsum : IntKind.i64.wrap ((pp : Int) + (u : Int)) = (pp : Int) + (u : Int) := IntWalk.i64_in _ ⟨by omega, by omega⟩
        have hw3 : IntKind.i64.wrap (u : Int) = (u : Int) := IntWalk.i64_in _ ⟨by omega, by omega⟩
        have hw4 : IntKind.i64.wrap ((q2 : Int).tmod (Z : Int)) = (u : Int) := by rw [hrem2, hw3]
        have hw5 : IntKind.i64.wrap ((q2 : Int) % (Z : Int)) = (u : Int) := by rw [hrem3, hw3]
        rw [show ((pp + u : Nat) : Int) = (pp : Int) + (u : Int) by omega] at hwr
        have hseqs : Seqs pre := by
          have h5 := LL.out.i.seqs
          rw [show [bs].flatten = bs by simp, hsp] at h5
          exact h5.left
        have hus : S2.used ≤ 132 := by rw [hused, LL.out.i.dev.used]; simpa [needss] using hnb
        have HJG := Lib.hid hJG
        have HSQ := Lib.hid hseqs
        have HPRE := Lib.hid hpre
        have HMT := Lib.hid hmt
        have HMX := Lib.hid hmx
        have HUS := Lib.hid hus
        obtain ⟨b, o, rfl⟩ : ∃ b o, Al = some ⟨b, o, none⟩ := by
          obtain ⟨b, o, e, _⟩ := lies_bm RR.out.bms.2.2.2.1.lies t htm
          exact ⟨b, o, e⟩
        have hcl : ms.length ≤ cl := RR.out.bms.2.1
        have ht1 : (t : Int) ≤ (cl : Int) := by omega
        have ht2 : ¬ (cl : Int) < (t : Int) := by omega
        have ht3 : (t : Int) < (ms.length : Int) := by omega
        have hcells := fun (X' : Nat → Prop) (w : World) (h : RowJ W.heap.size X' jb w (.slice (some ⟨b, o, none⟩) ms.length cl) ms) => row_cells h t htm
        rw [← hmt] at hcells
        have hcells2 := fun X' w h => (⟨(hcells X' w h).1, by rw [← hpos]; exact (hcells X' w h).2⟩ : w.cell? ⟨b, o + t * 5 + 2, none⟩ = some (.slice mt.A mt.x.b.length mt.c) ∧ w.cell? ⟨b, o + t * 5 + 4, none⟩ = some (.int .i64 (pp : Int)))
        have HC := Lib.hid hcells2
        obtain ⟨nm, hnm⟩ : ∃ nm, nm = nmJ 1 := ⟨_, rfl⟩
        have hml : nm.length ≤ maxLen := by rw [hnm]; have := nmJ_le 1; unfold maxLen; omega
        have hna := fun w => name_any 1 w (by omega) (fun _ => itoas_small 1 (by omega) w)
        rw [← hnm] at hna hwr
        have HNA := Lib.hid hna
        have hne := fun w => need_any mt.x.b.length w (by omega)
        rw [← hZ] at hne
        have HNE := Lib.hid hne
        have hwrc := fun (k : Int) (hk : k = (pp : Int) + (u : Int)) (w : World) (h : At W.heap.size X W g S w) => at_write (S' := S2) h nm hml k zSec 0 (hk ▸ hwr)
        have HWR := Lib.hid hwrc
        obtain ⟨bl, hbl⟩ : ∃ bl, bl = mt.x.b.length := ⟨_, rfl⟩
        rw [← hbl] at HC HNE hbb
        have A1 : Hid (At W.heap.size X W g S wr.drew) := Lib.hid (LL.out.at_.drewN 1)
        have R1 : Hid (RowJ W.heap.size X jb wr.drew (.slice (some ⟨b, o, none⟩) ms.length cl) ms) := Lib.hid (RR.out.below (fun _ h => h) (Below.refl _ _).drew)
        obtain ⟨d2, d4⟩ := HC.out _ _ R1.out
        clear hJG hseqs hpre hmt hmx hus hJD hsp hpos hwr hwrc hne hna hcells hcells2 ht hu hZ hpp hused hbl hnm hml
        rcases hends with hg1 | ⟨hg1, hg2⟩
        all_goals
          go_upto_region 18 with fail
          go_region_held3 (fun w' => w'.cell? ⟨b, o + t * 5 + 2, none⟩ = some (.slice mt.A bl mt.c) ∧ w'.cell? ⟨b, o + t * 5 + 4, none⟩ = some (.int .i64 (pp : Int))) (exact ⟨d2, d4⟩) (first
            | (go_at_call 16; go_must (refine (HNA.out _).mono ?_); rintro e w2 ⟨rfl, hb2⟩; have A2 := Lib.hid (A1.out.below hb2).1; have R2 := Lib.hid (R1.out.below (fun _ h => h) hb2); obtain ⟨d2, d4⟩ := HC.out _ _ R2.out; clear hb2)
            | (go_at_call 17; go_must (refine (HNE.out _).mono ?_); rintro e w3 ⟨rfl, rfl⟩)
            | (go_at_call 15; go_must (refine (HWR.out _ (by simp only [hne2, hrem2, hrem3, hw3, hw4, hw5, hsum]) _ A2.out).mono ?_); rintro e w4 ⟨rfl, h4, k4⟩; have A4 := Lib.hid h4; have R4 := Lib.hid (R2.out.kept (fun _ h => h) (KeptO.of k4)); obtain ⟨d2, d4⟩ := HC.out _ _ R4.out; clear h4 k4)
            | (go_at_call 19; go_must (refine (g_scan A4.out HJG.out (by rw [show [pre].flatten = pre by simp]; exact HSQ.out) (by simp)).mono ?_); rintro e w5 ⟨A5, c5, ms5, rfl, hm5, hbm5, hb5⟩; have M5 : Hid (ms5.map (·.x) = (ms.take t).map (·.x)) := Lib.hid (by rw [hm5, ← HPRE.out]; simp); have Q5 := Lib.hid hbm5; have A6 := Lib.hid (A4.out.below hb5).1; have R5 := Lib.hid (R4.out.below (fun _ h => h) hb5); obtain ⟨d2, d4⟩ := HC.out _ _ R5.out; clear hm5 hbm5 hb5)
            | (go_at_call 18; go_must (refine (same_take Q5.out R5.out (by omega) M5.out (by omega)).mono ?_); rintro e w6 ⟨rfl, hb6⟩; have A7 := Lib.hid (A6.out.below hb6).1; have R6 := Lib.hid (R5.out.below (fun _ h => h) hb6); obtain ⟨d2, d4⟩ := HC.out _ _ R6.out; clear hb6))
          have hpl : pre.length = t := by rw [HPRE.out, List.length_map, List.length_take]; omega
          have HPL := Lib.hid hpl
          have hse : Seqs [pre].flatten := by rw [show [pre].flatten = pre by simp]; exact HSQ.out
          have HSE := Lib.hid hse
          clear hpl hse
          go_upto_region 23 with (first
            | (go_at_call 11; go_must (refine (g_open A7.out HJG.out HSE.out (by simp)).mono ?_); rintro e w8 ⟨jb2, A8, c8, ms8, X8, S8, rfl, hm8, hXX8, hnj8, hjb8, hat8, hX8, hj8, hd8, hu8, hk8, hbm8⟩; have M8 : Hid (ms8.map (·.x) = (ms.take t).map (·.x)) := Lib.hid (by rw [hm8, ← HPRE.out]; simp); have Q8 := Lib.hid hbm8; have A8' := Lib.hid hat8; have X8j := Lib.hid hX8; have J8 := Lib.hid hj8; have D8 := Lib.hid hd8; have U8 := Lib.hid hu8; have R8 := Lib.hid (R6.out.move hXX8 hk8 hjb8); clear hm8 hXX8 hnj8 hjb8 hat8 hX8 hj8 hd8 hu8 hk8 hbm8)
            | (go_at_call 18; go_must (refine (same_take Q8.out R8.out (by omega) M8.out (by omega)).mono ?_); rintro e w9 ⟨rfl, hb9⟩; have A9 := Lib.hid (A8'.out.below hb9).1; have R9 := Lib.hid (R8.out.below (fun _ h => h) hb9); have J9 : Hid (JAt w9 jb2 g ⟨[pre].flatten.length, 0, [pre].length + 1, false⟩) := Lib.hid ((hb9.block jb2 (Whole.lt J8.out)).trans J8.out); clear hb9))
          have cvt := Lib.run_convert_bytes_const (P := Tryz.prog) w9 30 5 #[.int .u8 109, .int .u8 111, .int .u8 114, .int .u8 101] 4 4 Tryz.underlying30 Tryz.underlying5
          obtain ⟨w10, hw10⟩ : ∃ w10, w10 = w9.alloc (.cells #[.int .u8 109, .int .u8 111, .int .u8 114, .int .u8 101] 5 ((#[Value.int .u8 109, .int .u8 111, .int .u8 114, .int .u8 101] : Array Value).size, (#[Value.int .u8 109, .int .u8 111, .int .u8 114, .int .u8 101] : Array Value).size + 1)) := ⟨_, rfl⟩
          have b10 : Below w9.heap.size w9 w10 := by rw [hw10]; exact (Below.refl _ _).alloc (Nat.le_refl _) _
          have l10 := A9.out.fence b10
          obtain ⟨X10, hX10⟩ : ∃ X10 : Nat → Prop, X10 = fun i => X8 i ∨ (w9.heap.size ≤ i ∧ i < w10.heap.size) := ⟨_, rfl⟩
          rw [← hX10] at l10
          have hXX10 : ∀ i, X8 i → X10 i := fun i hi => by rw [hX10]; exact .inl hi
          have hjlt := Whole.lt J9.out
          have j10 : JAt w10 jb2 g ⟨[pre].flatten.length, 0, [pre].length + 1, false⟩ := (b10.block jb2 hjlt).trans J9.out
          have hb10 : LiesP w10 (fun i => X10 i ∧ i ≠ jb2) (some ⟨w9.heap.size, 0, none⟩) (B8 [109, 111, 114, 101]) := by
            have hP : X10 w9.heap.size ∧ w9.heap.size ≠ jb2 := ⟨by rw [hX10]; exact .inr ⟨Nat.le_refl _, by rw [hw10]; simp⟩, by omega⟩
            rw [hw10]
            exact LiesP.litm w9 5 [.int .u8 109, .int .u8 111, .int .u8 114, .int .u8 101] _ _ hP
          have hap := g_append l10 (hXX10 _ X8j.out) j10 D8.out 1 (by omega) (some ⟨w9.heap.size, 0, none⟩) 4 [109, 111, 114, 101] hb10 (by simp) (by have := U8.out; have := HUS.out; show _ + 1 ≤ 3000; omega) (by simp) (by have := HPL.out; simp; omega)
          rw [gp_bt HPL.out] at hap
          have HAP := Lib.hid hap
          have R10 := Lib.hid (R9.out.below hXX10 b10)
          rw [← hw10] at cvt
          clear hap hb10 l10 b10 hX10 hw10 j10 hjlt
          go_upto_region 24 with (go_at_call 12; go_must (refine HAP.out.mono ?_); rintro e w11 ⟨A11, c11, X11, S11, rfl, hXX11, h11, d11, k11, m11⟩; have A11' := Lib.hid h11; have D11 := Lib.hid d11; have R11 := Lib.hid (R10.out.kept hXX11 k11); have M11 := Lib.hid m11; unfold btV; clear hXX11 h11 d11 k11 m11)
          -- REGION 24
          obtain ⟨w12, hw12⟩ : ∃ w12, w12 = w11.alloc (.cells #[.int .u64 ((t : Int) + 1), .int .i64 1, .slice A11 4 c11, .int .i64 2, .int .i64 0] 32) := ⟨_, rfl⟩
          obtain ⟨bx, hbx⟩ : ∃ bx, bx = w11.heap.size := ⟨_, rfl⟩
          have b12 : Below w11.heap.size w11 w12 := by rw [hw12]; exact (Below.refl _ _).alloc (Nat.le_refl _) _
          have A12 := Lib.hid (A11'.out.below b12).1
          have R12 := Lib.hid (R11.out.below (fun _ h => h) b12)
          have M12 := Lib.hid (M11.out.below b12)
          have X12 : Hid (Whole w12 bx 32 #[.int .u64 ((t : Int) + 1), .int .i64 1, .slice A11 4 c11, .int .i64 2, .int .i64 0]) := Lib.hid (by rw [hw12, hbx]; exact Whole.new _ _ _)
          have CELLS := Lib.hid (fun (w : World) (hb : Below w12.heap.size w12 w) => (X12.out.below hb X12.out.lt).five)
          have hsc := fun (w : World) (hb : Below w12.heap.size w12 w) => (g_scan (A12.out.below hb).1 D11.out (by
            rw [show ([pre] ++ [[(⟨t + 1, 1, [109, 111, 114, 101], 2, 0⟩ : Bt)]]).flatten = pre ++ [⟨t + 1, 1, [109, 111, 114, 101], 2, 0⟩] by simp]
            exact HSQ.out.snoc (by rw [HPL.out])) (by simp)).mono (R' := fun e w' => ∃ A c ms', e = .returned (.slice A ms'.length c) ∧ ms'.map (·.x) = pre ++ [⟨t + 1, 1, [109, 111, 114, 101], 2, 0⟩] ∧ BmsAt w' (fun i => w.heap.size ≤ i) ms' A c ∧ Below w.heap.size w w') fun e w' ⟨A, c, ms', h1, h2, h3, h4⟩ => ⟨A, c, ms', h1, by rw [h2]; simp, h3, h4⟩
          have SCN := Lib.hid hsc
          have HTK := Lib.hid (fun (w : World) (hb : Below w12.heap.size w12 w) => ((R12.out.below (fun _ h => h) hb).bms.2.take t).2.2.1.lies)
          have HTL : Hid ((cellsBs (ms.take t)).length = t * 5) := Lib.hid (by rw [cellsBs_length, List.length_take, Nat.min_eq_left (by omega)])
          have HT63 : Hid (0 + t ≤ maxLen) := Lib.hid (by unfold maxLen; omega)
          have HTB : Hid ((0 + t) * 56 ≤ 140737488355328) := Lib.hid (by omega)
          have HU63 : Hid (t + 1 ≤ maxLen) := Lib.hid (by unfold maxLen; omega)
          have HUB : Hid ((t + 1) * 56 ≤ 140737488355328) := Lib.hid (by omega)
          have HTLE : Hid (t ≤ ms.length) := Lib.hid (by omega)
          have HLE : Hid (ms.length ≤ 100) := Lib.hid (by omega)
          have HONE : Hid (∀ u ∈ ([.int .u64 ((t : Int) + 1), .int .i64 1, .slice A11 4 c11, .int .i64 2, .int .i64 0] : List Value), u.oneCell' = true) := Lib.hid (cellsBm_one ⟨⟨t + 1, 1, [109, 111, 114, 101], 2, 0⟩, A11, c11⟩)
          have hwt1 : IntKind.i64.wrap ((t : Int) + 1) = (t : Int) + 1 := IntWalk.i64_in _ ⟨by omega, by omega⟩
          have hwt2 : IntKind.u64.wrap ((t : Int) + 1) = (t : Int) + 1 := IntWalk.u64_in _ ⟨by omega, by omega⟩
          rw [← hw12, ← hbx]
          clear hw12 hbx b12 hsc
          refine wp_region_held_drew (S := fun w' => w'.cell? ⟨bx, 0, none⟩ = some (.int .u64 ((t : Int) + 1)) ∧ w'.cell? ⟨bx, 1, none⟩ = some (.int .i64 1) ∧ w'.cell? ⟨bx, 2, none⟩ = some (.slice A11 4 c11) ∧ w'.cell? ⟨bx, 3, none⟩ = some (.int .i64 2) ∧ w'.cell? ⟨bx, 4, none⟩ = some (.int .i64 0)) (by kernel_rfl) (CELLS.out _ (Below.refl _ _).drew) (fun hS0 => ?_)
          refine wpAnyH_take (i := 0) (oi := ⟨some 123, _, _, _, _, _⟩) (v := ?_) rfl (by kernel_rfl) (by kernel_rfl) (by kernel_rfl) (fun _ _ _ h => h) (Or.inl ⟨by rfl, ?_⟩) hS0 ?_
          rotate_left
          · (intro wS hSw; (try dsimp only at hSw); go_simp); all_goals (with_reducible rfl)
          try simp only [Act.put, List.setIfInBounds_toArray, List.set_cons_zero, List.set_cons_succ]
          refine wpAnyH_take (i := 1) (oi := ⟨some 124, _, _, _, _, _⟩) (v := ?_) rfl (by kernel_rfl) (by kernel_rfl) (by kernel_rfl) (fun _ _ _ h => h) (Or.inl ⟨by rfl, ?_⟩) hS0 ?_
          rotate_left
          · (intro wS hSw; (try dsimp only at hSw); go_simp); all_goals (with_reducible rfl)
          try simp only [Act.put, List.setIfInBounds_toArray, List.set_cons_zero, List.set_cons_succ]
          refine wpAnyH_take (i := 2) (oi := ⟨some 125, _, _, _, _, _⟩) (v := ?_) rfl (by kernel_rfl) (by kernel_rfl) (by kernel_rfl) (fun _ _ _ h => h) (Or.inl ⟨by rfl, ?_⟩) hS0 ?_
          rotate_left
          · (intro wS hSw; (try dsimp only at hSw); go_simp); all_goals (with_reducible rfl)
          try simp only [Act.put, List.setIfInBounds_toArray, List.set_cons_zero, List.set_cons_succ]
          refine wpAnyH_take (i := 3) (oi := ⟨some 126, _, _, _, _, _⟩) (v := ?_) rfl (by kernel_rfl) (by kernel_rfl) (by kernel_rfl) (fun _ _ _ h => h) (Or.inl ⟨by rfl, ?_⟩) hS0 ?_
          rotate_left
          · (intro wS hSw; (try dsimp only at hSw); go_simp); all_goals (with_reducible rfl)
          try simp only [Act.put, List.setIfInBounds_toArray, List.set_cons_zero, List.set_cons_succ]
          refine wpAnyH_take (i := 4) (oi := ⟨some 127, _, _, _, _, _⟩) (v := ?_) rfl (by kernel_rfl) (by kernel_rfl) (by kernel_rfl) (fun _ _ _ h => h) (Or.inl ⟨by rfl, ?_⟩) hS0 ?_
          rotate_left
          · (intro wS hSw; (try dsimp only at hSw); go_simp); all_goals (with_reducible rfl)
          try simp only [Act.put, List.setIfInBounds_toArray, List.set_cons_zero, List.set_cons_succ]
          refine wpAnyH_take (i := 5) (oi := ⟨some 128, _, _, _, _, _⟩) (v := ?_) rfl (by kernel_rfl) (by kernel_rfl) (by kernel_rfl) (fun _ _ _ h => h) (Or.inl ⟨by rfl, ?_⟩) hS0 ?_
          rotate_left
          · (intro wS hSw; (try dsimp only at hSw); go_simp); all_goals (with_reducible rfl)
          try simp only [Act.put, List.setIfInBounds_toArray, List.set_cons_zero, List.set_cons_succ]
          refine wpAnyH_take (i := 6) (oi := ⟨some 129, _, _, _, _, _⟩) (v := ?_) rfl (by kernel_rfl) (by kernel_rfl) (by kernel_rfl) (fun _ _ _ h => h) (Or.inl ⟨by rfl, ?_⟩) hS0 ?_
          rotate_left
          · (intro wS hSw; (try dsimp only at hSw); go_simp); all_goals (with_reducible rfl)
          try simp only [Act.put, List.setIfInBounds_toArray, List.set_cons_zero, List.set_cons_succ]
          refine wpAnyH_take (i := 7) (oi := ⟨some 130, _, _, _, _, _⟩) (v := ?_) rfl (by kernel_rfl) (by kernel_rfl) (by kernel_rfl) (fun _ _ _ h => h) (Or.inl ⟨by rfl, ?_⟩) hS0 ?_
          rotate_left
          · (intro wS hSw; (try dsimp only at hSw); go_simp); all_goals (with_reducible rfl)
          try simp only [Act.put, List.setIfInBounds_toArray, List.set_cons_zero, List.set_cons_succ]
          refine wpAnyH_take (i := 8) (oi := ⟨some 131, _, _, _, _, _⟩) (v := ?_) rfl (by kernel_rfl) (by kernel_rfl) (by kernel_rfl) (fun _ _ _ h => h) (Or.inl ⟨by rfl, ?_⟩) hS0 ?_
          rotate_left
          · (intro wS hSw; (try dsimp only at hSw); go_simp); all_goals (with_reducible rfl)
          try simp only [Act.put, List.setIfInBounds_toArray, List.set_cons_zero, List.set_cons_succ]
          refine wpAnyH_take (i := 9) (oi := ⟨some 132, _, _, _, _, _⟩) (v := ?_) rfl (by kernel_rfl) (by kernel_rfl) (by kernel_rfl) (fun _ _ _ h => h) (Or.inl ⟨by rfl, ?_⟩) hS0 ?_
          rotate_left
          · (intro wS hSw; (try dsimp only at hSw); go_simp); all_goals (with_reducible rfl)
          try simp only [Act.put, List.setIfInBounds_toArray, List.set_cons_zero, List.set_cons_succ]
          refine wpAnyH_take (i := 10) (oi := ⟨some 133, _, _, _, _, _⟩) (v := ?_) rfl (by kernel_rfl) (by kernel_rfl) (by kernel_rfl) (fun _ _ _ h => h) (Or.inl ⟨by rfl, ?_⟩) hS0 ?_
          rotate_left
          · (intro wS hSw; (try dsimp only at hSw); go_simp); all_goals (with_reducible rfl)
          try simp only [Act.put, List.setIfInBounds_toArray, List.set_cons_zero, List.set_cons_succ]
          refine wpAnyH_take (i := 11) (oi := ⟨some 134, _, _, _, _, _⟩) (v := ?_) rfl (by kernel_rfl) (by kernel_rfl) (by kernel_rfl) (fun _ _ _ h => h) (Or.inl ⟨by rfl, ?_⟩) hS0 ?_
          rotate_left
          · (intro wS hSw; (try dsimp only at hSw); go_simp); all_goals (with_reducible rfl)
          try simp only [Act.put, List.setIfInBounds_toArray, List.set_cons_zero, List.set_cons_succ]
          refine wpAnyH_take (i := 12) (oi := ⟨some 135, _, _, _, _, _⟩) (v := ?_) rfl (by kernel_rfl) (by kernel_rfl) (by kernel_rfl) (fun _ _ _ h => h) (Or.inl ⟨by rfl, ?_⟩) hS0 ?_
          rotate_left
          · (intro wS hSw; (try dsimp only at hSw); go_simp); all_goals (with_reducible rfl)
          try simp only [Act.put, List.setIfInBounds_toArray, List.set_cons_zero, List.set_cons_succ]
          refine wpAnyH_take (i := 13) (oi := ⟨some 136, _, _, _, _, _⟩) (v := ?_) rfl (by kernel_rfl) (by kernel_rfl) (by kernel_rfl) (fun _ _ _ h => h) (Or.inl ⟨by rfl, ?_⟩) hS0 ?_
          rotate_left
          · (intro wS hSw; (try dsimp only at hSw); go_simp); all_goals (with_reducible rfl)
          try simp only [Act.put, List.setIfInBounds_toArray, List.set_cons_zero, List.set_cons_succ]
          refine wpAnyH_take (i := 14) (oi := ⟨some 137, _, _, _, _, _⟩) (v := ?_) rfl (by kernel_rfl) (by kernel_rfl) (by kernel_rfl) (fun _ _ _ h => h) (Or.inl ⟨by rfl, ?_⟩) hS0 ?_
          rotate_left
          · (intro wS hSw; (try dsimp only at hSw); go_simp); all_goals (with_reducible rfl)
          try simp only [Act.put, List.setIfInBounds_toArray, List.set_cons_zero, List.set_cons_succ]
          refine wpAnyH_take (i := 15) (oi := ⟨some 138, _, _, _, _, _⟩) (v := ?_) rfl (by kernel_rfl) (by kernel_rfl) (by kernel_rfl) (fun _ _ _ h => h) (Or.inl ⟨by rfl, ?_⟩) hS0 ?_
          rotate_left
          · (intro wS hSw; (try dsimp only at hSw); go_simp); all_goals (with_reducible rfl)
          try simp only [Act.put, List.setIfInBounds_toArray, List.set_cons_zero, List.set_cons_succ]
          refine wpAnyH_take (i := 16) (oi := ⟨some 139, _, _, _, _, _⟩) (v := ?_) rfl (by kernel_rfl) (by kernel_rfl) (by kernel_rfl) (fun _ _ _ h => h) (Or.inl ⟨by rfl, ?_⟩) hS0 ?_
          rotate_left
          · (intro wS hSw; (try dsimp only at hSw); go_simp); all_goals (with_reducible rfl)
          try simp only [Act.put, List.setIfInBounds_toArray, List.set_cons_zero, List.set_cons_succ]
          refine wpAnyH_take (i := 19) (oi := ⟨some 142, _, _, _, _, _⟩) (v := ?_) rfl (by kernel_rfl) (by kernel_rfl) (by kernel_rfl) (fun _ _ _ h => h) (Or.inl ⟨by rfl, ?_⟩) hS0 ?_
          rotate_left
          · (intro wS hSw; (try dsimp only at hSw); go_simp); all_goals (with_reducible rfl)
          try simp only [Act.put, List.setIfInBounds_toArray, List.set_cons_zero, List.set_cons_succ]
          refine wpAnyH_take (i := 20) (oi := ⟨some 143, _, _, _, _, _⟩) (v := ?_) rfl (by kernel_rfl) (by kernel_rfl) (by kernel_rfl) (fun _ _ _ h => h) (Or.inl ⟨by rfl, ?_⟩) hS0 ?_
          rotate_left
          · (intro wS hSw; (try dsimp only at hSw); go_simp); all_goals (with_reducible rfl)
          try simp only [Act.put, List.setIfInBounds_toArray, List.set_cons_zero, List.set_cons_succ]
          refine wpAnyH_take (i := 21) (oi := ⟨some 144, _, _, _, _, _⟩) (v := ?_) rfl (by kernel_rfl) (by kernel_rfl) (by kernel_rfl) (fun _ _ _ h => h) (Or.inl ⟨by rfl, ?_⟩) hS0 ?_
          rotate_left
          · (intro wS hSw; (try dsimp only at hSw); go_simp); all_goals (with_reducible rfl)
          try simp only [Act.put, List.setIfInBounds_toArray, List.set_cons_zero, List.set_cons_succ]
          refine wpAnyH_take (i := 23) (oi := ⟨some 146, _, _, _, _, _⟩) (v := ?_) rfl (by kernel_rfl) (by kernel_rfl) (by kernel_rfl) (fun _ _ _ h => h) (Or.inl ⟨by rfl, ?_⟩) hS0 ?_
          rotate_left
          · (intro wS hSw; (try dsimp only at hSw); go_simp); all_goals (with_reducible rfl)
          try simp only [Act.put, List.setIfInBounds_toArray, List.set_cons_zero, List.set_cons_succ]
          obtain ⟨wd, hwd⟩ : ∃ wd, wd = w12.drew := ⟨_, rfl⟩
          have BD : Hid (Below w12.heap.size w12 wd) := Lib.hid (by rw [hwd]; exact (Below.refl _ _).drew)
          rw [← hwd] at hS0 ⊢
          clear hwd
          refine wpAnyH_ready (rs := [17, 18, 24]) (by kernel_rfl) (by simp) ?_
          refine (AllReadyH.cons (o := ⟨some 140, _, _, _, _, _⟩) rfl (fun K hK => ?_) (AllReadyH.cons (o := ⟨some 141, _, _, _, _, _⟩) rfl (fun K hK => ?_) (AllReadyH.cons (o := ⟨some 147, _, _, _, _, _⟩) rfl (fun K hK => ?_) AllReadyH.nil)))
          · go_simp
            refine (SCN.out wd BD.out).mono ?_
            rintro e wS1 ⟨AS, cS, msS, rfl, hmS, hbS, hbel⟩
            have B1 := Lib.hid (BD.out.trans (hbel.mono BD.out.size))
            have S1 := Lib.hid (bms_new0 hbS)
            have HMS := Lib.hid hmS
            clear hmS hbS hbel
            go_wp2_with fail
            refine hK.out _ _ (CELLS.out _ B1.out) (fun hS1 => ?_)
            clear hK K
            try simp only [Act.put, List.setIfInBounds_toArray, List.set_cons_zero, List.set_cons_succ]
            refine wpAnyH_ready (rs := [18, 24]) (by kernel_rfl) (by simp) ?_
            refine (AllReadyH.cons (o := ⟨some 141, _, _, _, _, _⟩) rfl (fun K hK => ?_) (AllReadyH.cons (o := ⟨some 147, _, _, _, _, _⟩) rfl (fun K hK => ?_) AllReadyH.nil))
            · go_simp
              go_wp2_with fail
              refine hK.out _ _ (CELLS.out _ (B1.out.alloc B1.out.size _)) (fun hS2 => ?_)
              clear hK K
              try simp only [Act.put, List.setIfInBounds_toArray, List.set_cons_zero, List.set_cons_succ]
              have B2 : Hid (Below w12.heap.size w12 (wS1.alloc (.cells #[] 32))) := Lib.hid (B1.out.alloc B1.out.size _)
              have V2 : Hid ((wS1.alloc (.cells #[] 32)).ownsRow w12.heap.size 32 5 (.slice (some ⟨wS1.heap.size, 0, none⟩) 0 0) 0 []) := Lib.hid (World.ownsRow_made wS1 #[] 0 B1.out.size (Nat.zero_le _) rfl)
              have S2 := Lib.hid (bms_alloc S1.out (.cells #[] 32) (c0 := 0))
              obtain ⟨wn2, hwn⟩ : ∃ wn, wn = wS1.alloc (.cells #[] 32) := ⟨_, rfl⟩
              obtain ⟨nv, hlt⟩ : ∃ x, x = wS1.heap.size := ⟨_, rfl⟩
              rw [← hwn] at hS2 B2 V2 S2 ⊢
              rw [← hlt] at V2 S2 ⊢
              clear hwn hlt
              refine wpAnyH_ready (rs := [22, 24]) (by kernel_rfl) (by simp) ?_
              refine (AllReadyH.cons (o := ⟨some 145, _, _, _, _, _⟩) rfl (fun K hK => ?_) (AllReadyH.cons (o := ⟨some 147, _, _, _, _, _⟩) rfl (fun K hK => ?_) AllReadyH.nil))
              · refine step_append_g (by rfl) _ _ 26 rfl w12.heap.size 32 i0 _ 5 56 Tryz.underlying26 KI.out G0.out G1.out G2.out batch_zero (by omega) (.slice (some ⟨nv, 0, none⟩) 0 0) 0 [] (by rfl) V2.out wn2.heap.size (some ⟨b, o, none⟩) t cl (cellsBs (ms.take t)) (by rfl) (HTK.out wn2 B2.out) HTL.out (cellsBs_one _) HT63.out HTB.out B2.out.size ?_
                intro v7 w7 hown hg hv
                rw [Nat.zero_add, List.nil_append] at hown
                obtain ⟨A7, c7, rfl, _, _⟩ := own_form hown
                have B3 := Lib.hid (B2.out.grown hg B2.out.size (fun k hk => (V2.out.lt k hk).1))
                have V3 := Lib.hid hown
                have S3 := Lib.hid (bms_grown S2.out hg hv)
                clear hown hg hv
                refine hK.out _ _ (CELLS.out _ B3.out) (fun hS3 => ?_)
                clear hK K
                try simp only [Act.put, List.setIfInBounds_toArray, List.set_cons_zero, List.set_cons_succ]
                refine wpAnyH_ready (rs := [24]) (by kernel_rfl) (by simp) ?_
                refine (AllReadyH.cons (o := ⟨some 147, _, _, _, _, _⟩) rfl (fun K hK => ?_) AllReadyH.nil)
                · go_simp
                  go_wp2_with fail
                  refine hK.out _ _ (CELLS.out _ (B3.out.alloc B3.out.size _)) (fun hS4 => ?_)
                  clear hK K
                  try simp only [Act.put, List.setIfInBounds_toArray, List.set_cons_zero, List.set_cons_succ]
                  have B4 : Hid (Below w12.heap.size w12 (w7.alloc (.cells #[.int .u64 ((t : Int) + 1), .int .i64 1, .slice A11 4 c11, .int .i64 2, .int .i64 0] 32))) := Lib.hid (B3.out.alloc B3.out.size _)
                  have V4 := Lib.hid (V3.out.alloc (.cells #[.int .u64 ((t : Int) + 1), .int .i64 1, .slice A11 4 c11, .int .i64 2, .int .i64 0] 32))
                  have L4 := Lib.hid (lies_new V3.out 32 [.int .u64 ((t : Int) + 1), .int .i64 1, .slice A11 4 c11, .int .i64 2, .int .i64 0])
                  have S4 := Lib.hid (S3.out.below ((Below.refl _ _).alloc (Nat.le_refl _) (.cells #[.int .u64 ((t : Int) + 1), .int .i64 1, .slice A11 4 c11, .int .i64 2, .int .i64 0] 32)))
                  obtain ⟨wn4, hwn⟩ : ∃ wn, wn = w7.alloc (.cells #[.int .u64 ((t : Int) + 1), .int .i64 1, .slice A11 4 c11, .int .i64 2, .int .i64 0] 32) := ⟨_, rfl⟩
                  obtain ⟨nl, hlt⟩ : ∃ x, x = w7.heap.size := ⟨_, rfl⟩
                  rw [← hwn] at hS4 B4 V4 L4 S4 ⊢
                  rw [← hlt] at L4 ⊢
                  clear hwn hlt
                  refine wpAnyH_ready (rs := [25]) (by kernel_rfl) (by simp) ?_
                  refine (AllReadyH.cons (o := ⟨some 148, _, _, _, _, _⟩) rfl (fun K hK => ?_) AllReadyH.nil)
                  · refine step_append_g (by rfl) _ _ 26 rfl w12.heap.size 32 i0 _ 5 56 Tryz.underlying26 KI.out G0.out G1.out G2.out batch_zero (by omega) (.slice A7 t c7) t (cellsBs (ms.take t)) (by rfl) V4.out wn4.heap.size (some ⟨nl, 0, none⟩) 1 1 [.int .u64 ((t : Int) + 1), .int .i64 1, .slice A11 4 c11, .int .i64 2, .int .i64 0] (by rfl) L4.out.lies rfl HONE.out HU63.out HUB.out B4.out.size ?_
                    intro v8 w18 hown hg hv
                    obtain ⟨A18, c18, rfl, _, _⟩ := own_form hown
                    have B5 := Lib.hid (B4.out.grown hg B4.out.size (fun k hk => (V4.out.lt k hk).1))
                    have V5 := Lib.hid hown
                    have S5 := Lib.hid (bms_grown S4.out hg hv)
                    clear hown hg hv
                    refine hK.out _ _ (CELLS.out _ B5.out) (fun hS5 => ?_)
                    clear hK K
                    try simp only [Act.put, List.setIfInBounds_toArray, List.set_cons_zero, List.set_cons_succ]
                    refine wpAnyH_ready (rs := [26]) (by kernel_rfl) (by simp) ?_
                    refine (AllReadyH.cons (o := ⟨some 149, _, _, _, _, _⟩) rfl (fun K hK => ?_) AllReadyH.nil)
                    · go_simp
                      refine (same_last (x := ⟨⟨t + 1, 1, [109, 111, 114, 101], 2, 0⟩, A11, c11⟩) S5.out (R12.out.below (fun _ h => h) B5.out) (M12.out.below B5.out) V5.out HTLE.out rfl (by rw [HMS.out, HPRE.out]) HLE.out).mono ?_
                      rintro e w19 ⟨rfl, hbel⟩
                      have B6 := Lib.hid (B5.out.trans (hbel.mono B5.out.size))
                      clear hbel
                      go_wp2_with fail
                      refine hK.out _ _ (CELLS.out _ B6.out) (fun hS6 => ?_)
                      clear hK K
                      try simp only [Act.put, List.setIfInBounds_toArray, List.set_cons_zero, List.set_cons_succ]
                      refine wpAnyH_take (i := 27) (oi := ⟨some 150, _, _, _, _, _⟩) (v := ?_) rfl (by kernel_rfl) (by kernel_rfl) (by kernel_rfl) (fun _ _ _ h => h) (Or.inl ⟨by rfl, ?_⟩) hS6 ?_
                      rotate_left
                      · (intro wS hSw; (try dsimp only at hSw); go_simp); all_goals (with_reducible rfl)
                      try simp only [Act.put, List.setIfInBounds_toArray, List.set_cons_zero, List.set_cons_succ]
                      refine wpAnyH_take (i := 28) (oi := ⟨some 151, _, _, _, _, _⟩) (v := ?_) rfl (by kernel_rfl) (by kernel_rfl) (by kernel_rfl) (fun _ _ _ h => h) (Or.inl ⟨by rfl, ?_⟩) hS6 ?_
                      rotate_left
                      · (intro wS hSw; (try dsimp only at hSw); go_simp); all_goals (with_reducible rfl)
                      try simp only [Act.put, List.setIfInBounds_toArray, List.set_cons_zero, List.set_cons_succ]
                      refine wpAnyH_ready (rs := [29]) (by kernel_rfl) (by simp) ?_
                      refine (AllReadyH.cons (o := ⟨some 152, _, _, _, _, _⟩) rfl (fun K hK => ?_) AllReadyH.nil)
                      · go_simp
                        refine (awake8 w19).mono ?_
                        rintro e w20 ⟨rfl, hbel⟩
                        have B7 := Lib.hid (B6.out.trans (hbel.mono B6.out.size))
                        clear hbel
                        go_wp2_with fail
                        refine hK.out _ _ (CELLS.out _ B7.out) (fun hS7 => ?_)
                        clear hK K
                        try simp only [Act.put, List.setIfInBounds_toArray, List.set_cons_zero, List.set_cons_succ]
                        refine wpAnyH_take (i := 30) (oi := ⟨some 153, _, _, _, _, _⟩) (v := ?_) rfl (by kernel_rfl) (by kernel_rfl) (by kernel_rfl) (fun _ _ _ h => h) (Or.inl ⟨by rfl, ?_⟩) hS7 ?_
                        rotate_left
                        · (intro wS hSw; (try dsimp only at hSw); go_simp); all_goals (with_reducible rfl)
                        try simp only [Act.put, List.setIfInBounds_toArray, List.set_cons_zero, List.set_cons_succ]
                        refine wpAnyH_take (i := 31) (oi := ⟨some 6, _, _, _, _, _⟩) (v := ?_) rfl (by kernel_rfl) (by kernel_rfl) (by kernel_rfl) (fun _ _ _ h => h) (Or.inl ⟨by rfl, ?_⟩) hS7 ?_
                        rotate_left
                        · (intro wS hSw; (try dsimp only at hSw); go_simp); all_goals (with_reducible rfl)
                        try simp only [Act.put, List.setIfInBounds_toArray, List.set_cons_zero, List.set_cons_succ]
                        refine wpAnyH_done (by kernel_rfl) ?_ _
                        go_wp2_with fail
                        go_ret
                        exact ⟨by first | rfl | (simp; done), A12.out.bel.trans (B7.out.mono A12.out.le)⟩
              · go_simp
                go_wp2_with fail
                refine hK.out _ _ (CELLS.out _ (B2.out.alloc B2.out.size _)) (fun hS8 => ?_)
                clear hK K
                try simp only [Act.put, List.setIfInBounds_toArray, List.set_cons_zero, List.set_cons_succ]
                have B8 : Hid (Below w12.heap.size w12 (wn2.alloc (.cells #[.int .u64 ((t : Int) + 1), .int .i64 1, .slice A11 4 c11, .int .i64 2, .int .i64 0] 32))) := Lib.hid (B2.out.alloc B2.out.size _)
                have V8 := Lib.hid (V2.out.alloc (.cells #[.int .u64 ((t : Int) + 1), .int .i64 1, .slice A11 4 c11, .int .i64 2, .int .i64 0] 32))
                have L8 := Lib.hid (lies_new V2.out 32 [.int .u64 ((t : Int) + 1), .int .i64 1, .slice A11 4 c11, .int .i64 2, .int .i64 0])
                have S8 := Lib.hid (S2.out.below ((Below.refl _ _).alloc (Nat.le_refl _) (.cells #[.int .u64 ((t : Int) + 1), .int .i64 1, .slice A11 4 c11, .int .i64 2, .int .i64 0] 32)))
                obtain ⟨wn8, hwn⟩ : ∃ wn, wn = wn2.alloc (.cells #[.int .u64 ((t : Int) + 1), .int .i64 1, .slice A11 4 c11, .int .i64 2, .int .i64 0] 32) := ⟨_, rfl⟩
                obtain ⟨nl, hlt⟩ : ∃ x, x = wn2.heap.size := ⟨_, rfl⟩
                rw [← hwn] at hS8 B8 V8 L8 S8 ⊢
                rw [← hlt] at L8 ⊢
                clear hwn hlt
                refine wpAnyH_ready (rs := [22]) (by kernel_rfl) (by simp) ?_
                refine (AllReadyH.cons (o := ⟨some 145, _, _, _, _, _⟩) rfl (fun K hK => ?_) AllReadyH.nil)
                · refine step_append_g (by rfl) _ _ 26 rfl w12.heap.size 32 i0 _ 5 56 Tryz.underlying26 KI.out G0.out G1.out G2.out batch_zero (by omega) (.slice (some ⟨nv, 0, none⟩) 0 0) 0 [] (by rfl) V8.out wn8.heap.size (some ⟨b, o, none⟩) t cl (cellsBs (ms.take t)) (by rfl) (HTK.out wn8 B8.out) HTL.out (cellsBs_one _) HT63.out HTB.out B8.out.size ?_
                  intro v7 w7 hown hg hv
                  rw [Nat.zero_add, List.nil_append] at hown
                  obtain ⟨A7, c7, rfl, _, _⟩ := own_form hown
                  have B9 := Lib.hid (B8.out.grown hg B8.out.size (fun k hk => (V8.out.lt k hk).1))
                  have V9 := Lib.hid hown
                  have S9 := Lib.hid (bms_grown S8.out hg hv)
                  have L9 := Lib.hid (lies_grown L8.out hg hv)
                  clear hown hg hv
                  refine hK.out _ _ (CELLS.out _ B9.out) (fun hS9 => ?_)
                  clear hK K
                  try simp only [Act.put, List.setIfInBounds_toArray, List.set_cons_zero, List.set_cons_succ]
                  refine wpAnyH_ready (rs := [25]) (by kernel_rfl) (by simp) ?_
                  refine (AllReadyH.cons (o := ⟨some 148, _, _, _, _, _⟩) rfl (fun K hK => ?_) AllReadyH.nil)
                  · refine step_append_g (by rfl) _ _ 26 rfl w12.heap.size 32 i0 _ 5 56 Tryz.underlying26 KI.out G0.out G1.out G2.out batch_zero (by omega) (.slice A7 t c7) t (cellsBs (ms.take t)) (by rfl) V9.out w7.heap.size (some ⟨nl, 0, none⟩) 1 1 [.int .u64 ((t : Int) + 1), .int .i64 1, .slice A11 4 c11, .int .i64 2, .int .i64 0] (by rfl) L9.out.lies rfl HONE.out HU63.out HUB.out B9.out.size ?_
                    intro v8 w18 hown hg hv
                    obtain ⟨A18, c18, rfl, _, _⟩ := own_form hown
                    have B10 := Lib.hid (B9.out.grown hg B9.out.size (fun k hk => (V9.out.lt k hk).1))
                    have V10 := Lib.hid hown
                    have S10 := Lib.hid (bms_grown S9.out hg hv)
                    clear hown hg hv
                    refine hK.out _ _ (CELLS.out _ B10.out) (fun hS10 => ?_)
                    clear hK K
                    try simp only [Act.put, List.setIfInBounds_toArray, List.set_cons_zero, List.set_cons_succ]
                    refine wpAnyH_ready (rs := [26]) (by kernel_rfl) (by simp) ?_
                    refine (AllReadyH.cons (o := ⟨some 149, _, _, _, _, _⟩) rfl (fun K hK => ?_) AllReadyH.nil)
                    · go_simp
                      refine (same_last (x := ⟨⟨t + 1, 1, [109, 111, 114, 101], 2, 0⟩, A11, c11⟩) S10.out (R12.out.below (fun _ h => h) B10.out) (M12.out.below B10.out) V10.out HTLE.out rfl (by rw [HMS.out, HPRE.out]) HLE.out).mono ?_
                      rintro e w19 ⟨rfl, hbel⟩
                      have B11 := Lib.hid (B10.out.trans (hbel.mono B10.out.size))
                      clear hbel
                      go_wp2_with fail
                      refine hK.out _ _ (CELLS.out _ B11.out) (fun hS11 => ?_)
                      clear hK K
                      try simp only [Act.put, List.setIfInBounds_toArray, List.set_cons_zero, List.set_cons_succ]
                      refine wpAnyH_take (i := 27) (oi := ⟨some 150, _, _, _, _, _⟩) (v := ?_) rfl (by kernel_rfl) (by kernel_rfl) (by kernel_rfl) (fun _ _ _ h => h) (Or.inl ⟨by rfl, ?_⟩) hS11 ?_
                      rotate_left
                      · (intro wS hSw; (try dsimp only at hSw); go_simp); all_goals (with_reducible rfl)
                      try simp only [Act.put, List.setIfInBounds_toArray, List.set_cons_zero, List.set_cons_succ]
                      refine wpAnyH_take (i := 28) (oi := ⟨some 151, _, _, _, _, _⟩) (v := ?_) rfl (by kernel_rfl) (by kernel_rfl) (by kernel_rfl) (fun _ _ _ h => h) (Or.inl ⟨by rfl, ?_⟩) hS11 ?_
                      rotate_left
                      · (intro wS hSw; (try dsimp only at hSw); go_simp); all_goals (with_reducible rfl)
                      try simp only [Act.put, List.setIfInBounds_toArray, List.set_cons_zero, List.set_cons_succ]
                      refine wpAnyH_ready (rs := [29]) (by kernel_rfl) (by simp) ?_
                      refine (AllReadyH.cons (o := ⟨some 152, _, _, _, _, _⟩) rfl (fun K hK => ?_) AllReadyH.nil)
                      · go_simp
                        refine (awake8 w19).mono ?_
                        rintro e w20 ⟨rfl, hbel⟩
                        have B12 := Lib.hid (B11.out.trans (hbel.mono B11.out.size))
                        clear hbel
                        go_wp2_with fail
                        refine hK.out _ _ (CELLS.out _ B12.out) (fun hS12 => ?_)
                        clear hK K
                        try simp only [Act.put, List.setIfInBounds_toArray, List.set_cons_zero, List.set_cons_succ]
                        refine wpAnyH_take (i := 30) (oi := ⟨some 153, _, _, _, _, _⟩) (v := ?_) rfl (by kernel_rfl) (by kernel_rfl) (by kernel_rfl) (fun _ _ _ h => h) (Or.inl ⟨by rfl, ?_⟩) hS12 ?_
                        rotate_left
                        · (intro wS hSw; (try dsimp only at hSw); go_simp); all_goals (with_reducible rfl)
                        try simp only [Act.put, List.setIfInBounds_toArray, List.set_cons_zero, List.set_cons_succ]
                        refine wpAnyH_take (i := 31) (oi := ⟨some 6, _, _, _, _, _⟩) (v := ?_) rfl (by kernel_rfl) (by kernel_rfl) (by kernel_rfl) (fun _ _ _ h => h) (Or.inl ⟨by rfl, ?_⟩) hS12 ?_
                        rotate_left
                        · (intro wS hSw; (try dsimp only at hSw); go_simp); all_goals (with_reducible rfl)
                        try simp only [Act.put, List.setIfInBounds_toArray, List.set_cons_zero, List.set_cons_succ]
                        refine wpAnyH_done (by kernel_rfl) ?_ _
                        go_wp2_with fail
                        go_ret
                        exact ⟨by first | rfl | (simp; done), A12.out.bel.trans (B12.out.mono A12.out.le)⟩
            · go_simp
              go_wp2_with fail
              refine hK.out _ _ (CELLS.out _ (B1.out.alloc B1.out.size _)) (fun hS13 => ?_)
              clear hK K
              try simp only [Act.put, List.setIfInBounds_toArray, List.set_cons_zero, List.set_cons_succ]
              have B13 : Hid (Below w12.heap.size w12 (wS1.alloc (.cells #[.int .u64 ((t : Int) + 1), .int .i64 1, .slice A11 4 c11, .int .i64 2, .int .i64 0] 32))) := Lib.hid (B1.out.alloc B1.out.size _)
              have L13 := Lib.hid (lies_new0 wS1 32 [.int .u64 ((t : Int) + 1), .int .i64 1, .slice A11 4 c11, .int .i64 2, .int .i64 0])
              have S13 := Lib.hid (S1.out.below ((Below.refl _ _).alloc (Nat.le_refl _) (.cells #[.int .u64 ((t : Int) + 1), .int .i64 1, .slice A11 4 c11, .int .i64 2, .int .i64 0] 32)))
              obtain ⟨wn13, hwn⟩ : ∃ wn, wn = wS1.alloc (.cells #[.int .u64 ((t : Int) + 1), .int .i64 1, .slice A11 4 c11, .int .i64 2, .int .i64 0] 32) := ⟨_, rfl⟩
              obtain ⟨nl, hlt⟩ : ∃ x, x = wS1.heap.size := ⟨_, rfl⟩
              rw [← hwn] at hS13 B13 L13 S13 ⊢
              rw [← hlt] at L13 ⊢
              clear hwn hlt
              refine wpAnyH_ready (rs := [18]) (by kernel_rfl) (by simp) ?_
              refine (AllReadyH.cons (o := ⟨some 141, _, _, _, _, _⟩) rfl (fun K hK => ?_) AllReadyH.nil)
              · go_simp
                go_wp2_with fail
                refine hK.out _ _ (CELLS.out _ (B13.out.alloc B13.out.size _)) (fun hS14 => ?_)
                clear hK K
                try simp only [Act.put, List.setIfInBounds_toArray, List.set_cons_zero, List.set_cons_succ]
                have B14 : Hid (Below w12.heap.size w12 (wn13.alloc (.cells #[] 32))) := Lib.hid (B13.out.alloc B13.out.size _)
                have V14 : Hid ((wn13.alloc (.cells #[] 32)).ownsRow w12.heap.size 32 5 (.slice (some ⟨wn13.heap.size, 0, none⟩) 0 0) 0 []) := Lib.hid (World.ownsRow_made wn13 #[] 0 B13.out.size (Nat.zero_le _) rfl)
                have S14 := Lib.hid (bms_alloc S13.out (.cells #[] 32) (c0 := 0))
                have L14 := Lib.hid (lies_alloc L13.out (.cells #[] 32) (c0 := 0))
                obtain ⟨wn14, hwn⟩ : ∃ wn, wn = wn13.alloc (.cells #[] 32) := ⟨_, rfl⟩
                obtain ⟨nv, hlt⟩ : ∃ x, x = wn13.heap.size := ⟨_, rfl⟩
                rw [← hwn] at hS14 B14 V14 S14 L14 ⊢
                rw [← hlt] at V14 S14 L14 ⊢
                clear hwn hlt
                refine wpAnyH_ready (rs := [22]) (by kernel_rfl) (by simp) ?_
                refine (AllReadyH.cons (o := ⟨some 145, _, _, _, _, _⟩) rfl (fun K hK => ?_) AllReadyH.nil)
                · refine step_append_g (by rfl) _ _ 26 rfl w12.heap.size 32 i0 _ 5 56 Tryz.underlying26 KI.out G0.out G1.out G2.out batch_zero (by omega) (.slice (some ⟨nv, 0, none⟩) 0 0) 0 [] (by rfl) V14.out wn14.heap.size (some ⟨b, o, none⟩) t cl (cellsBs (ms.take t)) (by rfl) (HTK.out wn14 B14.out) HTL.out (cellsBs_one _) HT63.out HTB.out B14.out.size ?_
                  intro v7 w7 hown hg hv
                  rw [Nat.zero_add, List.nil_append] at hown
                  obtain ⟨A7, c7, rfl, _, _⟩ := own_form hown
                  have B15 := Lib.hid (B14.out.grown hg B14.out.size (fun k hk => (V14.out.lt k hk).1))
                  have V15 := Lib.hid hown
                  have S15 := Lib.hid (bms_grown S14.out hg hv)
                  have L15 := Lib.hid (lies_grown L14.out hg hv)
                  clear hown hg hv
                  refine hK.out _ _ (CELLS.out _ B15.out) (fun hS15 => ?_)
                  clear hK K
                  try simp only [Act.put, List.setIfInBounds_toArray, List.set_cons_zero, List.set_cons_succ]
                  refine wpAnyH_ready (rs := [25]) (by kernel_rfl) (by simp) ?_
                  refine (AllReadyH.cons (o := ⟨some 148, _, _, _, _, _⟩) rfl (fun K hK => ?_) AllReadyH.nil)
                  · refine step_append_g (by rfl) _ _ 26 rfl w12.heap.size 32 i0 _ 5 56 Tryz.underlying26 KI.out G0.out G1.out G2.out batch_zero (by omega) (.slice A7 t c7) t (cellsBs (ms.take t)) (by rfl) V15.out w7.heap.size (some ⟨nl, 0, none⟩) 1 1 [.int .u64 ((t : Int) + 1), .int .i64 1, .slice A11 4 c11, .int .i64 2, .int .i64 0] (by rfl) L15.out.lies rfl HONE.out HU63.out HUB.out B15.out.size ?_
                    intro v8 w18 hown hg hv
                    obtain ⟨A18, c18, rfl, _, _⟩ := own_form hown
                    have B16 := Lib.hid (B15.out.grown hg B15.out.size (fun k hk => (V15.out.lt k hk).1))
                    have V16 := Lib.hid hown
                    have S16 := Lib.hid (bms_grown S15.out hg hv)
                    clear hown hg hv
                    refine hK.out _ _ (CELLS.out _ B16.out) (fun hS16 => ?_)
                    clear hK K
                    try simp only [Act.put, List.setIfInBounds_toArray, List.set_cons_zero, List.set_cons_succ]
                    refine wpAnyH_ready (rs := [26]) (by kernel_rfl) (by simp) ?_
                    refine (AllReadyH.cons (o := ⟨some 149, _, _, _, _, _⟩) rfl (fun K hK => ?_) AllReadyH.nil)
                    · go_simp
                      refine (same_last (x := ⟨⟨t + 1, 1, [109, 111, 114, 101], 2, 0⟩, A11, c11⟩) S16.out (R12.out.below (fun _ h => h) B16.out) (M12.out.below B16.out) V16.out HTLE.out rfl (by rw [HMS.out, HPRE.out]) HLE.out).mono ?_
                      rintro e w19 ⟨rfl, hbel⟩
                      have B17 := Lib.hid (B16.out.trans (hbel.mono B16.out.size))
                      clear hbel
                      go_wp2_with fail
                      refine hK.out _ _ (CELLS.out _ B17.out) (fun hS17 => ?_)
                      clear hK K
                      try simp only [Act.put, List.setIfInBounds_toArray, List.set_cons_zero, List.set_cons_succ]
                      refine wpAnyH_take (i := 27) (oi := ⟨some 150, _, _, _, _, _⟩) (v := ?_) rfl (by kernel_rfl) (by kernel_rfl) (by kernel_rfl) (fun _ _ _ h => h) (Or.inl ⟨by rfl, ?_⟩) hS17 ?_
                      rotate_left
                      · (intro wS hSw; (try dsimp only at hSw); go_simp); all_goals (with_reducible rfl)
                      try simp only [Act.put, List.setIfInBounds_toArray, List.set_cons_zero, List.set_cons_succ]
                      refine wpAnyH_take (i := 28) (oi := ⟨some 151, _, _, _, _, _⟩) (v := ?_) rfl (by kernel_rfl) (by kernel_rfl) (by kernel_rfl) (fun _ _ _ h => h) (Or.inl ⟨by rfl, ?_⟩) hS17 ?_
                      rotate_left
                      · (intro wS hSw; (try dsimp only at hSw); go_simp); all_goals (with_reducible rfl)
                      try simp only [Act.put, List.setIfInBounds_toArray, List.set_cons_zero, List.set_cons_succ]
                      refine wpAnyH_ready (rs := [29]) (by kernel_rfl) (by simp) ?_
                      refine (AllReadyH.cons (o := ⟨some 152, _, _, _, _, _⟩) rfl (fun K hK => ?_) AllReadyH.nil)
                      · go_simp
                        refine (awake8 w19).mono ?_
                        rintro e w20 ⟨rfl, hbel⟩
                        have B18 := Lib.hid (B17.out.trans (hbel.mono B17.out.size))
                        clear hbel
                        go_wp2_with fail
                        refine hK.out _ _ (CELLS.out _ B18.out) (fun hS18 => ?_)
                        clear hK K
                        try simp only [Act.put, List.setIfInBounds_toArray, List.set_cons_zero, List.set_cons_succ]
                        refine wpAnyH_take (i := 30) (oi := ⟨some 153, _, _, _, _, _⟩) (v := ?_) rfl (by kernel_rfl) (by kernel_rfl) (by kernel_rfl) (fun _ _ _ h => h) (Or.inl ⟨by rfl, ?_⟩) hS18 ?_
                        rotate_left
                        · (intro wS hSw; (try dsimp only at hSw); go_simp); all_goals (with_reducible rfl)
                        try simp only [Act.put, List.setIfInBounds_toArray, List.set_cons_zero, List.set_cons_succ]
                        refine wpAnyH_take (i := 31) (oi := ⟨some 6, _, _, _, _, _⟩) (v := ?_) rfl (by kernel_rfl) (by kernel_rfl) (by kernel_rfl) (fun _ _ _ h => h) (Or.inl ⟨by rfl, ?_⟩) hS18 ?_
                        rotate_left
                        · (intro wS hSw; (try dsimp only at hSw); go_simp); all_goals (with_reducible rfl)
                        try simp only [Act.put, List.setIfInBounds_toArray, List.set_cons_zero, List.set_cons_succ]
                        refine wpAnyH_done (by kernel_rfl) ?_ _
                        go_wp2_with fail
                        go_ret
                        exact ⟨by first | rfl | (simp; done), A12.out.bel.trans (B18.out.mono A12.out.le)⟩
          · go_simp
            go_wp2_with fail
            refine hK.out _ _ (CELLS.out _ (BD.out.alloc BD.out.size _)) (fun hS19 => ?_)
            clear hK K
            try simp only [Act.put, List.setIfInBounds_toArray, List.set_cons_zero, List.set_cons_succ]
            have B19 : Hid (Below w12.heap.size w12 (wd.alloc (.cells #[] 32))) := Lib.hid (BD.out.alloc BD.out.size _)
            have V19 : Hid ((wd.alloc (.cells #[] 32)).ownsRow w12.heap.size 32 5 (.slice (some ⟨wd.heap.size, 0, none⟩) 0 0) 0 []) := Lib.hid (World.ownsRow_made wd #[] 0 BD.out.size (Nat.zero_le _) rfl)
            obtain ⟨wn19, hwn⟩ : ∃ wn, wn = wd.alloc (.cells #[] 32) := ⟨_, rfl⟩
            obtain ⟨nv, hlt⟩ : ∃ x, x = wd.heap.size := ⟨_, rfl⟩
            rw [← hwn] at hS19 B19 V19 ⊢
            rw [← hlt] at V19 ⊢
            clear hwn hlt
            refine wpAnyH_ready (rs := [17, 24]) (by kernel_rfl) (by simp) ?_
            refine (AllReadyH.cons (o := ⟨some 140, _, _, _, _, _⟩) rfl (fun K hK => ?_) (AllReadyH.cons (o := ⟨some 147, _, _, _, _, _⟩) rfl (fun K hK => ?_) AllReadyH.nil))
            · go_simp
              refine (SCN.out wn19 B19.out).mono ?_
              rintro e wS20 ⟨AS, cS, msS, rfl, hmS, hbS, hbel⟩
              have B20 := Lib.hid (B19.out.trans (hbel.mono B19.out.size))
              have V20 := Lib.hid (own_block V19.out (fun i hi => hbel.block i (V19.out.lt i hi).2))
              have S20 := Lib.hid (bms_new V19.out hbS)
              have HMS := Lib.hid hmS
              clear hmS hbS hbel
              go_wp2_with fail
              refine hK.out _ _ (CELLS.out _ B20.out) (fun hS20 => ?_)
              clear hK K
              try simp only [Act.put, List.setIfInBounds_toArray, List.set_cons_zero, List.set_cons_succ]
              refine wpAnyH_ready (rs := [22, 24]) (by kernel_rfl) (by simp) ?_
              refine (AllReadyH.cons (o := ⟨some 145, _, _, _, _, _⟩) rfl (fun K hK => ?_) (AllReadyH.cons (o := ⟨some 147, _, _, _, _, _⟩) rfl (fun K hK => ?_) AllReadyH.nil))
              · refine step_append_g (by rfl) _ _ 26 rfl w12.heap.size 32 i0 _ 5 56 Tryz.underlying26 KI.out G0.out G1.out G2.out batch_zero (by omega) (.slice (some ⟨nv, 0, none⟩) 0 0) 0 [] (by rfl) V20.out wS20.heap.size (some ⟨b, o, none⟩) t cl (cellsBs (ms.take t)) (by rfl) (HTK.out wS20 B20.out) HTL.out (cellsBs_one _) HT63.out HTB.out B20.out.size ?_
                intro v7 w7 hown hg hv
                rw [Nat.zero_add, List.nil_append] at hown
                obtain ⟨A7, c7, rfl, _, _⟩ := own_form hown
                have B21 := Lib.hid (B20.out.grown hg B20.out.size (fun k hk => (V20.out.lt k hk).1))
                have V21 := Lib.hid hown
                have S21 := Lib.hid (bms_grown S20.out hg hv)
                clear hown hg hv
                refine hK.out _ _ (CELLS.out _ B21.out) (fun hS21 => ?_)
                clear hK K
                try simp only [Act.put, List.setIfInBounds_toArray, List.set_cons_zero, List.set_cons_succ]
                refine wpAnyH_ready (rs := [24]) (by kernel_rfl) (by simp) ?_
                refine (AllReadyH.cons (o := ⟨some 147, _, _, _, _, _⟩) rfl (fun K hK => ?_) AllReadyH.nil)
                · go_simp
                  go_wp2_with fail
                  refine hK.out _ _ (CELLS.out _ (B21.out.alloc B21.out.size _)) (fun hS22 => ?_)
                  clear hK K
                  try simp only [Act.put, List.setIfInBounds_toArray, List.set_cons_zero, List.set_cons_succ]
                  have B22 : Hid (Below w12.heap.size w12 (w7.alloc (.cells #[.int .u64 ((t : Int) + 1), .int .i64 1, .slice A11 4 c11, .int .i64 2, .int .i64 0] 32))) := Lib.hid (B21.out.alloc B21.out.size _)
                  have V22 := Lib.hid (V21.out.alloc (.cells #[.int .u64 ((t : Int) + 1), .int .i64 1, .slice A11 4 c11, .int .i64 2, .int .i64 0] 32))
                  have L22 := Lib.hid (lies_new V21.out 32 [.int .u64 ((t : Int) + 1), .int .i64 1, .slice A11 4 c11, .int .i64 2, .int .i64 0])
                  have S22 := Lib.hid (S21.out.below ((Below.refl _ _).alloc (Nat.le_refl _) (.cells #[.int .u64 ((t : Int) + 1), .int .i64 1, .slice A11 4 c11, .int .i64 2, .int .i64 0] 32)))
                  obtain ⟨wn22, hwn⟩ : ∃ wn, wn = w7.alloc (.cells #[.int .u64 ((t : Int) + 1), .int .i64 1, .slice A11 4 c11, .int .i64 2, .int .i64 0] 32) := ⟨_, rfl⟩
                  obtain ⟨nl, hlt⟩ : ∃ x, x = w7.heap.size := ⟨_, rfl⟩
                  rw [← hwn] at hS22 B22 V22 L22 S22 ⊢
                  rw [← hlt] at L22 ⊢
                  clear hwn hlt
                  refine wpAnyH_ready (rs := [25]) (by kernel_rfl) (by simp) ?_
                  refine (AllReadyH.cons (o := ⟨some 148, _, _, _, _, _⟩) rfl (fun K hK => ?_) AllReadyH.nil)
                  · refine step_append_g (by rfl) _ _ 26 rfl w12.heap.size 32 i0 _ 5 56 Tryz.underlying26 KI.out G0.out G1.out G2.out batch_zero (by omega) (.slice A7 t c7) t (cellsBs (ms.take t)) (by rfl) V22.out wn22.heap.size (some ⟨nl, 0, none⟩) 1 1 [.int .u64 ((t : Int) + 1), .int .i64 1, .slice A11 4 c11, .int .i64 2, .int .i64 0] (by rfl) L22.out.lies rfl HONE.out HU63.out HUB.out B22.out.size ?_
                    intro v8 w18 hown hg hv
                    obtain ⟨A18, c18, rfl, _, _⟩ := own_form hown
                    have B23 := Lib.hid (B22.out.grown hg B22.out.size (fun k hk => (V22.out.lt k hk).1))
                    have V23 := Lib.hid hown
                    have S23 := Lib.hid (bms_grown S22.out hg hv)
                    clear hown hg hv
                    refine hK.out _ _ (CELLS.out _ B23.out) (fun hS23 => ?_)
                    clear hK K
                    try simp only [Act.put, List.setIfInBounds_toArray, List.set_cons_zero, List.set_cons_succ]
                    refine wpAnyH_ready (rs := [26]) (by kernel_rfl) (by simp) ?_
                    refine (AllReadyH.cons (o := ⟨some 149, _, _, _, _, _⟩) rfl (fun K hK => ?_) AllReadyH.nil)
                    · go_simp
                      refine (same_last (x := ⟨⟨t + 1, 1, [109, 111, 114, 101], 2, 0⟩, A11, c11⟩) S23.out (R12.out.below (fun _ h => h) B23.out) (M12.out.below B23.out) V23.out HTLE.out rfl (by rw [HMS.out, HPRE.out]) HLE.out).mono ?_
                      rintro e w19 ⟨rfl, hbel⟩
                      have B24 := Lib.hid (B23.out.trans (hbel.mono B23.out.size))
                      clear hbel
                      go_wp2_with fail
                      refine hK.out _ _ (CELLS.out _ B24.out) (fun hS24 => ?_)
                      clear hK K
                      try simp only [Act.put, List.setIfInBounds_toArray, List.set_cons_zero, List.set_cons_succ]
                      refine wpAnyH_take (i := 27) (oi := ⟨some 150, _, _, _, _, _⟩) (v := ?_) rfl (by kernel_rfl) (by kernel_rfl) (by kernel_rfl) (fun _ _ _ h => h) (Or.inl ⟨by rfl, ?_⟩) hS24 ?_
                      rotate_left
                      · (intro wS hSw; (try dsimp only at hSw); go_simp); all_goals (with_reducible rfl)
                      try simp only [Act.put, List.setIfInBounds_toArray, List.set_cons_zero, List.set_cons_succ]
                      refine wpAnyH_take (i := 28) (oi := ⟨some 151, _, _, _, _, _⟩) (v := ?_) rfl (by kernel_rfl) (by kernel_rfl) (by kernel_rfl) (fun _ _ _ h => h) (Or.inl ⟨by rfl, ?_⟩) hS24 ?_
                      rotate_left
                      · (intro wS hSw; (try dsimp only at hSw); go_simp); all_goals (with_reducible rfl)
                      try simp only [Act.put, List.setIfInBounds_toArray, List.set_cons_zero, List.set_cons_succ]
                      refine wpAnyH_ready (rs := [29]) (by kernel_rfl) (by simp) ?_
                      refine (AllReadyH.cons (o := ⟨some 152, _, _, _, _, _⟩) rfl (fun K hK => ?_) AllReadyH.nil)
                      · go_simp
                        refine (awake8 w19).mono ?_
                        rintro e w20 ⟨rfl, hbel⟩
                        have B25 := Lib.hid (B24.out.trans (hbel.mono B24.out.size))
                        clear hbel
                        go_wp2_with fail
                        refine hK.out _ _ (CELLS.out _ B25.out) (fun hS25 => ?_)
                        clear hK K
                        try simp only [Act.put, List.setIfInBounds_toArray, List.set_cons_zero, List.set_cons_succ]
                        refine wpAnyH_take (i := 30) (oi := ⟨some 153, _, _, _, _, _⟩) (v := ?_) rfl (by kernel_rfl) (by kernel_rfl) (by kernel_rfl) (fun _ _ _ h => h) (Or.inl ⟨by rfl, ?_⟩) hS25 ?_
                        rotate_left
                        · (intro wS hSw; (try dsimp only at hSw); go_simp); all_goals (with_reducible rfl)
                        try simp only [Act.put, List.setIfInBounds_toArray, List.set_cons_zero, List.set_cons_succ]
                        refine wpAnyH_take (i := 31) (oi := ⟨some 6, _, _, _, _, _⟩) (v := ?_) rfl (by kernel_rfl) (by kernel_rfl) (by kernel_rfl) (fun _ _ _ h => h) (Or.inl ⟨by rfl, ?_⟩) hS25 ?_
                        rotate_left
                        · (intro wS hSw; (try dsimp only at hSw); go_simp); all_goals (with_reducible rfl)
                        try simp only [Act.put, List.setIfInBounds_toArray, List.set_cons_zero, List.set_cons_succ]
                        refine wpAnyH_done (by kernel_rfl) ?_ _
                        go_wp2_with fail
                        go_ret
                        exact ⟨by first | rfl | (simp; done), A12.out.bel.trans (B25.out.mono A12.out.le)⟩
              · go_simp
                go_wp2_with fail
                refine hK.out _ _ (CELLS.out _ (B20.out.alloc B20.out.size _)) (fun hS26 => ?_)
                clear hK K
                try simp only [Act.put, List.setIfInBounds_toArray, List.set_cons_zero, List.set_cons_succ]
                have B26 : Hid (Below w12.heap.size w12 (wS20.alloc (.cells #[.int .u64 ((t : Int) + 1), .int .i64 1, .slice A11 4 c11, .int .i64 2, .int .i64 0] 32))) := Lib.hid (B20.out.alloc B20.out.size _)
                have V26 := Lib.hid (V20.out.alloc (.cells #[.int .u64 ((t : Int) + 1), .int .i64 1, .slice A11 4 c11, .int .i64 2, .int .i64 0] 32))
                have L26 := Lib.hid (lies_new V20.out 32 [.int .u64 ((t : Int) + 1), .int .i64 1, .slice A11 4 c11, .int .i64 2, .int .i64 0])
                have S26 := Lib.hid (S20.out.below ((Below.refl _ _).alloc (Nat.le_refl _) (.cells #[.int .u64 ((t : Int) + 1), .int .i64 1, .slice A11 4 c11, .int .i64 2, .int .i64 0] 32)))
                obtain ⟨wn26, hwn⟩ : ∃ wn, wn = wS20.alloc (.cells #[.int .u64 ((t : Int) + 1), .int .i64 1, .slice A11 4 c11, .int .i64 2, .int .i64 0] 32) := ⟨_, rfl⟩
                obtain ⟨nl, hlt⟩ : ∃ x, x = wS20.heap.size := ⟨_, rfl⟩
                rw [← hwn] at hS26 B26 V26 L26 S26 ⊢
                rw [← hlt] at L26 ⊢
                clear hwn hlt
                refine wpAnyH_ready (rs := [22]) (by kernel_rfl) (by simp) ?_
                refine (AllReadyH.cons (o := ⟨some 145, _, _, _, _, _⟩) rfl (fun K hK => ?_) AllReadyH.nil)
                · refine step_append_g (by rfl) _ _ 26 rfl w12.heap.size 32 i0 _ 5 56 Tryz.underlying26 KI.out G0.out G1.out G2.out batch_zero (by omega) (.slice (some ⟨nv, 0, none⟩) 0 0) 0 [] (by rfl) V26.out wn26.heap.size (some ⟨b, o, none⟩) t cl (cellsBs (ms.take t)) (by rfl) (HTK.out wn26 B26.out) HTL.out (cellsBs_one _) HT63.out HTB.out B26.out.size ?_
                  intro v7 w7 hown hg hv
                  rw [Nat.zero_add, List.nil_append] at hown
                  obtain ⟨A7, c7, rfl, _, _⟩ := own_form hown
                  have B27 := Lib.hid (B26.out.grown hg B26.out.size (fun k hk => (V26.out.lt k hk).1))
                  have V27 := Lib.hid hown
                  have S27 := Lib.hid (bms_grown S26.out hg hv)
                  have L27 := Lib.hid (lies_grown L26.out hg hv)
                  clear hown hg hv
                  refine hK.out _ _ (CELLS.out _ B27.out) (fun hS27 => ?_)
                  clear hK K
                  try simp only [Act.put, List.setIfInBounds_toArray, List.set_cons_zero, List.set_cons_succ]
                  refine wpAnyH_ready (rs := [25]) (by kernel_rfl) (by simp) ?_
                  refine (AllReadyH.cons (o := ⟨some 148, _, _, _, _, _⟩) rfl (fun K hK => ?_) AllReadyH.nil)
                  · refine step_append_g (by rfl) _ _ 26 rfl w12.heap.size 32 i0 _ 5 56 Tryz.underlying26 KI.out G0.out G1.out G2.out batch_zero (by omega) (.slice A7 t c7) t (cellsBs (ms.take t)) (by rfl) V27.out w7.heap.size (some ⟨nl, 0, none⟩) 1 1 [.int .u64 ((t : Int) + 1), .int .i64 1, .slice A11 4 c11, .int .i64 2, .int .i64 0] (by rfl) L27.out.lies rfl HONE.out HU63.out HUB.out B27.out.size ?_
                    intro v8 w18 hown hg hv
                    obtain ⟨A18, c18, rfl, _, _⟩ := own_form hown
                    have B28 := Lib.hid (B27.out.grown hg B27.out.size (fun k hk => (V27.out.lt k hk).1))
                    have V28 := Lib.hid hown
                    have S28 := Lib.hid (bms_grown S27.out hg hv)
                    clear hown hg hv
                    refine hK.out _ _ (CELLS.out _ B28.out) (fun hS28 => ?_)
                    clear hK K
                    try simp only [Act.put, List.setIfInBounds_toArray, List.set_cons_zero, List.set_cons_succ]
                    refine wpAnyH_ready (rs := [26]) (by kernel_rfl) (by simp) ?_
                    refine (AllReadyH.cons (o := ⟨some 149, _, _, _, _, _⟩) rfl (fun K hK => ?_) AllReadyH.nil)
                    · go_simp
                      refine (same_last (x := ⟨⟨t + 1, 1, [109, 111, 114, 101], 2, 0⟩, A11, c11⟩) S28.out (R12.out.below (fun _ h => h) B28.out) (M12.out.below B28.out) V28.out HTLE.out rfl (by rw [HMS.out, HPRE.out]) HLE.out).mono ?_
                      rintro e w19 ⟨rfl, hbel⟩
                      have B29 := Lib.hid (B28.out.trans (hbel.mono B28.out.size))
                      clear hbel
                      go_wp2_with fail
                      refine hK.out _ _ (CELLS.out _ B29.out) (fun hS29 => ?_)
                      clear hK K
                      try simp only [Act.put, List.setIfInBounds_toArray, List.set_cons_zero, List.set_cons_succ]
                      refine wpAnyH_take (i := 27) (oi := ⟨some 150, _, _, _, _, _⟩) (v := ?_) rfl (by kernel_rfl) (by kernel_rfl) (by kernel_rfl) (fun _ _ _ h => h) (Or.inl ⟨by rfl, ?_⟩) hS29 ?_
                      rotate_left
                      · (intro wS hSw; (try dsimp only at hSw); go_simp); all_goals (with_reducible rfl)
                      try simp only [Act.put, List.setIfInBounds_toArray, List.set_cons_zero, List.set_cons_succ]
                      refine wpAnyH_take (i := 28) (oi := ⟨some 151, _, _, _, _, _⟩) (v := ?_) rfl (by kernel_rfl) (by kernel_rfl) (by kernel_rfl) (fun _ _ _ h => h) (Or.inl ⟨by rfl, ?_⟩) hS29 ?_
                      rotate_left
                      · (intro wS hSw; (try dsimp only at hSw); go_simp); all_goals (with_reducible rfl)
                      try simp only [Act.put, List.setIfInBounds_toArray, List.set_cons_zero, List.set_cons_succ]
                      refine wpAnyH_ready (rs := [29]) (by kernel_rfl) (by simp) ?_
                      refine (AllReadyH.cons (o := ⟨some 152, _, _, _, _, _⟩) rfl (fun K hK => ?_) AllReadyH.nil)
                      · go_simp
                        refine (awake8 w19).mono ?_
                        rintro e w20 ⟨rfl, hbel⟩
                        have B30 := Lib.hid (B29.out.trans (hbel.mono B29.out.size))
                        clear hbel
                        go_wp2_with fail
                        refine hK.out _ _ (CELLS.out _ B30.out) (fun hS30 => ?_)
                        clear hK K
                        try simp only [Act.put, List.setIfInBounds_toArray, List.set_cons_zero, List.set_cons_succ]
                        refine wpAnyH_take (i := 30) (oi := ⟨some 153, _, _, _, _, _⟩) (v := ?_) rfl (by kernel_rfl) (by kernel_rfl) (by kernel_rfl) (fun _ _ _ h => h) (Or.inl ⟨by rfl, ?_⟩) hS30 ?_
                        rotate_left
                        · (intro wS hSw; (try dsimp only at hSw); go_simp); all_goals (with_reducible rfl)
                        try simp only [Act.put, List.setIfInBounds_toArray, List.set_cons_zero, List.set_cons_succ]
                        refine wpAnyH_take (i := 31) (oi := ⟨some 6, _, _, _, _, _⟩) (v := ?_) rfl (by kernel_rfl) (by kernel_rfl) (by kernel_rfl) (fun _ _ _ h => h) (Or.inl ⟨by rfl, ?_⟩) hS30 ?_
                        rotate_left
                        · (intro wS hSw; (try dsimp only at hSw); go_simp); all_goals (with_reducible rfl)
                        try simp only [Act.put, List.setIfInBounds_toArray, List.set_cons_zero, List.set_cons_succ]
                        refine wpAnyH_done (by kernel_rfl) ?_ _
                        go_wp2_with fail
                        go_ret
                        exact ⟨by first | rfl | (simp; done), A12.out.bel.trans (B30.out.mono A12.out.le)⟩
            · go_simp
              go_wp2_with fail
              refine hK.out _ _ (CELLS.out _ (B19.out.alloc B19.out.size _)) (fun hS31 => ?_)
              clear hK K
              try simp only [Act.put, List.setIfInBounds_toArray, List.set_cons_zero, List.set_cons_succ]
              have B31 : Hid (Below w12.heap.size w12 (wn19.alloc (.cells #[.int .u64 ((t : Int) + 1), .int .i64 1, .slice A11 4 c11, .int .i64 2, .int .i64 0] 32))) := Lib.hid (B19.out.alloc B19.out.size _)
              have V31 := Lib.hid (V19.out.alloc (.cells #[.int .u64 ((t : Int) + 1), .int .i64 1, .slice A11 4 c11, .int .i64 2, .int .i64 0] 32))
              have L31 := Lib.hid (lies_new V19.out 32 [.int .u64 ((t : Int) + 1), .int .i64 1, .slice A11 4 c11, .int .i64 2, .int .i64 0])
              obtain ⟨wn31, hwn⟩ : ∃ wn, wn = wn19.alloc (.cells #[.int .u64 ((t : Int) + 1), .int .i64 1, .slice A11 4 c11, .int .i64 2, .int .i64 0] 32) := ⟨_, rfl⟩
              obtain ⟨nl, hlt⟩ : ∃ x, x = wn19.heap.size := ⟨_, rfl⟩
              rw [← hwn] at hS31 B31 V31 L31 ⊢
              rw [← hlt] at L31 ⊢
              clear hwn hlt
              refine wpAnyH_ready (rs := [17]) (by kernel_rfl) (by simp) ?_
              refine (AllReadyH.cons (o := ⟨some 140, _, _, _, _, _⟩) rfl (fun K hK => ?_) AllReadyH.nil)
              · go_simp
                refine (SCN.out wn31 B31.out).mono ?_
                rintro e wS32 ⟨AS, cS, msS, rfl, hmS, hbS, hbel⟩
                have B32 := Lib.hid (B31.out.trans (hbel.mono B31.out.size))
                have V32 := Lib.hid (own_block V31.out (fun i hi => hbel.block i (V31.out.lt i hi).2))
                have S32 := Lib.hid (bms_new V31.out hbS)
                have L32 := Lib.hid (L31.out.below hbel)
                have HMS := Lib.hid hmS
                clear hmS hbS hbel
                go_wp2_with fail
                refine hK.out _ _ (CELLS.out _ B32.out) (fun hS32 => ?_)
                clear hK K
                try simp only [Act.put, List.setIfInBounds_toArray, List.set_cons_zero, List.set_cons_succ]
                refine wpAnyH_ready (rs := [22]) (by kernel_rfl) (by simp) ?_
                refine (AllReadyH.cons (o := ⟨some 145, _, _, _, _, _⟩) rfl (fun K hK => ?_) AllReadyH.nil)
                · refine step_append_g (by rfl) _ _ 26 rfl w12.heap.size 32 i0 _ 5 56 Tryz.underlying26 KI.out G0.out G1.out G2.out batch_zero (by omega) (.slice (some ⟨nv, 0, none⟩) 0 0) 0 [] (by rfl) V32.out wS32.heap.size (some ⟨b, o, none⟩) t cl (cellsBs (ms.take t)) (by rfl) (HTK.out wS32 B32.out) HTL.out (cellsBs_one _) HT63.out HTB.out B32.out.size ?_
                  intro v7 w7 hown hg hv
                  rw [Nat.zero_add, List.nil_append] at hown
                  obtain ⟨A7, c7, rfl, _, _⟩ := own_form hown
                  have B33 := Lib.hid (B32.out.grown hg B32.out.size (fun k hk => (V32.out.lt k hk).1))
                  have V33 := Lib.hid hown
                  have S33 := Lib.hid (bms_grown S32.out hg hv)
                  have L33 := Lib.hid (lies_grown L32.out hg hv)
                  clear hown hg hv
                  refine hK.out _ _ (CELLS.out _ B33.out) (fun hS33 => ?_)
                  clear hK K
                  try simp only [Act.put, List.setIfInBounds_toArray, List.set_cons_zero, List.set_cons_succ]
                  refine wpAnyH_ready (rs := [25]) (by kernel_rfl) (by simp) ?_
                  refine (AllReadyH.cons (o := ⟨some 148, _, _, _, _, _⟩) rfl (fun K hK => ?_) AllReadyH.nil)
                  · refine step_append_g (by rfl) _ _ 26 rfl w12.heap.size 32 i0 _ 5 56 Tryz.underlying26 KI.out G0.out G1.out G2.out batch_zero (by omega) (.slice A7 t c7) t (cellsBs (ms.take t)) (by rfl) V33.out w7.heap.size (some ⟨nl, 0, none⟩) 1 1 [.int .u64 ((t : Int) + 1), .int .i64 1, .slice A11 4 c11, .int .i64 2, .int .i64 0] (by rfl) L33.out.lies rfl HONE.out HU63.out HUB.out B33.out.size ?_
                    intro v8 w18 hown hg hv
                    obtain ⟨A18, c18, rfl, _, _⟩ := own_form hown
                    have B34 := Lib.hid (B33.out.grown hg B33.out.size (fun k hk => (V33.out.lt k hk).1))
                    have V34 := Lib.hid hown
                    have S34 := Lib.hid (bms_grown S33.out hg hv)
                    clear hown hg hv
                    refine hK.out _ _ (CELLS.out _ B34.out) (fun hS34 => ?_)
                    clear hK K
                    try simp only [Act.put, List.setIfInBounds_toArray, List.set_cons_zero, List.set_cons_succ]
                    refine wpAnyH_ready (rs := [26]) (by kernel_rfl) (by simp) ?_
                    refine (AllReadyH.cons (o := ⟨some 149, _, _, _, _, _⟩) rfl (fun K hK => ?_) AllReadyH.nil)
                    · go_simp
                      refine (same_last (x := ⟨⟨t + 1, 1, [109, 111, 114, 101], 2, 0⟩, A11, c11⟩) S34.out (R12.out.below (fun _ h => h) B34.out) (M12.out.below B34.out) V34.out HTLE.out rfl (by rw [HMS.out, HPRE.out]) HLE.out).mono ?_
                      rintro e w19 ⟨rfl, hbel⟩
                      have B35 := Lib.hid (B34.out.trans (hbel.mono B34.out.size))
                      clear hbel
                      go_wp2_with fail
                      refine hK.out _ _ (CELLS.out _ B35.out) (fun hS35 => ?_)
                      clear hK K
                      try simp only [Act.put, List.setIfInBounds_toArray, List.set_cons_zero, List.set_cons_succ]
                      refine wpAnyH_take (i := 27) (oi := ⟨some 150, _, _, _, _, _⟩) (v := ?_) rfl (by kernel_rfl) (by kernel_rfl) (by kernel_rfl) (fun _ _ _ h => h) (Or.inl ⟨by rfl, ?_⟩) hS35 ?_
                      rotate_left
                      · (intro wS hSw; (try dsimp only at hSw); go_simp); all_goals (with_reducible rfl)
                      try simp only [Act.put, List.setIfInBounds_toArray, List.set_cons_zero, List.set_cons_succ]
                      refine wpAnyH_take (i := 28) (oi := ⟨some 151, _, _, _, _, _⟩) (v := ?_) rfl (by kernel_rfl) (by kernel_rfl) (by kernel_rfl) (fun _ _ _ h => h) (Or.inl ⟨by rfl, ?_⟩) hS35 ?_
                      rotate_left
                      · (intro wS hSw; (try dsimp only at hSw); go_simp); all_goals (with_reducible rfl)
                      try simp only [Act.put, List.setIfInBounds_toArray, List.set_cons_zero, List.set_cons_succ]
                      refine wpAnyH_ready (rs := [29]) (by kernel_rfl) (by simp) ?_
                      refine (AllReadyH.cons (o := ⟨some 152, _, _, _, _, _⟩) rfl (fun K hK => ?_) AllReadyH.nil)
                      · go_simp
                        refine (awake8 w19).mono ?_
                        rintro e w20 ⟨rfl, hbel⟩
                        have B36 := Lib.hid (B35.out.trans (hbel.mono B35.out.size))
                        clear hbel
                        go_wp2_with fail
                        refine hK.out _ _ (CELLS.out _ B36.out) (fun hS36 => ?_)
                        clear hK K
                        try simp only [Act.put, List.setIfInBounds_toArray, List.set_cons_zero, List.set_cons_succ]
                        refine wpAnyH_take (i := 30) (oi := ⟨some 153, _, _, _, _, _⟩) (v := ?_) rfl (by kernel_rfl) (by kernel_rfl) (by kernel_rfl) (fun _ _ _ h => h) (Or.inl ⟨by rfl, ?_⟩) hS36 ?_
                        rotate_left
                        · (intro wS hSw; (try dsimp only at hSw); go_simp); all_goals (with_reducible rfl)
                        try simp only [Act.put, List.setIfInBounds_toArray, List.set_cons_zero, List.set_cons_succ]
                        refine wpAnyH_take (i := 31) (oi := ⟨some 6, _, _, _, _, _⟩) (v := ?_) rfl (by kernel_rfl) (by kernel_rfl) (by kernel_rfl) (fun _ _ _ h => h) (Or.inl ⟨by rfl, ?_⟩) hS36 ?_
                        rotate_left
                        · (intro wS hSw; (try dsimp only at hSw); go_simp); all_goals (with_reducible rfl)
                        try simp only [Act.put, List.setIfInBounds_toArray, List.set_cons_zero, List.set_cons_succ]
                        refine wpAnyH_done (by kernel_rfl) ?_ _
                        go_wp2_with fail
                        go_ret
                        exact ⟨by first | rfl | (simp; done), A12.out.bel.trans (B36.out.mono A12.out.le)⟩
          · go_simp
            go_wp2_with fail
            refine hK.out _ _ (CELLS.out _ (BD.out.alloc BD.out.size _)) (fun hS37 => ?_)
            clear hK K
            try simp only [Act.put, List.setIfInBounds_toArray, List.set_cons_zero, List.set_cons_succ]
            have B37 : Hid (Below w12.heap.size w12 (wd.alloc (.cells #[.int .u64 ((t : Int) + 1), .int .i64 1, .slice A11 4 c11, .int .i64 2, .int .i64 0] 32))) := Lib.hid (BD.out.alloc BD.out.size _)
            have L37 := Lib.hid (lies_new0 wd 32 [.int .u64 ((t : Int) + 1), .int .i64 1, .slice A11 4 c11, .int .i64 2, .int .i64 0])
            obtain ⟨wn37, hwn⟩ : ∃ wn, wn = wd.alloc (.cells #[.int .u64 ((t : Int) + 1), .int .i64 1, .slice A11 4 c11, .int .i64 2, .int .i64 0] 32) := ⟨_, rfl⟩
            obtain ⟨nl, hlt⟩ : ∃ x, x = wd.heap.size := ⟨_, rfl⟩
            rw [← hwn] at hS37 B37 L37 ⊢
            rw [← hlt] at L37 ⊢
            clear hwn hlt
            refine wpAnyH_ready (rs := [17, 18]) (by kernel_rfl) (by simp) ?_
            refine (AllReadyH.cons (o := ⟨some 140, _, _, _, _, _⟩) rfl (fun K hK => ?_) (AllReadyH.cons (o := ⟨some 141, _, _, _, _, _⟩) rfl (fun K hK => ?_) AllReadyH.nil))
            · go_simp
              refine (SCN.out wn37 B37.out).mono ?_
              rintro e wS38 ⟨AS, cS, msS, rfl, hmS, hbS, hbel⟩
              have B38 := Lib.hid (B37.out.trans (hbel.mono B37.out.size))
              have S38 := Lib.hid (bms_new0 hbS)
              have L38 := Lib.hid (L37.out.below hbel)
              have HMS := Lib.hid hmS
              clear hmS hbS hbel
              go_wp2_with fail
              refine hK.out _ _ (CELLS.out _ B38.out) (fun hS38 => ?_)
              clear hK K
              try simp only [Act.put, List.setIfInBounds_toArray, List.set_cons_zero, List.set_cons_succ]
              refine wpAnyH_ready (rs := [18]) (by kernel_rfl) (by simp) ?_
              refine (AllReadyH.cons (o := ⟨some 141, _, _, _, _, _⟩) rfl (fun K hK => ?_) AllReadyH.nil)
              · go_simp
                go_wp2_with fail
                refine hK.out _ _ (CELLS.out _ (B38.out.alloc B38.out.size _)) (fun hS39 => ?_)
                clear hK K
                try simp only [Act.put, List.setIfInBounds_toArray, List.set_cons_zero, List.set_cons_succ]
                have B39 : Hid (Below w12.heap.size w12 (wS38.alloc (.cells #[] 32))) := Lib.hid (B38.out.alloc B38.out.size _)
                have V39 : Hid ((wS38.alloc (.cells #[] 32)).ownsRow w12.heap.size 32 5 (.slice (some ⟨wS38.heap.size, 0, none⟩) 0 0) 0 []) := Lib.hid (World.ownsRow_made wS38 #[] 0 B38.out.size (Nat.zero_le _) rfl)
                have S39 := Lib.hid (bms_alloc S38.out (.cells #[] 32) (c0 := 0))
                have L39 := Lib.hid (lies_alloc L38.out (.cells #[] 32) (c0 := 0))
                obtain ⟨wn39, hwn⟩ : ∃ wn, wn = wS38.alloc (.cells #[] 32) := ⟨_, rfl⟩
                obtain ⟨nv, hlt⟩ : ∃ x, x = wS38.heap.size := ⟨_, rfl⟩
                rw [← hwn] at hS39 B39 V39 S39 L39 ⊢
                rw [← hlt] at V39 S39 L39 ⊢
                clear hwn hlt
                refine wpAnyH_ready (rs := [22]) (by kernel_rfl) (by simp) ?_
                refine (AllReadyH.cons (o := ⟨some 145, _, _, _, _, _⟩) rfl (fun K hK => ?_) AllReadyH.nil)
                · refine step_append_g (by rfl) _ _ 26 rfl w12.heap.size 32 i0 _ 5 56 Tryz.underlying26 KI.out G0.out G1.out G2.out batch_zero (by omega) (.slice (some ⟨nv, 0, none⟩) 0 0) 0 [] (by rfl) V39.out wn39.heap.size (some ⟨b, o, none⟩) t cl (cellsBs (ms.take t)) (by rfl) (HTK.out wn39 B39.out) HTL.out (cellsBs_one _) HT63.out HTB.out B39.out.size ?_
                  intro v7 w7 hown hg hv
                  rw [Nat.zero_add, List.nil_append] at hown
                  obtain ⟨A7, c7, rfl, _, _⟩ := own_form hown
                  have B40 := Lib.hid (B39.out.grown hg B39.out.size (fun k hk => (V39.out.lt k hk).1))
                  have V40 := Lib.hid hown
                  have S40 := Lib.hid (bms_grown S39.out hg hv)
                  have L40 := Lib.hid (lies_grown L39.out hg hv)
                  clear hown hg hv
                  refine hK.out _ _ (CELLS.out _ B40.out) (fun hS40 => ?_)
                  clear hK K
                  try simp only [Act.put, List.setIfInBounds_toArray, List.set_cons_zero, List.set_cons_succ]
                  refine wpAnyH_ready (rs := [25]) (by kernel_rfl) (by simp) ?_
                  refine (AllReadyH.cons (o := ⟨some 148, _, _, _, _, _⟩) rfl (fun K hK => ?_) AllReadyH.nil)
                  · refine step_append_g (by rfl) _ _ 26 rfl w12.heap.size 32 i0 _ 5 56 Tryz.underlying26 KI.out G0.out G1.out G2.out batch_zero (by omega) (.slice A7 t c7) t (cellsBs (ms.take t)) (by rfl) V40.out w7.heap.size (some ⟨nl, 0, none⟩) 1 1 [.int .u64 ((t : Int) + 1), .int .i64 1, .slice A11 4 c11, .int .i64 2, .int .i64 0] (by rfl) L40.out.lies rfl HONE.out HU63.out HUB.out B40.out.size ?_
                    intro v8 w18 hown hg hv
                    obtain ⟨A18, c18, rfl, _, _⟩ := own_form hown
                    have B41 := Lib.hid (B40.out.grown hg B40.out.size (fun k hk => (V40.out.lt k hk).1))
                    have V41 := Lib.hid hown
                    have S41 := Lib.hid (bms_grown S40.out hg hv)
                    clear hown hg hv
                    refine hK.out _ _ (CELLS.out _ B41.out) (fun hS41 => ?_)
                    clear hK K
                    try simp only [Act.put, List.setIfInBounds_toArray, List.set_cons_zero, List.set_cons_succ]
                    refine wpAnyH_ready (rs := [26]) (by kernel_rfl) (by simp) ?_
                    refine (AllReadyH.cons (o := ⟨some 149, _, _, _, _, _⟩) rfl (fun K hK => ?_) AllReadyH.nil)
                    · go_simp
                      refine (same_last (x := ⟨⟨t + 1, 1, [109, 111, 114, 101], 2, 0⟩, A11, c11⟩) S41.out (R12.out.below (fun _ h => h) B41.out) (M12.out.below B41.out) V41.out HTLE.out rfl (by rw [HMS.out, HPRE.out]) HLE.out).mono ?_
                      rintro e w19 ⟨rfl, hbel⟩
                      have B42 := Lib.hid (B41.out.trans (hbel.mono B41.out.size))
                      clear hbel
                      go_wp2_with fail
                      refine hK.out _ _ (CELLS.out _ B42.out) (fun hS42 => ?_)
                      clear hK K
                      try simp only [Act.put, List.setIfInBounds_toArray, List.set_cons_zero, List.set_cons_succ]
                      refine wpAnyH_take (i := 27) (oi := ⟨some 150, _, _, _, _, _⟩) (v := ?_) rfl (by kernel_rfl) (by kernel_rfl) (by kernel_rfl) (fun _ _ _ h => h) (Or.inl ⟨by rfl, ?_⟩) hS42 ?_
                      rotate_left
                      · (intro wS hSw; (try dsimp only at hSw); go_simp); all_goals (with_reducible rfl)
                      try simp only [Act.put, List.setIfInBounds_toArray, List.set_cons_zero, List.set_cons_succ]
                      refine wpAnyH_take (i := 28) (oi := ⟨some 151, _, _, _, _, _⟩) (v := ?_) rfl (by kernel_rfl) (by kernel_rfl) (by kernel_rfl) (fun _ _ _ h => h) (Or.inl ⟨by rfl, ?_⟩) hS42 ?_
                      rotate_left
                      · (intro wS hSw; (try dsimp only at hSw); go_simp); all_goals (with_reducible rfl)
                      try simp only [Act.put, List.setIfInBounds_toArray, List.set_cons_zero, List.set_cons_succ]
                      refine wpAnyH_ready (rs := [29]) (by kernel_rfl) (by simp) ?_
                      refine (AllReadyH.cons (o := ⟨some 152, _, _, _, _, _⟩) rfl (fun K hK => ?_) AllReadyH.nil)
                      · go_simp
                        refine (awake8 w19).mono ?_
                        rintro e w20 ⟨rfl, hbel⟩
                        have B43 := Lib.hid (B42.out.trans (hbel.mono B42.out.size))
                        clear hbel
                        go_wp2_with fail
                        refine hK.out _ _ (CELLS.out _ B43.out) (fun hS43 => ?_)
                        clear hK K
                        try simp only [Act.put, List.setIfInBounds_toArray, List.set_cons_zero, List.set_cons_succ]
                        refine wpAnyH_take (i := 30) (oi := ⟨some 153, _, _, _, _, _⟩) (v := ?_) rfl (by kernel_rfl) (by kernel_rfl) (by kernel_rfl) (fun _ _ _ h => h) (Or.inl ⟨by rfl, ?_⟩) hS43 ?_
                        rotate_left
                        · (intro wS hSw; (try dsimp only at hSw); go_simp); all_goals (with_reducible rfl)
                        try simp only [Act.put, List.setIfInBounds_toArray, List.set_cons_zero, List.set_cons_succ]
                        refine wpAnyH_take (i := 31) (oi := ⟨some 6, _, _, _, _, _⟩) (v := ?_) rfl (by kernel_rfl) (by kernel_rfl) (by kernel_rfl) (fun _ _ _ h => h) (Or.inl ⟨by rfl, ?_⟩) hS43 ?_
                        rotate_left
                        · (intro wS hSw; (try dsimp only at hSw); go_simp); all_goals (with_reducible rfl)
                        try simp only [Act.put, List.setIfInBounds_toArray, List.set_cons_zero, List.set_cons_succ]
                        refine wpAnyH_done (by kernel_rfl) ?_ _
                        go_wp2_with fail
                        go_ret
                        exact ⟨by first | rfl | (simp; done), A12.out.bel.trans (B43.out.mono A12.out.le)⟩
            · go_simp
              go_wp2_with fail
              refine hK.out _ _ (CELLS.out _ (B37.out.alloc B37.out.size _)) (fun hS44 => ?_)
              clear hK K
              try simp only [Act.put, List.setIfInBounds_toArray, List.set_cons_zero, List.set_cons_succ]
              have B44 : Hid (Below w12.heap.size w12 (wn37.alloc (.cells #[] 32))) := Lib.hid (B37.out.alloc B37.out.size _)
              have V44 : Hid ((wn37.alloc (.cells #[] 32)).ownsRow w12.heap.size 32 5 (.slice (some ⟨wn37.heap.size, 0, none⟩) 0 0) 0 []) := Lib.hid (World.ownsRow_made wn37 #[] 0 B37.out.size (Nat.zero_le _) rfl)
              have L44 := Lib.hid (lies_alloc L37.out (.cells #[] 32) (c0 := 0))
              obtain ⟨wn44, hwn⟩ : ∃ wn, wn = wn37.alloc (.cells #[] 32) := ⟨_, rfl⟩
              obtain ⟨nv, hlt⟩ : ∃ x, x = wn37.heap.size := ⟨_, rfl⟩
              rw [← hwn] at hS44 B44 V44 L44 ⊢
              rw [← hlt] at V44 L44 ⊢
              clear hwn hlt
              refine wpAnyH_ready (rs := [17]) (by kernel_rfl) (by simp) ?_
              refine (AllReadyH.cons (o := ⟨some 140, _, _, _, _, _⟩) rfl (fun K hK => ?_) AllReadyH.nil)
              · go_simp
                refine (SCN.out wn44 B44.out).mono ?_
                rintro e wS45 ⟨AS, cS, msS, rfl, hmS, hbS, hbel⟩
                have B45 := Lib.hid (B44.out.trans (hbel.mono B44.out.size))
                have V45 := Lib.hid (own_block V44.out (fun i hi => hbel.block i (V44.out.lt i hi).2))
                have S45 := Lib.hid (bms_new V44.out hbS)
                have L45 := Lib.hid (L44.out.below hbel)
                have HMS := Lib.hid hmS
                clear hmS hbS hbel
                go_wp2_with fail
                refine hK.out _ _ (CELLS.out _ B45.out) (fun hS45 => ?_)
                clear hK K
                try simp only [Act.put, List.setIfInBounds_toArray, List.set_cons_zero, List.set_cons_succ]
                refine wpAnyH_ready (rs := [22]) (by kernel_rfl) (by simp) ?_
                refine (AllReadyH.cons (o := ⟨some 145, _, _, _, _, _⟩) rfl (fun K hK => ?_) AllReadyH.nil)
                · refine step_append_g (by rfl) _ _ 26 rfl w12.heap.size 32 i0 _ 5 56 Tryz.underlying26 KI.out G0.out G1.out G2.out batch_zero (by omega) (.slice (some ⟨nv, 0, none⟩) 0 0) 0 [] (by rfl) V45.out wS45.heap.size (some ⟨b, o, none⟩) t cl (cellsBs (ms.take t)) (by rfl) (HTK.out wS45 B45.out) HTL.out (cellsBs_one _) HT63.out HTB.out B45.out.size ?_
                  intro v7 w7 hown hg hv
                  rw [Nat.zero_add, List.nil_append] at hown
                  obtain ⟨A7, c7, rfl, _, _⟩ := own_form hown
                  have B46 := Lib.hid (B45.out.grown hg B45.out.size (fun k hk => (V45.out.lt k hk).1))
                  have V46 := Lib.hid hown
                  have S46 := Lib.hid (bms_grown S45.out hg hv)
                  have L46 := Lib.hid (lies_grown L45.out hg hv)
                  clear hown hg hv
                  refine hK.out _ _ (CELLS.out _ B46.out) (fun hS46 => ?_)
                  clear hK K
                  try simp only [Act.put, List.setIfInBounds_toArray, List.set_cons_zero, List.set_cons_succ]
                  refine wpAnyH_ready (rs := [25]) (by kernel_rfl) (by simp) ?_
                  refine (AllReadyH.cons (o := ⟨some 148, _, _, _, _, _⟩) rfl (fun K hK => ?_) AllReadyH.nil)
                  · refine step_append_g (by rfl) _ _ 26 rfl w12.heap.size 32 i0 _ 5 56 Tryz.underlying26 KI.out G0.out G1.out G2.out batch_zero (by omega) (.slice A7 t c7) t (cellsBs (ms.take t)) (by rfl) V46.out w7.heap.size (some ⟨nl, 0, none⟩) 1 1 [.int .u64 ((t : Int) + 1), .int .i64 1, .slice A11 4 c11, .int .i64 2, .int .i64 0] (by rfl) L46.out.lies rfl HONE.out HU63.out HUB.out B46.out.size ?_
                    intro v8 w18 hown hg hv
                    obtain ⟨A18, c18, rfl, _, _⟩ := own_form hown
                    have B47 := Lib.hid (B46.out.grown hg B46.out.size (fun k hk => (V46.out.lt k hk).1))
                    have V47 := Lib.hid hown
                    have S47 := Lib.hid (bms_grown S46.out hg hv)
                    clear hown hg hv
                    refine hK.out _ _ (CELLS.out _ B47.out) (fun hS47 => ?_)
                    clear hK K
                    try simp only [Act.put, List.setIfInBounds_toArray, List.set_cons_zero, List.set_cons_succ]
                    refine wpAnyH_ready (rs := [26]) (by kernel_rfl) (by simp) ?_
                    refine (AllReadyH.cons (o := ⟨some 149, _, _, _, _, _⟩) rfl (fun K hK => ?_) AllReadyH.nil)
                    · go_simp
                      refine (same_last (x := ⟨⟨t + 1, 1, [109, 111, 114, 101], 2, 0⟩, A11, c11⟩) S47.out (R12.out.below (fun _ h => h) B47.out) (M12.out.below B47.out) V47.out HTLE.out rfl (by rw [HMS.out, HPRE.out]) HLE.out).mono ?_
                      rintro e w19 ⟨rfl, hbel⟩
                      have B48 := Lib.hid (B47.out.trans (hbel.mono B47.out.size))
                      clear hbel
                      go_wp2_with fail
                      refine hK.out _ _ (CELLS.out _ B48.out) (fun hS48 => ?_)
                      clear hK K
                      try simp only [Act.put, List.setIfInBounds_toArray, List.set_cons_zero, List.set_cons_succ]
                      refine wpAnyH_take (i := 27) (oi := ⟨some 150, _, _, _, _, _⟩) (v := ?_) rfl (by kernel_rfl) (by kernel_rfl) (by kernel_rfl) (fun _ _ _ h => h) (Or.inl ⟨by rfl, ?_⟩) hS48 ?_
                      rotate_left
                      · (intro wS hSw; (try dsimp only at hSw); go_simp); all_goals (with_reducible rfl)
                      try simp only [Act.put, List.setIfInBounds_toArray, List.set_cons_zero, List.set_cons_succ]
                      refine wpAnyH_take (i := 28) (oi := ⟨some 151, _, _, _, _, _⟩) (v := ?_) rfl (by kernel_rfl) (by kernel_rfl) (by kernel_rfl) (fun _ _ _ h => h) (Or.inl ⟨by rfl, ?_⟩) hS48 ?_
                      rotate_left
                      · (intro wS hSw; (try dsimp only at hSw); go_simp); all_goals (with_reducible rfl)
                      try simp only [Act.put, List.setIfInBounds_toArray, List.set_cons_zero, List.set_cons_succ]
                      refine wpAnyH_ready (rs := [29]) (by kernel_rfl) (by simp) ?_
                      refine (AllReadyH.cons (o := ⟨some 152, _, _, _, _, _⟩) rfl (fun K hK => ?_) AllReadyH.nil)
                      · go_simp
                        refine (awake8 w19).mono ?_
                        rintro e w20 ⟨rfl, hbel⟩
                        have B49 := Lib.hid (B48.out.trans (hbel.mono B48.out.size))
                        clear hbel
                        go_wp2_with fail
                        refine hK.out _ _ (CELLS.out _ B49.out) (fun hS49 => ?_)
                        clear hK K
                        try simp only [Act.put, List.setIfInBounds_toArray, List.set_cons_zero, List.set_cons_succ]
                        refine wpAnyH_take (i := 30) (oi := ⟨some 153, _, _, _, _, _⟩) (v := ?_) rfl (by kernel_rfl) (by kernel_rfl) (by kernel_rfl) (fun _ _ _ h => h) (Or.inl ⟨by rfl, ?_⟩) hS49 ?_
                        rotate_left
                        · (intro wS hSw; (try dsimp only at hSw); go_simp); all_goals (with_reducible rfl)
                        try simp only [Act.put, List.setIfInBounds_toArray, List.set_cons_zero, List.set_cons_succ]
                        refine wpAnyH_take (i := 31) (oi := ⟨some 6, _, _, _, _, _⟩) (v := ?_) rfl (by kernel_rfl) (by kernel_rfl) (by kernel_rfl) (fun _ _ _ h => h) (Or.inl ⟨by rfl, ?_⟩) hS49 ?_
                        rotate_left
                        · (intro wS hSw; (try dsimp only at hSw); go_simp); all_goals (with_reducible rfl)
                        try simp only [Act.put, List.setIfInBounds_toArray, List.set_cons_zero, List.set_cons_succ]
                        refine wpAnyH_done (by kernel_rfl) ?_ _
                        go_wp2_with fail
                        go_ret
                        exact ⟨by first | rfl | (simp; done), A12.out.bel.trans (B49.out.mono A12.out.le)⟩
end Go.Proofs.YtjmpbkgdkpkpoaaGreatDoor
