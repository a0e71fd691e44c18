/- The law on a body that comes back: its walk. -/
import Derived.Test.YtbeoepnokefdpaaContH
import Derived.Test.YtbeoepnokefdpaaLawCSizes
import Derived.Deep.DeepCutAuto
import Derived.Deep.DeepMust
namespace Go.Proofs.Ytbeoepnokefdpaa
open Go.RowKit
set_option maxRecDepth 100000
set_option linter.unusedSimpArgs false
set_option linter.unusedVariables false

/-- what stands behind j of the bodies -/
def BackI (w5 : World) (D g cc : Nat) (body : List UInt8) (vb va iv : Value) (wr : World) : Prop :=
  ∃ j A c R, j ≤ pcount body.length ∧ R = restB cc body j ∧ vb = .slice A R.length c ∧ R.length ≤ c ∧ c ≤ maxLen ∧ Lies wr g A (B8 R) ∧ iv = .int .i64 (j : Nat) ∧
    wr.ownsRow D 5 1 va (body.take (4088 * j)).length (B8 (body.take (4088 * j))) ∧ (∃ x0 x1 x2, Whole wr g 44 #[x0, x1, x2]) ∧ Below g w5 wr

set_option maxHeartbeats 4000000 in
theorem cback_any (m : Int) (t : List UInt8) (AB : Option Addr) (body : List UInt8) (cB : Nat) (x : Int) (w : World) (h255 : t.length ≤ 255) (hbn : body.length ≤ 20000) (hbl : Lies w w.heap.size AB (B8 body)) (hbc : body.length ≤ cB) (hcm : cB ≤ maxLen) :
    Calls Try.prog 5 #[.int .i64 m, .string ⟨t.toArray⟩, .slice AB body.length cB, .int .i64 x] w fun e w' => e = .returned (.bool true) ∧ Below w.heap.size w w' := by
  obtain ⟨k, hk2, hm, hm1, hm2⟩ := mod3 m
  obtain ⟨cc, hcc, _, hx⟩ := mask_is x 65535 16 (by omega) rfl
  have hcc' : cc < 65536 := hcc
  clear hcc
  have hok : headOk (k : Int) t = true := by unfold headOk; exact decide_eq_true ⟨by omega, by omega, h255⟩
  obtain ⟨H, hH⟩ : ∃ H, H = headB body.length (k : Int) t := ⟨_, rfl⟩
  have hHl : H.length ≤ 271 := by
    rw [hH, headB_length]
    split <;> split <;> omega
  have hHP : headP H = some (body.length, k, t) := by
    rw [hH]
    have h := head_back body.length (k : Int) t (by omega) hok
    rwa [Int.toNat_natCast] at h
  obtain ⟨R1, hR1⟩ : ∃ R1, R1 = restB cc body 0 := ⟨_, rfl⟩
  obtain ⟨R, hR⟩ : ∃ R, R = frameB 2 cc H ++ R1 := ⟨_, rfl⟩
  have hpc : pcount body.length ≤ 5 := by unfold pcount; omega
  have hR1l : R1.length ≤ 20480 := by rw [hR1]; have := restB_le cc body 0; omega
  have hRl : R.length = H.length + 8 + R1.length := by rw [hR, List.length_append, frameB_length]
  have hRF : frameP R = .ok 2 cc H := by rw [hR]; exact frame_back 2 cc H R1 (head_frameOk cc H hcc' (by omega))
  have hRc : (if (headOk (k : Int) t && chanOk (cc : Int)) then [] ++ contB (cc : Int).toNat (headB body.length (k : Int) t) body else []) = R := by
    have h1 : chanOk (cc : Int) = true := by unfold chanOk; exact decide_eq_true (by omega)
    rw [hok, h1, Bool.true_and, if_pos rfl, List.nil_append, Int.toNat_natCast, contB_eq, hR, hR1, ← hH]
  have hrr : (headOk (k : Int) t && chanOk (cc : Int)) = true := by
    have h1 : chanOk (cc : Int) = true := by unfold chanOk; exact decide_eq_true (by omega)
    rw [hok, h1]; rfl
  rw [hrr] at hRc
  have kw := u64_nat body.length (by omega)
  have hdiv : ((body.length : Int) + 4087).tdiv 4088 = (pcount body.length : Int) := by
    rw [Int.tdiv_eq_ediv_of_nonneg (by omega)]
    unfold pcount
    omega
  have HRC := Lib.hid hRc
  have HRR := Lib.hid hrr
  have HRF := Lib.hid hRF
  have HR := Lib.hid hR
  have HR1 := Lib.hid hR1
  have HRL := Lib.hid hRl
  have HHP := Lib.hid hHP
  have HBL := Lib.hid hbl
  have HPC := Lib.hid hpc
  have hR30 : R.length ≤ 30000 := by omega
  clear hok hH hHP hR1 hR hRl hRF hRc hrr hbl hpc
  obtain ⟨W, hW⟩ : ∃ W, W = w.alloc (.cells #[.int .u64 0, .int .i64 k, .string ⟨t.toArray⟩] 25) := ⟨_, rfl⟩
  have hb : Below w.heap.size w W := by rw [hW]; exact (Below.refl _ _).alloc (Nat.le_refl _) _
  have hz : W.heap.size = w.heap.size + 1 := by rw [hW]; simp
  have K0 : Hid (Whole W w.heap.size 25 #[.int .u64 0, .int .i64 k, .string ⟨t.toArray⟩]) := Lib.hid (by rw [hW]; exact Whole.new _ _ _)
  have B0 := Lib.hid hb
  have Z0 := Lib.hid hz
  have HW := Lib.hid hW
  clear hb hz hW
  go_enter Try.func5, Try.ntmps5
  go_wp2_with fail
  rw [← HW.out]
  refine (cframes_at none 0 0 [] w.heap.size (cc : Int) 0 (k : Int) t AB body.length body cB _ true R rfl rfl (Lies.empty _ _ _) (by rw [Z0.out]; omega) (by simp) (by unfold maxLen; omega) (HBL.out.below B0.out) hbn hbc hcm HRR.out HRC.out).mono ?_
  rintro e w1 ⟨v1, rfl, ho, hb⟩
  obtain ⟨A1, c1, rfl, hc1, hm1'⟩ := own_form ho
  have L1 := Lib.hid (Lies.own ho (Nat.le_refl _))
  have K1 := Lib.hid (K0.out.below hb (by rw [Z0.out]; omega))
  have B1 := Lib.hid (B0.out.trans (hb.mono (by rw [Z0.out]; omega)))
  have z1 := B1.out.size
  clear ho hb
  go_wp2_with fail
  refine (fparse_ok A1 c1 R.length R _ _ 2 cc H H.length rfl L1.out (Nat.le_refl _) hc1 hm1' HRF.out rfl).mono ?_
  rintro e w2 ⟨A2, c2, rfl, hc2, hm2', hl2, hb⟩
  obtain ⟨g, hg⟩ : ∃ g, g = w2.heap.size := ⟨_, rfl⟩
  obtain ⟨w3, hw3⟩ : ∃ w3, w3 = w2.alloc (.cells #[.int .i64 2, .int .i64 cc, .slice A2 H.length c2] 44) := ⟨_, rfl⟩
  have hb3 : Below w1.heap.size w1 w3 := by rw [hw3]; exact hb.alloc hb.size _
  have hz3 : w3.heap.size = g + 1 := by rw [hw3, hg]; simp
  have hk3 : Whole w3 g 44 #[.int .i64 2, .int .i64 cc, .slice A2 H.length c2] := by rw [hw3, hg]; exact Whole.new _ _ _
  have hl3 : Lies w3 g A2 (B8 H) := by rw [hw3, hg]; exact hl2.alloc (Nat.le_refl _) _
  have hg1 : w1.heap.size ≤ g := by rw [hg]; exact hb.size
  have L3 := Lib.hid hl3
  have F3 := Lib.hid hk3
  have Z3 := Lib.hid hz3
  have R3 := Lib.hid ((L1.out.below hb3).more hg1)
  have K3 := Lib.hid (K1.out.below hb3 K1.out.lt)
  have B3 := Lib.hid (B1.out.trans (hb3.mono z1))
  have HW3 := Lib.hid hw3
  have HG := Lib.hid hg
  have p0 : w3.cell? ⟨g, 0, none⟩ = some (.int .i64 2) := hk3.cell 0
  have p1 : w3.cell? ⟨g, 1, none⟩ = some (.int .i64 cc) := hk3.cell 1
  have p2 : w3.cell? ⟨g, 2, none⟩ = some (.slice A2 H.length c2) := hk3.cell 2
  have hRi : (H.length : Int) + 8 ≤ (R.length : Int) := by have := HRL.out; omega
  have hR8 : H.length + 8 ≤ R.length := by have := HRL.out; omega
  clear hl2 hb hw3 hb3 hz3 hk3 hl3
  go_upto_region 9 with fail
  rw [← HW3.out, ← HG.out]
  clear hg
  go_wp2_with fail
  refine (cparse_yes A2 c2 H.length H g _ body.length k t rfl L3.out (by rw [Z3.out]; omega) (by omega) HHP.out).mono ?_
  rintro e w4 ⟨rfl, hb⟩
  have z4 := hb.size
  obtain ⟨w5, hw5⟩ : ∃ w5, w5 = w4.alloc (.cells #[.int .u64 body.length, .int .i64 k, .string ⟨t.toArray⟩] 25) := ⟨_, rfl⟩
  have hb5 : Below w3.heap.size w3 w5 := by rw [hw5]; exact hb.alloc hb.size _
  have K5 : Hid (Whole w5 w4.heap.size 25 #[.int .u64 body.length, .int .i64 k, .string ⟨t.toArray⟩]) := Lib.hid (by rw [hw5]; exact Whole.new _ _ _)
  have F5 := Lib.hid (F3.out.below hb5 F3.out.lt)
  have R5 := Lib.hid (R3.out.below (hb5.mono (by rw [Z3.out]; omega)))
  have H5 := Lib.hid (K3.out.below hb5 K3.out.lt)
  have B5 := Lib.hid (B3.out.trans (hb5.mono B3.out.size))
  have HW5 := Lib.hid hw5
  have z5 : g + 1 ≤ w5.heap.size := by have := hb5.size; have := Z3.out; omega
  have q0 : w5.cell? ⟨w4.heap.size, 0, none⟩ = some (.int .u64 body.length) := K5.out.cell 0
  have q1 : w5.cell? ⟨w4.heap.size, 1, none⟩ = some (.int .i64 k) := K5.out.cell 1
  have q2 : w5.cell? ⟨w4.heap.size, 2, none⟩ = some (.string ⟨t.toArray⟩) := K5.out.cell 2
  have s1 : w5.cell? ⟨w.heap.size, 1, none⟩ = some (.int .i64 k) := H5.out.cell 1
  rw [hw5] at q0 q1 q2 s1
  clear hb hb5 hw5 p0 p1 p2
  go_upto_region 14 with fail
  rw [← HW5.out]
  go_cut [10] (fun s10 wx => (∃ A c, s10 = .slice A R1.length c ∧ R1.length ≤ c ∧ c ≤ maxLen ∧ Lies w5 g A (B8 R1)) ∧ wx = w5)
  case first =>
    have D : Hid (∀ (A' : Option Addr) (m k : Nat), A' = (if c1 = H.length + 8 then A1 else A1.map (·.add (H.length + 8))) → m = R1.length → k = c1 - (H.length + 8) → ∃ A c, Value.slice A' m k = .slice A R1.length c ∧ R1.length ≤ c ∧ c ≤ maxLen ∧ Lies w5 g A (B8 R1)) := Lib.hid (by
      rintro A' m k hA rfl rfl
      have h := R5.out.drop (H.length + 8) c1 (by rw [B8_length]; exact hR8) (by rw [B8_length]; exact hc1)
      rw [B8, ← List.map_drop, show R.drop (H.length + 8) = R1 from by rw [HR.out, List.drop_left' (frameB_length 2 cc H)], ← hA] at h
      exact ⟨A', _, rfl, by have := HRL.out; omega, by unfold maxLen at *; omega, h⟩)
    have hRm : R.length - (H.length + 8) = R1.length := by have := HRL.out; omega
    have hcR : H.length + 8 ≤ c1 := by omega
    unfold maxLen at hm1'
    by_cases hcn : c1 = H.length + 8
    · have DD := Lib.hid (D.out A1 R1.length 0 (by rw [if_pos hcn]) rfl (by omega))
      subst hcn
      go_wp2_with fail
      go_meet
      exact ⟨DD.out, rfl⟩
    · have DD := Lib.hid (D.out _ (R.length - (H.length + 8)) (c1 - (H.length + 8)) (by rw [if_neg hcn]) hRm rfl)
      go_wp2_with fail
      go_meet
      exact ⟨DD.out, rfl⟩
  case rest =>
    obtain ⟨⟨A3, c3, rfl, hc3, hm3, hl3⟩, hwc⟩ := hcut
    subst hwc
    have M3 := Lib.hid hl3
    clear hl3
    obtain ⟨D, hD⟩ : ∃ D, D = wc.heap.size := ⟨_, rfl⟩
    have hgD : g + 1 ≤ D := by rw [hD]; exact z5
    have EN := Lib.hid hD
    clear hD q0 q1 q2 s1
    go_wp2_with fail
    go_loopw [10, 17, 18] (fun vb va iv wr => BackI wc D g cc body vb va iv wr) (fun _ _ i _ => 10 - (intOf i).toNat)
    case atStart =>
      exact ⟨0, A3, c3, R1, Nat.zero_le _, HR1.out, rfl, hc3, hm3, M3.out, rfl, by simpa [B8] using World.ownsRow_nil _ _ _ _, ⟨_, _, _, F5.out⟩, Below.refl _ _⟩
    case round =>
      obtain ⟨j, A, c, Rj, hj, hRj, rfl, hcj, hmj, hlj, rfl, hoj, ⟨x0, x1, x2, hxj⟩, hbj⟩ := hrel
      have LJ := Lib.hid hlj
      have OJ := Lib.hid hoj
      have XJ := Lib.hid hxj
      have BJ := Lib.hid hbj
      have ERJ := Lib.hid hRj
      have hDr : D ≤ wr.heap.size := by have := hbj.size; rw [EN.out]; exact this
      have hRjl : Rj.length ≤ 20480 := by rw [hRj]; have := restB_le cc body j; have := HPC.out; omega
      clear hlj hoj hxj hbj hRj
      by_cases hlt : j < pcount body.length
      · obtain ⟨P, hP⟩ : ∃ P, P = part body j := ⟨_, rfl⟩
        obtain ⟨R', hR'⟩ : ∃ R', R' = restB cc body (j + 1) := ⟨_, rfl⟩
        have hE : Rj = frameB 3 cc P ++ R' := by rw [ERJ.out, restB_step cc body j hlt, hP, hR']
        have hPl : P.length ≤ 4088 := by rw [hP]; exact part_le body j
        have hP0 : 0 < P.length := by rw [hP]; exact part_pos body j hlt
        have hPP : frameP Rj = .ok 3 cc P := by rw [hE]; exact frame_back 3 cc P R' (by rw [hP]; exact part_frameOk cc body j hcc')
        have hlen : Rj.length = P.length + 8 + R'.length := by rw [hE, List.length_append, frameB_length]
        obtain ⟨T, hT⟩ : ∃ T, T = body.take (4088 * j) := ⟨_, rfl⟩
        have hT2 : body.take (4088 * (j + 1)) = T ++ P := by rw [hT, hP, take_part]
        have hTl : T.length ≤ 20000 := by rw [hT, List.length_take]; omega
        have hoj := OJ.out
        rw [← hT] at hoj
        have OJT := Lib.hid hoj
        have HPP := Lib.hid hPP
        have HLEN := Lib.hid hlen
        have HT2 := Lib.hid hT2
        have HR' := Lib.hid hR'
        have HE := Lib.hid hE
        have hj10 : (j : Int) < 10 := by have := HPC.out; omega
        have hRi0 : (0 : Int) < (Rj.length : Int) := by omega
        have g1 : (P.length : Int) + 8 ≤ (Rj.length : Int) := by omega
        have g2 : P.length + 8 ≤ Rj.length := by omega
        have g3 : ((P.length : Int) == 0) = false := beq_false_of_ne (by omega)
        have g4 : ¬ ((P.length : Int) + 8 ≤ 0) := by omega
        obtain ⟨i0, hi', hz0', hz1', hz2'⟩ := info_parts u8_info
        have HI := Lib.hid hi'
        have U0 := Lib.hid hz0'
        have U1 := Lib.hid hz1'
        have U2 := Lib.hid hz2'
        have hroom : T.length + P.length ≤ 140737488355328 := by omega
        have HRoom := Lib.hid hroom
        clear hP hR' hE hPP hlen hT hT2 hoj hi' hz0' hz1' hz2' hroom
        go_wp2_with fail
        refine (fparse_own A c Rj.length Rj g _ 3 cc P P.length rfl LJ.out (by omega) hcj hmj HPP.out rfl).mono ?_
        rintro e w7 ⟨A7, c7, rfl, hc7, hm7, ho7, hb7⟩
        have z7 := hb7.size
        have X7 := Lib.hid (XJ.out.below hb7 XJ.out.lt)
        have t0 : w7.cell? ⟨g, 0, none⟩ = some x0 := X7.out.cell 0
        have t1 : w7.cell? ⟨g, 1, none⟩ = some x1 := X7.out.cell 1
        have t2 : w7.cell? ⟨g, 2, none⟩ = some x2 := X7.out.cell 2
        have f0 : w7.frozen? ⟨g, 0, none⟩ = false := X7.out.frozen 0
        have f1 : w7.frozen? ⟨g, 1, none⟩ = false := X7.out.frozen 1
        have f2 : w7.frozen? ⟨g, 2, none⟩ = false := X7.out.frozen 2
        obtain ⟨w8, hw8⟩ : ∃ w8, w8 = ((w7.setCell ⟨g, 0, none⟩ (.int .i64 3)).setCell ⟨g, 1, none⟩ (.int .i64 cc)).setCell ⟨g, 2, none⟩ (.slice A7 P.length c7) := ⟨_, rfl⟩
        obtain ⟨h8a, h8b, h8c⟩ := three_is X7.out (.int .i64 3) (.int .i64 cc) (.slice A7 P.length c7)
        rw [← hw8] at h8a h8b h8c
        have X8 := Lib.hid h8a
        have B8' := Lib.hid (BJ.out.trans ((hb7.mono (by omega)).trans h8b))
        have z8 := h8b.size
        have L8 : Hid (Lies w8 w8.heap.size A7 (B8 P)) := Lib.hid (Lies.own (own_keep ho7 h8c (by omega)) (Nat.le_refl _))
        have O8 := Lib.hid (own_keep (OJT.out.kept (only_below hb7 none) (by cases hv : u17.ownBlock <;> simp)) h8c (by omega))
        have LR8 := Lib.hid (LJ.out.below ((hb7.mono (by omega)).trans h8b))
        have HW8 := Lib.hid hw8
        have y0 : w8.cell? ⟨g, 0, none⟩ = some (.int .i64 3) := h8a.cell 0
        have y1 : w8.cell? ⟨g, 1, none⟩ = some (.int .i64 cc) := h8a.cell 1
        have y2 : w8.cell? ⟨g, 2, none⟩ = some (.slice A7 P.length c7) := h8a.cell 2
        have HY0 := Lib.hid y0
        have HY1 := Lib.hid y1
        have HY2 := Lib.hid y2
        have hP88 : (P.length : Int) ≤ 9223372036854775807 := by omega
        clear ho7 hb7 h8a h8b h8c hw8 y0 y1 y2
        go_upto_region 19 with fail
        rw [show ((w7.setCell ⟨g, 0, none⟩ (.int .i64 3)).setCell ⟨g, 1, none⟩ (.int .i64 cc)).setCell ⟨g, 2, none⟩ (.slice A7 P.length c7) = w8 from HW8.out.symm]
        clear t0 t1 t2 f0 f1 f2
        have y0 := HY0.out
        have y1 := HY1.out
        have y2 := HY2.out
        go_upto_region 22 with (at_builtin; refine wpList_append_cells rfl _ _ 26 rfl D 5 i0 (.int .u8 0) 1 1 Try.underlying26 HI.out U0.out U1.out U2.out rfl (by omega) _ T.length _ rfl O8.out w8.heap.size A7 P.length c7 (B8 P) rfl L8.out (B8_len1 P) (B8_one P) (room63 HRoom.out) (room1 HRoom.out) (by omega) ?_; intro v9 w9 hown9 hb9; rw [← B8_append, ← List.length_append, ← HT2.out] at hown9; have O9 := Lib.hid hown9; have B9 := Lib.hid hb9; clear hown9 hb9)
        have X9 := Lib.hid (X8.out.below B9.out (by omega))
        have BB9 := Lib.hid (B8'.out.trans (B9.out.mono (by omega)))
        have LR9 := Lib.hid (LR8.out.below (B9.out.mono (by omega)))
        have DQ : Hid (∀ (A' : Option Addr) (m k : Nat), A' = (if c = P.length + 8 then A else A.map (·.add (P.length + 8))) → m = R'.length → k = c - (P.length + 8) → BackI wc D g cc body (.slice A' m k) v9 (.int .i64 ((j : Int) + 1)) w9) := Lib.hid (by
          rintro A' m k hA rfl rfl
          have h := LR9.out.drop (P.length + 8) c (by rw [B8_length]; exact g2) (by rw [B8_length]; exact hcj)
          rw [B8, ← List.map_drop, show Rj.drop (P.length + 8) = R' from by rw [HE.out, List.drop_left' (frameB_length 3 cc P)], ← hA] at h
          exact ⟨j + 1, A', _, R', by omega, HR'.out, rfl, by have := HLEN.out; omega, by unfold maxLen at *; omega, h, by go_num, O9.out, ⟨_, _, _, X9.out⟩, BB9.out⟩)
        have HRm : Hid (Rj.length - (P.length + 8) = R'.length) := Lib.hid (by have := HLEN.out; omega)
        have hcR : P.length + 8 ≤ c := by omega
        unfold maxLen at hmj
        clear y0 y1 y2 g3 g4
        by_cases hcn : c = P.length + 8
        · have DD := Lib.hid (DQ.out A (Rj.length - (P.length + 8)) (c - (P.length + 8)) (by rw [if_pos hcn]) HRm.out rfl)
          subst hcn
          go_wp2_with fail
          go_roundw
          case rel => exact DD.out
          case measure => simp [intOf]; omega
        · have DD := Lib.hid (DQ.out _ (Rj.length - (P.length + 8)) (c - (P.length + 8)) (by rw [if_neg hcn]) HRm.out rfl)
          go_wp2_with fail
          go_roundw
          case rel => exact DD.out
          case measure => simp [intOf]; omega
      · obtain rfl : j = pcount body.length := by omega
        have hR0 : Rj = [] := by rw [ERJ.out, restB_end]
        subst hR0
        have hoj := OJ.out
        rw [take_all] at hoj
        obtain ⟨A0, c0, rfl, _, _⟩ := own_form hoj
        have BW := Lib.hid (B5.out.trans (BJ.out.mono (by have := K1.out.lt; omega)))
        have cv1 := run_octets_string (P := Try.prog) 26 9 5 Try.underlying26 Try.underlying5 Try.underlying9 (Lies.own hoj (Nat.le_refl _)) c0
        have cv2 := run_octets_string (P := Try.prog) 26 9 5 Try.underlying26 Try.underlying5 Try.underlying9 (HBL.out.below BW.out) cB
        obtain ⟨N, hN⟩ : ∃ N, N = pcount body.length := ⟨_, rfl⟩
        rw [← hN] at hdiv ⊢
        have hN5 : N ≤ 5 := by rw [hN]; exact HPC.out
        clear hoj hlt hj hN HRR HRF HR HR1 HRL HHP HRC LJ ERJ hRjl hR1l hR30 hRi hR8 OJ
        go_wp2_with fail
        refine (awake5_any _).mono ?_
        rintro e w9 ⟨rfl, hb9⟩
        have C9 := Lib.hid (BW.out.trans (hb9.mono BW.out.size))
        clear hb9
        go_wp2_with fail
        go_ret
        exact ⟨rfl, C9.out⟩
theorem cback_all (m : Int) (s : ByteArray) (AB : Option Addr) (body : List UInt8) (cB : Nat) (x : Int) (w : World) (hs : s.size ≤ maxLen) (hbc : body.length ≤ cB) (hcm : cB ≤ maxLen) (hbl : Lies w w.heap.size AB (B8 body)) :
    Calls Try.prog 5 #[.int .i64 m, .string s, .slice AB body.length cB, .int .i64 x] w fun e w' => e = .returned (.bool true) ∧ Below w.heap.size w w' := by
  have e : s.data.toList.length = s.size := by rw [Array.length_toList]; rfl
  by_cases h : s.size ≤ 255 ∧ body.length ≤ 20000
  · exact cback_any m s.data.toList AB body cB x w (by rw [e]; exact h.1) h.2 hbl hbc hcm
  · have hc : ((255 : Int) < (s.size : Int)) ∨ ((s.size : Int) ≤ 255 ∧ (20000 : Int) < (body.length : Int)) := by omega
    have hb0 : (body.length : Int) ≤ 9223372036854775807 := by unfold maxLen at hcm; omega
    unfold maxLen at hs hcm
    clear h hbl e
    rcases hc with hc | ⟨hc, hc2⟩
    all_goals
      go_enter Try.func5, Try.ntmps5
      go_wp2_with fail
      refine (awake5_any _).mono ?_
      rintro e w5 ⟨rfl, hb5⟩
      have C6 := Lib.hid hb5
      clear hb5
      go_wp2_with fail
      go_ret
      exact ⟨rfl, C6.out⟩
end Go.Proofs.Ytbeoepnokefdpaa
