/- Contracts of package cont: Parse. -/
import Derived.Test.YtfajkbegmmlmjaaContA
namespace Go.Proofs.Ytfajkbegmmlmjaa
open Go.RowKit
set_option maxRecDepth 100000
set_option linter.unusedSimpArgs false

/-- what Parse tells -/
def HeadIs (r : Option (Nat × Nat × List UInt8)) (w : World) (e : Ending) (w' : World) : Prop :=
  Below w.heap.size w w' ∧ match r with
  | none => e = .returned (.tuple #[.agg #[.int .u64 0, .int .i64 0, .string ⟨#[]⟩], .int .i64 4])
  | some (s, m, t) => e = .returned (.tuple #[.agg #[.int .u64 s, .int .i64 m, .string ⟨t.toArray⟩], .int .i64 0])
theorem HeadIs.no {r : Option (Nat × Nat × List UInt8)} {w w' : World} (h : r = none) (hb : Below w.heap.size w w') : HeadIs r w (.returned (.tuple #[.agg #[.int .u64 0, .int .i64 0, .string ⟨#[]⟩], .int .i64 4])) w' := by
  subst h; exact ⟨hb, rfl⟩
theorem HeadIs.yes {r : Option (Nat × Nat × List UInt8)} {w w' : World} {s m : Nat} {t : List UInt8} (h : r = some (s, m, t)) (hb : Below w.heap.size w w') : HeadIs r w (.returned (.tuple #[.agg #[.int .u64 s, .int .i64 m, .string ⟨t.toArray⟩], .int .i64 0])) w' := by
  subst h; exact ⟨hb, rfl⟩
theorem and_pow (f k : Nat) : f &&& 2 ^ k = if f / 2 ^ k % 2 = 1 then 2 ^ k else 0 := by
  apply Nat.eq_of_testBit_eq
  intro i
  have ht : f.testBit k = decide (f / 2 ^ k % 2 = 1) := Nat.testBit_eq_decide_div_mod_eq
  rw [Nat.testBit_and, Nat.testBit_two_pow]
  by_cases hi : k = i
  · subst hi
    rw [ht]
    by_cases hb : f / 2 ^ k % 2 = 1
    · rw [if_pos hb, decide_eq_true hb, Nat.testBit_two_pow]; simp
    · rw [if_neg hb, decide_eq_false hb]; simp
  · rw [decide_eq_false hi, Bool.and_false]
    by_cases hb : f / 2 ^ k % 2 = 1
    · rw [if_pos hb, Nat.testBit_two_pow, decide_eq_false hi]
    · rw [if_neg hb, Nat.zero_testBit]
theorem bit15 (f : Nat) (h : f < 65536) : bits .and .u64 (f : Int) 32768 = if f / 32768 % 2 = 1 then 32768 else 0 := by
  have h1 : bits .and .u64 (f : Int) 32768 = ((f &&& 32768 : Nat) : Int) := u64_and_nat f 32768 (by omega) (by omega)
  have h2 : f &&& 32768 = if f / 32768 % 2 = 1 then 32768 else 0 := and_pow f 15
  rw [h1, h2]
  split <;> rfl
theorem bit12 (f : Nat) (h : f < 65536) : bits .and .u64 (f : Int) 4096 = if f / 4096 % 2 = 1 then 4096 else 0 := by
  have h1 : bits .and .u64 (f : Int) 4096 = ((f &&& 4096 : Nat) : Int) := u64_and_nat f 4096 (by omega) (by omega)
  have h2 : f &&& 4096 = if f / 4096 % 2 = 1 then 4096 else 0 := and_pow f 12
  rw [h1, h2]
  split <;> rfl

/-- what stands while a head is read: the reader in block g, the head so far in block F -/
structure CAt (w wx : World) (g F s m : Nat) (t R : List UInt8) (bad : Bool) : Prop where
  lo : w.heap.size < g
  gF : g < F
  inn : InAt wx g R bad
  hd : Whole wx F 25 #[.int .u64 s, .int .i64 m, .string ⟨t.toArray⟩]
  zr : Whole wx w.heap.size 25 #[.int .u64 0, .int .i64 0, .string ⟨#[]⟩]
  bel : Below w.heap.size w wx
section
variable {w wx w' : World} {g F s m : Nat} {t R R' : List UInt8} {bad bad' : Bool}
theorem CAt.read (h : CAt w wx g F s m t R bad) (hg : wx.grownBy w' (some g)) (hi : InAt w' g R' bad') : CAt w w' g F s m t R' bad' :=
  ⟨h.lo, h.gF, hi, h.hd.grown hg (by intro e; injection e with e; have := h.gF; omega), h.zr.grown hg (by intro e; injection e with e; have := h.lo; omega), h.bel.trans (below_only hg (Nat.le_of_lt h.lo) h.bel.size)⟩
theorem CAt.set (h : CAt w wx g F s m t R bad) (i : Nat) (u : Value) (m' : Nat) (t' : List UInt8) (he : (#[Value.int .u64 s, .int .i64 m, .string ⟨t.toArray⟩] : Array Value).setIfInBounds i u = #[.int .u64 s, .int .i64 m', .string ⟨t'.toArray⟩]) : CAt w (wx.setCell ⟨F, i, none⟩ u) g F s m' t' R bad := by
  have hlo := h.lo
  have hgF := h.gF
  refine ⟨h.lo, h.gF, h.inn.below (B := F) ((Below.refl F wx).setCell (p := ⟨F, i, none⟩) (Nat.le_refl _) u) h.gF, ?_, ?_, h.bel.setCell (p := ⟨F, i, none⟩) (by show w.heap.size ≤ F; omega) u⟩
  · have h1 := h.hd.put i u
    rw [he] at h1
    exact h1
  · exact h.zr.below (B := F) ((Below.refl F wx).setCell (p := ⟨F, i, none⟩) (Nat.le_refl _) u) (by omega)
theorem CAt.ended (h : CAt w wx g F s m t R bad) (v0 v1 v2 : Value) : Whole (((wx.setCell ⟨w.heap.size, 0, none⟩ v0).setCell ⟨w.heap.size, 1, none⟩ v1).setCell ⟨w.heap.size, 2, none⟩ v2) w.heap.size 25 #[v0, v1, v2] ∧
    Below w.heap.size w (((wx.setCell ⟨w.heap.size, 0, none⟩ v0).setCell ⟨w.heap.size, 1, none⟩ v1).setCell ⟨w.heap.size, 2, none⟩ v2) :=
  ⟨((h.zr.put 0 v0).put 1 v1).put 2 v2, ((h.bel.setCell (p := ⟨w.heap.size, 0, none⟩) (Nat.le_refl _) v0).setCell (p := ⟨w.heap.size, 1, none⟩) (Nat.le_refl _) v1).setCell (p := ⟨w.heap.size, 2, none⟩) (Nat.le_refl _) v2⟩
end

set_option maxHeartbeats 1000000 in
theorem cparse_any (A : Option Addr) (c n : Nat) (b : List UInt8) (B : Nat) (w : World) (hn : n = b.length) (hl : Lies w B A (B8 b)) (hB : B ≤ w.heap.size) (hs : b.length ≤ 140737488355328) :
    Calls Try.prog 9 #[.slice A n c] w (HeadIs (headP b) w) := by
  subst hn
  obtain ⟨P, hP⟩ : ∃ P, P = headP b := ⟨_, rfl⟩
  rw [← hP]
  obtain ⟨k, hk⟩ : ∃ k, k = nat (tk 4 b) := ⟨_, rfl⟩
  obtain ⟨s, hs8⟩ : ∃ s, s = hS b := ⟨_, rfl⟩
  obtain ⟨f, hf⟩ : ∃ f, f = hF b := ⟨_, rfl⟩
  obtain ⟨R, hR⟩ : ∃ R, R = hR3 b := ⟨_, rfl⟩
  obtain ⟨bd, hbd⟩ : ∃ bd, bd = hBad3 b := ⟨_, rfl⟩
  have hPQ : P = headQ k s f R bd := by rw [hP, hk, hs8, hf, hR, hbd]; rfl
  have hfl : f < 65536 := by rw [hf]; exact hF_lt b
  have hRl : R.length ≤ b.length := by rw [hR]; exact Nat.le_trans (rst_sub _ _) (Nat.le_trans (rst_sub _ _) (rst_sub _ _))
  have b15 := bit15 f hfl
  have b12 := bit12 f hfl
  have HP := Lib.hid hPQ
  have HK := Lib.hid hk
  have HS8 : Hid (s = nat (tk 8 (rst 4 b))) := Lib.hid hs8
  have HFF : Hid (f = nat (tk 2 (rst 8 (rst 4 b)))) := Lib.hid hf
  have HR : Hid (R = rst 2 (rst 8 (rst 4 b))) := Lib.hid hR
  have HBD : Hid (bd = (short 4 b || short 8 (rst 4 b) || short 2 (rst 8 (rst 4 b)))) := Lib.hid hbd
  have B15 := Lib.hid b15
  have B12 := Lib.hid b12
  obtain ⟨w0, hw0⟩ : ∃ w0, w0 = w.alloc (.cells #[.int .u64 0, .int .i64 0, .string ⟨#[]⟩] 25) := ⟨_, rfl⟩
  have hb0 : Below w.heap.size w w0 := by rw [hw0]; exact (Below.refl _ _).alloc (Nat.le_refl _) _
  have hs0 : w0.heap.size = w.heap.size + 1 := by rw [hw0]; simp
  have hk0 : Whole w0 w.heap.size 25 #[.int .u64 0, .int .i64 0, .string ⟨#[]⟩] := by rw [hw0]; exact Whole.new _ _ _
  have HW0 := Lib.hid hw0
  have HB0 := Lib.hid hb0
  have HS0 := Lib.hid hs0
  have HK0 := Lib.hid hk0
  have HL := Lib.hid hl
  clear hP hk hs8 hf hR hbd hPQ b15 b12 hl hw0 hb0 hs0 hk0
  go_enter Try.func9, Try.ntmps9
  go_wp2_with fail
  rw [← HW0.out]
  refine (from_any A c b B w0 (HL.out.below (HB0.out.mono hB)) (by have := HS0.out; omega) hs).mono ?_
  rintro e w1 ⟨g, hg, rfl, hi, hb⟩
  have hg0 : w.heap.size < g := by have := HS0.out; omega
  have I1 := Lib.hid hi
  have B1 := Lib.hid (HB0.out.trans (hb.mono (by have := HS0.out; omega)))
  have Z1 := Lib.hid (HK0.out.below hb HK0.out.lt)
  clear hi hb hg
  go_wp2_with fail
  refine (in_int g 4 b false _ I1.out).mono ?_
  rintro e w2 ⟨rfl, hi, hb⟩
  rw [show wid 4 = 4 from rfl] at hi ⊢
  rw [← HK.out]
  have I2 := Lib.hid hi
  have B2 := Lib.hid (B1.out.trans (below_only hb (Nat.le_of_lt hg0) B1.out.size))
  have Z2 := Lib.hid (Z1.out.grown hb (by intro e; injection e with e; omega))
  clear hi hb
  go_wp2_with fail
  refine (in_int g 8 _ _ _ I2.out).mono ?_
  rintro e w3 ⟨rfl, hi, hb⟩
  rw [show wid 8 = 8 from rfl] at hi ⊢
  rw [← HS8.out]
  have I3 := Lib.hid hi
  have B3 := Lib.hid (B2.out.trans (below_only hb (Nat.le_of_lt hg0) B2.out.size))
  have Z3 := Lib.hid (Z2.out.grown hb (by intro e; injection e with e; omega))
  clear hi hb
  obtain ⟨F, hF'⟩ : ∃ F, F = w3.heap.size := ⟨_, rfl⟩
  obtain ⟨w4, hw4⟩ : ∃ w4, w4 = w3.alloc (.cells #[.int .u64 s, .int .i64 0, .string ⟨#[]⟩] 25) := ⟨_, rfl⟩
  have c4 : Hid (CAt w w4 g F s 0 [] (rst 8 (rst 4 b)) (false || short 4 b || short 8 (rst 4 b))) := by
    refine Lib.hid ?_
    have hlt := I3.out.lt
    subst hF'
    subst hw4
    exact ⟨hg0, hlt, I3.out.below ((Below.refl _ w3).alloc (Nat.le_refl _) _) hlt, Whole.new _ _ _, Z3.out.alloc _, B3.out.alloc B3.out.size _⟩
  have HF' := Lib.hid hF'
  have HW4 := Lib.hid hw4
  clear hF' hw4
  go_wp2_with fail
  rw [← HW4.out, ← HF'.out]
  refine (in_int g 2 _ _ _ c4.out.inn).mono ?_
  rintro e w5 ⟨rfl, hi, hb⟩
  rw [show wid 2 = 2 from rfl] at hi ⊢
  rw [← HFF.out]
  rw [← HR.out] at hi
  have c5 : Hid (CAt w w5 g F s 0 [] R bd) := by
    refine Lib.hid ?_
    rw [show bd = (false || short 4 b || short 8 (rst 4 b) || short 2 (rst 8 (rst 4 b))) from by rw [HBD.out, Bool.false_or]]
    exact c4.out.read hb hi
  clear hi hb
  obtain ⟨T, hT'⟩ : ∃ T, T = hT f R := ⟨_, rfl⟩
  obtain ⟨R4, hR4'⟩ : ∃ R4, R4 = hR4 f R := ⟨_, rfl⟩
  obtain ⟨bd4, hbd4⟩ : ∃ bd4, bd4 = hBad4 f R bd := ⟨_, rfl⟩
  have ET := Lib.hid hT'
  have ER4 := Lib.hid hR4'
  have EB4 := Lib.hid hbd4
  clear hT' hR4' hbd4
  go_upto_if 20 with fail
  go_cut [] (fun wx => CAt w wx g F s 0 T R4 bd4)
  case first =>
    by_cases h : f / 32768 % 2 = 1
    · have hb15 : bits .and .u64 (f : Int) 32768 = 32768 := by rw [B15.out, if_pos h]
      have t1 : Hid (T = txt 1 R) := Lib.hid (by rw [ET.out]; unfold hT; rw [if_pos h])
      have t2 : Hid (R4 = txtRest 1 R) := Lib.hid (by rw [ER4.out]; unfold hR4; rw [if_pos h])
      have t3 : Hid (bd4 = (bd || txtShort 1 R)) := Lib.hid (by rw [EB4.out]; unfold hBad4; rw [if_pos h])
      clear h
      go_wp2_with fail
      refine (in_short g R bd _ c5.out.inn).mono ?_
      rintro e w6 ⟨rfl, hi, hb⟩
      rw [← t1.out]
      rw [← t2.out, ← t3.out] at hi
      have c6 := Lib.hid (c5.out.read hb hi)
      have f2 : w6.frozen? ⟨F, 2, none⟩ = false := c6.out.hd.frozen 2
      have q2 : w6.cell? ⟨F, 2, none⟩ = some (.string ⟨#[]⟩) := c6.out.hd.cell 2
      have D := Lib.hid (c6.out.set 2 (.string ⟨T.toArray⟩) 0 T rfl)
      clear hi hb
      go_wp2_with fail
      go_meet
      exact D.out
    · have hb15 : bits .and .u64 (f : Int) 32768 = 0 := by rw [B15.out, if_neg h]
      have t1 : Hid (T = []) := Lib.hid (by rw [ET.out]; unfold hT; rw [if_neg h])
      have t2 : Hid (R4 = R) := Lib.hid (by rw [ER4.out]; unfold hR4; rw [if_neg h])
      have t3 : Hid (bd4 = bd) := Lib.hid (by rw [EB4.out]; unfold hBad4; rw [if_neg h])
      clear h
      go_wp2_with fail
      go_meet
      rw [t1.out, t2.out, t3.out]
      exact c5.out
  case rest =>
    obtain ⟨w6, hw6⟩ : ∃ w6 : World, w6 = wc := ⟨_, rfl⟩
    subst hw6
    have c6 := Lib.hid hcut
    clear hcut
    obtain ⟨m, hm⟩ : ∃ m, m = hM f R4 := ⟨_, rfl⟩
    obtain ⟨R5, hR5'⟩ : ∃ R5, R5 = hR5 f R4 := ⟨_, rfl⟩
    obtain ⟨bd5, hbd5⟩ : ∃ bd5, bd5 = hBad5 f R4 bd4 := ⟨_, rfl⟩
    have hm256 : m < 256 := by rw [hm]; exact hM_lt _ _
    have EM := Lib.hid hm
    have ER5 := Lib.hid hR5'
    have EB5 := Lib.hid hbd5
    clear hm hR5' hbd5
    go_upto_if 26 with fail
    go_cut [] (fun wx => CAt w wx g F s m T R5 bd5)
    case first =>
      by_cases h : f / 4096 % 2 = 1
      · have hb12 : bits .and .u64 (f : Int) 4096 = 4096 := by rw [B12.out, if_pos h]
        have t1 : Hid (m = nat (tk 1 R4)) := Lib.hid (by rw [EM.out]; unfold hM; rw [if_pos h])
        have t2 : Hid (R5 = rst 1 R4) := Lib.hid (by rw [ER5.out]; unfold hR5; rw [if_pos h])
        have t3 : Hid (bd5 = (bd4 || short 1 R4)) := Lib.hid (by rw [EB5.out]; unfold hBad5; rw [if_pos h])
        have mw : IntKind.i64.wrap (m : Int) = (m : Int) := IntWalk.i64_in _ (by omega)
        clear h
        go_wp2_with fail
        refine (in_int g 1 R4 bd4 _ c6.out.inn).mono ?_
        rintro e w7 ⟨rfl, hi, hb⟩
        rw [show wid 1 = 1 from rfl] at hi ⊢
        rw [← t1.out]
        rw [← t2.out, ← t3.out] at hi
        have c7 := Lib.hid (c6.out.read hb hi)
        have f1 : w7.frozen? ⟨F, 1, none⟩ = false := c7.out.hd.frozen 1
        have q1 : w7.cell? ⟨F, 1, none⟩ = some (.int .i64 (0 : Nat)) := c7.out.hd.cell 1
        have D := Lib.hid (c7.out.set 1 (.int .i64 m) m T rfl)
        clear hi hb
        go_wp2_with fail
        go_meet
        exact D.out
      · have hb12 : bits .and .u64 (f : Int) 4096 = 0 := by rw [B12.out, if_neg h]
        have t1 : Hid (m = 0) := Lib.hid (by rw [EM.out]; unfold hM; rw [if_neg h])
        have t2 : Hid (R5 = R4) := Lib.hid (by rw [ER5.out]; unfold hR5; rw [if_neg h])
        have t3 : Hid (bd5 = bd4) := Lib.hid (by rw [EB5.out]; unfold hBad5; rw [if_neg h])
        clear h
        go_wp2_with fail
        go_meet
        rw [t1.out, t2.out, t3.out]
        exact c6.out
    case rest =>
      obtain ⟨w7, hw7⟩ : ∃ w7 : World, w7 = wc := ⟨_, rfl⟩
      subst hw7
      have c7 := Lib.hid hcut
      clear hcut
      have PQ : Hid (P = if bd5 = false ∧ R5 = [] ∧ k = 3932160 ∧ f = hflags T (m : Int) ∧ m ≤ 2 then some (s, m, T) else none) := Lib.hid (by rw [HP.out]; unfold headQ; rw [← ER4.out, ← EB4.out, ← ET.out, ← EM.out, ← ER5.out, ← EB5.out])
      go_upto_region 9 with fail
      go_cut [8] (fun s8 wx => s8 = .bool (!bd5 && decide (R5.length = 0)) ∧ wx = w7)
      case first =>
        cases bd5 with
        | true =>
          go_wp2_with fail
          refine (in_ok g R5 _ _ c7.out.inn).mono ?_
          rintro e w8 ⟨rfl, hw8⟩
          subst hw8
          go_wp2_with fail
          go_meet
          exact ⟨rfl, rfl⟩
        | false =>
          go_wp2_with fail
          refine (in_ok g R5 _ _ c7.out.inn).mono ?_
          rintro e w8 ⟨rfl, hw8⟩
          subst hw8
          go_wp2_with fail
          refine (in_left g R5 _ _ c7.out.inn).mono ?_
          rintro e w8 ⟨rfl, hw8⟩
          subst hw8
          go_wp2_with fail
          go_meet
          refine ⟨?_, rfl⟩
          first | rfl | (congr 1; rw [Bool.eq_iff_iff]; simp; omega) | (congr 1; rw [Bool.eq_iff_iff]; simp)
      case rest =>
        obtain ⟨rfl, hwc⟩ := hcut
        subst hwc
        have z0 : wc.cell? ⟨w.heap.size, 0, none⟩ = some (.int .u64 0) := c7.out.zr.cell 0
        have z1 : wc.cell? ⟨w.heap.size, 1, none⟩ = some (.int .i64 0) := c7.out.zr.cell 1
        have z2 : wc.cell? ⟨w.heap.size, 2, none⟩ = some (.string ⟨#[]⟩) := c7.out.zr.cell 2
        have y0 : wc.frozen? ⟨w.heap.size, 0, none⟩ = false := c7.out.zr.frozen 0
        have y1 : wc.frozen? ⟨w.heap.size, 1, none⟩ = false := c7.out.zr.frozen 1
        have y2 : wc.frozen? ⟨w.heap.size, 2, none⟩ = false := c7.out.zr.frozen 2
        have x0 : wc.cell? ⟨F, 0, none⟩ = some (.int .u64 s) := c7.out.hd.cell 0
        have x1 : wc.cell? ⟨F, 1, none⟩ = some (.int .i64 m) := c7.out.hd.cell 1
        have x2 : wc.cell? ⟨F, 2, none⟩ = some (.string ⟨T.toArray⟩) := c7.out.hd.cell 2
        by_cases hw : bd5 = false ∧ R5 = []
        case neg =>
          have DP : Hid (P = none) := Lib.hid (by rw [PQ.out, if_neg (fun h => hw ⟨h.1, h.2.1⟩)])
          have wh : (!bd5 && decide (R5.length = 0)) = false := by
            cases bd5
            · simp at hw ⊢; exact hw
            · rfl
          rw [wh]
          go_wp2_with fail
          obtain ⟨hfw, hfb⟩ := c7.out.ended (.int .u64 0) (.int .i64 0) (.string ⟨#[]⟩)
          have e0 := hfw.cell 0
          have e1 := hfw.cell 1
          have e2 := hfw.cell 2
          exact bodyPost_ret (v := .tuple #[.agg #[.int .u64 0, .int .i64 0, .string ⟨#[]⟩], .int .i64 4]) (by simp [results, Try.results9, go_sem, e0, e1, e2]) rfl (HeadIs.no DP.out hfb)
        case pos =>
          have wh : (!bd5 && decide (R5.length = 0)) = true := by rw [hw.1, hw.2]; rfl
          rw [wh]
          by_cases hk : k = 3932160
          case neg =>
            have DP : Hid (P = none) := Lib.hid (by rw [PQ.out, if_neg (fun h => hk h.2.2.1)])
            have hki : ((k : Int) != 3932160) = true := by simp; omega
            go_wp2_with fail
            obtain ⟨hfw, hfb⟩ := c7.out.ended (.int .u64 0) (.int .i64 0) (.string ⟨#[]⟩)
            have e0 := hfw.cell 0
            have e1 := hfw.cell 1
            have e2 := hfw.cell 2
            exact bodyPost_ret (v := .tuple #[.agg #[.int .u64 0, .int .i64 0, .string ⟨#[]⟩], .int .i64 4]) (by simp [results, Try.results9, go_sem, e0, e1, e2]) rfl (HeadIs.no DP.out hfb)
          case pos =>
            subst hk
            have W7 : Hid (∀ (e : Ending) (w8 : World), (e = .returned (.int .u64 (hflags T (m : Int))) ∧ Below wc.heap.size wc w8) → CAt w w8 g F s m T R5 bd5) := Lib.hid (by
              rintro e w8 ⟨_, hb⟩
              have h := c7.out
              exact ⟨h.lo, h.gF, h.inn.below hb h.inn.lt, h.hd.below hb h.hd.lt, h.zr.below hb h.zr.lt, h.bel.trans (hb.mono h.bel.size)⟩)
            obtain ⟨H, hH⟩ : ∃ H, H = hflags T (m : Int) := ⟨_, rfl⟩
            have EH := Lib.hid hH
            clear hH
            go_wp2_with fail
            refine (flags_any s (m : Int) T _).mono ?_
            intro e w8 h8
            have c8 := Lib.hid (W7.out e w8 h8)
            obtain ⟨rfl, _⟩ := h8
            rw [← EH.out]
            clear z0 z1 z2 y0 y1 y2 x0 x1 x2
            have z0 : w8.cell? ⟨w.heap.size, 0, none⟩ = some (.int .u64 0) := c8.out.zr.cell 0
            have z1 : w8.cell? ⟨w.heap.size, 1, none⟩ = some (.int .i64 0) := c8.out.zr.cell 1
            have z2 : w8.cell? ⟨w.heap.size, 2, none⟩ = some (.string ⟨#[]⟩) := c8.out.zr.cell 2
            have y0 : w8.frozen? ⟨w.heap.size, 0, none⟩ = false := c8.out.zr.frozen 0
            have y1 : w8.frozen? ⟨w.heap.size, 1, none⟩ = false := c8.out.zr.frozen 1
            have y2 : w8.frozen? ⟨w.heap.size, 2, none⟩ = false := c8.out.zr.frozen 2
            have x0 : w8.cell? ⟨F, 0, none⟩ = some (.int .u64 s) := c8.out.hd.cell 0
            have x1 : w8.cell? ⟨F, 1, none⟩ = some (.int .i64 m) := c8.out.hd.cell 1
            have x2 : w8.cell? ⟨F, 2, none⟩ = some (.string ⟨T.toArray⟩) := c8.out.hd.cell 2
            by_cases hff : f = H
            case neg =>
              have DP : Hid (P = none) := Lib.hid (by rw [PQ.out, if_neg (fun h => hff (h.2.2.2.1.trans EH.out.symm))])
              have hfi : ((f : Int) != (H : Int)) = true := by simp; omega
              go_wp2_with fail
              obtain ⟨hfw, hfb⟩ := c8.out.ended (.int .u64 0) (.int .i64 0) (.string ⟨#[]⟩)
              have e0 := hfw.cell 0
              have e1 := hfw.cell 1
              have e2 := hfw.cell 2
              exact bodyPost_ret (v := .tuple #[.agg #[.int .u64 0, .int .i64 0, .string ⟨#[]⟩], .int .i64 4]) (by simp [results, Try.results9, go_sem, e0, e1, e2]) rfl (HeadIs.no DP.out hfb)
            case pos =>
              subst hff
              by_cases hm2 : m ≤ 2
              case neg =>
                have DP : Hid (P = none) := Lib.hid (by rw [PQ.out, if_neg (fun h => hm2 h.2.2.2.2)])
                have hmi : (2 : Int) < (m : Int) := by omega
                go_wp2_with fail
                obtain ⟨hfw, hfb⟩ := c8.out.ended (.int .u64 0) (.int .i64 0) (.string ⟨#[]⟩)
                have e0 := hfw.cell 0
                have e1 := hfw.cell 1
                have e2 := hfw.cell 2
                exact bodyPost_ret (v := .tuple #[.agg #[.int .u64 0, .int .i64 0, .string ⟨#[]⟩], .int .i64 4]) (by simp [results, Try.results9, go_sem, e0, e1, e2]) rfl (HeadIs.no DP.out hfb)
              case pos =>
                have DP : Hid (P = some (s, m, T)) := Lib.hid (by rw [PQ.out, if_pos ⟨hw.1, hw.2, trivial, EH.out, hm2⟩])
                have hmi : (m : Int) ≤ 2 := by omega
                go_wp2_with fail
                obtain ⟨hfw, hfb⟩ := c8.out.ended (.int .u64 s) (.int .i64 m) (.string ⟨T.toArray⟩)
                have e0 := hfw.cell 0
                have e1 := hfw.cell 1
                have e2 := hfw.cell 2
                exact bodyPost_ret (v := .tuple #[.agg #[.int .u64 s, .int .i64 m, .string ⟨T.toArray⟩], .int .i64 0]) (by simp [results, Try.results9, go_sem, e0, e1, e2]) rfl (HeadIs.yes DP.out hfb)
end Go.Proofs.Ytfajkbegmmlmjaa
