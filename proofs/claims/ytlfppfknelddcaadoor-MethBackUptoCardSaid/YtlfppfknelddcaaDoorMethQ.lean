/- Contract of the document's own comparison of two methods: of those that are the same. -/
import Derived.Test.YtlfppfknelddcaaDoorMethS
import Derived.Test.YtlfppfknelddcaaDoorTablT
import Derived.Deep.QuietTactic
import Derived.RegionTactic
namespace Go.Proofs.YtlfppfknelddcaaDoor
open Go.RowKit
set_option maxRecDepth 100000
set_option linter.unusedSimpArgs false
set_option linter.unusedVariables false

theorem SlAt.at {w : World} {B n : Nat} {v : Value} {xs : List Value} (h : SlAt w B v n xs) : ∃ A c, v = .slice A n c ∧ n ≤ c ∧ c ≤ maxLen ∧ ∀ j u, xs[j]? = some u → ∃ b o, A = some ⟨b, o, none⟩ ∧ b < B ∧ w.cell? ⟨b, o + j, none⟩ = some u := by
  obtain ⟨A, c, h1, h2, h3, h4⟩ := h
  refine ⟨A, c, h1, h2, h3, fun j u hu => ?_⟩
  rcases h4 with rfl | ⟨b, o, e, hb, hc⟩
  · simp at hu
  · exact ⟨b, o, e, hb, hc j u hu⟩
set_option maxHeartbeats 800000 in
theorem same_meth (c i : Int) (p : Parts) (vN vS vF vT uN uS uF uT : Value) (B B' : Nat) (w : World) (hp : PartsAt w B p vN vS vF vT) (hq : PartsAt w B' p uN uS uF uT) (hB : B ≤ w.heap.size) (hB' : B' ≤ w.heap.size) :
    Calls Tryd.prog 14 #[.agg #[.int .i64 c, .int .i64 i, vN, vS, vF, vT], .agg #[.int .i64 c, .int .i64 i, uN, uS, uF, uT]] w fun e w' => e = .returned (.bool true) ∧ Below w.heap.size w w' := by
  obtain ⟨n, hn⟩ : ∃ n, n = p.n.length := ⟨_, rfl⟩
  obtain ⟨s, hs⟩ : ∃ n, n = p.s.length := ⟨_, rfl⟩
  obtain ⟨f, hf⟩ : ∃ n, n = p.f.length := ⟨_, rfl⟩
  obtain ⟨t, ht⟩ : ∃ n, n = p.t.length := ⟨_, rfl⟩
  obtain ⟨AN, cN1, rfl, hN1, hN2, hN3⟩ := hp.n.at
  obtain ⟨AS, cS1, rfl, hS1, hS2, hS3⟩ := hp.s.at
  obtain ⟨AF, cF1, rfl, hF1, hF2, hF3⟩ := hp.f.at
  obtain ⟨AT, cT1, dT, rfl, hT⟩ := hp.t
  obtain ⟨BN, cN2, rfl, kN1, kN2, kN3⟩ := hq.n.at
  obtain ⟨BS, cS2, rfl, kS1, kS2, kS3⟩ := hq.s.at
  obtain ⟨BF, cF2, rfl, kF1, kF2, kF3⟩ := hq.f.at
  obtain ⟨BT, cT2, dT', rfl, kT⟩ := hq.t
  have hcT := TabH.cap hT
  have kcT := TabH.cap kT
  rw [← hn] at hN1 kN1
  rw [← hs] at hS1 kS1
  rw [← hf] at hF1 kF1
  rw [← ht] at hcT kcT
  unfold maxLen at hN2 hS2 hF2 kN2 kS2 kF2 hcT kcT
  obtain ⟨w0, hw0⟩ : ∃ w0, w0 = (w.alloc (.cells #[.int .i64 c, .int .i64 i, .slice AN p.n.length cN1, .slice AS p.s.length cS1, .slice AF p.f.length cF1, .slice AT p.t.length cT1] 32)).alloc (.cells #[.int .i64 c, .int .i64 i, .slice BN p.n.length cN2, .slice BS p.s.length cS2, .slice BF p.f.length cF2, .slice BT p.t.length cT2] 32) := ⟨_, rfl⟩
  have hb0 : Below w.heap.size w w0 := by rw [hw0]; exact ((Below.refl _ _).alloc (Nat.le_refl _) _).alloc (by simp) _
  have hz0 : w0.heap.size = w.heap.size + 2 := by rw [hw0]; simp
  have hx : Whole w0 w.heap.size 32 #[.int .i64 c, .int .i64 i, .slice AN p.n.length cN1, .slice AS p.s.length cS1, .slice AF p.f.length cF1, .slice AT p.t.length cT1] := by rw [hw0]; exact (Whole.new _ _ _).alloc _
  have hy : Whole w0 (w.heap.size + 1) 32 #[.int .i64 c, .int .i64 i, .slice BN p.n.length cN2, .slice BS p.s.length cS2, .slice BF p.f.length cF2, .slice BT p.t.length cT2] := by
    rw [hw0]
    have h := Whole.new (w.alloc (.cells #[.int .i64 c, .int .i64 i, .slice AN p.n.length cN1, .slice AS p.s.length cS1, .slice AF p.f.length cF1, .slice AT p.t.length cT1] 32)) 32 #[.int .i64 c, .int .i64 i, .slice BN p.n.length cN2, .slice BS p.s.length cS2, .slice BF p.f.length cF2, .slice BT p.t.length cT2]
    rw [show (w.alloc (.cells #[.int .i64 c, .int .i64 i, .slice AN p.n.length cN1, .slice AS p.s.length cS1, .slice AF p.f.length cF1, .slice AT p.t.length cT1] 32)).heap.size = w.heap.size + 1 from by simp] at h
    exact h
  rw [← hn, ← hs, ← hf, ← ht] at hx hy hw0
  rw [← hn, ← hs, ← hf, ← ht]
  have cl : ∀ w', Below w0.heap.size w0 w' → (w'.cell? ⟨w.heap.size, 0, none⟩ = some (.int .i64 c) ∧ w'.cell? ⟨w.heap.size, 1, none⟩ = some (.int .i64 i) ∧ w'.cell? ⟨w.heap.size, 2, none⟩ = some (.slice AN n cN1) ∧ w'.cell? ⟨w.heap.size, 3, none⟩ = some (.slice AS s cS1) ∧ w'.cell? ⟨w.heap.size, 4, none⟩ = some (.slice AF f cF1) ∧ w'.cell? ⟨w.heap.size, 5, none⟩ = some (.slice AT t cT1)) ∧ w'.cell? ⟨w.heap.size + 1, 0, none⟩ = some (.int .i64 c) ∧ w'.cell? ⟨w.heap.size + 1, 1, none⟩ = some (.int .i64 i) ∧ w'.cell? ⟨w.heap.size + 1, 2, none⟩ = some (.slice BN n cN2) ∧ w'.cell? ⟨w.heap.size + 1, 3, none⟩ = some (.slice BS s cS2) ∧ w'.cell? ⟨w.heap.size + 1, 4, none⟩ = some (.slice BF f cF2) ∧ w'.cell? ⟨w.heap.size + 1, 5, none⟩ = some (.slice BT t cT2) := by
    intro w' hb'
    have k1 := hx.below hb' hx.lt
    have k2 := hy.below hb' hy.lt
    exact ⟨⟨k1.cell 0, k1.cell 1, k1.cell 2, k1.cell 3, k1.cell 4, k1.cell 5⟩, k2.cell 0, k2.cell 1, k2.cell 2, k2.cell 3, k2.cell 4, k2.cell 5⟩
  have CL := Lib.hid cl
  have HB0 := Lib.hid hb0
  have HW0 := Lib.hid hw0
  have HZ0 := Lib.hid hz0
  have HT := Lib.hid hT
  have KT := Lib.hid kT
  have HN3 := Lib.hid hN3
  have HS3 := Lib.hid hS3
  have HF3 := Lib.hid hF3
  have KN3 := Lib.hid kN3
  have KS3 := Lib.hid kS3
  have KF3 := Lib.hid kF3
  have HN := Lib.hid hn
  have HS := Lib.hid hs
  have HF := Lib.hid hf
  have HTL := Lib.hid ht
  obtain ⟨⟨x0, x1, x2, x3, x4, x5⟩, y0, y1, y2, y3, y4, y5⟩ := cl w0 (Below.refl _ _)
  rw [hw0] at x0 x1 x2 x3 x4 x5 y0 y1 y2 y3 y4 y5
  clear hp hq hT kT hN3 hS3 hF3 kN3 kS3 kF3 hn hs hf ht hw0 hb0 hz0 hx hy cl
  go_enter Tryd.func14, Tryd.ntmps14
  go_wp2_with fail
  rw [← HW0.out]
  rw [HTL.out]
  refine (same_table dT p.t p.t AT BT cT1 cT2 dT' B B' w0 (TabH.below HT.out (HB0.out.mono hB)) (TabH.below KT.out (HB0.out.mono hB')) (by have := HZ0.out; omega) (by have := HZ0.out; omega)).mono ?_
  rintro e w1 ⟨r, rfl, hr, hb1⟩
  obtain rfl : r = true := hr.2 rfl
  have HB1 := Lib.hid hb1
  clear hr hb1
  obtain ⟨⟨x0, x1, x2, x3, x4, x5⟩, y0, y1, y2, y3, y4, y5⟩ := CL.out w1 HB1.out
  go_wp2_with fail
  go_loopw [5] (fun k wr => ∃ j : Nat, j ≤ n ∧ k = .int .i64 j ∧ Below w0.heap.size w0 wr) (fun k _ => n - (intOf k).toNat)
  case atStart => exact ⟨0, Nat.zero_le _, rfl, HB1.out⟩
  case round =>
    obtain ⟨j, hj, rfl, hbr⟩ := hrel
    obtain ⟨⟨x0, x1, x2, x3, x4, x5⟩, y0, y1, y2, y3, y4, y5⟩ := CL.out wr hbr
    have HBR := Lib.hid hbr
    by_cases hlt : j < n
    · obtain ⟨u, hu⟩ : ∃ u, p.n[j]? = some u := ⟨_, List.getElem?_eq_getElem (by have := HN.out; omega)⟩
      have hcell : (cellsN p.n)[j]? = some (.int .u64 (u : Int)) := by simp [cellsN, hu]
      obtain ⟨b1, o1, rfl, hb1, e1⟩ := HN3.out j _ hcell
      obtain ⟨b2, o2, rfl, hb2, e2⟩ := KN3.out j _ hcell
      have f1 : wr.cell? ⟨b1, o1 + j, none⟩ = some (.int .u64 (u : Int)) := ((HB0.out.trans (hbr.mono (by have := HZ0.out; omega))).cell (p := ⟨b1, o1 + j, none⟩) (by show b1 < w.heap.size; omega)).trans e1
      have f2 : wr.cell? ⟨b2, o2 + j, none⟩ = some (.int .u64 (u : Int)) := ((HB0.out.trans (hbr.mono (by have := HZ0.out; omega))).cell (p := ⟨b2, o2 + j, none⟩) (by show b2 < w.heap.size; omega)).trans e2
      have DR : Hid (∀ n, Below w0.heap.size w0 (wr.drewN n)) := Lib.hid (fun n => below_drewN hbr n)
      clear hu hcell e1 e2 hbr
      go_wp2_with fail
      go_quiet (fail)
      go_wp2_with fail
      go_roundw
      case rel => exact ⟨j + 1, by omega, by go_num, DR.out _⟩
      case measure => simp [intOf]; omega
    · obtain rfl : j = n := by omega
      clear hbr
      obtain ⟨w1, hw1⟩ : ∃ w1 : World, w1 = wr := ⟨_, rfl⟩
      subst hw1
      have HB1 := HBR
      obtain ⟨⟨x0, x1, x2, x3, x4, x5⟩, y0, y1, y2, y3, y4, y5⟩ := CL.out w1 HB1.out
      go_wp2_with fail
      go_loopw [6] (fun k wr => ∃ j : Nat, j ≤ s ∧ k = .int .i64 j ∧ Below w0.heap.size w0 wr) (fun k _ => s - (intOf k).toNat)
      case atStart => exact ⟨0, Nat.zero_le _, rfl, HB1.out⟩
      case round =>
        obtain ⟨j, hj, rfl, hbr⟩ := hrel
        obtain ⟨⟨x0, x1, x2, x3, x4, x5⟩, y0, y1, y2, y3, y4, y5⟩ := CL.out wr hbr
        have HBR := Lib.hid hbr
        by_cases hlt : j < s
        · obtain ⟨u, hu⟩ : ∃ u, p.s[j]? = some u := ⟨_, List.getElem?_eq_getElem (by have := HS.out; omega)⟩
          have hcell : (cellsS p.s)[j]? = some (St u) := by simp [cellsS, hu]
          obtain ⟨b1, o1, rfl, hb1, e1⟩ := HS3.out j _ hcell
          obtain ⟨b2, o2, rfl, hb2, e2⟩ := KS3.out j _ hcell
          have f1 : wr.cell? ⟨b1, o1 + j, none⟩ = some (St u) := ((HB0.out.trans (hbr.mono (by have := HZ0.out; omega))).cell (p := ⟨b1, o1 + j, none⟩) (by show b1 < w.heap.size; omega)).trans e1
          have f2 : wr.cell? ⟨b2, o2 + j, none⟩ = some (St u) := ((HB0.out.trans (hbr.mono (by have := HZ0.out; omega))).cell (p := ⟨b2, o2 + j, none⟩) (by show b2 < w.heap.size; omega)).trans e2
          have DR : Hid (∀ n, Below w0.heap.size w0 (wr.drewN n)) := Lib.hid (fun n => below_drewN hbr n)
          clear hu hcell e1 e2 hbr
          go_wp2_with fail
          go_quiet (fail)
          go_wp2_with fail
          go_roundw
          case rel => exact ⟨j + 1, by omega, by go_num, DR.out _⟩
          case measure => simp [intOf]; omega
        · obtain rfl : j = s := by omega
          clear hbr
          obtain ⟨w1, hw1⟩ : ∃ w1 : World, w1 = wr := ⟨_, rfl⟩
          subst hw1
          have HB1 := HBR
          obtain ⟨⟨x0, x1, x2, x3, x4, x5⟩, y0, y1, y2, y3, y4, y5⟩ := CL.out w1 HB1.out
          go_wp2_with fail
          go_loopw [7] (fun k wr => ∃ j : Nat, j ≤ f ∧ k = .int .i64 j ∧ Below w0.heap.size w0 wr) (fun k _ => f - (intOf k).toNat)
          case atStart => exact ⟨0, Nat.zero_le _, rfl, HB1.out⟩
          case round =>
            obtain ⟨j, hj, rfl, hbr⟩ := hrel
            obtain ⟨⟨x0, x1, x2, x3, x4, x5⟩, y0, y1, y2, y3, y4, y5⟩ := CL.out wr hbr
            have HBR := Lib.hid hbr
            by_cases hlt : j < f
            · obtain ⟨u, hu⟩ : ∃ u, p.f[j]? = some u := ⟨_, List.getElem?_eq_getElem (by have := HF.out; omega)⟩
              have hcell : (cellsB p.f)[j]? = some (.bool u) := by simp [cellsB, hu]
              obtain ⟨b1, o1, rfl, hb1, e1⟩ := HF3.out j _ hcell
              obtain ⟨b2, o2, rfl, hb2, e2⟩ := KF3.out j _ hcell
              have f1 : wr.cell? ⟨b1, o1 + j, none⟩ = some (.bool u) := ((HB0.out.trans (hbr.mono (by have := HZ0.out; omega))).cell (p := ⟨b1, o1 + j, none⟩) (by show b1 < w.heap.size; omega)).trans e1
              have f2 : wr.cell? ⟨b2, o2 + j, none⟩ = some (.bool u) := ((HB0.out.trans (hbr.mono (by have := HZ0.out; omega))).cell (p := ⟨b2, o2 + j, none⟩) (by show b2 < w.heap.size; omega)).trans e2
              have DR : Hid (∀ n, Below w0.heap.size w0 (wr.drewN n)) := Lib.hid (fun n => below_drewN hbr n)
              clear hu hcell e1 e2 hbr
              go_wp2_with fail
              go_quiet (fail)
              go_wp2_with fail
              go_roundw
              case rel => exact ⟨j + 1, by omega, by go_num, DR.out _⟩
              case measure => simp [intOf]; omega
            · obtain rfl : j = f := by omega
              clear hbr
              go_wp2_with fail
              go_ret
              exact ⟨rfl, HB0.out.trans (HBR.out.mono (by have := HZ0.out; omega))⟩
end Go.Proofs.YtlfppfknelddcaaDoor
