/- Contracts of package meth: are a method's parts as many as its form asks? -/
import Derived.Test.YtlfppfknelddcaaDoorMethS
import Derived.RegionTactic
namespace Go.Proofs.YtlfppfknelddcaaDoor
open Go.RowKit
set_option maxRecDepth 100000
set_option linter.unusedSimpArgs false
set_option linter.unusedVariables false

theorem count_le (l : List UInt8) (c : UInt8) : l.count c ≤ l.length := List.count_le_length
theorem asked_any (ls : List UInt8) (c i : Int) (p : Parts) (vN vS vF vT : Value) (B : Nat) (w : World) (hp : PartsAt w B p vN vS vF vT) (hB : B ≤ w.heap.size) (hl : ls.length ≤ 255) :
    Calls Tryd.prog 39 #[St ls, .agg #[.int .i64 c, .int .i64 i, vN, vS, vF, vT]] w fun e w' => e = .returned (.bool (askB ls p)) ∧ Below w.heap.size w w' := by
  obtain ⟨AN, cN_, rfl, _, _, _⟩ := hp.n
  obtain ⟨AS, cS_, rfl, _, _, _⟩ := hp.s
  obtain ⟨AF, cF_, rfl, _, _, _⟩ := hp.f
  obtain ⟨AT, cT_, dT, rfl, ht⟩ := hp.t
  have hcap := TabH.cap ht
  obtain ⟨n, hn⟩ : ∃ n, n = p.n.length := ⟨_, rfl⟩
  obtain ⟨s, hs⟩ : ∃ n, n = p.s.length := ⟨_, rfl⟩
  obtain ⟨f, hf⟩ : ∃ n, n = p.f.length := ⟨_, rfl⟩
  obtain ⟨t, htl⟩ : ∃ n, n = p.t.length := ⟨_, rfl⟩
  rw [← hn, ← hs, ← hf, ← htl]
  obtain ⟨k1, h1⟩ : ∃ n, n = ls.count 115 := ⟨_, rfl⟩
  obtain ⟨k2, h2⟩ : ∃ n, n = ls.count 108 := ⟨_, rfl⟩
  obtain ⟨k3, h3⟩ : ∃ n, n = ls.count 102 := ⟨_, rfl⟩
  obtain ⟨k4, h4⟩ : ∃ n, n = ls.count 116 := ⟨_, rfl⟩
  obtain ⟨k5, h5⟩ : ∃ n, n = cN ls := ⟨_, rfl⟩
  have hall := c_all ls
  unfold cS cF at hall
  rw [← h1, ← h2, ← h3, ← h4, ← h5] at hall
  have hsz : (⟨ls.toArray⟩ : ByteArray).size = k5 + (k1 + k2) + k3 + k4 := by rw [hall]; rfl
  have ha : askB ls p = (decide (n = k5) && decide (s = k1 + k2) && decide (f = k3) && (decide (0 < k4) || decide (t = 0))) := by
    unfold askB cS cF
    rw [← hn, ← hs, ← hf, ← h1, ← h2, ← h3, ← h4, ← h5]
    congr 2
    rw [htl]
    cases p.t <;> simp
  obtain ⟨r, hr⟩ : ∃ r, r = askB ls p := ⟨_, rfl⟩
  rw [← hr]
  have HA := Lib.hid (hr.trans ha)
  have hk : k5 + (k1 + k2) + k3 + k4 ≤ 255 := by omega
  have H1 := Lib.hid h1
  have H2 := Lib.hid h2
  have H3 := Lib.hid h3
  have H4 := Lib.hid h4
  have HS := Lib.hid hsz
  clear hp ht hcap hn hs hf htl h1 h2 h3 h4 h5 hall hsz ha hr hl
  go_enter Tryd.func39, Tryd.ntmps39
  go_wp2_with fail
  refine (count_any ls 115 _).mono ?_
  rw [← H1.out]
  rintro e w1 ⟨rfl, rfl⟩
  go_wp2_with fail
  refine (count_any ls 108 _).mono ?_
  rw [← H2.out]
  rintro e w1 ⟨rfl, rfl⟩
  go_wp2_with fail
  refine (count_any ls 102 _).mono ?_
  rw [← H3.out]
  rintro e w1 ⟨rfl, rfl⟩
  go_wp2_with fail
  refine (count_any ls 116 _).mono ?_
  rw [← H4.out]
  rintro e w1 ⟨rfl, rfl⟩
  have hs := HS.out
  go_wp2_with fail
  all_goals
    go_ret
    refine ⟨?_, (Below.refl _ w).alloc (Nat.le_refl _) _⟩
    refine congrArg (fun b : Bool => Ending.returned (.bool b)) ?_
    show _ = r
    rw [HA.out, Bool.eq_iff_iff]
    simp only [Bool.and_eq_true, Bool.or_eq_true, decide_eq_true_eq, bne_iff_ne, beq_iff_eq, ne_eq, bne_eq_false_iff_eq, beq_eq_false_iff_ne, Bool.false_eq_true, reduceCtorEq, iff_true, iff_false, true_iff, false_iff] at *
    omega
end Go.Proofs.YtlfppfknelddcaaDoor
