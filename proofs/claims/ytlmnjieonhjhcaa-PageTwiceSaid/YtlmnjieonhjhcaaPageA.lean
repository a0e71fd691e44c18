/- Layer 9: how many pages a device's file has, and a file's meta. -/
import Derived.Test.YtlmnjieonhjhcaaPageP
import Derived.Test.YtlmnjieonhjhcaaSectE0
namespace Go.Proofs.Ytlmnjieonhjhcaa
open Go.RowKit Go.Maps
set_option maxRecDepth 100000
set_option linter.unusedSimpArgs false
set_option linter.unusedVariables false
section
variable {B g : Nat} {X : Nat → Prop} {w0 W : World} {S : Dv}
set_option maxHeartbeats 1000000 in
theorem length_any (h : At B X w0 g S W) (n : Nat) (hn : S.len nmP / 8 = n) (hs : S.len nmP ≤ 9000000000000000000) : Calls Try.prog 41 #[ptr g] W fun e w' => e = .returned (.int .i64 (n : Int)) ∧ W = w' := by
  obtain ⟨c, hc⟩ : ∃ c, c = S.len nmP := ⟨_, rfl⟩
  have HC := Lib.hid hc
  have H := Lib.hid h
  have hd : ((c : Int)).tdiv 8 = (n : Int) := by
    rw [← hn, ← hc]
    exact (Int.ofNat_tdiv c 8).symm
  have hw : IntKind.i64.wrap ((n : Nat) : Int) = (n : Int) := IntWalk.i64_in _ (by omega)
  clear h hn hc hs
  go_enter Try.func41, Try.ntmps41
  go_wp2_with fail
  refine (at_len H.out nmP (by decide) c HC.out.symm).mono ?_
  rintro e w1 ⟨rfl, rfl⟩
  go_wp2_with fail
  go_ret
  exact ⟨rfl, rfl⟩
end
/-- a meta as a value -/
def mtR (m : Mt) : List Value := [.int .u64 (m.gen : Int), .int .i64 (m.root : Int), .int .i64 (m.count : Int), .int .u64 (m.mark : Int)]
/-- a file in memory: its box -/
def FBox (W : World) (fb g : Nat) (m : Mt) (v : Value) (put : Nat) (dead : Bool) : Prop :=
  Whole W fb 80 #[ptr g, .int .u64 (m.gen : Int), .int .i64 (m.root : Int), .int .i64 (m.count : Int), .int .u64 (m.mark : Int), v, .int .i64 (put : Int), .bool dead]
section
variable {W : World} {fb g put : Nat} {m : Mt} {v : Value} {dead : Bool}
theorem FBox.cells (h : FBox W fb g m v put dead) : W.cell? ⟨fb, 0, none⟩ = some (ptr g) ∧ W.cell? ⟨fb, 1, none⟩ = some (.int .u64 (m.gen : Int)) ∧ W.cell? ⟨fb, 2, none⟩ = some (.int .i64 (m.root : Int)) ∧
    W.cell? ⟨fb, 3, none⟩ = some (.int .i64 (m.count : Int)) ∧ W.cell? ⟨fb, 4, none⟩ = some (.int .u64 (m.mark : Int)) ∧ W.cell? ⟨fb, 5, none⟩ = some v ∧ W.cell? ⟨fb, 6, none⟩ = some (.int .i64 (put : Int)) ∧ W.cell? ⟨fb, 7, none⟩ = some (.bool dead) :=
  ⟨by rw [Whole.cell h]; rfl, by rw [Whole.cell h]; rfl, by rw [Whole.cell h]; rfl, by rw [Whole.cell h]; rfl, by rw [Whole.cell h]; rfl, by rw [Whole.cell h]; rfl, by rw [Whole.cell h]; rfl, by rw [Whole.cell h]; rfl⟩
theorem load_mt (w : World) (g : Nat) (cs : Array Value) (hg : Whole w g 38 cs) (hs : cs.size = 4) : (loadVar 38 ⟨g, 0, none⟩).run Try.prog w = .ok (.agg cs) w :=
  run_loadVar_row (P := Try.prog) w g _ _ cs (0, 0) _ hg Try.underlying38 rfl (by rw [hs]; kernel_rfl)
theorem fmeta_end {w : World} {b : Nat} {cs : Array Value} (hg : Whole w b 38 cs) (hs : cs.size = 4) (tmps : Array Value) (ds) (h2 : tmps.getD 2 undef = ptr b)
    (R : Ending → World → Prop) (hR : R (.returned (.agg cs)) w) (hd : ds = []) : bodyPost Try.prog Try.f16 R .ret { tmps := tmps, defers := ds } w := by
  refine bodyPost_ret (v := .agg cs) ?_ hd hR
  have hres : Try.f16.results = #[.cell 2 38] := rfl
  simp only [results, hres]
  have h2' : tmps[2]?.getD undef = ptr b := by simpa using h2
  simp [Sem.run_bind, Result.andThen, h2', asAddr, load_mt w b cs hg hs]
set_option maxHeartbeats 1000000 in
theorem fmeta_any (h : FBox W fb g m v put dead) : Calls Try.prog 16 #[ptr fb] W fun e w' => e = .returned (.agg (mtR m).toArray) ∧ Below W.heap.size W w' := by
  obtain ⟨c0, c1, c2, c3, c4, c5, c6, c7⟩ := h.cells
  have hlt : fb < W.heap.size := Whole.lt h
  clear h
  unfold mtR
  go_enter Try.func16, Try.ntmps16
  go_wp2
  refine fmeta_end (b := W.heap.size) (cs := (mtR m).toArray) ?_ rfl _ _ ?_ _ ?_ ?_
  · exact Whole.new _ _ _
  · rfl
  · exact ⟨rfl, (Below.refl _ _).alloc (Nat.le_refl _) _⟩
  · rfl
set_option maxHeartbeats 1000000 in
theorem fdrop_any (h : FBox W fb g m v put dead) : Calls Try.prog 23 #[ptr fb] W fun e w' => e = .returned (.tuple #[]) ∧ FBox w' fb g m v 0 dead ∧ w' = W.setCell ⟨fb, 6, none⟩ (.int .i64 0) := by
  obtain ⟨c0, c1, c2, c3, c4, c5, c6, c7⟩ := h.cells
  have f6 := Whole.frozen h 6
  have H : Hid (FBox (W.setCell ⟨fb, 6, none⟩ (.int .i64 0)) fb g m v 0 dead) := Lib.hid (Whole.put h 6 _)
  clear h
  go_enter Try.func23, Try.ntmps23
  go_wp2
  go_end0
  exact ⟨rfl, H.out, rfl⟩
set_option maxHeartbeats 1000000 in
theorem flen_any {B : Nat} {X : Nat → Prop} {w0 : World} {S : Dv} (h : FBox W fb g m v put dead) (hd : At B X w0 g S W) (n : Nat) (hn : S.len nmP / 8 = n) (hs : S.len nmP ≤ 9000000000000000000) :
    Calls Try.prog 17 #[ptr fb] W fun e w' => e = .returned (.int .i64 (n : Int)) ∧ W = w' := by
  obtain ⟨c0, c1, c2, c3, c4, c5, c6, c7⟩ := h.cells
  have HD := Lib.hid hd
  have HN := Lib.hid hn
  have HS := Lib.hid hs
  clear h hd hn hs
  go_enter Try.func17, Try.ntmps17
  go_wp2_with fail
  refine (length_any HD.out n HN.out HS.out).mono ?_
  rintro e w1 ⟨rfl, rfl⟩
  go_wp2_with fail
  go_ret
  exact ⟨rfl, rfl⟩
set_option maxHeartbeats 1000000 in
theorem has_any {B : Nat} {X : Nat → Prop} {w0 : World} {S : Dv} (h : FBox W fb g m v put dead) (hd : At B X w0 g S W) (n : Nat) (id : Int) (hn : S.len nmP / 8 = n) (hs : S.len nmP ≤ 9000000000000000000) :
    Calls Try.prog 43 #[ptr fb, .int .i64 id] W fun e w' => e = .returned (.bool (decide (2 ≤ id ∧ id < (n : Int)))) ∧ W = w' := by
  have HF := Lib.hid h
  have HD := Lib.hid hd
  have HN := Lib.hid hn
  have HS := Lib.hid hs
  clear h hd hn hs
  by_cases h2 : 2 ≤ id
  · have e : decide (2 ≤ id ∧ id < (n : Int)) = decide (id < (n : Int)) := by simp [h2]
    rw [e]
    clear e
    go_enter Try.func43, Try.ntmps43
    go_wp2_with fail
    refine (flen_any HF.out HD.out n HN.out HS.out).mono ?_
    rintro e w1 ⟨rfl, rfl⟩
    go_wp2_with fail
    go_ret
    exact ⟨rfl, rfl⟩
  · have e : decide (2 ≤ id ∧ id < (n : Int)) = false := decide_eq_false (fun h => h2 h.1)
    rw [e]
    clear e
    go_enter Try.func43, Try.ntmps43
    go_wp2_with fail
    go_ret
    exact ⟨rfl, rfl⟩
end
end Go.Proofs.Ytlmnjieonhjhcaa
