/- Layer 7: the small calls of a device. -/
import Derived.Test.YtcmffifehpbjnaaSectD
import Derived.Maps.OwnOps
namespace Go.Proofs.Ytcmffifehpbjnaa
open Go.RowKit Go.Maps
set_option maxRecDepth 100000
set_option linter.unusedSimpArgs false
set_option linter.unusedVariables false

abbrev ptr (g : Nat) : Value := .pointer (some ⟨g, 0, none⟩)
/-- one deed more is done -/
def Dv.tick (S : Dv) : Dv := { S with left := if 0 < S.left then S.left - 1 else S.left }
theorem Turn.after' {K : Nat → Prop} {a b : World} (h : Turn K a.drew b) : Turn K a b := ⟨h.os, h.tape, h.output, h.size, h.block⟩
theorem setCell_heap {w : World} {g i : Nat} {cs : Array Value} {t : TypeId} {fr : Nat × Nat} (u : Value) (h : w.heap[g]? = some (.cells cs t fr)) : (w.setCell ⟨g, i, none⟩ u).heap[g]? = some (.cells (cs.setIfInBounds i u) t fr) := by
  have hlt := (Array.getElem?_eq_some_iff.1 h).1
  have hv := (Array.getElem?_eq_some_iff.1 h).2
  simp [World.setCell, Array.getElem?_modify, hv, h]
section
variable {K : Nat → Prop} {w : World} {g : Nat} {S : Dv} {b1 b2 b3 : Nat} {sv : Nm → Value}
theorem below_setRow {B : Nat} {a w : World} (h : Below B a w) {g : Nat} (hg : B ≤ g) (cs : Array Value) : Below B a (w.setRow g cs) :=
  ⟨h.os, h.tape, h.output, by have := h.size; simpa [World.setRow] using this, fun i hi => (setRow_other w g i cs (by omega)).trans (h.block i hi)⟩
theorem row_ne {i : Nat} (h : DevAt K w g S b1 b2 b3 sv) {nm : Nm} {F : Fil} (hf : fnd S.fs nm = some F) (hi : (sv nm).ownBlock = some i) : i ≠ g ∧ i ≠ b1 ∧ i ≠ b2 ∧ i ≠ b3 := by
  obtain ⟨cur, hc⟩ := sv_row (h.rows nm F hf).1 hi
  have key : ∀ b, (∃ es clock, w.heap[b]? = some (.map es clock)) → i ≠ b := by
    rintro b ⟨es, clock, hb⟩ rfl
    rw [hc] at hb
    cases hb
  refine ⟨?_, key _ ?_, key _ ?_, key _ ?_⟩
  · rintro rfl
    have h2 := h.cells
    rw [hc] at h2
    simp at h2
  · obtain ⟨D, ⟨es, clock, h1, _⟩, _⟩ := h.files; exact ⟨es, clock, h1⟩
  · obtain ⟨D, ⟨es, clock, h1, _⟩, _⟩ := h.lasts; exact ⟨es, clock, h1⟩
  · obtain ⟨D, ⟨es, clock, h1, _⟩, _⟩ := h.fresh; exact ⟨es, clock, h1⟩
theorem map_ne (h : DevAt K w g S b1 b2 b3 sv) : g ≠ b1 ∧ g ≠ b2 ∧ g ≠ b3 := by
  have key : ∀ b, (∃ es clock, w.heap[b]? = some (.map es clock)) → g ≠ b := by
    rintro b ⟨es, clock, hb⟩ rfl
    have h2 := h.cells
    rw [hb] at h2
    cases h2
  refine ⟨key _ ?_, key _ ?_, key _ ?_⟩
  · obtain ⟨D, ⟨es, clock, h1, _⟩, _⟩ := h.files; exact ⟨es, clock, h1⟩
  · obtain ⟨D, ⟨es, clock, h1, _⟩, _⟩ := h.lasts; exact ⟨es, clock, h1⟩
  · obtain ⟨D, ⟨es, clock, h1, _⟩, _⟩ := h.fresh; exact ⟨es, clock, h1⟩
/-- only the device's own cells have turned -/
theorem DevAt.turned {w' : World} {S' : Dv} (h : DevAt K w g S b1 b2 b3 sv) (hb : ∀ i, i < w.heap.size → i ≠ g → w'.heap[i]? = w.heap[i]?) (hs : S'.fs = S.fs)
    (hc : w'.heap[g]? = some (.cells #[.int .i64 (S'.most : Int), .int .i64 (S'.used : Int), .map (some b1), .map (some b2), .map (some b3), .int .i64 S'.left] 75 (0, 0))) : DevAt K w' g S' b1 b2 b3 sv := by
  obtain ⟨m1, m2, m3⟩ := map_ne h
  have e2 : S'.la = S.la := by funext x; simp [Dv.la, hs]
  have e3 : S'.fr = S.fr := by funext x; simp [Dv.fr, hs]
  exact {
    cells := hc
    files := by rw [hs]; exact h.files.block (hb _ h.files.lt (Ne.symm m1))
    lasts := by rw [e2]; exact h.lasts.block (hb _ h.lasts.lt (Ne.symm m2))
    fresh := by rw [e3]; exact h.fresh.block (hb _ h.fresh.lt (Ne.symm m3))
    own := h.own
    apart := h.apart
    rows := fun nm F hf => by
      rw [hs] at hf
      obtain ⟨r1, r2⟩ := h.rows nm F hf
      refine ⟨row_block r1 (fun i hi => ?_), r2⟩
      obtain ⟨cur, hc2⟩ := sv_row r1 hi
      exact hb i (Array.getElem?_eq_some_iff.1 hc2).1 (row_ne h hf hi).1
    alone := by rw [hs]; exact h.alone }
theorem DevAt.set_left (h : DevAt K w g S b1 b2 b3 sv) (x : Int) : DevAt K (w.setCell ⟨g, 5, none⟩ (.int .i64 x)) g { S with left := x } b1 b2 b3 sv :=
  h.turned (fun i _ hi => Below.heap_setCell w _ _ i hi) rfl (by rw [setCell_heap _ h.cells]; rfl)
theorem turn_cell {g i : Nat} (hk : K g) (u : Value) : Turn K w (w.setCell ⟨g, i, none⟩ u) :=
  ⟨rfl, rfl, rfl, by simp, fun j _ hn => Below.heap_setCell w _ _ j (fun e => hn (e ▸ hk))⟩
theorem Ok.set_left (h : Ok S) {x : Int} (hx : -9223372036854775808 ≤ x ∧ x < 9223372036854775808) : Ok { S with left := x } :=
  ⟨h.rising, h.names, h.few, h.room, h.most, hx, h.once, h.full⟩
theorem Ok.tick (h : Ok S) : Ok S.tick := h.set_left (by have := h.left; split <;> omega)
set_option maxHeartbeats 1000000 in
theorem cut_any (h : DevAt K w g S b1 b2 b3 sv) : Calls Try.prog 49 #[ptr g] w fun e w' => e = .returned (.bool (S.left == 0)) ∧ w = w' := by
  obtain ⟨c0, c1, c2, c3, c4, c5⟩ := h.cell
  go_enter Try.func49, Try.ntmps49
  go_wp2
  go_ret
  exact ⟨rfl, rfl⟩
set_option maxHeartbeats 1000000 in
theorem done_any (h : DevAt K w g S b1 b2 b3 sv) (hl : -9223372036854775808 ≤ S.left ∧ S.left < 9223372036854775808) :
    Calls Try.prog 50 #[ptr g] w fun e w' => e = .returned (.int .i64 0) ∧ DevAt K w' g S.tick b1 b2 b3 sv ∧ Turn K w w' := by
  obtain ⟨c0, c1, c2, c3, c4, c5⟩ := h.cell
  have f5 := h.frozen 5
  obtain ⟨l1, l2⟩ := hl
  by_cases hp : 0 < S.left
  · have h2 := Lib.hid (h.set_left (S.left - 1))
    have h3 := Lib.hid h.own.1
    clear h
    go_enter Try.func50, Try.ntmps50
    go_wp2
    go_ret
    refine ⟨rfl, ?_, turn_cell h3.out _⟩
    have e : S.tick = { S with left := S.left - 1 } := by simp [Dv.tick, hp]
    rw [e]
    exact h2.out
  · have h2 := Lib.hid h
    clear h
    go_enter Try.func50, Try.ntmps50
    go_wp2
    go_ret
    refine ⟨rfl, ?_, Turn.refl _ _⟩
    have e : S.tick = S := by unfold Dv.tick; rw [if_neg (by omega)]
    rw [e]
    exact h2.out
set_option maxHeartbeats 1000000 in
theorem fuse_any (h : Dev K w g S) (n : Int) (hn : -9223372036854775808 ≤ n ∧ n < 9223372036854775808) :
    Calls Try.prog 25 #[ptr g, .int .i64 n] w fun e w' => e = .returned (.tuple #[]) ∧ Dev K w' g { S with left := n } ∧ Turn K w w' := by
  obtain ⟨h0, b1, b2, b3, sv, h⟩ := h
  obtain ⟨c0, c1, c2, c3, c4, c5⟩ := h.cell
  have f5 := h.frozen 5
  have h2 := Lib.hid (h.set_left n)
  have h3 := Lib.hid h.own.1
  have h4 := Lib.hid (h0.set_left hn)
  clear h h0 hn
  go_enter Try.func25, Try.ntmps25
  go_wp2
  go_end0
  exact ⟨rfl, ⟨h4.out, b1, b2, b3, sv, h2.out⟩, turn_cell h3.out _⟩
theorem zero_file (w : World) : (zeroValue 91).run Try.prog w = .ok (.agg #[.int .i64 0, .slice none 0 0]) w := by kernel_rfl
theorem file_n (a : Int) (v : Value) (w : World) : (Instr.field 91 (.agg #[.int .i64 a, v]) 0).run Try.prog w = .ok (.int .i64 a) w := by kernel_rfl
def Dv.len (S : Dv) (nm : Nm) : Nat := match fnd S.fs nm with | some F => F.l.length | none => 0
set_option maxHeartbeats 1000000 in
theorem len_any (h : Dev K w g S) (nm : Nm) (hn : nm.length ≤ maxLen) : Calls Try.prog 27 #[ptr g, .string ⟨nm.toArray⟩] w fun e w' => e = .returned (.int .i64 (S.len nm : Int)) ∧ w = w' := by
  obtain ⟨h0, b1, b2, b3, sv, h⟩ := h
  obtain ⟨c0, c1, c2, c3, c4, c5⟩ := h.cell
  have hr := h.files.look1 nm_kind Try.underlying71 (zero_file w) (x := nm) hn
  unfold nmV at hr
  have hfl := file_n
  cases hf : fnd S.fs nm with
  | none =>
    rw [hf] at hr
    simp only [Option.map_none, Option.getD_none] at hr
    have e : S.len nm = 0 := by simp [Dv.len, hf]
    rw [e]
    clear h h0 hf e
    go_enter Try.func27, Try.ntmps27
    go_wp2
    go_ret
    exact ⟨rfl, rfl⟩
  | some F =>
    rw [hf] at hr
    simp only [Option.map_some, Option.getD_some, flV] at hr
    have e : S.len nm = F.l.length := by simp [Dv.len, hf]
    rw [e]
    clear h h0 hf e
    go_enter Try.func27, Try.ntmps27
    go_wp2
    go_ret
    exact ⟨rfl, rfl⟩
/-- which of three a pick is -/
def pickK (n : Int) : Int := n % 3
theorem kindOf_any (n : Int) (hn : -9223372036854775808 ≤ n ∧ n < 9223372036854775808) : Calls Try.prog 46 #[.int .i64 n] w fun e w' => e = .returned (.int .i64 (pickK n)) ∧ w = w' := by
  obtain ⟨n1, n2⟩ := hn
  have e1 : n.tmod 3 = if n % 3 = 0 ∨ 0 ≤ n then n % 3 else n % 3 - 3 := by
    rw [Int.tmod_eq_emod]
    by_cases h : 0 ≤ n
    · simp [h]
    · by_cases h2 : n % 3 = 0
      · have : (3 : Int) ∣ n := Int.dvd_of_emod_eq_zero h2
        simp [this, h2]
      · have : ¬ (3 : Int) ∣ n := fun e => h2 (Int.emod_eq_zero_of_dvd e)
        simp [h, h2, this]
  have hm := Int.emod_nonneg n (show (3 : Int) ≠ 0 by omega)
  have hm2 := Int.emod_lt_of_pos n (show (0 : Int) < 3 by omega)
  by_cases hc : n % 3 = 0 ∨ 0 ≤ n
  · rw [if_pos hc] at e1
    have e2 : pickK n = n % 3 := rfl
    obtain ⟨m, hm3⟩ : ∃ m, m = n % 3 := ⟨_, rfl⟩
    rw [e2, ← hm3]
    rw [← hm3] at e1 hm hm2
    have n3 : ¬ m < 0 := by omega
    clear hm3 hc e2
    go_enter Try.func46, Try.ntmps46
    go_wp2
    go_ret
    exact ⟨rfl, rfl⟩
  · rw [if_neg hc] at e1
    have e2 : pickK n = n % 3 := rfl
    obtain ⟨m, hm3⟩ : ∃ m, m = n % 3 := ⟨_, rfl⟩
    have hm4 : 0 < m := by omega
    rw [e2, ← hm3]
    rw [← hm3] at e1 hm hm2
    have n3 : m - 3 < 0 := by omega
    clear hm3 hc e2
    go_enter Try.func46, Try.ntmps46
    go_wp2
    go_ret
    exact ⟨by simp, rfl⟩
end
end Go.Proofs.Ytcmffifehpbjnaa
