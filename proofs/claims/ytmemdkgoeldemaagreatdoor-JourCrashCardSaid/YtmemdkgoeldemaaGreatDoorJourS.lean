/- Layer 8: may a batch be told behind others. Layer 8: the batches of a file, of all files; the greatest file. Layer 8: the batches of a device; the greatest file. -/
import Derived.Test.YtmemdkgoeldemaaGreatDoorJourB
import Derived.Test.YtmemdkgoeldemaaGreatDoorJourW
import Derived.Test.YtmemdkgoeldemaaGreatDoorJourT
import Derived.Test.YtmemdkgoeldemaaGreatDoorJourY
import Derived.Deep.Onto
namespace Go.Proofs.YtmemdkgoeldemaaGreatDoor
section
open Go.RowKit Go.Maps
set_option maxRecDepth 100000
set_option linter.unusedSimpArgs false
set_option linter.unusedVariables false
theorem flw_last {l : List Bt} (x : Bt) (h : 0 < l.length) : flw l x = (decide ((l[l.length - 1]'(by omega)).seq < x.seq) && (decide (x.seq - (l[l.length - 1]'(by omega)).seq = 1) || decide (x.kind = 2))) := by
  unfold flw
  rw [List.getLast?_eq_getElem?, List.getElem?_eq_getElem (by omega)]
set_option maxHeartbeats 4000000 in
theorem follows_any (ms : List Bm) (A : Option Addr) (c : Nat) (D : Nat) (W : World) (hD : D ≤ W.heap.size) (hl : Lies W D A (cellsBs ms)) (hlen : ms.length ≤ 1000000000000) (hms : ∀ y ∈ ms, y.x.seq < 18446744073709551616) (m : Bm) (hm : m.x.seq < 18446744073709551616) :
    Calls Tryz.prog 88 #[.slice A ms.length c, btV m] W fun e w' => e = .returned (.bool (flw (ms.map (·.x)) m.x)) ∧ Below W.heap.size W w' := by
  rcases Nat.eq_zero_or_pos ms.length with h0 | h0
  · have : ms = [] := List.eq_nil_of_length_eq_zero h0
    subst this
    unfold btV
    go_enter Tryz.func88, Tryz.ntmps88
    go_wp2
    go_ret
    exact ⟨rfl, (Below.refl _ _).alloc (Nat.le_refl _) _⟩
  · obtain ⟨b, o, rfl, hb, c0, c1, c2, c3, c4⟩ := lies_bm hl (ms.length - 1) (by omega)
    have e1 := flw_last (l := ms.map (·.x)) m.x (by simpa using h0)
    have e2 : ((ms.map (·.x))[(ms.map (·.x)).length - 1]'(by simp; omega)).seq = (ms[ms.length - 1]'(by omega)).x.seq := by simp
    rw [e2] at e1
    rw [e1]
    obtain ⟨y, hy⟩ : ∃ y, y = (ms[ms.length - 1]'(by omega)).x.seq := ⟨_, rfl⟩
    have hyl : y < 18446744073709551616 := by rw [hy]; exact hms _ (List.getElem_mem _)
    rw [← hy] at c0 ⊢
    obtain ⟨n, hn⟩ : ∃ n, n = ms.length - 1 := ⟨_, rfl⟩
    obtain ⟨L, hL⟩ : ∃ L, L = ms.length := ⟨_, rfl⟩
    rw [← hn] at c0
    rw [← hL] at hlen h0 ⊢
    rw [← hL] at hn
    have hw : IntKind.i64.wrap ((L : Int) - 1) = (n : Int) := by rw [show (L : Int) - 1 = (n : Int) by omega]; exact IntWalk.i64_in _ ⟨by omega, by omega⟩
    have hnl : (n : Int) < (L : Int) := by omega
    have hL0 : ¬ (L : Int) = 0 := by omega
    have HN1 := Lib.hid hn
    clear hn
    obtain ⟨⟨seq, kind, bb, file, pos⟩, A2, cc⟩ := m
    simp only at hm ⊢
    unfold btV
    simp only []
    clear hl hms c1 c2 c3 c4 e1 e2 hy hL
    have c0' : (W.alloc (.cells #[.int .u64 (seq : Int), .int .i64 (kind : Int), .slice A2 bb.length cc, .int .i64 file, .int .i64 pos] 32)).cell? ⟨b, o + n * 5, none⟩ = some (.int .u64 (y : Int)) := (((Below.refl _ W).alloc (Nat.le_refl _) _).cell (p := ⟨b, o + n * 5, none⟩) (show b < W.heap.size by omega)).trans c0
    by_cases h1 : y < seq
    · have g1 : (y : Int) < (seq : Int) := by omega
      obtain ⟨z, hz⟩ : ∃ z : Nat, (z : Int) = (seq : Int) - (y : Int) := ⟨seq - y, by omega⟩
      have hwz : IntKind.u64.wrap ((seq : Int) - (y : Int)) = (z : Int) := by rw [← hz]; exact IntWalk.u64_in _ ⟨by omega, by omega⟩
      rw [decide_eq_true h1, Bool.true_and]
      by_cases h2 : seq - y = 1
      · have g2 : (z : Int) = 1 := by omega
        rw [decide_eq_true h2, Bool.true_or]
        clear h1 h2 hz
        go_enter Tryz.func88, Tryz.ntmps88
        go_wp2
        all_goals
          go_ret
          exact ⟨rfl, (Below.refl _ _).alloc (Nat.le_refl _) _⟩
      · have g2 : ¬ (z : Int) = 1 := by omega
        rw [decide_eq_false h2, Bool.false_or]
        have HG2 := Lib.hid g2
        clear h1 h2 hz
        go_enter Tryz.func88, Tryz.ntmps88
        go_wp2
        all_goals
          go_ret
          refine ⟨?_, (Below.refl _ _).alloc (Nat.le_refl _) _⟩
          have e5 : ((z : Int) == 1) = false := by simpa using HG2.out
          have e6 : ((kind : Int) == 2) = decide (kind = 2) := by
            by_cases h3 : kind = 2
            · subst h3; rfl
            · rw [decide_eq_false h3]; apply beq_false_of_ne; omega
          show Ending.returned (.bool ((z : Int) == 1 || (kind : Int) == 2)) = _
          rw [e5, e6, Bool.false_or]
    · have g1 : ¬ (y : Int) < (seq : Int) := by omega
      rw [decide_eq_false h1, Bool.false_and]
      clear h1
      go_enter Tryz.func88, Tryz.ntmps88
      go_wp2
      all_goals
        go_ret
        exact ⟨rfl, (Below.refl _ _).alloc (Nat.le_refl _) _⟩
end
section
open Go.RowKit Go.Maps
set_option maxRecDepth 100000
set_option linter.unusedSimpArgs false
set_option linter.unusedVariables false
theorem scF_step {S : Dv} {nm : Nm} {file : Int} {n p : Nat} {l : List Bt} {x : Bt} (h1 : whP S nm file p = (0, x)) (h2 : flw l x = true) : scF S nm file (n + 1) p l = scF S nm file n (p + need x.b.length) (l ++ [x]) := by
  conv => lhs; unfold scF
  rw [h1, if_neg (by simp [h2])]
theorem scF_stop {S : Dv} {nm : Nm} {file : Int} {n p : Nat} {l : List Bt} (h : (whP S nm file p).1 ≠ 0 ∨ flw l (whP S nm file p).2 = false) : scF S nm file n p l = l := by
  cases n with
  | zero => rfl
  | succ n => unfold scF; rw [if_pos h]
theorem scF_length {S : Dv} {nm : Nm} {file : Int} : ∀ (n p : Nat) (l : List Bt), (scF S nm file n p l).length ≤ l.length + n := by
  intro n
  induction n with
  | zero => intro p l; exact Nat.le_refl _
  | succ n ih =>
    intro p l
    unfold scF
    split
    · omega
    · have := ih (p + need (whP S nm file p).2.b.length) (l ++ [(whP S nm file p).2])
      rw [List.length_append] at this
      simp at this
      omega
/-- a row of batches that is one's own -/
def OwnBs (W : World) (base : Nat) (v : Value) (ms : List Bm) : Prop :=
  W.ownsRow base 32 5 v ms.length (cellsBs ms) ∧ ∀ m ∈ ms, BmAt W (fun i => base ≤ i) m ∧ m.x.seq < 18446744073709551616 ∧ m.x.b.length ≤ 196608
theorem dv_len {S : Dv} (hO : Ok S) (nm : Nm) : S.len nm ≤ 100000 := by
  have h1 := hO.room
  have h2 := hO.most
  unfold Dv.len
  cases hff : fnd S.fs nm with
  | none => simp
  | some F => have := (fil_le hO hff).1; simp only []; omega
theorem OwnBs.lies {W : World} {base n c : Nat} {A : Option Addr} {ms : List Bm} (h : OwnBs W base (.slice A n c) ms) : Lies W W.heap.size A (cellsBs ms) := by
  obtain ⟨A', c', e, _, _⟩ := own_form h.1
  injection e with e1 e2 e3
  subst e1 e2 e3
  exact (LiesP.own (P := fun _ => True) h.1 (fun _ _ => trivial)).lies
theorem OwnBs.below {W W' : World} {base : Nat} {v : Value} {ms : List Bm} (h : OwnBs W base v ms) (hb : Below W.heap.size W W') : OwnBs W' base v ms :=
  ⟨own_block h.1 (fun i hi => hb.block i (h.1.lt i hi).2), fun m hm => ⟨(h.2 m hm).1.below hb, (h.2 m hm).2⟩⟩
/-- rows of other types are as they were -/
def RowsKept (W w' : World) : Prop := ∀ base e size n v xs, e ≠ 32 → W.ownsRow base e size v n xs → w'.ownsRow base e size v n xs
theorem RowsKept.refl (W : World) : RowsKept W W := fun _ _ _ _ _ _ _ h => h
theorem RowsKept.below {a b c : World} (h : RowsKept a b) (hb : Below b.heap.size b c) : RowsKept a c := fun _ _ _ _ _ _ he hr =>
  own_block (h _ _ _ _ _ _ he hr) (fun i hi => hb.block i ((h _ _ _ _ _ _ he hr).lt i hi).2)
theorem RowsKept.row {a b c : World} (h : RowsKept a b) {base n : Nat} {v : Value} {xs : List Value} (hr : b.ownsRow base 32 5 v n xs) (hg : b.grownBy c v.ownBlock) : RowsKept a c := fun _ _ _ _ _ _ he hr2 =>
  (h _ _ _ _ _ _ he hr2).kept hg (own_apart_types (h _ _ _ _ _ _ he hr2) hr he)
theorem RowsKept.trans {a b c : World} (h : RowsKept a b) (k : RowsKept b c) : RowsKept a c := fun _ _ _ _ _ _ he hr => k _ _ _ _ _ _ he (h _ _ _ _ _ _ he hr)
theorem cellsBm_one (m : Bm) : ∀ u ∈ cellsBm m, u.oneCell' = true := by
  have := cellsBs_one [m]
  simpa [cellsBs] using this
/-- ahead of the append: the row, what was read, its box -/
structure SfAt (W0 W wr : World) (Al : Option Addr) (cl : Nat) (ns : List Bm) (x : Bt) (A : Option Addr) (c bx : Nat) (w : World) : Prop where
  row : OwnBs w W0.heap.size (.slice Al ns.length cl) ns
  bel : Below W0.heap.size W0 w
  kept : RowsKept W w
  own : w.ownsRow wr.heap.size 5 1 (.slice A x.b.length c) x.b.length (B8 x.b)
  box : Whole w bx 32 #[.int .u64 (x.seq : Int), .int .i64 (x.kind : Int), .slice A x.b.length c, .int .i64 x.file, .int .i64 x.pos]
  new : wr.heap.size ≤ bx
  old : (Value.slice Al ns.length cl).ownBlock ≠ some bx
theorem SfAt.of {W0 W wr w1 w2 : World} {Al : Option Addr} {cl : Nat} {ns : List Bm} {x : Bt} {A : Option Addr} {c : Nat} (hr : OwnBs wr W0.heap.size (.slice Al ns.length cl) ns) (hb : Below W0.heap.size W0 wr) (hk : RowsKept W wr)
    (h1 : Below wr.heap.size wr w1) (ho : w1.ownsRow wr.heap.size 5 1 (.slice A x.b.length c) x.b.length (B8 x.b))
    (h2 : Below (w1.alloc (.cells #[.int .u64 (x.seq : Int), .int .i64 (x.kind : Int), .slice A x.b.length c, .int .i64 x.file, .int .i64 x.pos] 32)).heap.size (w1.alloc (.cells #[.int .u64 (x.seq : Int), .int .i64 (x.kind : Int), .slice A x.b.length c, .int .i64 x.file, .int .i64 x.pos] 32)) w2) : SfAt W0 W wr Al cl ns x A c w1.heap.size w2 where
  row := (hr.below (h1.alloc h1.size _)).below h2
  bel := (hb.trans ((h1.alloc h1.size _).mono hb.size)).trans (h2.mono (by have := hb.size; have := h1.size; simp; omega))
  kept := (hk.below (h1.alloc h1.size _)).below h2
  own := own_block (ho.alloc _) fun i hi => h2.block i ((ho.alloc _).lt i hi).2
  box := (Whole.new w1 _ _).below h2 (by simp)
  new := h1.size
  old := fun e => by have := (hr.1.lt _ e).2; have := h1.size; omega
theorem SfAt.le {W0 W wr w : World} {Al : Option Addr} {cl : Nat} {ns : List Bm} {x : Bt} {A : Option Addr} {c bx : Nat} (h : SfAt W0 W wr Al cl ns x A c bx w) (o : Obj) : W0.heap.size ≤ (w.alloc o).heap.size := by
  have := h.bel.size
  simp
  omega
theorem SfAt.boxed {W0 W wr w w3 : World} {Al : Option Addr} {cl : Nat} {ns : List Bm} {x : Bt} {A : Option Addr} {c bx : Nat} (h : SfAt W0 W wr Al cl ns x A c bx w) {o : Obj} (hg : (w.alloc o).grownBy w3 (Value.slice Al ns.length cl).ownBlock) :
    Whole w3 bx 32 #[.int .u64 (x.seq : Int), .int .i64 (x.kind : Int), .slice A x.b.length c, .int .i64 x.file, .int .i64 x.pos] := (h.box.alloc o).grown hg (fun e => h.old e.symm)
theorem SfAt.done {W0 W wr w w3 : World} {Al : Option Addr} {cl : Nat} {ns : List Bm} {x : Bt} {A : Option Addr} {c bx : Nat} (h : SfAt W0 W wr Al cl ns x A c bx w) {o : Obj} (hg : (w.alloc o).grownBy w3 (Value.slice Al ns.length cl).ownBlock)
    {v3 : Value} (ho : w3.ownsRow W0.heap.size 32 5 v3 (ns.length + 1) (cellsBs ns ++ cellsBm ⟨x, A, c⟩)) (hx : x.seq < 18446744073709551616 ∧ x.b.length ≤ 196608) (hle : W0.heap.size ≤ wr.heap.size) :
    OwnBs w3 W0.heap.size v3 (ns ++ [⟨x, A, c⟩]) ∧ Below W0.heap.size W0 w3 ∧ RowsKept W w3 := by
  have hr := h.row.1.alloc o
  have hb : Below (w.alloc o).heap.size w (w.alloc o) ∨ True := .inr trivial
  have hbo : Below w.heap.size w (w.alloc o) := (Below.refl _ _).alloc (Nat.le_refl _) o
  refine ⟨⟨?_, fun m hm => ?_⟩, (h.bel.alloc (by have := h.bel.size; omega) o).trans ((Below.refl _ _).grown hg (by have := h.bel.size; simp; omega) (fun i hi => (hr.lt i hi).1)), (h.kept.below hbo).row hr hg⟩
  · rw [List.length_append, cellsBs_append]
    simpa [cellsBs] using ho
  · rcases List.mem_append.1 hm with hm | hm
    · obtain ⟨a1, a2⟩ := h.row.2 m hm
      exact ⟨(a1.below hbo).beside hr hg, a2⟩
    · simp at hm
      subst hm
      refine ⟨⟨?_, fun i hi => ?_⟩, hx⟩
      · exact ((h.own.alloc o).mono (Nat.zero_le _)).kept hg (own_apart_types (h.own.alloc o) hr (by decide))
      · exact Nat.le_trans hle (h.own.lt i hi).1
section
variable {B g : Nat} {X : Nat → Prop} {w0 W0 W : World} {S : Dv}
/-- what the loop holds: behind some batches -/
def ScanAt (S : Dv) (nm : Nm) (file : Int) (l0 : List Bt) (W0 W : World) (vl va : Value) (wr : World) : Prop :=
  RowsKept W wr ∧ ∃ (n p : Nat) (ms : List Bm), va = .int .i64 (p : Int) ∧ p ≤ S.len nm ∧ scF S nm file (S.len nm + 1) 0 l0 = scF S nm file n p (ms.map (·.x)) ∧ S.len nm + 1 ≤ n + p ∧ ms.length ≤ l0.length + p ∧ OwnBs wr W0.heap.size vl ms ∧ Below W0.heap.size W0 wr
set_option maxHeartbeats 8000000 in
theorem scanFile_any (h : At B X w0 g S W0) (hb : Below W0.heap.size W0 W) (file : Int) (hf : -9223372036854775808 ≤ file ∧ file < 9223372036854775808) (hI : 1 ≤ file ∧ file ≤ 999999 → ∀ w', Itoas file w') (v : Value) (ms : List Bm) (hv : OwnBs W W0.heap.size v ms) (hn : ms.length ≤ 200000000000) :
    Calls Tryz.prog 51 #[ptr g, .int .i64 file, v] W fun e w' => ∃ v' ms', e = .returned v' ∧ ms'.map (·.x) = scF S (nmJ file) file (S.len (nmJ file) + 1) 0 (ms.map (·.x)) ∧ OwnBs w' W0.heap.size v' ms' ∧ Below W0.heap.size W0 w' ∧ RowsKept W w' := by
  obtain ⟨nm, hnm⟩ : ∃ nm, nm = nmJ file := ⟨_, rfl⟩
  have hlen := dv_len h.dev.1 nm
  have hwa0 := fun (w : World) (hw : Below W0.heap.size W0 w) (p : Nat) (hp : p ≤ 100000) => whole_any (h.below hw).1 file hf hI (p : Int) ⟨by omega, by omega⟩
  rw [← hnm] at hwa0 ⊢
  have HWA := Lib.hid hwa0
  have H := Lib.hid h
  have HB := Lib.hid hb
  have HV := Lib.hid hv
  obtain ⟨i0, hi, hz0, hz1, hz2⟩ := info_parts batch_info
  have KI := Lib.hid hi
  have G0 := Lib.hid hz0
  have G1 := Lib.hid hz1
  have G2 := Lib.hid hz2
  obtain ⟨l0, hl0⟩ : ∃ l0, l0 = ms.map (·.x) := ⟨_, rfl⟩
  have hl0n : l0.length = ms.length := by rw [hl0]; simp
  have HL0 := Lib.hid hl0
  have HLN := Lib.hid hl0n
  rw [← hl0]
  clear h hb hv hI hf hnm hl0 hl0n hi hz0 hz1 hz2 hwa0
  go_enter Tryz.func51, Tryz.ntmps51
  go_wp2_with fail
  go_loopw [2, 7] (fun vl va wr => ScanAt S nm file l0 W0 W vl va wr) (fun _ va _ => S.len nm + 1 - (intOf va).toNat)
  case atStart => exact ⟨RowsKept.refl _, _, 0, ms, rfl, Nat.zero_le _, by rw [HL0.out], by omega, by rw [HLN.out]; omega, HV.out, HB.out⟩
  case round =>
    obtain ⟨hrk, n, p, ns, rfl, hp, hsc, hnp, hns, hown, hbr⟩ := hrel
    obtain ⟨Al, cl, rfl, _, _⟩ := own_form hown.1
    have hp1 : p ≤ 100000 := by omega
    have hnl : ns.length ≤ 300000000000 := by rw [HLN.out] at hns; omega
    obtain ⟨e1, x, hx⟩ : ∃ e1 x, whP S nm file (p : Int) = (e1, x) := ⟨_, _, rfl⟩
    have hwa : Calls Tryz.prog 74 #[ptr g, .int .i64 file, .int .i64 (p : Int)] wr fun e w' => ∃ A c, e = .returned (.tuple #[.agg #[.int .u64 (x.seq : Int), .int .i64 (x.kind : Int), .slice A x.b.length c, .int .i64 x.file, .int .i64 x.pos], .int .i64 e1]) ∧ w'.ownsRow wr.heap.size 5 1 (.slice A x.b.length c) x.b.length (B8 x.b) ∧ Below wr.heap.size wr w' :=
      (HWA.out wr hbr p hp1).mono fun e w' ⟨⟨x', A, c⟩, h1, h2, h3, h4⟩ => by
        rw [hx] at h1 h2
        have h2' : x' = x := h2
        subst h2'
        exact ⟨A, c, h1, h3, h4⟩
    have HW := Lib.hid hwa
    have OW := Lib.hid hown
    have BR := Lib.hid hbr
    have RK := Lib.hid hrk
    have SC := Lib.hid hsc
    have HX := Lib.hid hx
    have hzr := hbr.size
    have HNS := Lib.hid hns
    have hnp1 := Lib.hid hnp
    obtain ⟨seq, kind, bb, xf, pos⟩ := x
    simp only at hwa
    clear hwa hown hbr hsc hns hnp hrk
    by_cases he : e1 = 0
    · subst he
      obtain ⟨k1, k2, k3, k4, k5, k6, k7, k8, k9, k10⟩ := whP_ok hx
      simp only at k1 k2 k3 k4 k5 k6 k7 k8 k9 k10
      obtain ⟨fl, hfl⟩ : ∃ fl, flw (ns.map (·.x)) ⟨seq, kind, bb, xf, pos⟩ = fl := ⟨_, rfl⟩
      have HFL := Lib.hid hfl
      have hfo := fun (w : World) (A : Option Addr) (c : Nat) (hw : Below wr.heap.size wr w) => follows_any ns Al cl w.heap.size w (Nat.le_refl _) (OW.out.below hw).lies (by omega) (fun y hy => (OW.out.2 y hy).2.1) ⟨⟨seq, kind, bb, xf, pos⟩, A, c⟩ k6
      simp only [hfl] at hfo
      have HFO := Lib.hid hfo
      have K2 := Lib.hid k2
      have K6 := Lib.hid k6
      have K10 := Lib.hid k10
      clear hx hfl hfo k1 k2 k3 k4 k5 k6 k7 k8 k9
      cases fl with
      | false =>
        go_wp2_with (first
          | (go_at_call 74; go_must (refine HW.out.mono ?_); rintro e w1 ⟨A, c, rfl, hown1, hb1⟩; have B1 := Lib.hid hb1; clear hb1 hown1)
          | (go_at_call 88; go_must (refine (HFO.out _ A c (B1.out.alloc B1.out.size _)).mono ?_); rintro e w2 ⟨rfl, hb2⟩; have B2 := Lib.hid hb2; clear hb2))
        go_ret
        refine ⟨_, ns, rfl, ?_, ?_, ?_, (RK.out.below (B1.out.alloc B1.out.size _)).below B2.out⟩
        · rw [SC.out, scF_stop (.inr (by rw [HX.out]; exact HFL.out))]
        · exact ((OW.out.below (B1.out.alloc B1.out.size _))).below B2.out
        · exact (BR.out.trans ((B1.out.alloc B1.out.size _).mono hzr)).trans (B2.out.mono (by have := B1.out.size; simp; omega))
      | true =>
        have hzz := need_any bb.length
        obtain ⟨z, hz⟩ : ∃ z, z = need bb.length := ⟨_, rfl⟩
        rw [← hz] at hzz
        have HZ := Lib.hid hz
        have hz1 := need_pos bb.length
        rw [← hz] at hz1
        have hz2 : p + z ≤ S.len nm := by have := K2.out; rw [← hz] at this; omega
        have hwz : IntKind.i64.wrap ((p : Int) + (z : Int)) = (p : Int) + (z : Int) := IntWalk.i64_in _ ⟨by omega, by omega⟩
        have HNE := Lib.hid (fun w => hzz w (by omega))
        have hs1 : ns.length + 1 ≤ maxLen := by unfold maxLen; omega
        have hs2 : (ns.length + 1) * 56 ≤ 140737488355328 := by omega
        have HS1 := Lib.hid hs1
        have HS2 := Lib.hid hs2
        clear hz hzz hs1 hs2
        go_wp2_with (first
          | (go_at_call 74; go_must (refine HW.out.mono ?_); rintro e w1 ⟨A, c, rfl, hown1, hb1⟩; have B1 := Lib.hid hb1; have O1 := Lib.hid hown1; clear hb1 hown1)
          | (go_at_call 88; go_must (refine (HFO.out _ A c (B1.out.alloc B1.out.size _)).mono ?_); rintro e w2 ⟨rfl, hb2⟩; have F2 : Hid (SfAt W0 W wr Al cl ns ⟨seq, kind, bb, xf, pos⟩ A c w1.heap.size w2) := Lib.hid (SfAt.of OW.out BR.out RK.out B1.out O1.out hb2); obtain ⟨q0, q1, q2, q3, q4⟩ := F2.out.box.five; clear hb2)
          | (at_builtin; go_must (refine wpList_append_apart rfl _ _ 26 rfl W0.heap.size 32 i0 _ 5 56 Tryz.underlying26 KI.out G0.out G1.out G2.out batch_zero (by omega) _ ns.length (cellsBs ns) rfl (F2.out.row.1.alloc _) _ _ 1 1 (cellsBm ⟨⟨seq, kind, bb, xf, pos⟩, A, c⟩) rfl (Lies.lit w2 32 (cellsBm ⟨⟨seq, kind, bb, xf, pos⟩, A, c⟩)) rfl (cellsBm_one _) HS1.out HS2.out (F2.out.le _) ?_); intro v3 w3 hown3 hg3; have O3 := Lib.hid hown3; have G3 := Lib.hid hg3; obtain ⟨q0, q1, q2, q3, q4⟩ := (F2.out.boxed hg3).five; obtain ⟨A3, c3, rfl, _, _⟩ := own_form hown3; clear hown3 hg3)
          | (go_at_call 17; go_must (refine (HNE.out _).mono ?_); rintro e w4 ⟨rfl, rfl⟩))
        have hns1 := HNS.out
        have hnp2 := hnp1.out
        obtain ⟨n', rfl⟩ : ∃ n', n = n' + 1 := ⟨n - 1, by omega⟩
        obtain ⟨d1, d2, d3⟩ := F2.out.done G3.out O3.out ⟨K6.out, K10.out⟩ hzr
        go_roundw
        case rel =>
          refine ⟨d3, n', p + z, ns ++ [⟨⟨seq, kind, bb, xf, pos⟩, A, c⟩], by go_num, hz2, ?_, by omega, by rw [List.length_append]; simp; omega, d1, d2⟩
          rw [SC.out, scF_step HX.out HFL.out, HZ.out]
          simp
        case measure => simp [intOf]; omega
    · have hE : scF S nm file n p (ns.map (·.x)) = ns.map (·.x) := scF_stop (.inl (by rw [hx]; exact he))
      have HE := Lib.hid hE
      clear hx hE
      go_wp2_with (go_at_call 74; go_must (refine HW.out.mono ?_); rintro e w1 ⟨A, c, rfl, hown1, hb1⟩; have B1 := Lib.hid hb1; clear hb1 hown1)
      go_ret
      refine ⟨_, ns, rfl, ?_, ?_, ?_, RK.out.below (B1.out.alloc B1.out.size _)⟩
      · rw [SC.out, HE.out]
      · exact OW.out.below (B1.out.alloc B1.out.size _)
      · exact BR.out.trans ((B1.out.alloc B1.out.size _).mono hzr)
end
end
section
open Go.RowKit Go.Maps
set_option maxRecDepth 100000
set_option linter.unusedSimpArgs false
set_option linter.unusedVariables false
section
variable {B g : Nat} {X : Nat → Prop} {w0 W : World} {S : Dv}
theorem ns_num {ns : List Int} {L : List Nm} (hns : L = ns.map nmJ) (k : Nat) (hk : k < ns.length) : (L.map encStr)[k]? = some (.string ⟨(nmJ ns[k]).toArray⟩) := by
  subst hns
  simp [hk, encStr]
theorem scN_take {S : Dv} {ns : List Int} {k : Nat} (hk : k < ns.length) : scN S (ns.take (k + 1)) [] = scF S (nmJ ns[k]) ns[k] (S.len (nmJ ns[k]) + 1) 0 (scN S (ns.take k) []) := by
  unfold scN
  rw [List.take_succ_eq_append_getElem hk, List.foldl_append]
  rfl
theorem grN_take {ns : List Int} {k : Nat} (hk : k < ns.length) : grN (ns.take (k + 1)) = max (grN (ns.take k)) ns[k] := by
  unfold grN
  rw [List.take_succ_eq_append_getElem hk, List.foldl_append]
  rfl
theorem grN_in {ns : List Int} (hn : ∀ n ∈ ns, 1 ≤ n ∧ n < 100) (k : Nat) : 0 ≤ grN (ns.take k) ∧ grN (ns.take k) < 100 := by
  induction k with
  | zero => exact ⟨Int.le_refl _, by show (0 : Int) < 100; omega⟩
  | succ k ih =>
    rcases Nat.lt_or_ge k ns.length with hk | hk
    · rw [grN_take hk]
      have := hn _ (List.getElem_mem hk)
      omega
    · rw [List.take_of_length_le (by omega)]
      rw [List.take_of_length_le (by omega)] at ih
      exact ih
set_option maxHeartbeats 8000000 in
theorem scan_any (h : At B X w0 g S W) (ns : List Int) (hns : S.fs.map (·.1) = ns.map nmJ) (hn : ∀ n ∈ ns, 1 ≤ n ∧ n < 100) :
    Calls Tryz.prog 19 #[ptr g] W fun e w' => ∃ v ms, e = .returned v ∧ ms.map (·.x) = scN S ns [] ∧ OwnBs w' W.heap.size v ms ∧ Below W.heap.size W w' := by
  have hlen : S.fs.length = ns.length := by have := congrArg List.length hns; simpa using this
  have hlen2 : ns.length ≤ 1000000 := by have := h.dev.1.few; omega
  have H := Lib.hid h
  have HNS := Lib.hid hns
  have HN := Lib.hid hn
  have hnm := at_names2 h
  rw [hlen] at hnm
  have HNM := Lib.hid hnm
  clear h hns hn hlen hnm
  go_enter Tryz.func19, Tryz.ntmps19
  go_upto_region 3 with (go_at_call 49; go_must (refine HNM.out.mono ?_); rintro e w1 ⟨vn, rfl, hrow, _, _, hb1⟩; have B1 := Lib.hid hb1; have R1 := Lib.hid hrow; obtain ⟨An, cn, rfl, _, _⟩ := own_form hrow; clear hb1 hrow)
  go_wp2_with fail
  go_loopw [3, 10] (fun vl vi wr => ∃ (k : Nat) (ms : List Bm), k ≤ ns.length ∧ vi = .int .i64 (k : Int) ∧ ms.map (·.x) = scN S (ns.take k) [] ∧ ms.length ≤ k * 100001 ∧ OwnBs wr W.heap.size vl ms ∧ Below W.heap.size W wr ∧ wr.ownsRow (W.heap.size + 1) 9 1 (.slice An ns.length cn) ns.length ((S.fs.map (·.1)).map encStr)) (fun _ vi _ => ns.length - (intOf vi).toNat)
  case atStart => exact ⟨0, [], Nat.zero_le _, rfl, rfl, Nat.zero_le _, ⟨World.ownsRow_nil _ _ _ _, fun m hm => by cases hm⟩, B1.out, R1.out⟩
  case round =>
    obtain ⟨k, ms, hk, rfl, hms, hml, hown, hbr, hrow⟩ := hrel
    have HMS := Lib.hid hms
    have OW := Lib.hid hown
    have BR := Lib.hid hbr
    have RR := Lib.hid hrow
    have HML := Lib.hid hml
    by_cases hlt : k < ns.length
    · have hi1 : (k : Int) < (ns.length : Int) := by omega
      obtain ⟨q, hq⟩ : ∃ q, q = ns[k]'hlt := ⟨_, rfl⟩
      have hq1 := HN.out _ (List.getElem_mem hlt)
      rw [← hq] at hq1
      obtain ⟨hq2, hq3⟩ := hq1
      have hcell := ns_num HNS.out k hlt
      rw [← hq] at hcell
      obtain ⟨NM, hNM⟩ : ∃ NM, NM = nmJ q := ⟨_, rfl⟩
      rw [← hNM] at hcell
      have hnum := fun w => number_any q w (by omega) (fun w' => itoas_small q (by omega) w')
      rw [← hNM] at hnum
      obtain ⟨gn, hgn, hgb, hgl⟩ := own_head hrow (by omega)
      subst hgn
      have hc := (hrow.cellAt k (by omega)).trans hcell
      have hstep := scN_take (S := S) hlt
      rw [← hq] at hstep
      have HST := Lib.hid hstep
      have HNU := Lib.hid hnum
      have hsf := fun (w : World) (hw : Below W.heap.size W w) (ho : OwnBs w W.heap.size u3 ms) => scanFile_any H.out hw q ⟨by omega, by omega⟩ (fun _ w' => itoas_small q (by omega) w') u3 ms ho (by have := HML.out; omega)
      have HSF := Lib.hid hsf
      have HNMq := Lib.hid hNM
      clear hms hml hown hbr hrow hcell hnum hstep hsf hq hNM
      go_wp2_with (first
        | (go_at_call 50; go_must (refine (HNU.out _).mono ?_); rintro e w2 ⟨rfl, hb2⟩; have B2 := Lib.hid hb2; clear hb2)
        | (go_at_call 51; go_must (refine (HSF.out _ (BR.out.trans (B2.out.mono BR.out.size)) (OW.out.below B2.out)).mono ?_); rintro e w3 ⟨v3, ms3, rfl, hm3, ho3, hb3, hr3⟩; have M3 := Lib.hid hm3; have O3 := Lib.hid ho3; have B3 := Lib.hid hb3; have K3 := Lib.hid hr3; clear hm3 ho3 hb3 hr3))
      go_roundw
      case rel =>
        refine ⟨k + 1, ms3, by omega, by go_num, ?_, ?_, O3.out, B3.out, K3.out _ _ _ _ _ _ (by decide) (own_block RR.out (fun i hi => B2.out.block i (RR.out.lt i hi).2))⟩
        · rw [M3.out, HST.out, HMS.out]
        · have h1 := congrArg List.length M3.out
          have h2 := scF_length (S := S) (nm := nmJ q) (file := q) (S.len (nmJ q) + 1) 0 (ms.map (·.x))
          have h3 := dv_len H.out.dev.1 (nmJ q)
          have h4 := HML.out
          rw [List.length_map] at h1 h2
          omega
      case measure => simp [intOf]; omega
    · have hk2 : k = ns.length := by omega
      subst hk2
      clear hms hml hown hbr hrow
      go_wp2_with fail
      go_ret
      refine ⟨_, ms, rfl, ?_, OW.out, BR.out⟩
      rw [HMS.out, List.take_length]
set_option maxHeartbeats 8000000 in
theorem greatest_any (h : At B X w0 g S W) (ns : List Int) (hns : S.fs.map (·.1) = ns.map nmJ) (hn : ∀ n ∈ ns, 1 ≤ n ∧ n < 100) :
    Calls Tryz.prog 39 #[ptr g] W fun e w' => e = .returned (.int .i64 (grN ns)) ∧ Below W.heap.size W w' := by
  have hlen : S.fs.length = ns.length := by have := congrArg List.length hns; simpa using this
  have hlen2 : ns.length ≤ 1000000 := by have := h.dev.1.few; omega
  have HNS := Lib.hid hns
  have HN := Lib.hid hn
  have hnm := at_names2 h
  rw [hlen] at hnm
  have HNM := Lib.hid hnm
  clear h hns hn hlen hnm
  go_enter Tryz.func39, Tryz.ntmps39
  go_upto_region 3 with (go_at_call 49; go_must (refine HNM.out.mono ?_); rintro e w1 ⟨vn, rfl, hrow, _, _, hb1⟩; have B1 := Lib.hid hb1; have R1 := Lib.hid hrow; obtain ⟨An, cn, rfl, _, _⟩ := own_form hrow; clear hb1 hrow)
  go_wp2_with fail
  go_loopw [3, 9] (fun vl vi wr => ∃ (k : Nat), k ≤ ns.length ∧ vi = .int .i64 (k : Int) ∧ vl = .int .i64 (grN (ns.take k)) ∧ Below W.heap.size W wr ∧ wr.ownsRow (W.heap.size + 1) 9 1 (.slice An ns.length cn) ns.length ((S.fs.map (·.1)).map encStr)) (fun _ vi _ => ns.length - (intOf vi).toNat)
  case atStart => exact ⟨0, Nat.zero_le _, rfl, rfl, B1.out, R1.out⟩
  case round =>
    obtain ⟨k, hk, rfl, rfl, hbr, hrow⟩ := hrel
    have BR := Lib.hid hbr
    have RR := Lib.hid hrow
    obtain ⟨gr1, gr2⟩ := grN_in HN.out k
    obtain ⟨G, hG⟩ : ∃ G, G = grN (ns.take k) := ⟨_, rfl⟩
    rw [← hG] at gr1 gr2 ⊢
    have HG := Lib.hid hG
    clear hG
    by_cases hlt : k < ns.length
    · have hi1 : (k : Int) < (ns.length : Int) := by omega
      obtain ⟨q, hq⟩ : ∃ q, q = ns[k]'hlt := ⟨_, rfl⟩
      have hq1 := HN.out _ (List.getElem_mem hlt)
      rw [← hq] at hq1
      obtain ⟨hq2, hq3⟩ := hq1
      have hcell := ns_num HNS.out k hlt
      rw [← hq] at hcell
      obtain ⟨NM, hNM⟩ : ∃ NM, NM = nmJ q := ⟨_, rfl⟩
      rw [← hNM] at hcell
      have hnum := fun w => number_any q w (by omega) (fun w' => itoas_small q (by omega) w')
      rw [← hNM] at hnum
      obtain ⟨gn, hgn, hgb, hgl⟩ := own_head hrow (by omega)
      subst hgn
      have hc := (hrow.cellAt k (by omega)).trans hcell
      have hstep := grN_take hlt
      rw [← hq, ← HG.out] at hstep
      have HST := Lib.hid hstep
      have HNU := Lib.hid hnum
      have HNMq := Lib.hid hNM
      clear hbr hrow hcell hnum hstep hq hNM
      go_wp2_with (go_at_call 50; go_must (refine (HNU.out _).mono ?_); rintro e w2 ⟨rfl, hb2⟩; have B2 := Lib.hid hb2; clear hb2)
      go_roundw
      case rel =>
        exact ⟨k + 1, by omega, by go_num, by rw [HST.out], BR.out.trans (B2.out.mono BR.out.size), own_block RR.out (fun i hi => B2.out.block i (RR.out.lt i hi).2)⟩
      case measure => simp [intOf]; omega
    · have hk2 : k = ns.length := by omega
      subst hk2
      clear hbr hrow
      go_wp2_with fail
      go_ret
      refine ⟨?_, BR.out⟩
      rw [HG.out, List.take_length]
      rfl
end
end
end Go.Proofs.YtmemdkgoeldemaaGreatDoor
