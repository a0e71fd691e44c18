/- Layer 8: a batch that is whole. -/
import Derived.Test.YtmemdkgoeldemaaGreatDoorJourB
namespace Go.Proofs.YtmemdkgoeldemaaGreatDoor
open Go.RowKit Go.Maps
set_option maxRecDepth 100000
set_option linter.unusedSimpArgs false
set_option linter.unusedVariables false
theorem wp_rename4 {P : Program} {c : Code} {Q : Exit → Act → World → Prop} {a : Act} {W : World} (I : World → Prop) (hI : I W) (k : ∀ W', I W' → Code.wp P c Q a W') : Code.wp P c Q a W := k W hI
def btR (m : Bm) : Array Value := #[.int .u64 (m.x.seq : Int), .int .i64 (m.x.kind : Int), m.sl, .int .i64 m.x.file, .int .i64 m.x.pos]
theorem load_bt (w : World) (g : Nat) (cs : Array Value) (hg : Whole w g 32 cs) (hs : cs.size = 5) : (loadVar 32 ⟨g, 0, none⟩).run Tryz.prog w = .ok (.agg cs) w :=
  run_loadVar_row (P := Tryz.prog) w g _ _ cs (0, 0) _ hg Tryz.underlying32 rfl (by rw [hs]; kernel_rfl)
theorem whole_end {w : World} {b : Nat} {cs : Array Value} (hg : Whole w b 32 cs) (hs : cs.size = 5) (tmps : Array Value) (ds) (c : Int) (h6 : tmps.getD 6 undef = ptr b) (h7 : tmps.getD 7 undef = .int .i64 c)
    (R : Ending → World → Prop) (hR : R (.returned (.tuple #[.agg cs, .int .i64 c])) w) (hd : ds = []) : bodyPost Tryz.prog Tryz.f74 R .ret { tmps := tmps, defers := ds } w := by
  refine bodyPost_ret (v := .tuple #[.agg cs, .int .i64 c]) ?_ hd hR
  rw [results_cell_tmp (p := 6) (u := 7) (ty := 32) rfl]
  rw [h6, h7]
  simp [asAddr, load_bt w b cs hg hs, Result.andThen]
theorem append_end {w : World} {b : Nat} {cs : Array Value} (hg : Whole w b 32 cs) (hs : cs.size = 5) (tmps : Array Value) (ds) (c : Int) (h6 : tmps.getD 6 undef = ptr b) (h7 : tmps.getD 7 undef = .int .i64 c)
    (R : Ending → World → Prop) (hR : R (.returned (.tuple #[.agg cs, .int .i64 c])) w) (hd : ds = []) : bodyPost Tryz.prog Tryz.f12 R .ret { tmps := tmps, defers := ds } w := by
  refine bodyPost_ret (v := .tuple #[.agg cs, .int .i64 c]) ?_ hd hR
  rw [results_cell_tmp (p := 6) (u := 7) (ty := 32) rfl]
  rw [h6, h7]
  simp [asAddr, load_bt w b cs hg hs, Result.andThen]
theorem whL_round {S : Dv} {nm : Nm} {at0 : Int} {h : Hd} {k : Nat} (hk : k < h.count) (acc : List UInt8) : whL S nm at0 h (h.count - k) acc =
    if (pRead S nm (at0 + (k : Int))).2 ≠ 0 then ((pRead S nm (at0 + (k : Int))).2, [])
    else match dataP (h.at k) (pRead S nm (at0 + (k : Int))).1 with
      | none => (1, [])
      | some b => whL S nm at0 h (h.count - (k + 1)) (acc ++ b) := by
  obtain ⟨n, hn⟩ : ∃ n, n = h.count - (k + 1) := ⟨_, rfl⟩
  rw [show h.count - k = n + 1 by omega, ← hn]
  conv => lhs; unfold whL
  rw [show h.count - (n + 1) = k by omega]
  rfl
def cellN (w : World) (g i : Nat) : Nat := match w.cell? ⟨g, i, none⟩ with | some v => (intOf v).toNat | none => 0
/-- the loop's state: k sectors are read -/
def WhAt (S : Dv) (nm : Nm) (at0 : Int) (h : Hd) (file : Int) (W : World) (bh bx : Nat) (v7 : Value) (wr : World) : Prop :=
  ∃ (k : Nat) (acc : List UInt8) (vB : Value), v7 = .int .i64 0 ∧ k ≤ h.count ∧ acc.length ≤ 48 * k ∧ Below W.heap.size W wr ∧
    Whole wr W.heap.size 32 #[.int .u64 0, .int .i64 0, .slice none 0 0, .int .i64 0, .int .i64 0] ∧
    Whole wr bh 127 #[.int .u64 (h.seq : Int), .int .i64 (k : Int), .int .i64 (h.count : Int), .int .i64 (h.kind : Int), .int .i64 (h.size : Int)] ∧
    Whole wr bx 32 #[.int .u64 (h.seq : Int), .int .i64 (h.kind : Int), vB, .int .i64 file, .int .i64 at0] ∧
    wr.ownsRow W.heap.size 5 1 vB acc.length (B8 acc) ∧ whL S nm at0 h h.count [] = whL S nm at0 h (h.count - k) acc ∧ W.heap.size < bh ∧ bh < bx
/-- the loop's memory -/
structure WhK (hd : Hd) (file at0 : Int) (W : World) (bh bx k : Nat) (acc : List UInt8) (vB : Value) (w : World) : Prop where
  bel : Below W.heap.size W w
  z : Whole w W.heap.size 32 #[.int .u64 0, .int .i64 0, .slice none 0 0, .int .i64 0, .int .i64 0]
  h : Whole w bh 127 #[.int .u64 (hd.seq : Int), .int .i64 (k : Int), .int .i64 (hd.count : Int), .int .i64 (hd.kind : Int), .int .i64 (hd.size : Int)]
  x : Whole w bx 32 #[.int .u64 (hd.seq : Int), .int .i64 (hd.kind : Int), vB, .int .i64 file, .int .i64 at0]
  r : w.ownsRow W.heap.size 5 1 vB acc.length (B8 acc)
theorem WhK.below {h : Hd} {file at0 : Int} {W : World} {bh bx k : Nat} {acc : List UInt8} {vB : Value} {w w' : World} (a : WhK h file at0 W bh bx k acc vB w) (hb : Below w.heap.size w w') : WhK h file at0 W bh bx k acc vB w' :=
  ⟨a.bel.trans (hb.mono a.bel.size), a.z.below hb a.z.lt, a.h.below hb a.h.lt, a.x.below hb a.x.lt, own_block a.r fun i hi => hb.block i (a.r.lt i hi).2⟩
section
variable {B g : Nat} {X : Nat → Prop} {w0 W : World} {S : Dv}
theorem at_read2 (h : At B X w0 g S W) (nm : Nm) (hn : nm.length ≤ maxLen) (k : Int) (x : Sec) (c : Int) (hc : pRead S nm k = (x, c)) :
    Calls Tryz.prog 70 #[ptr g, .string ⟨nm.toArray⟩, .int .i64 k] W fun e w' => e = .returned (.tuple #[.agg (csF x), .int .i64 c]) ∧ Below W.heap.size W w' :=
  (read_dev h.dev nm hn k).mono fun e w' ⟨h1, h2⟩ => by rw [hc] at h1; exact ⟨h1, h2⟩
set_option maxHeartbeats 4000000 in
theorem whole_any (h : At B X w0 g S W) (file : Int) (hf : -9223372036854775808 ≤ file ∧ file < 9223372036854775808) (hI : 1 ≤ file ∧ file ≤ 999999 → ∀ w', Itoas file w') (at0 : Int) (ha : -9223372036854775808 ≤ at0 ∧ at0 < 9223372036854775808) :
    Calls Tryz.prog 74 #[ptr g, .int .i64 file, .int .i64 at0] W fun e w' => ∃ m : Bm, e = .returned (.tuple #[btV m, .int .i64 (whP S (nmJ file) file at0).1]) ∧ m.x = (whP S (nmJ file) file at0).2 ∧ w'.ownsRow W.heap.size 5 1 m.sl m.x.b.length (B8 m.x.b) ∧ Below W.heap.size W w' := by
  have hname := fun w' => name_any file w' hf (fun hh => hI hh w')
  have HN := Lib.hid hname
  obtain ⟨nm, hnm⟩ : ∃ nm, nm = nmJ file := ⟨_, rfl⟩
  have hml : nm.length ≤ maxLen := by rw [hnm]; have := nmJ_le file; unfold maxLen; omega
  have ML := Lib.hid hml
  have H := Lib.hid h
  have hO := h.dev.1
  have hlen : S.len nm ≤ 100000 := by
    have h1 := hO.room
    have h2 := hO.most
    unfold Dv.len
    cases hff : fnd S.fs nm with
    | none => simp
    | some F => have := (fil_le hO hff).1; simp only []; omega
  obtain ⟨x0, c0, hx0⟩ : ∃ x0 c0, pRead S nm at0 = (x0, c0) := ⟨_, _, rfl⟩
  have HX0 := Lib.hid hx0
  rw [← hnm]
  have HNM := Lib.hid hnm
  have HLN := Lib.hid hlen
  clear hf hI hname hml h hO hnm hlen hx0
  go_enter Tryz.func74, Tryz.ntmps74
  go_upto_region 3 with (first
    | (go_at_call 16; go_must (refine (HN.out _).mono ?_); rintro e w1 ⟨he, hb1⟩; rw [← HNM.out] at he; subst he; have B1 := Lib.hid (((Below.refl _ W).alloc (Nat.le_refl _) (.cells #[.int .u64 0, .int .i64 0, .slice none 0 0, .int .i64 0, .int .i64 0] 32)).trans (hb1.mono (by simp))); have S1 := Lib.hid hb1; clear hb1)
    | (go_at_call 70; go_must (refine (at_read2 (H.out.below B1.out).1 nm ML.out at0 x0 c0 HX0.out).mono ?_); rintro e w2 ⟨rfl, hb2⟩; have B2 := Lib.hid hb2; clear hb2)
    | (with_reducible refine at_store36 ?_; go_must (refine wpList_store64 rfl (.tmp 9) (.tmp 24) rfl w2.heap.size x0 rfl rfl (csF zSec) (heap_alloc_new w2 _) (csF_size _) ?_)))
  refine wp_rename4 (fun W' => Below W.heap.size W W' ∧ Whole W' W.heap.size 32 #[.int .u64 0, .int .i64 0, .slice none 0 0, .int .i64 0, .int .i64 0] ∧ W'.heap[w2.heap.size]? = some (.cells (csF x0) 41 (0, 0)) ∧ w2.heap.size < W'.heap.size ∧ W.heap.size < w2.heap.size) ⟨?_, ?_, ?_, ?_, ?_⟩ ?_
  · exact below_setRow (((B1.out.trans (B2.out.mono B1.out.size))).alloc (by have := B1.out.size; have := B2.out.size; omega) _) (by have := B1.out.size; have := B2.out.size; omega) _
  · have hs := S1.out.size
    have hs2 := B2.out.size
    have h0 : Whole w2 W.heap.size 32 #[.int .u64 0, .int .i64 0, .slice none 0 0, .int .i64 0, .int .i64 0] := ((Whole.new W _ _).below S1.out (by simp)).below B2.out (by simp at hs; omega)
    exact (setRow_other _ _ _ _ (by have := h0.lt; omega)).trans (h0.alloc _)
  · exact setRow_heap _ _ _ _ _ _ (heap_alloc_new w2 _)
  · simp [World.setRow]
  · have hs := S1.out.size
    have hs2 := B2.out.size
    simp at hs
    omega
  rintro W1 ⟨hb1, hw1, hr1, hs1, hs0⟩
  have BW := Lib.hid hb1
  have Z1 := Lib.hid hw1
  have R1 := Lib.hid hr1
  have S2 := Lib.hid hs1
  have S0 := Lib.hid hs0
  clear hb1 hw1 hr1 hs1 hs0 B1 S1 B2
  obtain ⟨b9, hb9⟩ : ∃ b9, b9 = w2.heap.size := ⟨_, rfl⟩
  rw [← hb9] at R1 S2 S0 ⊢
  clear hb9
  have kE : ∀ (w' : World) (c : Int), Below W.heap.size W w' → whP S nm file at0 = (c, bt0) → ∃ m, Ending.returned (Value.tuple #[.agg #[.int .u64 0, .int .i64 0, .slice none 0 0, .int .i64 0, .int .i64 0], .int .i64 c]) = .returned (.tuple #[btV m, .int .i64 (whP S nm file at0).1]) ∧ m.x = (whP S nm file at0).2 ∧ w'.ownsRow W.heap.size 5 1 m.sl m.x.b.length (B8 m.x.b) ∧ Below W.heap.size W w' := fun w' c hb e => by
    rw [e]
    exact ⟨bm0, rfl, rfl, World.ownsRow_nil _ _ _ _, hb⟩
  have KE := Lib.hid kE
  clear kE
  by_cases hc0 : c0 = 0
  · subst hc0
    have r0 := read_lt (by rw [HX0.out])
    have hx0l := x0.2
    have hfit := hdOf_fit x0.1 (by omega)
    obtain ⟨h, hh⟩ : ∃ h, h = hdOf x0.1 := ⟨_, rfl⟩
    rw [← hh] at hfit
    have hho := fun w => headOf_any x0 w
    rw [← hh] at hho
    have hbe := fun w => begins_any h hfit w
    have HHO := Lib.hid hho
    have HH := Lib.hid hh
    have R0 := Lib.hid r0
    clear hh hx0l hho r0
    by_cases hbg : h.begins
    · rw [decide_eq_true hbg] at hbe
      have HBE := Lib.hid hbe
      have HBG := Lib.hid hbg
      have HFIT := Lib.hid hfit
      obtain ⟨seq, place, count, kind, size⟩ := h
      unfold hdV at HHO HBE
      simp only at HHO HBE
      obtain ⟨g1, g2, g3, g4, g5⟩ := hbg
      simp only at g1 g2 g3 g4 g5
      subst g3
      clear hbe hfit
      go_upto_region 9 with (first
        | (with_reducible refine at_load36 ?_; go_must (refine wpList_load64 rfl (.tmp 9) rfl b9 x0 rfl R1.out ?_))
        | (go_at_call 94; go_must (refine (HHO.out _).mono ?_); rintro e w3 ⟨rfl, hb3⟩; have B3 := Lib.hid hb3; clear hb3)
        | (go_at_call 95; go_must (refine (HBE.out _).mono ?_); rintro e w4 ⟨rfl, hb4⟩; have B4 := Lib.hid hb4; obtain ⟨q0, q1, q2, q3, q4⟩ := ((Whole.new w3 127 #[.int .u64 (seq : Int), .int .i64 ((0 : Nat) : Int), .int .i64 (count : Int), .int .i64 (kind : Int), .int .i64 (size : Int)]).below hb4 (by simp)).five; clear hb4))
      refine wp_rename4 (fun W' => WhAt S nm at0 ⟨seq, 0, count, kind, size⟩ file W w3.heap.size w4.heap.size (.int .i64 0) W') ?_ ?_
      · have s0 := S0.out
        have s2 := S2.out
        have s3 := B3.out.size
        have s4 := B4.out.size
        simp at s4
        have hz4 : Whole w4 W.heap.size 32 #[.int .u64 0, .int .i64 0, .slice none 0 0, .int .i64 0, .int .i64 0] := ((Z1.out.below B3.out (by omega)).alloc _).below B4.out (by simp; omega)
        have hh4 : Whole w4 w3.heap.size 127 #[.int .u64 (seq : Int), .int .i64 ((0 : Nat) : Int), .int .i64 (count : Int), .int .i64 (kind : Int), .int .i64 (size : Int)] := (Whole.new w3 _ _).below B4.out (by simp)
        exact ⟨0, [], .slice none 0 0, rfl, Nat.zero_le _, Nat.zero_le _, ((BW.out.trans ((B3.out.alloc B3.out.size _).mono BW.out.size)).trans (B4.out.mono (by have := BW.out.size; simp; omega))).alloc (by have := BW.out.size; omega) _, hz4.alloc _, hh4.alloc _, Whole.new _ _ _, World.ownsRow_nil _ _ _ _, rfl, by omega, by omega⟩
      rintro W2 hwh
      have WH := Lib.hid hwh
      obtain ⟨bh, hbh⟩ : ∃ bh, bh = w3.heap.size := ⟨_, rfl⟩
      obtain ⟨bx, hbx⟩ : ∃ bx, bx = w4.heap.size := ⟨_, rfl⟩
      rw [← hbh, ← hbx] at WH ⊢
      clear hwh hbh hbx q0 q1 q2 q3 q4 B3 B4
      go_loopw [7] (fun v7 wr => WhAt S nm at0 ⟨seq, 0, count, kind, size⟩ file W bh bx v7 wr) (fun _ wr => count - cellN wr bh 1)
      case atStart => exact WH.out
      case round =>
        obtain ⟨k, acc, vB, rfl, hk, hacc, hbr, hzr, hhr, hxr, hown, hwl, hh1, hh2⟩ := hrel
        simp only at hk hhr hwl
        have BR := Lib.hid hbr
        have ZR := Lib.hid hzr
        have HR := Lib.hid hhr
        have XR := Lib.hid hxr
        have OR := Lib.hid hown
        have WL := Lib.hid hwl
        have HC := Lib.hid hacc
        obtain ⟨p0, p1, p2, p3, p4⟩ := hhr.five
        have hf := Whole.frozen hhr
        by_cases hlt : k < count
        · have hi1 : (k : Int) < (count : Int) := by omega
          have MEM : Hid (WhK ⟨seq, 0, count, kind, size⟩ file at0 W bh bx k acc vB wr) := Lib.hid ⟨hbr, hzr, hhr, hxr, hown⟩
          obtain ⟨s1, c1, hs1⟩ : ∃ s1 c1, pRead S nm (at0 + (k : Int)) = (s1, c1) := ⟨_, _, rfl⟩
          have hrnd := whL_round (S := S) (nm := nm) (at0 := at0) (h := ⟨seq, 0, count, kind, size⟩) (k := k) hlt acc
          rw [hs1] at hrnd
          have hcnt : ((⟨seq, 0, count, kind, size⟩ : Hd).count - k) = count - k := rfl
          rw [hcnt, ← hwl] at hrnd
          have hE : ∀ c : Int, c ≠ 0 → whL S nm at0 ⟨seq, 0, count, kind, size⟩ count [] = (c, []) → whP S nm file at0 = (c, bt0) := fun c hc e => by
            unfold whP
            rw [HX0.out]
            simp only []
            rw [if_neg (by simp), ← HH.out, if_neg (by simpa using HBG.out)]
            simp only []
            rw [e, if_pos hc]
          have HE := Lib.hid hE
          have HS1 := Lib.hid hs1
          have r0 := R0.out
          have hln := HLN.out
          have hwk : IntKind.i64.wrap (at0 + (k : Int)) = at0 + (k : Int) := IntWalk.i64_in _ ⟨by omega, by omega⟩
          have fk : (⟨seq, k, count, kind, size⟩ : Hd).fit := ⟨HFIT.out.1, by show k < 65536; omega, HFIT.out.2.2.1, HFIT.out.2.2.2.1, HFIT.out.2.2.2.2⟩
          have hdd := fun w => data_any ⟨seq, k, count, kind, size⟩ fk s1 w
          unfold hdV at hdd
          simp only at hdd
          have HK := Lib.hid hk
          clear hbr hzr hhr hxr hown hwl hacc hE hs1 r0 hln hcnt hk
          by_cases hc1 : c1 = 0
          · subst hc1
            have hat : (⟨seq, 0, count, kind, size⟩ : Hd).at k = ⟨seq, k, count, kind, size⟩ := rfl
            rw [if_neg (by simp), hat] at hrnd
            cases hdp : dataP ⟨seq, k, count, kind, size⟩ s1 with
            | none =>
              rw [hdp] at hrnd
              have E1 := Lib.hid (HE.out 1 (by omega) hrnd)
              have hdn : ∀ w, Calls Tryz.prog 96 #[.agg #[.int .u64 (seq : Int), .int .i64 (k : Int), .int .i64 (count : Int), .int .i64 (kind : Int), .int .i64 (size : Int)], .agg (csF s1)] w fun e w' => (∃ v, e = .returned (.tuple #[v, .bool false])) ∧ Below w.heap.size w w' := fun w => (hdd w).mono fun e w' ⟨h1, h2⟩ => by
                rcases h2 with ⟨v, h2, _⟩ | ⟨A, b, c, h2, h3, _⟩
                · exact ⟨⟨v, h2⟩, h1⟩
                · rw [hdp] at h3; cases h3
              have HD := Lib.hid hdn
              clear hrnd hdd hdn hdp hat
              go_upto_region 12 with (first
                | (go_at_call 70; go_must (refine (at_read2 (H.out.below BR.out).1 nm ML.out (at0 + (k : Int)) s1 0 HS1.out).mono ?_); rintro e w5 ⟨rfl, hb5⟩; have B5 := Lib.hid hb5; clear hb5)
                | (with_reducible refine at_store36 ?_; go_must (refine wpList_store64 rfl (.tmp 13) (.tmp 60) rfl w5.heap.size s1 rfl rfl (csF zSec) (heap_alloc_new w5 _) (csF_size _) ?_)))
              refine wp_rename4 (fun W' => WhK ⟨seq, 0, count, kind, size⟩ file at0 W bh bx k acc vB W' ∧ W'.heap[w5.heap.size]? = some (.cells (csF s1) 41 (0, 0))) ⟨(MEM.out.below B5.out).below (below_setRow ((Below.refl _ _).alloc (Nat.le_refl _) _) (Nat.le_refl _) _), setRow_heap _ _ _ _ _ _ (heap_alloc_new w5 _)⟩ ?_
              rintro W3 ⟨hm3, hs3⟩
              have M3 := Lib.hid hm3
              have Q3 := Lib.hid hs3
              obtain ⟨p0, p1, p2, p3, p4⟩ := hm3.h.five
              clear hm3 hs3
              go_wp2_with (first
                | (with_reducible refine at_load36 ?_; go_must (refine wpList_load64 rfl (.tmp 13) rfl w5.heap.size s1 rfl Q3.out ?_))
                | (go_at_call 96; go_must (refine (HD.out _).mono ?_); rintro e w6 ⟨⟨v6, rfl⟩, hb6⟩; have M6 := Lib.hid (M3.out.below hb6); obtain ⟨z0, z1, z2, z3, z4⟩ := M6.out.z.five; have zf := Whole.frozen M6.out.z; clear hb6))
              exact whole_end (M6.out.z.put5 _ _ _ _ _) rfl _ _ 1 rfl rfl _ (KE.out _ _ (below_put5 M6.out.bel (Nat.le_refl _) _ _ _ _ _) E1.out) rfl
            | some b =>
              rw [hdp] at hrnd
              simp only at hrnd
              have hbl := dataP_le hdp
              have hdn : ∀ w, Calls Tryz.prog 96 #[.agg #[.int .u64 (seq : Int), .int .i64 (k : Int), .int .i64 (count : Int), .int .i64 (kind : Int), .int .i64 (size : Int)], .agg (csF s1)] w fun e w' => ∃ A c, e = .returned (.tuple #[.slice A b.length c, .bool true]) ∧ Lies w' w'.heap.size A (B8 b) ∧ Below w.heap.size w w' := fun w => (hdd w).mono fun e w' ⟨h1, h2⟩ => by
                rcases h2 with ⟨v, h2, h3⟩ | ⟨A, b', c, h2, h3, _, _, _, h4⟩
                · rw [hdp] at h3; cases h3
                · rw [hdp] at h3
                  cases h3
                  exact ⟨A, c, h2, h4, h1⟩
              have HD := Lib.hid hdn
              have HRN := Lib.hid hrnd
              have hcc := HC.out
              have hs1 : acc.length + b.length ≤ maxLen := by unfold maxLen; omega
              have hs2 : (acc.length + b.length) * 1 ≤ 140737488355328 := by omega
              have HM1 := Lib.hid hs1
              have HM2 := Lib.hid hs2
              have HBL := Lib.hid hbl
              clear hrnd hdd hdn hdp hat hcc hs1 hs2 hbl
              go_upto_region 12 with (first
                | (go_at_call 70; go_must (refine (at_read2 (H.out.below BR.out).1 nm ML.out (at0 + (k : Int)) s1 0 HS1.out).mono ?_); rintro e w5 ⟨rfl, hb5⟩; have B5 := Lib.hid hb5; clear hb5)
                | (with_reducible refine at_store36 ?_; go_must (refine wpList_store64 rfl (.tmp 13) (.tmp 60) rfl w5.heap.size s1 rfl rfl (csF zSec) (heap_alloc_new w5 _) (csF_size _) ?_)))
              refine wp_rename4 (fun W' => WhK ⟨seq, 0, count, kind, size⟩ file at0 W bh bx k acc vB W' ∧ W'.heap[w5.heap.size]? = some (.cells (csF s1) 41 (0, 0))) ⟨(MEM.out.below B5.out).below (below_setRow ((Below.refl _ _).alloc (Nat.le_refl _) _) (Nat.le_refl _) _), setRow_heap _ _ _ _ _ _ (heap_alloc_new w5 _)⟩ ?_
              rintro W3 ⟨hm3, hs3⟩
              have M3 := Lib.hid hm3
              have Q3 := Lib.hid hs3
              obtain ⟨p0, p1, p2, p3, p4⟩ := hm3.h.five
              obtain ⟨Ab, cb, rfl, _, _⟩ := own_form hm3.r
              clear hm3 hs3
              obtain ⟨i0, hi, hz0, hz1, hz2⟩ := info_parts u8_info
              have HI := Lib.hid hi
              have H0 := Lib.hid hz0
              have H1 := Lib.hid hz1
              have H2 := Lib.hid hz2
              clear hi hz0 hz1 hz2
              go_upto_region 10 with (first
                | (with_reducible refine at_load36 ?_; go_must (refine wpList_load64 rfl (.tmp 13) rfl w5.heap.size s1 rfl Q3.out ?_))
                | (go_at_call 96; go_must (refine (HD.out _).mono ?_); rintro e w6 ⟨A6, c6, rfl, hl6, hb6⟩; have M6 := Lib.hid (M3.out.below hb6); have L6 := Lib.hid hl6; obtain ⟨x0', x1', x2', x3', x4'⟩ := M6.out.x.five; have xf := Whole.frozen M6.out.x; clear hb6 hl6)
                | (at_builtin; go_must (refine wpList_append_apart rfl _ _ 30 rfl W.heap.size 5 i0 (.int .u8 0) 1 1 Tryz.underlying30 HI.out H0.out H1.out H2.out rfl (by omega) _ acc.length (B8 acc) rfl M6.out.r w6.heap.size A6 b.length c6 (B8 b) rfl L6.out (B8_len1 b) (B8_one b) HM1.out HM2.out M6.out.bel.size ?_); intro v8 w8 hown8 hg8; obtain ⟨A8, c8, rfl, _, _⟩ := own_form hown8; have O8 := Lib.hid hown8; have G8 := Lib.hid hg8; have X8 := Lib.hid (M6.out.x.grown hg8 (whole_apart M6.out.x M6.out.r (by decide))); obtain ⟨x0', x1', x2', x3', x4'⟩ := X8.out.five; have xf := Whole.frozen X8.out; clear hown8 hg8))
              refine wp_rename4 (fun W' => WhK ⟨seq, 0, count, kind, size⟩ file at0 W bh bx k (acc ++ b) (.slice A8 (acc.length + b.length) c8) W') ?_ ?_
              · have hx := whole_apart M6.out.x M6.out.r (by decide)
                have hxz : W.heap.size ≤ bx := by omega
                refine ⟨((Below.refl _ _).grown G8.out M6.out.bel.size (fun i hi => (M6.out.r.lt i hi).1) |> M6.out.bel.trans).setCell (p := ⟨bx, 2, none⟩) hxz _, ?_, ?_, Whole.put X8.out 2 _, ?_⟩
                · exact (Below.heap_setCell _ ⟨bx, 2, none⟩ _ _ (by show W.heap.size ≠ bx; omega)).trans (M6.out.z.grown G8.out (whole_apart M6.out.z M6.out.r (by decide)))
                · exact (Below.heap_setCell _ ⟨bx, 2, none⟩ _ _ (by show bh ≠ bx; omega)).trans (M6.out.h.grown G8.out (whole_apart M6.out.h M6.out.r (by decide)))
                · rw [List.length_append, B8_append]
                  exact own_block O8.out fun i hi => Below.heap_setCell _ ⟨bx, 2, none⟩ _ _ (fun e => whole_apart X8.out O8.out (by decide) (by rw [← (show i = bx from e)]; exact hi.symm))
              rintro W4 hm4
              have M4 := Lib.hid hm4
              obtain ⟨p0, p1, p2, p3, p4⟩ := hm4.h.five
              have pf := Whole.frozen hm4.h
              clear hm4 x0' x1' x2' x3' x4' xf
              go_wp2_with fail
              go_roundw
              case rel =>
                refine ⟨k + 1, acc ++ b, .slice A8 (acc.length + b.length) c8, rfl, by show k + 1 ≤ count; omega, by rw [List.length_append]; have := HC.out; have := HBL.out; omega, M4.out.bel.setCell (p := ⟨bh, 1, none⟩) (by show W.heap.size ≤ bh; omega) _, ?_, ?_, ?_, ?_, ?_, by omega, by omega⟩
                · exact (Below.heap_setCell _ ⟨bh, 1, none⟩ _ _ (by show W.heap.size ≠ bh; omega)).trans M4.out.z
                · exact Whole.put M4.out.h 1 _
                · exact (Below.heap_setCell _ ⟨bh, 1, none⟩ _ _ (by show bx ≠ bh; omega)).trans M4.out.x
                · exact own_block M4.out.r fun i hi => Below.heap_setCell _ ⟨bh, 1, none⟩ _ _ (fun e => whole_apart M4.out.h M4.out.r (by decide) (by rw [← (show i = bh from e)]; exact hi.symm))
                · exact HRN.out
              case measure =>
                have e1 : cellN wr bh 1 = k := by unfold cellN; rw [(MEM.out.h.five).2.1]; simp [intOf]
                have e2 : cellN (W4.setCell ⟨bh, 1, none⟩ (.int .i64 ((k : Int) + 1))) bh 1 = k + 1 := by
                  unfold cellN
                  rw [((Whole.put M4.out.h 1 (.int .i64 ((k : Int) + 1))).cell 1)]
                  simp [intOf]
                show count - _ < count - _
                rw [e1, e2]
                omega
          · rw [if_pos hc1] at hrnd
            have E1 := Lib.hid (HE.out c1 hc1 hrnd)
            clear hrnd hdd
            go_upto_region 12 with (first
              | (go_at_call 70; go_must (refine (at_read2 (H.out.below BR.out).1 nm ML.out (at0 + (k : Int)) s1 c1 HS1.out).mono ?_); rintro e w5 ⟨rfl, hb5⟩; have B5 := Lib.hid hb5; clear hb5)
              | (with_reducible refine at_store36 ?_; go_must (refine wpList_store64 rfl (.tmp 13) (.tmp 60) rfl w5.heap.size s1 rfl rfl (csF zSec) (heap_alloc_new w5 _) (csF_size _) ?_)))
            refine wp_rename4 (fun W' => WhK ⟨seq, 0, count, kind, size⟩ file at0 W bh bx k acc vB W') ((MEM.out.below B5.out).below (below_setRow ((Below.refl _ _).alloc (Nat.le_refl _) _) (Nat.le_refl _) _)) ?_
            rintro W3 hm3
            have M3 := Lib.hid hm3
            obtain ⟨z0, z1, z2, z3, z4⟩ := hm3.z.five
            have zf := Whole.frozen hm3.z
            clear hm3
            go_wp2_with fail
            exact whole_end (M3.out.z.put5 _ _ _ _ _) rfl _ _ c1 rfl rfl _ (KE.out _ _ (below_put5 M3.out.bel (Nat.le_refl _) _ _ _ _ _) E1.out) rfl
        · have hkc : k = count := by omega
          subst hkc
          have E0 : Hid (whP S nm file at0 = (0, ⟨seq, kind, acc, file, at0⟩)) := Lib.hid (by
            have e1 : whL S nm at0 ⟨seq, 0, k, kind, size⟩ k [] = (0, acc) := by
              rw [hwl, Nat.sub_self]
              rfl
            unfold whP
            rw [HX0.out]
            simp only []
            rw [if_neg (by simp), ← HH.out, if_neg (by simpa using HBG.out)]
            simp only []
            rw [e1, if_neg (by simp)])
          obtain ⟨z0, z1, z2, z3, z4⟩ := hzr.five
          have zf := Whole.frozen hzr
          obtain ⟨x0', x1', x2', x3', x4'⟩ := hxr.five
          obtain ⟨A, c, rfl, hc1, hc2⟩ := own_form hown
          clear hbr hzr hhr hxr hown hwl hacc
          go_wp2_with fail
          refine whole_end (ZR.out.put5 _ _ _ _ _) rfl _ _ 0 rfl rfl _ ⟨⟨⟨seq, kind, acc, file, at0⟩, A, c⟩, by rw [E0.out]; rfl, by rw [E0.out], ?_, below_put5 BR.out (Nat.le_refl _) _ _ _ _ _⟩ rfl
          exact own_block OR.out (fun i hi => other_put5 (fun e => whole_apart ZR.out OR.out (by decide) (by rw [← e]; exact hi.symm)) _ _ _ _ _)
    · rw [decide_eq_false hbg] at hbe
      have HBE := Lib.hid hbe
      have e0 : whP S nm file at0 = (1, bt0) := by
        unfold whP
        rw [HX0.out, if_neg (by simp), ← HH.out, if_pos hbg]
      have E0 := Lib.hid e0
      obtain ⟨seq, place, count, kind, size⟩ := h
      unfold hdV at HHO HBE
      simp only at HHO HBE
      clear hbe hfit hbg e0
      go_wp2_with (first
        | (with_reducible refine at_load36 ?_; go_must (refine wpList_load64 rfl (.tmp 9) rfl b9 x0 rfl R1.out ?_))
        | (go_at_call 94; go_must (refine (HHO.out _).mono ?_); rintro e w3 ⟨rfl, hb3⟩; have B3 := Lib.hid hb3; clear hb3)
        | (go_at_call 95; go_must (refine (HBE.out _).mono ?_); rintro e w4 ⟨rfl, hb4⟩; have B4 := Lib.hid hb4; have hq4 : Whole w4 W.heap.size 32 #[.int .u64 0, .int .i64 0, .slice none 0 0, .int .i64 0, .int .i64 0] := ((Z1.out.below B3.out (by have := S0.out; have := S2.out; omega)).alloc _).below hb4 (by have := S0.out; have := S2.out; have := B3.out.size; simp; omega); have Z4 := Lib.hid hq4; obtain ⟨z0, z1, z2, z3, z4⟩ := hq4.five; have zf := Whole.frozen hq4; clear hb4 hq4))
      refine whole_end (Z4.out.put5 _ _ _ _ _) rfl _ _ 1 rfl rfl _ (KE.out _ _ ?_ E0.out) rfl
      exact below_put5 ((BW.out.trans ((B3.out.alloc B3.out.size _).mono BW.out.size)).trans (B4.out.mono (by have := BW.out.size; have := B3.out.size; simp; omega))) (Nat.le_refl _) _ _ _ _ _
  · have e0 : whP S nm file at0 = (c0, bt0) := by
      unfold whP
      rw [HX0.out, if_pos hc0]
    have zf := Whole.frozen Z1.out
    obtain ⟨z0, z1, z2, z3, z4⟩ := Z1.out.five
    go_wp2_with fail
    exact whole_end (Z1.out.put5 _ _ _ _ _) rfl _ _ c0 rfl rfl _ (KE.out _ _ (below_put5 BW.out (Nat.le_refl _) _ _ _ _ _) e0) rfl
end
end Go.Proofs.YtmemdkgoeldemaaGreatDoor
