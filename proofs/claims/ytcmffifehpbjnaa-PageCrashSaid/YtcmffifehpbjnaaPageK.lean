/- Layer 9: a file of pages within a law's walk; a device's pages are opened. -/
import Derived.Test.YtcmffifehpbjnaaPageG
namespace Go.Proofs.Ytcmffifehpbjnaa
open Go.RowKit Go.Maps
set_option maxRecDepth 100000
set_option linter.unusedSimpArgs false
set_option linter.unusedVariables false
/-- a file in a law's walk: Y, blocks of the law's own; the file's own blocks are neither these nor the device's -/
structure FAt (B g fb : Nat) (Y : Nat → Prop) (w0 : World) (S : Dv) (m : Mt) (L : List Int) (put : Nat) (dead : Bool) (W : World) : Prop where
  at_ : ∃ Z : Nat → Prop, At B (fun i => Y i ∨ Z i) w0 g S W ∧ (∀ i, Y i → ¬ Z i) ∧ Z fb ∧ ∃ v, FBox W fb g m v put dead ∧ W.ownsRow 0 3 1 v L.length (cellsZ L) ∧ ∀ i, v.ownBlock = some i → Z i
  lo : m.lo
  num : ∀ x ∈ L, 2 ≤ x ∧ x ≤ 1000000
  putle : put ≤ L.length
section
variable {B g fb put : Nat} {Y : Nat → Prop} {w0 W w' : World} {S : Dv} {m : Mt} {L : List Int} {dead : Bool}
theorem FAt.dev (h : FAt B g fb Y w0 S m L put dead W) : At B Y w0 g S W := by
  obtain ⟨Z, h1, _⟩ := h.at_
  exact h1.less (fun i hi => .inl hi)
theorem FAt.below (h : FAt B g fb Y w0 S m L put dead W) (hb : Below W.heap.size W w') : FAt B g fb Y w0 S m L put dead w' := by
  obtain ⟨Z, h1, h2, h3, v, h4, h5, h6⟩ := h.at_
  exact ⟨⟨Z, (h1.below hb).1, h2, h3, v, (hb.block fb (Whole.lt h4)).trans h4, own_block h5 (fun i hi => hb.block i (h5.lt i hi).2), h6⟩, h.lo, h.num, h.putle⟩
theorem FAt.fence (h : FAt B g fb Y w0 S m L put dead W) (hb : Below W.heap.size W w') : FAt B g fb (fun i => Y i ∨ (W.heap.size ≤ i ∧ i < w'.heap.size)) w0 S m L put dead w' := by
  obtain ⟨Z, h1, h2, h3, v, h4, h5, h6⟩ := h.at_
  refine ⟨⟨Z, ?_, ?_, h3, v, (hb.block fb (Whole.lt h4)).trans h4, own_block h5 (fun i hi => hb.block i (h5.lt i hi).2), h6⟩, h.lo, h.num, h.putle⟩
  · refine (h1.fence hb).less ?_
    rintro i ((hi | hi) | hi)
    · exact .inl (.inl hi)
    · exact .inr hi
    · exact .inl (.inr hi)
  · rintro i (hi | hi) hz
    · exact h2 i hi hz
    · have := (h1.xs i (.inr hz)).2
      omega
theorem FAt.less (h : FAt B g fb Y w0 S m L put dead W) {Y' : Nat → Prop} (hy : ∀ i, Y' i → Y i) : FAt B g fb Y' w0 S m L put dead W := by
  obtain ⟨Z, h1, h2, h3, r⟩ := h.at_
  exact ⟨⟨Z, h1.less (fun i hi => hi.imp (hy i) id), fun i hi => h2 i (hy i hi), h3, r⟩, h.lo, h.num, h.putle⟩
theorem FAt.keptB (h : FAt B g fb Y w0 S m L put dead W) (hb : Below W.heap.size W w') : KeptX Y W w' := ⟨fun i hi => hb.block i (h.dev.xs i hi).2, hb.size⟩
end
/-- what Open answers, and how the device stands then -/
def openP (S : Dv) : Int × Dv :=
  if (createP S).1 ≠ 0 ∧ (createP S).1 ≠ 9 then createP S
  else if (pSync (createP S).2 nmP).1 ≠ 0 then pSync (createP S).2 nmP
  else if (newP (pSync (createP S).2 nmP).2).gen = 0 then (12, (pSync (createP S).2 nmP).2) else (0, (pSync (createP S).2 nmP).2)
section
variable {B g : Nat} {X : Nat → Prop} {w0 W : World} {S : Dv}
theorem newP_lo (S : Dv) (h : S.len nmP / 8 ≤ 1000000) : (newP S).lo := by
  by_cases h2 : 2 ≤ S.len nmP / 8
  · rw [newP_K S h2]
    exact newK_lo S h 2
  · unfold newP
    rw [if_pos (by omega)]
    exact zero_lo
theorem fat_new {w3 : World} (h : At B X w0 g S w3) (n : Mt) (hn : n.lo) (o : Obj) :
    FAt B g (w3.heap.size + 1) X w0 S n [] 0 false ((w3.alloc o).alloc (.cells #[ptr g, .int .u64 (n.gen : Int), .int .i64 (n.root : Int), .int .i64 (n.count : Int), .int .u64 (n.mark : Int), .slice none 0 0, .int .i64 0, .bool false] 80)) := by
  have h1 := (h.below ((Below.refl _ _).alloc (Nat.le_refl _) o)).1
  have h2 := h1.own (.cells #[ptr g, .int .u64 (n.gen : Int), .int .i64 (n.root : Int), .int .i64 (n.count : Int), .int .u64 (n.mark : Int), .slice none 0 0, .int .i64 0, .bool false] 80)
  have hsz : (w3.alloc o).heap.size = w3.heap.size + 1 := by simp
  rw [hsz] at h2
  refine ⟨⟨fun i => i = w3.heap.size + 1, h2, fun i hi e => ?_, rfl, .slice none 0 0, ?_, World.ownsRow_nil _ _ _ _, fun i hi => by cases hi⟩, hn, fun x hx => (by cases hx), Nat.le_refl _⟩
  · have := (h.xs i hi).2
    omega
  · have := Whole.new (w3.alloc o) 80 #[ptr g, .int .u64 (n.gen : Int), .int .i64 (n.root : Int), .int .i64 (n.count : Int), .int .u64 (n.mark : Int), .slice none 0 0, .int .i64 0, .bool false]
    rw [hsz] at this
    exact this
set_option maxHeartbeats 8000000 in
theorem open_any (h : At B X w0 g S W) (hfew : S.fs.length < 1000000) :
    Calls Try.prog 10 #[ptr g] W fun e w' => ∃ vp, e = .returned (.tuple #[vp, .int .i64 (openP S).1]) ∧
      ((openP S).1 = 0 → ∃ fb, vp = ptr fb ∧ W.heap.size ≤ fb ∧ FAt B g fb X w0 (openP S).2 (newP (openP S).2) [] 0 false w') ∧ ((openP S).1 ≠ 0 → vp = .pointer none ∧ At B X w0 g (openP S).2 w') ∧ KeptX X W w' := by
  have H := Lib.hid h
  have HF := Lib.hid hfew
  have ml : nmP.length ≤ maxLen := by show 1 ≤ maxLen; unfold maxLen; omega
  have ML := Lib.hid ml
  obtain ⟨c1, S1, h1⟩ : ∃ c1 S1, createP S = (c1, S1) := ⟨_, _, rfl⟩
  obtain ⟨c2, S2, h2⟩ : ∃ c2 S2, pSync S1 nmP = (c2, S2) := ⟨_, _, rfl⟩
  obtain ⟨n, hn⟩ : ∃ n, newP S2 = n := ⟨_, rfl⟩
  have hop : openP S = if c1 ≠ 0 ∧ c1 ≠ 9 then (c1, S1) else if c2 ≠ 0 then (c2, S2) else if n.gen = 0 then (12, S2) else (0, S2) := by
    unfold openP
    rw [h1]
    simp only [h2, hn]
  have hcr := create_any h hfew
  rw [h1] at hcr
  have HOP := Lib.hid hop
  have HCR := Lib.hid hcr
  have H2 := Lib.hid h2
  have HN := Lib.hid hn
  clear h hfew ml h1 h2 hn hop hcr
  by_cases k1 : c1 ≠ 0 ∧ c1 ≠ 9
  · have E : openP S = (c1, S1) := by rw [HOP.out, if_pos k1]
    have HE := Lib.hid E
    obtain ⟨k1a, k1b⟩ := k1
    have k1d : (c1 != 0) = true := bne_iff_ne.2 k1a
    have k1e : (c1 != 9) = true := bne_iff_ne.2 k1b
    clear E
    go_enter Try.func10, Try.ntmps10
    go_wp2_with (go_at_call 31; go_must (refine HCR.out.mono ?_); rintro e w1 ⟨rfl, a1, q1⟩; have A1 := Lib.hid a1; have Q1 := Lib.hid q1; clear a1 q1)
    go_ret2
    rw [HE.out]
    exact ⟨_, rfl, fun e => absurd e k1a, fun _ => ⟨rfl, A1.out⟩, Q1.out⟩
  · have k1' : c1 = 0 ∨ c1 = 9 := by
      by_cases e : c1 = 0
      · exact .inl e
      · exact .inr (Decidable.byContradiction fun e2 => k1 ⟨e, e2⟩)
    have E1 : openP S = if c2 ≠ 0 then (c2, S2) else if n.gen = 0 then (12, S2) else (0, S2) := by rw [HOP.out, if_neg k1]
    have HE1 := Lib.hid E1
    clear E1 k1
    by_cases k2 : c2 = 0
    · subst k2
      have hnl := fun (w : World) (a : At B X w0 g S2 w) => newest_any a n HN.out
      have HNL := Lib.hid hnl
      clear hnl
      by_cases k3 : n.gen = 0
      · have E : openP S = (12, S2) := by rw [HE1.out, if_neg (by simp), if_pos k3]
        have HE := Lib.hid E
        have hd : decide (0 < n.gen) = false := decide_eq_false (by omega)
        rw [hd] at HNL
        clear E hd k3
        rcases k1' with rfl | rfl
        all_goals
          go_enter Try.func10, Try.ntmps10
          go_wp2_with (first
            | (go_at_call 31; go_must (refine HCR.out.mono ?_); rintro e w1 ⟨rfl, a1, q1⟩; have A1 := Lib.hid a1; have Q1 := Lib.hid q1; clear a1 q1)
            | (go_at_call 32; go_must (refine (at_sync A1.out nmP ML.out 0 H2.out).mono ?_); rintro e w2 ⟨rfl, a2, q2⟩; have A2 := Lib.hid a2; have Q2 := Lib.hid (Q1.out.trans' q2); clear a2 q2)
            | (go_at_call 33; go_must (refine (HNL.out _ A2.out).mono ?_); rintro e w3 ⟨rfl, b3⟩; have A3 := Lib.hid (A2.out.below b3).1; have Q3 := Lib.hid (Q2.out.trans' (A2.out.below b3).2); clear b3))
          go_ret2
          rw [HE.out]
          exact ⟨_, rfl, fun e => absurd e (by simp), fun _ => ⟨rfl, (A3.out.below ((Below.refl _ _).alloc (Nat.le_refl _) _)).1⟩, Q3.out.trans' (A3.out.below ((Below.refl _ _).alloc (Nat.le_refl _) _)).2⟩
      · have E : openP S = (0, S2) := by rw [HE1.out, if_neg (by simp), if_neg k3]
        have HE := Lib.hid E
        have hd : decide (0 < n.gen) = true := decide_eq_true (by omega)
        rw [hd] at HNL
        clear E hd k3
        rcases k1' with rfl | rfl
        all_goals
          go_enter Try.func10, Try.ntmps10
          go_wp2_with (first
            | (go_at_call 31; go_must (refine HCR.out.mono ?_); rintro e w1 ⟨rfl, a1, q1⟩; have A1 := Lib.hid a1; have Q1 := Lib.hid q1; clear a1 q1)
            | (go_at_call 32; go_must (refine (at_sync A1.out nmP ML.out 0 H2.out).mono ?_); rintro e w2 ⟨rfl, a2, q2⟩; have A2 := Lib.hid a2; have Q2 := Lib.hid (Q1.out.trans' q2); clear a2 q2)
            | (go_at_call 33; go_must (refine (HNL.out _ A2.out).mono ?_); rintro e w3 ⟨rfl, b3⟩; have A3 := Lib.hid (A2.out.below b3).1; have Q3 := Lib.hid (Q2.out.trans' (A2.out.below b3).2); have B3 := Lib.hid (Nat.le_trans Q2.out.2 b3.size); clear b3))
          go_ret2
          rw [HE.out]
          have hlo : n.lo := by rw [← HN.out]; exact newP_lo S2 (by have := len_small A3.out; omega)
          refine ⟨_, rfl, fun _ => ⟨w3.heap.size + 1, rfl, by have := B3.out; omega, ?_⟩, fun e => absurd rfl e, Q3.out.trans' (A3.out.below (((Below.refl _ _).alloc (Nat.le_refl _) _).alloc (by simp) _)).2⟩
          show FAt B g (w3.heap.size + 1) X w0 S2 (newP S2) [] 0 false _
          rw [HN.out]
          exact fat_new A3.out n hlo _
    · have E : openP S = (c2, S2) := by rw [HE1.out, if_pos k2]
      have HE := Lib.hid E
      clear E
      rcases k1' with rfl | rfl
      all_goals
        go_enter Try.func10, Try.ntmps10
        go_wp2_with (first
          | (go_at_call 31; go_must (refine HCR.out.mono ?_); rintro e w1 ⟨rfl, a1, q1⟩; have A1 := Lib.hid a1; have Q1 := Lib.hid q1; clear a1 q1)
          | (go_at_call 32; go_must (refine (at_sync A1.out nmP ML.out c2 H2.out).mono ?_); rintro e w2 ⟨rfl, a2, q2⟩; have A2 := Lib.hid a2; have Q2 := Lib.hid (Q1.out.trans' q2); clear a2 q2))
        go_ret2
        rw [HE.out]
        exact ⟨_, rfl, fun e => absurd e k2, fun _ => ⟨rfl, A2.out⟩, Q2.out⟩
end
end Go.Proofs.Ytcmffifehpbjnaa
