/- Contracts of package cont: Frames. -/
import Derived.Test.YtfajkbegmmlmjaaContG
namespace Go.Proofs.Ytfajkbegmmlmjaa
open Go.RowKit Go.Shelf
attribute [local go_sem] Oper.semAt_some
set_option maxRecDepth 100000
set_option linter.unusedSimpArgs false
set_option linter.unusedVariables false

theorem frame_info : (Try.prog.info? 44).map (fun i => (i.zero, i.size, i.bytes)) = some (some (.agg #[.int .i64 0, .int .i64 0, .slice none 0 0]), 3, 40) := by kernel_rfl
theorem frame_zero : (Value.agg #[.int .i64 0, .int .i64 0, .slice none 0 0]).cells.size = 3 := rfl
theorem boxed_own' {β : Type} (B : Nat) (t : TypeId) (v : Value) : Own (fun (_ : β) W => Boxed W B t v) := by
  rintro s X Y row hv hg hrow
  refine hv.kept hg (fun e' => ?_)
  obtain ⟨o, ho, hc⟩ := hrow B e'.symm
  rw [show X.heap[B]? = _ from hv] at ho; cases ho; cases hc

theorem lit_add (w : World) (t : TypeId) (cs : List Value) (j : Nat) (u : Value) (h : cs[j]? = some u) : (w.alloc (.cells cs.toArray t)).cell? ((⟨w.heap.size, 0, none⟩ : Addr).add j) = some u := by
  have hadd : (⟨w.heap.size, 0, none⟩ : Addr).add j = ⟨w.heap.size, j, none⟩ := by unfold Addr.add; split <;> simp_all
  rw [hadd]
  rcases Lies.lit w t cs with h' | ⟨b, o, e, _, hc⟩
  · rw [h'] at h; simp at h
  · injection e with e
    injection e with e1 e2 e3
    subst e1 e2
    have := hc j u h
    rwa [Nat.zero_add] at this
def FramesI (w2 : World) (D : Nat) (ch : Int) (A1 : Option Addr) (c1 : Nat) (H : List UInt8) (b o : Nat) (body : List UInt8) (sv : Value) (pre : List Nat) (W : World) : Prop :=
  (∃ v, Boxed W (D + 1) 62 v ∧ W.ownsRow D 44 3 v (1 + pre.length) (cellsFs (framesF ch A1 c1 H b o body pre)) ∧ True) ∧ (Boxed W (D + 2) 26 sv ∧ Boxed W (D + 3) 3 (.int .i64 4088)) ∧ Below D w2 W

theorem framesI_own (w2 : World) (D Bd : Nat) (ch : Int) (A1 : Option Addr) (c1 : Nat) (H : List UInt8) (b o : Nat) (body : List UInt8) (sv : Value) (h1 : D ≤ w2.heap.size) (h2 : D ≤ Bd) : OwnFrom Bd (FramesI w2 D ch A1 c1 H b o body sv) :=
  OwnFrom.and (Own.from (holdsRow_own D (D + 1) 62 44 3 (fun pre => 1 + pre.length) (fun pre => cellsFs (framesF ch A1 c1 H b o body pre)) (fun _ _ => True)) _)
    (OwnFrom.and (OwnFrom.and (Own.from (boxed_own' (D + 2) _ _) _) (Own.from (boxed_own' (D + 3) _ _) _)) (ownFrom_below h1 h2))
theorem kept2_put {a b : Nat} {w : World} (ha : a < w.heap.size) (hb : b < w.heap.size) (W : World) (l : Nat) (o o' : Obj) (hl : w.heap.size ≤ l) (h : W.heap[l]? = some o) (_ : o.isCells = false) (_ : o.isWalk = false) : Kept2 a b W (W.putObj l o') := by
  have hlt := (Array.getElem?_eq_some_iff.1 h).1
  have hg := grownBy_putObj' W l o'
  exact ⟨hg.block a (by omega) (by intro e; injection e; omega), hg.block b (by omega) (by intro e; injection e; omega)⟩

set_option maxHeartbeats 4000000 in
theorem cframes_yes (A : Option Addr) (c : Nat) (l : List UInt8) (B : Nat) (ch : Int) (s : Nat) (m : Int) (t : List UInt8) (AB : Option Addr) (body : List UInt8) (cB : Nat) (w : World) (hl : Lies w B A (B8 l)) (hB : B ≤ w.heap.size) (hs : l.length ≤ 70368744177664) (hbl : Lies w B AB (B8 body)) (hbn : body.length ≤ 20000) (hbc : body.length ≤ cB) (hcm : cB ≤ maxLen) (hok : headOk m t = true) :
    Calls Try.prog 14 #[.slice A l.length c, .int .i64 ch, .agg #[.int .u64 s, .int .i64 m, .string ⟨t.toArray⟩], .slice AB body.length cB] w (NewOctsOk w.heap.size (if chanOk ch then l ++ contB ch.toNat (headB body.length m t) body else l) (chanOk ch) w) := by
  have kw := u64_nat body.length (by omega)
  have ht : t.length ≤ 255 := by
    unfold headOk at hok
    simp only [decide_eq_true_eq] at hok
    omega
  obtain ⟨H, hH⟩ : ∃ H, H = headB body.length m t := ⟨_, rfl⟩
  have hHl : H.length ≤ 271 := by
    rw [hH, headB_length]
    split <;> split <;> omega
  obtain ⟨b, o, hA, hparts⟩ : ∃ b o, (0 < body.length → AB = some ⟨b, o, none⟩) ∧ ∀ k, k < pcount body.length → Lies w B (some ⟨b, o + 4088 * k, none⟩) (B8 (part body k)) := by
    rcases hbl.octets with h | ⟨b, o, e, hb, hc⟩
    · subst h
      exact ⟨0, 0, fun h => by simp at h, fun k hk => by unfold pcount at hk; simp at hk⟩
    · refine ⟨b, o, fun _ => e, fun k hk => .inr ⟨b, o + 4088 * k, rfl, hb, fun j u hu => ?_⟩⟩
      have hj : j < (part body k).length := by
        have := (List.getElem?_eq_some_iff.1 hu).1
        rwa [B8_length] at this
      rw [B8_get _ _ hj] at hu
      injection hu with hu
      subst hu
      have hj2 : 4088 * k + j < body.length := by
        rw [part_length] at hj
        unfold plen at hj
        omega
      rw [Nat.add_assoc, hc (4088 * k + j) hj2]
      rw [part_get body k j hj hj2]
  obtain ⟨R, hR⟩ : ∃ R, R = (if chanOk ch then l ++ contB ch.toNat (headB body.length m t) body else l) := ⟨_, rfl⟩
  obtain ⟨r, hr⟩ : ∃ r, r = chanOk ch := ⟨_, rfl⟩
  have HR : Hid (R = if chanOk ch then l ++ contB ch.toNat H body else l) := Lib.hid (by rw [hR, hH])
  rw [← hR, ← hr]
  have Hr := Lib.hid hr
  have HH := Lib.hid hH
  have HL := Lib.hid hl
  have HOK := Lib.hid hok
  have HP := Lib.hid hparts
  have HA := Lib.hid hA
  clear hl hok hH hparts hA hR hr hbl
  obtain ⟨w1, hw1⟩ : ∃ w1, w1 = (w.alloc (.cells #[.int .i64 ch] 3)).alloc (.cells #[.int .u64 body.length, .int .i64 m, .string ⟨t.toArray⟩] 25) := ⟨_, rfl⟩
  have hb1 : Below w.heap.size w w1 := by rw [hw1]; exact ((Below.refl _ _).alloc (Nat.le_refl _) _).alloc (by simp) _
  have hk1 : Whole w1 w.heap.size 3 #[.int .i64 ch] := by rw [hw1]; exact (Whole.new w _ _).alloc _
  have B1 := Lib.hid hb1
  have K1 := Lib.hid hk1
  have z1 := hb1.size
  have HW1 := Lib.hid hw1
  clear hb1 hk1 hw1
  refine (callsIn_wide (n := 6)).1 ?_
  refine callsIn_of_wp_marks Try.func14 rfl trivial ?_ rfl
  simp only [Try.ntmps14, List.size_toArray, List.length_cons, List.length_nil, Nat.reduceAdd, Nat.reduceSub, Array.replicate_succ, Array.replicate_zero, List.push_toArray, List.append_toArray, List.nil_append, List.cons_append]
  refine wpIn_wide.2 ?_
  go_wp2_with fail
  rw [← HW1.out]
  refine (cwrite_any body.length m t _ (by unfold maxLen; omega)).mono ?_
  intro e w2 h
  unfold CWrite at h
  rw [HOK.out, if_pos rfl, ← HH.out] at h
  obtain ⟨v2, rfl, ho, hb2⟩ := h
  obtain ⟨A1, c1, rfl, hc1, hm1⟩ := own_form ho
  have M2 := Lib.hid (Lies.own ho (Nat.le_refl _))
  have K2 := Lib.hid (K1.out.below hb2 K1.out.lt)
  have B2 := Lib.hid (B1.out.trans (hb2.mono z1))
  have z2 := B2.out.size
  have q0 : w2.cell? ⟨w.heap.size, 0, none⟩ = some (.int .i64 ch) := K2.out.cell 0
  clear ho hb2
  go_wp2_with fail
  refine (chunk_any AB body.length cB _).mono ?_
  rintro e w3 ⟨rfl, rfl⟩
  go_wp2_with fail
  rename_i K0 HKc
  obtain ⟨D, hD⟩ : ∃ D, D = w2.heap.size := ⟨_, rfl⟩
  obtain ⟨W0, hW0⟩ : ∃ W0, W0 = ((((w2.alloc (.cells #[.int .i64 2, .int .i64 ch, .slice A1 H.length c1] 44)).alloc (.cells #[.slice (some ⟨w2.heap.size, 0, none⟩) 1 1] 62)).alloc (.cells #[.slice AB body.length cB] 26)).alloc (.cells #[.int .i64 4088] 3)) := ⟨_, rfl⟩
  have s0 : W0.heap.size = D + 4 := by rw [hW0, hD]; simp
  have hb0 : Below D w2 W0 := by
    rw [hW0, hD]
    exact ((((Below.refl _ w2).alloc (Nat.le_refl _) _).alloc (by simp) _).alloc (by simp; omega) _).alloc (by simp; omega) _
  have o0 : W0.ownsRow D 44 3 (.slice (some ⟨D, 0, none⟩) 1 1) 1 [.int .i64 2, .int .i64 ch, .slice A1 H.length c1] := by
    have h : (w2.alloc (.cells #[.int .i64 2, .int .i64 ch, .slice A1 H.length c1] 44)).ownsRow D 44 3 (.slice (some ⟨D, 0, none⟩) 1 1) 1 [.int .i64 2, .int .i64 ch, .slice A1 H.length c1] := by
      rw [hD]
      exact ⟨rfl, .inr ⟨w2.heap.size, 1, _, rfl, Nat.le_refl _, heap_alloc_new w2 _, Nat.le_refl _, by unfold maxLen; omega, rfl, rfl⟩⟩
    rw [hW0]
    exact ((h.alloc _).alloc _).alloc _
  have x1 : Boxed W0 (D + 1) 62 (.slice (some ⟨D, 0, none⟩) 1 1) := by
    rw [hW0, hD]
    have h := Boxed.new (w2.alloc (.cells #[.int .i64 2, .int .i64 ch, .slice A1 H.length c1] 44)) 62 (.slice (some ⟨w2.heap.size, 0, none⟩) 1 1)
    rw [World.size_alloc] at h
    exact (h.alloc _).alloc _
  have x2 : Boxed W0 (D + 2) 26 (.slice AB body.length cB) := by
    rw [hW0, hD]
    have h := Boxed.new ((w2.alloc (.cells #[.int .i64 2, .int .i64 ch, .slice A1 H.length c1] 44)).alloc (.cells #[.slice (some ⟨w2.heap.size, 0, none⟩) 1 1] 62)) 26 (.slice AB body.length cB)
    rw [World.size_alloc, World.size_alloc] at h
    exact h.alloc _
  have x3 : Boxed W0 (D + 3) 3 (.int .i64 4088) := by
    rw [hW0, hD]
    have h := Boxed.new (((w2.alloc (.cells #[.int .i64 2, .int .i64 ch, .slice A1 H.length c1] 44)).alloc (.cells #[.slice (some ⟨w2.heap.size, 0, none⟩) 1 1] 62)).alloc (.cells #[.slice AB body.length cB] 26)) 3 (.int .i64 4088)
    rw [World.size_alloc, World.size_alloc, World.size_alloc] at h
    exact h
  have i0 : FramesI w2 D ch A1 c1 H b o body (.slice AB body.length cB) [] W0 := ⟨⟨_, x1, o0, trivial⟩, ⟨x2, x3⟩, hb0⟩
  rw [← hW0]
  have S0 := Lib.hid s0
  have I0 := Lib.hid i0
  have HD := Lib.hid hD
  clear hW0 s0 hb0 o0 i0
  obtain ⟨f0, hi, hz0, hz1, hz2⟩ := info_parts frame_info
  rw [← hD]
  clear hD
  refine (wpIn_wide (n := 6)).1 ?_
  refine' wpIn_rangeFunc_ownF rfl (by omega) (gf := 36) (lb := #[.pointer (some ⟨D + 2, 0, none⟩), .pointer (some ⟨D + 3, 0, none⟩)]) rfl trivial (enters_of Try.func36 (by kernel_rfl) rfl)
    (chunk_stops 5 (D + 2) (D + 3) b o body.length cB AB W0 (by omega) HA.out hbc hcm (by omega) (by rw [S0.out]; omega) (by rw [S0.out]; omega) x2.cell x3.cell) (fun h k => h.trans k) (kept2_put (by rw [S0.out]; omega) (by rw [S0.out]; omega)) (Below.refl _ _) (fun _ => rfl)
    (FramesI w2 D ch A1 c1 H b o body (.slice AB body.length cB)) (fun _ _ _ => False) (framesI_own w2 D _ ch A1 c1 H b o body _ (by rw [HD.out]; omega) (by rw [S0.out]; omega)) (fun _ _ _ _ _ hs _ _ => hs) I0.out _ ?assign ?body ?done ?stop
  case assign =>
    intro l x W K hK
    gi_wp2
    exact hK
  case body =>
    rintro l pre x W ⟨⟨v, hv, hrow, _⟩, ⟨y2, y3⟩, hB⟩ hlt
    have hc := hv.cell
    have hlD : w.heap.size < D := by rw [HD.out]; exact K2.out.lt
    have hDW : D ≤ W.heap.size := by have := hB.size; rw [HD.out]; exact this
    have hch : W.cell? ⟨w.heap.size, 0, none⟩ = some (.int .i64 ch) := (hB.cell (p := ⟨w.heap.size, 0, none⟩) hlD).trans q0
    have hp5 : pre.length ≤ 10 := by unfold pcount at hlt; omega
    unfold partV
    gi_wp2_with (gi_at_builtin; refine wpListIn_append_own _ rfl _ _ 62 rfl D 44 f0 _ 3 40 Try.underlying62 hi hz0 hz1 hz2 frame_zero (by omega) _ _ _ rfl (hrow.alloc _) ⟨W.heap.size, 0, none⟩ 1 1 [.int .i64 3, .int .i64 ch, .slice (some ⟨b, o + 4088 * x, none⟩) (plen body.length x) (plen body.length x)] rfl rfl (lit_add W 44 _) (by simp [Value.oneCell']) (by unfold maxLen; omega) (by omega) (by simp; omega) ?_; intro v' w9 hown' hgrow _; obtain ⟨g', cap', rfl⟩ := ownsRow_succ hown'; obtain ⟨hv1, hv2, hr2, hk2, hb2⟩ := hv.appended (by decide) hrow hDW (by omega) hown' hgrow; have hc1 := hv1.cell; have hf1 := hv1.frozen)
    have z9 : W.heap.size + 1 ≤ w9.heap.size := by have := hgrow.size; simpa using this
    have e2 : (w9.setCell ⟨D + 1, 0, none⟩ (.slice (some ⟨g', 0, none⟩) (1 + pre.length + 1) cap')).heap[D + 2]? = W.heap[D + 2]? := by
      rw [Below.heap_setCell _ ⟨D + 1, 0, none⟩ _ (D + 2) (by simp)]
      rw [hgrow.block (D + 2) (by have := y2.lt; simp; omega) (y2.not_row (by decide) hrow)]
      exact Below.heap_alloc W _ (D + 2) y2.lt
    have e3 : (w9.setCell ⟨D + 1, 0, none⟩ (.slice (some ⟨g', 0, none⟩) (1 + pre.length + 1) cap')).heap[D + 3]? = W.heap[D + 3]? := by
      rw [Below.heap_setCell _ ⟨D + 1, 0, none⟩ _ (D + 3) (by simp)]
      rw [hgrow.block (D + 3) (by have := y3.lt; simp; omega) (y3.not_row (by decide) hrow)]
      exact Below.heap_alloc W _ (D + 3) y3.lt
    refine ⟨hk2, ⟨e2, e3⟩, ⟨_, hv2, ?_, trivial⟩, ⟨e2.trans y2, e3.trans y3⟩, hB.trans hb2⟩
    rw [framesF_snoc, List.length_append]
    exact hr2
  case done =>
    rintro D2 ys W hD2 rfl ⟨⟨v, hv, hrow, _⟩, _, hBB⟩ hK
    have hvl := hv.lt
    have hlD : w.heap.size < D := by rw [HD.out]; exact K2.out.lt
    have hD2W : D2 < W.heap.size := (Array.getElem?_eq_some_iff.1 hK).1
    obtain ⟨N, hN⟩ : ∃ N, N = pcount body.length := ⟨_, rfl⟩
    have hN5 : N ≤ 5 := by rw [hN]; unfold pcount; omega
    rw [List.length_range, ← hN] at hrow
    obtain ⟨G, hG⟩ : ∃ G, G = framesF ch A1 c1 H b o body (List.range N) := ⟨_, rfl⟩
    rw [← hG] at hrow
    have hGl : G.length = 1 + N := by rw [hG, framesF_length, List.length_range]
    obtain ⟨AF, cF, rfl, hcF, hmF⟩ := own_form hrow
    have hc : W.cell? ⟨D + 1, 0, none⟩ = some (.slice AF (1 + N) cF) := hv.cell
    have HC := Lib.hid hc
    have LF := Lib.hid (Lies.own3 hrow (Nat.le_refl _))
    have BW := Lib.hid (B2.out.trans (hBB.mono (Nat.le_of_lt hlD)))
    have zW := BW.out.size
    have HF : Hid (∀ f ∈ G, FrmAt W W.heap.size f) := Lib.hid (by
      intro f hf
      rw [hG] at hf
      unfold framesF at hf
      rcases List.mem_cons.1 hf with rfl | h
      · exact ⟨(M2.out.below (by rw [← HD.out]; exact hBB)).more hBB.size, hc1, hm1⟩
      · obtain ⟨k, hk, rfl⟩ := List.mem_map.1 h
        have hk' := List.mem_range.1 hk
        have hp := HP.out k (by rw [← hN]; exact hk')
        have hpl := part_le body k
        refine ⟨(hp.below (BW.out.mono hB)).more (by omega), ?_, ?_⟩
        · show (part body k).length ≤ plen body.length k
          rw [part_length]
          exact Nat.le_refl _
        · show plen body.length k ≤ maxLen
          rw [← part_length]
          unfold maxLen
          omega)
    have HG : Hid (∀ f ∈ G, okF f = r) := Lib.hid (by
      rw [hG, Hr.out]
      exact frames_ok ch A1 c1 H b o body _ (by omega))
    have HE : Hid (r = true → R = l ++ octsF G) := Lib.hid (by
      intro h
      have hch : chanOk ch = true := by rw [← Hr.out]; exact h
      have hch2 : ch = (ch.toNat : Int) := by
        unfold chanOk at hch
        simp only [decide_eq_true_eq] at hch
        omega
      rw [HR.out, if_pos hch, hG, hN]
      congr 1
      rw [← octs_frames ch.toNat A1 c1 H b o body, ← hch2])
    have HE2 : Hid (r = false → R = l) := Lib.hid (by
      intro h
      rw [HR.out, if_neg (by rw [← Hr.out, h]; decide)])
    have HGL := Lib.hid hGl
    have LW := Lib.hid (HL.out.below (BW.out.mono hB))
    have HKK := Lib.hid hK
    clear hv hrow hc hBB hK hG hN hGl HP HR HA HH HOK kw
    refine HKc _ _ ?_
    go_wp2_with fail
    refine (clone_any A c l B _ LW.out (by omega) (by omega)).mono ?_
    rintro e w4 ⟨v4, rfl, ho4, hb4⟩
    have O4 := Lib.hid ho4
    have B4 := Lib.hid hb4
    have z4 := hb4.size
    have hc4 : w4.cell? ⟨D + 1, 0, none⟩ = some (.slice AF (1 + N) cF) := (hb4.cell (p := ⟨D + 1, 0, none⟩) hvl).trans HC.out
    clear ho4 hb4
    go_wp2_with fail
    go_loopw [14, 49] (fun vb iv wr => ∃ j X, j ≤ 1 + N ∧ iv = .int .i64 (j : Nat) ∧ (r = false → j = 0) ∧ X = l ++ octsF (G.take j) ∧ X.length ≤ l.length + j * 4096 ∧ Below W.heap.size W wr ∧ wr.ownsRow W.heap.size 5 1 vb X.length (B8 X)) (fun _ i _ => 1 + N - (intOf i).toNat)
    case atStart => exact ⟨0, l, Nat.zero_le _, rfl, fun _ => rfl, by simp [octsF], by omega, B4.out, O4.out⟩
    case round =>
      obtain ⟨j, X, hj, rfl, hj0, hX, hXl, hbr, hor⟩ := hrel
      have BR := Lib.hid hbr
      have zr := hbr.size
      have OR := Lib.hid hor
      have EX := Lib.hid hX
      have KR := Lib.hid ((hbr.block D2 hD2W).trans HKK.out)
      have HJ0 := Lib.hid hj0
      clear hbr hor hX hj0
      by_cases hlt : j < 1 + N
      · have hjG : j < G.length := by rw [HGL.out]; exact hlt
        obtain ⟨b0, p0, rfl, hb0, d0, d1, d2⟩ := lies_frm LF.out j hjG
        obtain ⟨f, hf⟩ : ∃ f, f = G[j] := ⟨_, rfl⟩
        rw [← hf] at d0 d1 d2
        have hmem : f ∈ G := by rw [hf]; exact List.getElem_mem hjG
        obtain ⟨ff1, ff2, ff3⟩ := HF.out f hmem
        have hfok := HG.out f hmem
        have ET : Hid (octsF (G.take (j + 1)) = octsF (G.take j) ++ octF f) := Lib.hid (by rw [List.take_succ_eq_append_getElem hjG, octsF_append, ← hf]; simp [octsF])
        clear hf hmem
        obtain ⟨fk, fch, fA, fc, fb⟩ := f
        simp only at d0 d1 d2 ff1 ff2 ff3
        have e0 : wr.cell? ⟨b0, p0 + j * 3, none⟩ = some (.int .i64 fk) := (BR.out.cell (p := ⟨b0, p0 + j * 3, none⟩) hb0).trans d0
        have e1 : wr.cell? ⟨b0, p0 + j * 3 + 1, none⟩ = some (.int .i64 fch) := (BR.out.cell (p := ⟨b0, p0 + j * 3 + 1, none⟩) hb0).trans d1
        have e2 : wr.cell? ⟨b0, p0 + j * 3 + 2, none⟩ = some (.slice fA fb.length fc) := (BR.out.cell (p := ⟨b0, p0 + j * 3 + 2, none⟩) hb0).trans d2
        have FL := Lib.hid (ff1.below BR.out)
        have hi1 : (j : Int) < ((1 + N : Nat) : Int) := by omega
        have hff : fb.length ≤ maxLen := Nat.le_trans ff2 ff3
        have HFO : Hid (frameOk fk fch fb.length = r) := Lib.hid hfok
        clear d0 d1 d2 ff1 hfok
        obtain ⟨wa, hwa⟩ : ∃ wa, wa = wr.alloc (.cells #[.int .i64 fk, .int .i64 fch, .slice fA fb.length fc] 44) := ⟨_, rfl⟩
        have hba : Below wr.heap.size wr wa := by rw [hwa]; exact (Below.refl _ _).alloc (Nat.le_refl _) _
        have BA := Lib.hid hba
        have HWA := Lib.hid hwa
        clear hba hwa
        cases r with
        | true =>
          obtain ⟨Z, hZ⟩ : ∃ Z, Z = octF ⟨fk, fch, fA, fc, fb⟩ := ⟨_, rfl⟩
          have hZl : Z.length = fb.length + 8 := by rw [hZ, octF_length]
          have hfb : fb.length ≤ 4088 := by
            have h := HFO.out
            unfold frameOk at h
            simp only [Bool.and_eq_true, decide_eq_true_eq] at h
            omega
          have HZ : Hid (fappB [] fk fch fb = Z) := Lib.hid (by unfold fappB; rw [HFO.out, hZ]; rfl)
          have EX2 : Hid (l ++ octsF (G.take (j + 1)) = X ++ Z) := Lib.hid (by rw [ET.out, EX.out, hZ, List.append_assoc])
          have HZL := Lib.hid hZl
          obtain ⟨i0, hi', hz0', hz1', hz2'⟩ := info_parts u8_info
          have HI := Lib.hid hi'
          have U0 := Lib.hid hz0'
          have U1 := Lib.hid hz1'
          have U2 := Lib.hid hz2'
          have hlen : X.length + Z.length ≤ 140737488355328 := by omega
          have HLen := Lib.hid hlen
          clear hZ hZl hi' hz0' hz1' hz2' hlen
          go_wp2_with fail
          rw [← HWA.out]
          refine (fappend_at none 0 0 [] W.heap.size fk fch fA fb.length fb fc _ true Z rfl (Lies.empty _ _ _) (by have := BA.out.size; omega) (by simp) rfl (FL.out.below (BA.out.mono zr)) hff HFO.out HZ.out).mono ?_
          rintro e w6 ⟨v6, rfl, ho6, hb6⟩
          obtain ⟨A6, c6, rfl, _, _⟩ := own_form ho6
          have L6 := Lib.hid (Lies.own ho6 (Nat.le_refl _))
          have B6 := Lib.hid (BA.out.trans (hb6.mono BA.out.size))
          have z6 := B6.out.size
          have O6 := Lib.hid (OR.out.kept (only_below B6.out none) (by cases hv : u14.ownBlock <;> simp))
          clear ho6 hb6
          go_wp2_with (at_builtin; refine wpList_append_cells rfl _ _ 26 rfl W.heap.size 5 i0 (.int .u8 0) 1 1 Try.underlying26 HI.out U0.out U1.out U2.out rfl (by omega) _ X.length _ rfl O6.out w6.heap.size A6 Z.length c6 (B8 Z) rfl L6.out (B8_len1 Z) (B8_one Z) (room63 HLen.out) (room1 HLen.out) (by omega) ?_; intro v7 w7 hown7 hb7; rw [← B8_append, ← List.length_append] at hown7; have O7 := Lib.hid hown7; have B7 := Lib.hid ((BR.out.trans (B6.out.mono zr)).trans hb7); clear hown7 hb7)
          go_roundw
          case rel => exact ⟨j + 1, X ++ Z, by omega, by go_num, fun h => by simp at h, EX2.out.symm, by rw [List.length_append, HZL.out]; omega, B7.out, O7.out⟩
          case measure => simp [intOf]; omega
        | false =>
          have HZ : Hid (fappB [] fk fch fb = []) := Lib.hid (by unfold fappB; rw [HFO.out]; rfl)
          go_wp2_with fail
          rw [← HWA.out]
          refine (fappend_at none 0 0 [] W.heap.size fk fch fA fb.length fb fc _ false [] rfl (Lies.empty _ _ _) (by have := BA.out.size; omega) (by simp) rfl (FL.out.below (BA.out.mono zr)) hff HFO.out HZ.out).mono ?_
          rintro e w6 ⟨v6, rfl, ho6, hb6⟩
          obtain ⟨A6, c6, rfl, _, _⟩ := own_form ho6
          have B6 := Lib.hid (BR.out.trans ((BA.out.trans (hb6.mono BA.out.size)).mono zr))
          have z6 := B6.out.size
          have L6 := Lib.hid (LW.out.below (B6.out.mono (by omega)))
          clear ho6 hb6
          go_wp2_with fail
          refine (clone_any A c l B _ L6.out (by omega) (by omega)).mono ?_
          rintro e w7 ⟨v7, rfl, ho7, hb7⟩
          have B7 := Lib.hid (B6.out.trans (hb7.mono z6))
          have O7 := Lib.hid (own_at_base (b' := w.heap.size) ho7 (by omega))
          have K7 := (B7.out.block D2 hD2W).trans HKK.out
          clear ho7 hb7
          have hR2 : R = l := HE2.out (by trivial)
          go_wp2_with fail
          refine ⟨by simp, .inl ⟨_, _, rfl, run_takeDeferred K7, ?_⟩⟩
          refine ⟨_, results_tmp2 rfl _ _ _, v7, rfl, ?_, ?_⟩
          · rw [hR2]
            exact ownsRow_putObj O7.out _ K7 rfl
          · exact (BW.out.trans (B7.out.mono zW)).grown (grownBy_putObj' w7 D2 _) (by have := B7.out.size; omega) (fun k hk => by cases hk; have := S0.out; omega)
      · obtain rfl : j = 1 + N := by omega
        have hrt : r = true := by
          cases r with
          | true => rfl
          | false => have := HJ0.out rfl; omega
        have hRX : R = X := by
          rw [HE.out hrt, EX.out, List.take_of_length_le (by rw [HGL.out]; exact Nat.le_refl _)]
        subst hrt
        have HRX := Lib.hid hRX
        have K7 := KR.out
        clear hRX
        go_wp2_with fail
        refine ⟨by simp, .inl ⟨_, _, rfl, run_takeDeferred K7, ?_⟩⟩
        refine ⟨_, results_tmp2 rfl _ _ _, u14, rfl, ?_, ?_⟩
        · rw [HRX.out]
          exact ownsRow_putObj (own_at_base (b' := w.heap.size) OR.out zW) _ K7 rfl
        · exact (BW.out.trans (BR.out.mono zW)).grown (grownBy_putObj' wr D2 _) (by omega) (fun k hk => by cases hk; have := S0.out; omega)
  case stop =>
    rintro D c pre W _ _ h _
    exact h.elim
end Go.Proofs.Ytfajkbegmmlmjaa
