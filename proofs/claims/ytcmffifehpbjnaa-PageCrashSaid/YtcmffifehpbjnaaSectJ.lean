/- Layer 7: Drop, where it goes well. -/
import Derived.Test.YtcmffifehpbjnaaSectG
import Derived.LoopTactic
namespace Go.Proofs.Ytcmffifehpbjnaa
open Go.RowKit Go.Maps
set_option maxRecDepth 100000
set_option linter.unusedSimpArgs false
set_option linter.unusedVariables false
/-- f, but not at the first k places of a file -/
noncomputable def cutP (f : Nm × Nat → Option Value) (nm : Nm) (k : Nat) : Nm × Nat → Option Value := fun x => open Classical in if x.1 = nm ∧ x.2 < k then none else f x
theorem cutP_zero (f : Nm × Nat → Option Value) (nm : Nm) : cutP f nm 0 = f := by funext x; simp [cutP]
theorem cutP_succ (f : Nm × Nat → Option Value) (nm : Nm) (k : Nat) : upd (cutP f nm k) (nm, k) none = cutP f nm (k + 1) := by
  funext x
  obtain ⟨a, b⟩ := x
  by_cases e : (a, b) = (nm, k)
  · cases e; rw [upd_self]; simp [cutP]
  · rw [upd_other _ _ _ _ e]
    unfold cutP
    by_cases h1 : a = nm
    · have h2 : b ≠ k := fun h2 => e (by rw [h1, h2])
      by_cases h3 : b < k
      · simp [h1, h3, show b < k + 1 by omega]
      · simp [h1, h3, show ¬ b < k + 1 by omega]
    · simp [h1]
section
variable {K : Nat → Prop} {w w' : World} {g : Nat} {b1 b2 b3 : Nat} {S : Dv} {sv : Nm → Value}
/-- the state of Drop's loop -/
structure DropI (K : Nat → Prop) (w : World) (g : Nat) (mo us le : Int) (b1 b2 b3 : Nat) (ff : Nm → Option Value) (lf rf : Nm × Nat → Option Value) (nm : Nm) (n : Int) (v : Value) (k : Nat) (W : World) : Prop where
  raw : Raw K W g mo us le b1 b2 b3 ff (cutP lf nm k) (cutP rf nm k)
  T : Turn (fun i => i = b2 ∨ i = b3) w W
  box : Whole W w.heap.size 91 #[.int .i64 n, v]
theorem DevAt.dropped {K' : Nat → Prop} {W : World} (h : DevAt K w g S b1 b2 b3 sv) (hr : Rising S.fs) (nm : Nm) (F : Fil) (hf : fnd S.fs nm = some F) (us : Int) (hus : us = S.used - F.l.length)
    (R : Raw K' W g S.most us S.left b1 b2 b3 (upd (fun nm => (fnd S.fs nm).map fun F => flV F.l.length (sv nm)) nm none) (cutP (fun x => (S.la x).map laV) nm F.l.length) (cutP (fun x => (S.fr x).map frV) nm F.l.length))
    (hK : ∀ i, K i → K' i) (hother : ∀ y F', fnd S.fs y = some F' → ∀ i, (sv y).ownBlock = some i → W.heap[i]? = w.heap[i]?) : DevAt K' W g { S with fs := rem S.fs nm } b1 b2 b3 sv := by
  have cut : ∀ (α : Type) (pr : Sct → Option α) (V : α → Value) (y : Nm) (k : Nat), cutP (fun x => ((fnd S.fs x.1).bind fun F => F.l[x.2]?.bind pr).map V) nm F.l.length (y, k) = ((fnd (rem S.fs nm) y).bind fun F => F.l[k]?.bind pr).map V := by
    intro α pr V y k
    rw [fnd_rem hr]
    unfold cutP
    by_cases e : nm = y
    · subst e
      rw [if_pos rfl]
      by_cases h1 : k < F.l.length
      · simp [h1]
      · simp [h1, hf, List.getElem?_eq_none (Nat.le_of_not_lt h1)]
    · rw [if_neg e]
      simp [Ne.symm e]
  refine R.dev _ sv rfl ?_ rfl ?_ ?_ ?_ ?_ ?_
  · have := tot_rem (fun F : Fil => F.l.length) nm hf
    rw [hus]
    show (S.used : Int) - _ = ((tot (fun F : Fil => F.l.length) (rem S.fs nm) : Nat) : Int)
    unfold Dv.used
    omega
  · intro y
    show upd _ nm none y = (fnd (rem S.fs nm) y).map _
    rw [fnd_rem hr]
    by_cases e : y = nm
    · subst e
      rw [upd_self, if_pos rfl]
      rfl
    · rw [upd_other _ _ _ _ e, if_neg (Ne.symm e)]
  · rintro ⟨y, k⟩
    exact cut _ (·.la) laV y k
  · rintro ⟨y, k⟩
    exact cut _ (·.fr) frV y k
  · intro y F' hy
    have hy' : fnd (rem S.fs nm) y = some F' := hy
    rw [fnd_rem hr] at hy'
    by_cases e : nm = y
    · rw [if_pos e] at hy'; cases hy'
    · rw [if_neg e] at hy'
      obtain ⟨r1, r2⟩ := h.rows y F' hy'
      exact ⟨row_block r1 (fun i hi => hother y F' hy' i hi), fun i hi => hK i (r2 i hi)⟩
  · intro y y' F1 F2 hne hy hy' i hi
    have hy1 : fnd (rem S.fs nm) y = some F1 := hy
    have hy2 : fnd (rem S.fs nm) y' = some F2 := hy'
    rw [fnd_rem hr] at hy1 hy2
    by_cases e : nm = y
    · rw [if_pos e] at hy1; cases hy1
    · rw [if_neg e] at hy1
      by_cases e' : nm = y'
      · rw [if_pos e'] at hy2; cases hy2
      · rw [if_neg e'] at hy2
        exact h.alone y y' F1 F2 hne hy1 hy2 i hi
set_option maxHeartbeats 8000000 in
theorem drop_yes (h : DevAt K w g S b1 b2 b3 sv) (hO : Ok S) (nm : Nm) (h20 : nm.length ≤ 20) (F : Fil) (hf : fnd S.fs nm = some F) (hp : S.left ≠ 0) (hm : F.l.length ≤ S.used) :
    Calls Try.prog 52 #[ptr g, nmV nm] w fun e w' => e = .returned (.int .i64 0) ∧ DevAt K w' g (Dv.tick { S with fs := rem S.fs nm }) b1 b2 b3 sv ∧ Turn K w w' := by
  have hn : nm.length ≤ maxLen := by unfold maxLen; omega
  have hu4 : S.used ≤ 100000 := by have := hO.most; have := hO.room; omega
  obtain ⟨c0, c1, c2, c3, c4, c5⟩ := h.cell
  have hg := h.glt
  have e1 := (h.raw.look_fl hn).1
  rw [hf] at e1
  simp only [Option.map_some, Option.getD_some, Option.isSome_some, flV] at e1
  obtain ⟨sa, sc, hsv, hsc1, hsc2⟩ := own_form (h.rows nm F hf).1
  rw [hsv] at e1
  obtain ⟨n, hnn⟩ : ∃ n, n = F.l.length := ⟨_, rfl⟩
  obtain ⟨sl, hsl⟩ : ∃ sl, sl = F.wr.length := ⟨_, rfl⟩
  rw [← hnn] at e1 hm
  rw [← hsl] at e1
  have hcut : (S.left == 0) = false := by simpa using hp
  have H0 := Lib.hid h
  have HNN := Lib.hid hnn
  have HF := Lib.hid hf
  have HO := Lib.hid hO
  have hb2l := h.lasts.lt
  have hb3l := h.fresh.lt
  have hb1l := h.files.lt
  have hbd : DropI K w g S.most S.used S.left b1 b2 b3 (fun nm => (fnd S.fs nm).map fun F => flV F.l.length (sv nm)) (fun x => (S.la x).map laV) (fun x => (S.fr x).map frV) nm (n : Int) (.slice sa sl sc) 0 (w.alloc (.cells #[.int .i64 (n : Int), .slice sa sl sc] 91)) := by
    refine ⟨?_, Turn.of_below ((Below.refl _ _).alloc (Nat.le_refl _) _), Whole.new _ _ _⟩
    rw [cutP_zero, cutP_zero]
    exact h.raw.alloc _
  have HBD := Lib.hid hbd
  unfold nmV at e1 ⊢
  clear h hf hp hnn hsl hsv hO hbd
  go_enter Try.func52, Try.ntmps52
  go_wp2_with (go_at_call 49; go_must (refine (cut_any H0.out).mono ?_); rintro e w' ⟨rfl, rfl⟩)
  go_loopw [24] (fun vi W => ∃ k : Nat, k ≤ n ∧ vi = .int .i64 (k : Int) ∧ DropI K w g S.most S.used S.left b1 b2 b3 (fun nm => (fnd S.fs nm).map fun F => flV F.l.length (sv nm)) (fun x => (S.la x).map laV) (fun x => (S.fr x).map frV) nm (n : Int) (.slice sa sl sc) k W) (fun vi _ => n - (intOf vi).toNat)
  case atStart => exact ⟨0, Nat.zero_le _, rfl, HBD.out⟩
  case round =>
    obtain ⟨k, hk, rfl, hI⟩ := hrel
    by_cases hlt : k < n
    · have hx : plOk (nm, k) := ⟨h20, by show k ≤ 1000000; omega⟩
      have hw := hI.T.size
      obtain ⟨A1, hA1⟩ : ∃ A1 : Obj, A1 = .cells #[.string ⟨nm.toArray⟩, .int .i64 (k : Int)] 86 := ⟨_, rfl⟩
      obtain ⟨W1, hW1⟩ : ∃ W1, W1 = wr.alloc A1 := ⟨_, rfl⟩
      have hB := box_cells wr (.string ⟨nm.toArray⟩) (.int .i64 (k : Int)) 86
      rw [← hA1, ← hW1] at hB
      obtain ⟨k1, k2⟩ := hB
      have hz : W1.heap.size = wr.heap.size + 1 := by rw [hW1]; simp
      have hBel : Below wr.heap.size wr W1 := by rw [hW1]; exact (Below.refl _ _).alloc (Nat.le_refl _) _
      have R1 := hI.raw.below hBel
      obtain ⟨w2, r2, R2, t2⟩ := R1.drew.del_la hx 0
      obtain ⟨w3, r3, R3, t3⟩ := R2.drew.del_fr hx 0
      obtain ⟨x0, x1, x2, x3, x4, x5⟩ := R1.cell
      obtain ⟨y0, y1, y2, y3, y4, y5⟩ := R2.cell
      have m1 : w2.cell? ⟨wr.heap.size, 0, none⟩ = some (.string ⟨nm.toArray⟩) := (turned_box t2 (show wr.heap.size ≠ b2 by omega) (show wr.heap.size < W1.heap.size by omega) 0).trans k1
      have m2 : w2.cell? ⟨wr.heap.size, 1, none⟩ = some (.int .i64 (k : Int)) := (turned_box t2 (show wr.heap.size ≠ b2 by omega) (show wr.heap.size < W1.heap.size by omega) 1).trans k2
      have hI3 : DropI K w g S.most S.used S.left b1 b2 b3 (fun nm => (fnd S.fs nm).map fun F => flV F.l.length (sv nm)) (fun x => (S.la x).map laV) (fun x => (S.fr x).map frV) nm (n : Int) (.slice sa sl sc) (k + 1) w3 := by
        refine ⟨by rw [← cutP_succ, ← cutP_succ]; exact R3, ?_, ?_⟩
        · exact ((hI.T.trans (Turn.of_below hBel)).trans (turn_map (K := More (fun i => i = b2 ∨ i = b3) w) t2 (.inl (.inl rfl))).after').trans (turn_map (K := More (fun i => i = b2 ∨ i = b3) w) t3 (.inl (.inr rfl))).after'
        · have q1 : Whole W1 w.heap.size 91 #[.int .i64 (n : Int), .slice sa sl sc] := hI.box.below hBel hI.box.lt
          have q2 : Whole w2 w.heap.size 91 #[.int .i64 (n : Int), .slice sa sl sc] := (turned_block t2 (show w.heap.size ≠ b2 by omega) (show w.heap.size < W1.drew.heap.size from q1.lt)).trans q1
          exact (turned_block t3 (show w.heap.size ≠ b3 by omega) (show w.heap.size < w2.drew.heap.size from q2.lt)).trans q2
      have HI3 := Lib.hid hI3
      subst hW1
      subst hA1
      unfold plV at r2 r3
      clear hI3 hI R1 R2 R3 t2 t3 hBel hz hx c0 c1 c2 c3 c4 c5 e1
      go_wp2
      go_region
      all_goals
        go_wp2
        go_region
        all_goals
          go_wp2
          go_roundw
          case rel => exact ⟨k + 1, by omega, by go_num, HI3.out⟩
          case measure => simp [intOf]; omega
    · have hkn : k = n := by omega
      subst hkn
      obtain ⟨w4, r4, R4, t4⟩ := hI.raw.del_fl hn 0
      have hw := hI.T.size
      have hbx := hI.box
      have q4 : Whole w4 w.heap.size 91 #[.int .i64 (k : Int), .slice sa sl sc] := (turned_block t4 (show w.heap.size ≠ b1 by omega) hI.box.lt).trans hI.box
      obtain ⟨x0, x1, x2, x3, x4, x5⟩ := hI.raw.cell
      obtain ⟨y0, y1, y2, y3, y4, y5⟩ := R4.cell
      have yf := R4.frozen 1
      have z0 : w4.cell? ⟨w.heap.size, 0, none⟩ = some (.int .i64 (k : Int)) := q4.cell 0
      have T4 : Turn K w w4 := (hI.T.mono (fun i _ hi => by rcases hi with rfl | rfl; exact H0.out.own.2.2.1; exact H0.out.own.2.2.2)).trans (turn_map (K := More K w) t4 (.inl H0.out.own.2.1))
      have HT4 := Lib.hid T4
      have D5 : DevAt K ((w4.drew).setCell ⟨g, 1, none⟩ (.int .i64 ((S.used : Int) - (k : Int)))) g { S with fs := rem S.fs nm } b1 b2 b3 sv := by
        refine H0.out.dropped HO.out.rising nm F HF.out ((S.used : Int) - (k : Int)) (by rw [HNN.out]) (by rw [← HNN.out]; exact R4.drew.set _) (fun i hi => hi) (fun y F' hy i hi => ?_)
        obtain ⟨q1, q2, q3, q5⟩ := row_ne H0.out hy hi
        obtain ⟨cur, hc⟩ := sv_row (H0.out.rows y F' hy).1 hi
        have hlt := (Array.getElem?_eq_some_iff.1 hc).1
        refine (Below.heap_setCell w4.drew _ _ i q1).trans ?_
        refine (turned_block t4 q2 (by omega)).trans (hI.T.block i hlt (fun e => by rcases e with e | e; exact q3 e; exact q5 e))
      have HD5 := Lib.hid D5
      have HL := Lib.hid HO.out.left
      have hkO : HNN.out = HNN.out := rfl
      unfold nmV at r4
      clear hI R4 t4 D5 T4 hbx c0 c1 c2 c3 c4 c5 e1 q4
      go_wp2
      go_region
      all_goals
        go_wp2_with (go_at_call 50; go_must (refine (done_any HD5.out HL.out).mono ?_); rintro e w9 ⟨rfl, h9, t9⟩; have H9 := Lib.hid h9; have T9 := Lib.hid t9; clear h9 t9)
        go_ret
        exact ⟨rfl, H9.out, (HT4.out.trans (turn_cell (K := More K w) (.inl H0.out.own.1) _ : Turn (More K w) w4.drew _).after').trans (T9.out.mono (fun i _ hi => .inl hi))⟩
end
end Go.Proofs.Ytcmffifehpbjnaa
