/- Layer 7: Sync, where it goes well. -/
import Derived.Test.YtcmffifehpbjnaaSectJ
namespace Go.Proofs.Ytcmffifehpbjnaa
open Go.RowKit Go.Maps
set_option maxRecDepth 100000
set_option linter.unusedSimpArgs false
set_option linter.unusedVariables false
section
variable {K : Nat → Prop} {w w' : World} {g : Nat} {b1 b2 b3 : Nat} {S : Dv} {sv : Nm → Value}
open Classical in
/-- what lasts, and what is fresh, when the places ks of a file are synced -/
noncomputable def synL (S : Dv) (nm : Nm) (ks : List Nat) : Nm × Nat → Option Value := fun x => if x.1 = nm ∧ x.2 ∈ ks then ((S.fr x).map fun s => (s, false)).map laV else (S.la x).map laV
open Classical in
noncomputable def synR (S : Dv) (nm : Nm) (ks : List Nat) : Nm × Nat → Option Value := fun x => if x.1 = nm ∧ x.2 ∈ ks then none else (S.fr x).map frV
theorem synL_nil (S : Dv) (nm : Nm) : synL S nm [] = fun x => (S.la x).map laV := by funext x; simp [synL]
theorem synR_nil (S : Dv) (nm : Nm) : synR S nm [] = fun x => (S.fr x).map frV := by funext x; simp [synR]
theorem synL_snoc (S : Dv) (nm : Nm) (ks : List Nat) (k : Nat) (s : Sec) (h : S.fr (nm, k) = some s) : upd (synL S nm ks) (nm, k) (some (laV (s, false))) = synL S nm (ks ++ [k]) := by
  funext x
  obtain ⟨a, b⟩ := x
  by_cases e : (a, b) = (nm, k)
  · cases e; rw [upd_self]; simp [synL, h]
  · rw [upd_other _ _ _ _ e]
    unfold synL
    by_cases h1 : a = nm
    · have h2 : b ≠ k := fun h2 => e (by rw [h1, h2])
      simp [h1, h2]
    · simp [h1]
theorem synR_snoc (S : Dv) (nm : Nm) (ks : List Nat) (k : Nat) : upd (synR S nm ks) (nm, k) none = synR S nm (ks ++ [k]) := by
  funext x
  obtain ⟨a, b⟩ := x
  by_cases e : (a, b) = (nm, k)
  · cases e; rw [upd_self]; simp [synR]
  · rw [upd_other _ _ _ _ e]
    unfold synR
    by_cases h1 : a = nm
    · have h2 : b ≠ k := fun h2 => e (by rw [h1, h2])
      simp [h1, h2]
    · simp [h1]
/-- the state of a loop over a file's row -/
structure SynI (K : Nat → Prop) (w : World) (g : Nat) (mo us le : Int) (b1 b2 b3 : Nat) (ff : Nm → Option Value) (lf rf : Nm × Nat → Option Value) (bx : Nat) (n : Int) (v : Value) (ks : List Nat) (W : World) : Prop where
  raw : Raw K W g mo us le b1 b2 b3 ff lf rf
  T : Turn (fun i => i = b2 ∨ i = b3) w W
  box : Whole W bx 91 #[.int .i64 n, v]
  row : W.ownsRow 0 3 1 v ks.length (I64 ks)
theorem row_cell {W : World} {sa : Option Addr} {sl sc : Nat} {ks : List Nat} (h : W.ownsRow 0 3 1 (.slice sa sl sc) ks.length (I64 ks)) {i : Nat} (hi : i < ks.length) :
    ∃ gb, sa = some ⟨gb, 0, none⟩ ∧ W.cell? ⟨gb, i, none⟩ = some (.int .i64 (ks[i] : Int)) ∧ gb < W.heap.size := by
  obtain ⟨h1, h2⟩ := h
  rcases h2 with ⟨_, h0⟩ | ⟨gb, cap, cur, hv, _, hh, hn, _, hc, ht⟩
  · omega
  · injection hv with hv1 hv2 hv3
    subst hv1
    refine ⟨gb, rfl, ?_, (Array.getElem?_eq_some_iff.1 hh).1⟩
    rw [cell_of_row W gb i cur _ _ hh]
    have e : (cur.toList.take (ks.length * 1))[i]? = some (.int .i64 (ks[i] : Int)) := by
      rw [ht]
      simp [I64, hi]
    rw [List.getElem?_take, if_pos (by omega)] at e
    simpa using e
theorem DevAt.settled {K' : Nat → Prop} {W : World} (h : DevAt K w g S b1 b2 b3 sv) (hr : Rising S.fs) (nm : Nm) (F F' : Fil) (hf : fnd S.fs nm = some F) (hwr : F'.wr = []) {lf rf : Nm × Nat → Option Value} (us : Int) (hus : us = S.used - F.l.length + F'.l.length)
    (R : Raw K' W g S.most us S.left b1 b2 b3 (upd (fun nm => (fnd S.fs nm).map fun F => flV F.l.length (sv nm)) nm (some (.agg #[.int .i64 (F'.l.length : Int), .slice none 0 0]))) lf rf)
    (hlf : ∀ x, lf x = ((S.put nm F').la x).map laV) (hrf : ∀ x, rf x = ((S.put nm F').fr x).map frV)
    (hK : ∀ i, K i → K' i) (hother : ∀ y F', y ≠ nm → fnd S.fs y = some F' → ∀ i, (sv y).ownBlock = some i → W.heap[i]? = w.heap[i]?) : DevAt K' W g (S.put nm F') b1 b2 b3 (svAt sv nm (.slice none 0 0)) := by
  refine R.dev (S.put nm F') _ rfl ?_ rfl ?_ hlf hrf ?_ ?_
  · have := used_put hr nm F'
    have e : S.len nm = F.l.length := by simp [Dv.len, hf]
    have e2 := tot_fnd (fun F : Fil => F.l.length) nm hf
    have e3 : S.used = tot (fun F : Fil => F.l.length) S.fs := rfl
    rw [hus]; omega
  · intro y
    rw [fnd_put]
    by_cases e : y = nm
    · subst e
      rw [upd_self, if_pos rfl, svAt_self]
      rfl
    · rw [upd_other _ _ _ _ e, if_neg (Ne.symm e), svAt_other _ _ _ _ e]
  · intro y F1 hy
    rw [fnd_put] at hy
    by_cases e : nm = y
    · rw [if_pos e] at hy
      cases hy
      subst e
      rw [svAt_self, hwr]
      exact ⟨World.ownsRow_nil _ _ _ _, fun i hi => by cases hi⟩
    · rw [if_neg e] at hy
      rw [svAt_other _ _ _ _ (Ne.symm e)]
      obtain ⟨r1, r2⟩ := h.rows y F1 hy
      exact ⟨row_block r1 (fun i hi => hother y F1 (Ne.symm e) hy i hi), fun i hi => hK i (r2 i hi)⟩
  · intro y y' F1 F2 hne hy hy' i hi
    rw [fnd_put] at hy hy'
    by_cases e : nm = y
    · subst e
      rw [svAt_self] at hi
      cases hi
    · rw [if_neg e] at hy
      rw [svAt_other _ _ _ _ (Ne.symm e)] at hi
      by_cases e' : nm = y'
      · subst e'
        rw [svAt_self]
        simp [Value.ownBlock]
      · rw [if_neg e'] at hy'
        rw [svAt_other _ _ _ _ (Ne.symm e')]
        exact h.alone y y' F1 F2 hne hy hy' i hi
theorem syn_la (nm : Nm) (F : Fil) (hf : fnd S.fs nm = some F) (ho : F.wr.Nodup ∧ ∀ k, k ∈ F.wr ↔ ∃ s, F.l[k]? = some s ∧ s.fr.isSome = true) (x : Nm × Nat) : synL S nm F.wr x = ((S.put nm (syF F)).la x).map laV := by
  obtain ⟨y, k⟩ := x
  rw [la_put]
  unfold synL
  by_cases e : y = nm
  · subst e
    rw [if_pos rfl]
    simp only [true_and]
    have hk := ho.2 k
    by_cases h1 : k ∈ F.wr
    · obtain ⟨s, h2, h3⟩ := hk.1 h1
      obtain ⟨v, hv⟩ := Option.isSome_iff_exists.1 h3
      rw [if_pos h1]
      simp [Dv.fr, hf, h2, hv, syF, syS]
    · rw [if_neg h1]
      simp only [Dv.la, hf, syF, Option.bind_some, List.getElem?_map]
      cases hg : F.l[k]? with
      | none => rfl
      | some s =>
        have : s.fr = none := by
          cases hs : s.fr with
          | none => rfl
          | some v => exact absurd (hk.2 ⟨s, hg, by rw [hs]; rfl⟩) h1
        simp [syS, this]
  · rw [if_neg (fun h => e h.1), if_neg e]
theorem syn_fr (nm : Nm) (F : Fil) (hf : fnd S.fs nm = some F) (ho : F.wr.Nodup ∧ ∀ k, k ∈ F.wr ↔ ∃ s, F.l[k]? = some s ∧ s.fr.isSome = true) (x : Nm × Nat) : synR S nm F.wr x = ((S.put nm (syF F)).fr x).map frV := by
  obtain ⟨y, k⟩ := x
  rw [fr_put]
  unfold synR
  by_cases e : y = nm
  · subst e
    rw [if_pos rfl]
    simp only [true_and]
    have hk := ho.2 k
    by_cases h1 : k ∈ F.wr
    · obtain ⟨s, h2, h3⟩ := hk.1 h1
      obtain ⟨v, hv⟩ := Option.isSome_iff_exists.1 h3
      rw [if_pos h1]
      simp [h2, hv, syF, syS]
    · rw [if_neg h1]
      simp only [Dv.fr, hf, syF, Option.bind_some, List.getElem?_map]
      cases hg : F.l[k]? with
      | none => rfl
      | some s =>
        have : s.fr = none := by
          cases hs : s.fr with
          | none => rfl
          | some v => exact absurd (hk.2 ⟨s, hg, by rw [hs]; rfl⟩) h1
        simp [syS, this]
  · rw [if_neg (fun h => e h.1), if_neg e]
theorem synL_room (S : Dv) (nm : Nm) (ks : List Nat) : ∀ x, (synL S nm ks x).isSome = true → x ∈ S.places := by
  intro x hx
  unfold synL at hx
  split at hx
  · exact fr_place (by simpa using hx)
  · exact la_place (by simpa using hx)
set_option maxHeartbeats 8000000 in
theorem sync_yes (h : DevAt K w g S b1 b2 b3 sv) (hO : Ok S) (nm : Nm) (h20 : nm.length ≤ 20) (F : Fil) (hf : fnd S.fs nm = some F) (hp : S.left ≠ 0) (hm : F.l.length ≤ 100000) (hwl : F.wr.length ≤ 100000) :
    Calls Try.prog 32 #[ptr g, nmV nm] w fun e w' => e = .returned (.int .i64 0) ∧ DevAt K w' g (Dv.tick (S.put nm (syF F))) b1 b2 b3 (svAt sv nm (.slice none 0 0)) ∧ Turn K w w' := by
  have hn : nm.length ≤ maxLen := by unfold maxLen; omega
  have hu4 : S.used ≤ 100000 := by have := hO.most; have := hO.room; omega
  obtain ⟨c0, c1, c2, c3, c4, c5⟩ := h.cell
  have hg := h.glt
  have e1 := (h.raw.look_fl hn).1
  rw [hf] at e1
  simp only [Option.map_some, Option.getD_some, Option.isSome_some, flV] at e1
  obtain ⟨sa, sc, hsv, hsc1, hsc2⟩ := own_form (h.rows nm F hf).1
  rw [hsv] at e1
  have hrow := (h.rows nm F hf).1
  rw [hsv] at hrow
  obtain ⟨n, hnn⟩ : ∃ n, n = F.l.length := ⟨_, rfl⟩
  obtain ⟨sl, hsl⟩ : ∃ sl, sl = F.wr.length := ⟨_, rfl⟩
  rw [← hnn] at e1 hm
  rw [← hsl] at e1 hwl
  have hcut : (S.left == 0) = false := by simpa using hp
  have H0 := Lib.hid h
  have HNN := Lib.hid hnn
  have HSL := Lib.hid hsl
  have HF := Lib.hid hf
  have HO := Lib.hid hO
  have hb2l := h.lasts.lt
  have hb3l := h.fresh.lt
  have hb1l := h.files.lt
  obtain ⟨bx, hbx⟩ : ∃ bx, bx = w.heap.size := ⟨_, rfl⟩
  have hbd : SynI K w g S.most S.used S.left b1 b2 b3 (fun nm => (fnd S.fs nm).map fun F => flV F.l.length (sv nm)) (synL S nm (F.wr.take 0)) (synR S nm (F.wr.take 0)) bx (n : Int) (.slice sa sl sc) F.wr (w.alloc (.cells #[.int .i64 (n : Int), .slice sa sl sc] 91)) := by
    refine ⟨?_, Turn.of_below ((Below.refl _ _).alloc (Nat.le_refl _) _), by rw [hbx]; exact Whole.new _ _ _, ?_⟩
    · rw [List.take_zero, synL_nil, synR_nil]
      exact h.raw.alloc _
    · rw [hsl]; exact hrow.alloc _
  have HBD := Lib.hid hbd
  have HBX := Lib.hid hbx
  unfold nmV at e1 ⊢
  clear h hf hp hnn hsl hsv hO hbd hrow hbx
  go_enter Try.func32, Try.ntmps32
  go_wp2_with (go_at_call 49; go_must (refine (cut_any H0.out).mono ?_); rintro e w' ⟨rfl, rfl⟩)
  go_loopw [26] (fun vi W => ∃ k : Nat, k ≤ sl ∧ vi = .int .i64 (k : Int) ∧ SynI K w g S.most S.used S.left b1 b2 b3 (fun nm => (fnd S.fs nm).map fun F => flV F.l.length (sv nm)) (synL S nm (F.wr.take k)) (synR S nm (F.wr.take k)) bx (n : Int) (.slice sa sl sc) F.wr W) (fun vi _ => sl - (intOf vi).toNat)
  case atStart => exact ⟨0, Nat.zero_le _, rfl, HBD.out⟩
  case round =>
    obtain ⟨k, hk, rfl, hI⟩ := hrel
    have hbxe := HBX.out
    by_cases hlt : k < sl
    · obtain ⟨gb, rfl, hcell, hgb⟩ := row_cell hI.row (i := k) (by rw [← HSL.out]; exact hlt)
      obtain ⟨p, hp⟩ : ∃ p, p = F.wr[k]'(by rw [← HSL.out]; exact hlt) := ⟨_, rfl⟩
      rw [← hp] at hcell
      have ho := HO.out.once nm F HF.out
      have hpw : p ∈ F.wr := by rw [hp]; exact List.getElem_mem _
      obtain ⟨sct, hs1, hs2⟩ := (ho.2 p).1 hpw
      obtain ⟨s, hs⟩ := Option.isSome_iff_exists.1 hs2
      have hfr : S.fr (nm, p) = some s := by simp [Dv.fr, HF.out, hs1, hs]
      have hpl : p < n := by rw [HNN.out]; exact (List.getElem?_eq_some_iff.1 hs1).1
      have hnot : p ∉ F.wr.take k := by
        intro hin
        obtain ⟨q, hq1, hq2⟩ := List.getElem_of_mem hin
        simp at hq1 hq2
        have := (List.nodup_iff_pairwise_ne.1 ho.1)
        exact (List.pairwise_iff_getElem.1 this) q k (by omega) (by rw [← HSL.out]; exact hlt) (by omega) (by rw [hq2, hp])
      have htake : F.wr.take (k + 1) = F.wr.take k ++ [p] := by
        rw [List.take_succ_eq_append_getElem (by rw [← HSL.out]; exact hlt), hp]
      have hx : plOk (nm, p) := ⟨h20, by show p ≤ 1000000; omega⟩
      have hw := hI.T.size
      obtain ⟨A1, hA1⟩ : ∃ A1 : Obj, A1 = .cells #[.string ⟨nm.toArray⟩, .int .i64 (p : Int)] 86 := ⟨_, rfl⟩
      obtain ⟨W1, hW1⟩ : ∃ W1, W1 = wr.alloc A1 := ⟨_, rfl⟩
      have hB := box_cells wr (.string ⟨nm.toArray⟩) (.int .i64 (p : Int)) 86
      rw [← hA1, ← hW1] at hB
      obtain ⟨k1, k2⟩ := hB
      have hz : W1.heap.size = wr.heap.size + 1 := by rw [hW1]; simp
      have hBel : Below wr.heap.size wr W1 := by rw [hW1]; exact (Below.refl _ _).alloc (Nat.le_refl _) _
      have R1 := hI.raw.below hBel
      obtain ⟨w2, r2, R2, t2⟩ := R1.drew.put_la hx (.agg (csL (s, false))) S.places (synL_room S nm _) (by rw [places_length]; unfold maxLen; omega)
      obtain ⟨w3, r3, R3, t3⟩ := R2.drew.del_fr hx 0
      have f1 := (R1.drew.look_fr hx).2
      have hsr : synR S nm (F.wr.take k) (nm, p) = some (frV s) := by simp [synR, hnot, hfr]
      rw [hsr] at f1
      simp only [Option.getD_some, frV_eq] at f1
      have g1 := sector_fold s
      have g2 := csF_size s
      obtain ⟨x0, x1, x2, x3, x4, x5⟩ := R1.cell
      obtain ⟨y0, y1, y2, y3, y4, y5⟩ := R2.cell
      have m1 : w2.cell? ⟨wr.heap.size, 0, none⟩ = some (.string ⟨nm.toArray⟩) := (turned_box t2 (show wr.heap.size ≠ b2 by omega) (show wr.heap.size < W1.heap.size by omega) 0).trans k1
      have m2 : w2.cell? ⟨wr.heap.size, 1, none⟩ = some (.int .i64 (p : Int)) := (turned_box t2 (show wr.heap.size ≠ b2 by omega) (show wr.heap.size < W1.heap.size by omega) 1).trans k2
      have hgb2 : gb ≠ b2 ∧ gb ≠ b3 := by
        have hv : (Value.slice (some ⟨gb, 0, none⟩) sl sc).ownBlock = some gb := rfl
        obtain ⟨cur, hc⟩ := sv_row hI.row hv
        constructor
        · rintro rfl
          obtain ⟨es, cl, hb⟩ := hI.raw.lasts.is
          rw [hb] at hc; cases hc
        · rintro rfl
          obtain ⟨es, cl, hb⟩ := hI.raw.fresh.is
          rw [hb] at hc; cases hc
      have hI3 : SynI K w g S.most S.used S.left b1 b2 b3 (fun nm => (fnd S.fs nm).map fun F => flV F.l.length (sv nm)) (synL S nm (F.wr.take (k + 1))) (synR S nm (F.wr.take (k + 1))) bx (n : Int) (.slice (some ⟨gb, 0, none⟩) sl sc) F.wr w3 := by
        have blk : ∀ i, i < wr.heap.size → i ≠ b2 → i ≠ b3 → w3.heap[i]? = wr.heap[i]? := fun i h1 h2 h3 =>
          (turned_block t3 h3 (show i < w2.drew.heap.size by have := turned_size t2; show i < w2.heap.size; rw [this]; show i < W1.heap.size; omega)).trans ((turned_block t2 h2 (show i < W1.drew.heap.size by show i < W1.heap.size; omega)).trans (hBel.block i h1))
        refine ⟨by rw [htake, ← synL_snoc S nm _ p s hfr, ← synR_snoc]; exact R3, ?_, ?_, ?_⟩
        · exact ((hI.T.trans (Turn.of_below hBel)).trans (turn_map (K := More (fun i => i = b2 ∨ i = b3) w) t2 (.inl (.inl rfl))).after').trans (turn_map (K := More (fun i => i = b2 ∨ i = b3) w) t3 (.inl (.inr rfl))).after'
        · exact (blk bx hI.box.lt (by omega) (by omega)).trans hI.box
        · exact row_block hI.row (fun i hi => by cases hi; exact blk _ hgb hgb2.1 hgb2.2)
      have HI3 := Lib.hid hI3
      subst hW1
      subst hA1
      unfold plV at r2 r3 f1
      have HP := Lib.hid hp
      clear hI3 hI R1 R2 R3 t2 t3 hBel hz hx c0 c1 c2 c3 c4 c5 e1 hsr htake hnot hfr ho hs1 hs2 hs hpw hp hbxe
      go_wp2
      go_region
      all_goals
        go_wp2
        go_region
        all_goals
          go_wp2
          go_roundw
          case rel => exact ⟨k + 1, by omega, by go_num, HI3.out⟩
          case measure => simp [intOf]; omega
    · have hkn : k = sl := by omega
      subst hkn
      have htk : F.wr.take k = F.wr := List.take_of_length_le (by rw [HSL.out]; exact Nat.le_refl _)
      rw [htk] at hI
      obtain ⟨w4, r4, R4, t4⟩ := hI.raw.drew.put_fl hn (.agg #[.int .i64 (n : Int), .slice none 0 0]) (S.fs.map (·.1)) names_all (by have := HO.out.few; simp; unfold maxLen; omega)
      have hw := hI.T.size
      obtain ⟨x0, x1, x2, x3, x4, x5⟩ := hI.raw.cell
      have z0 : wr.cell? ⟨w.heap.size, 0, none⟩ = some (.int .i64 (n : Int)) := by rw [← hbxe]; exact hI.box.cell 0
      have T4 : Turn K w w4 := (hI.T.mono (fun i _ hi => by rcases hi with rfl | rfl; exact H0.out.own.2.2.1; exact H0.out.own.2.2.2)).trans (turn_map (K := More K w) t4 (.inl H0.out.own.2.1)).after'
      have HT4 := Lib.hid T4
      have hlen : (syF F).l.length = n := by rw [HNN.out]; simp [syF]
      have D5 : DevAt K w4 g (S.put nm (syF F)) b1 b2 b3 (svAt sv nm (.slice none 0 0)) := by
        refine H0.out.settled HO.out.rising nm F (syF F) HF.out rfl _ ?_ (by rw [hlen]; exact R4) (syn_la nm F HF.out (HO.out.once nm F HF.out)) (syn_fr nm F HF.out (HO.out.once nm F HF.out)) (fun i hi => hi) (fun y F' _ hy i hi => ?_)
        · rw [hlen, HNN.out]; omega
        · obtain ⟨q1, q2, q3, q5⟩ := row_ne H0.out hy hi
          obtain ⟨cur, hc⟩ := sv_row (H0.out.rows y F' hy).1 hi
          have hlt := (Array.getElem?_eq_some_iff.1 hc).1
          exact (turned_block t4 q2 (show i < wr.drew.heap.size by show i < wr.heap.size; omega)).trans (hI.T.block i hlt (fun e => by rcases e with e | e; exact q3 e; exact q5 e))
      have HD5 := Lib.hid D5
      have HL := Lib.hid (show -9223372036854775808 ≤ (S.put nm (syF F)).left ∧ (S.put nm (syF F)).left < 9223372036854775808 from HO.out.left)
      unfold nmV at r4
      clear hI R4 t4 D5 T4 c0 c1 c2 c3 c4 c5 e1 htk hbxe hlen
      go_wp2
      go_region
      all_goals
        go_wp2_with (go_at_call 50; go_must (refine (done_any HD5.out HL.out).mono ?_); rintro e w9 ⟨rfl, h9, t9⟩; have H9 := Lib.hid h9; have T9 := Lib.hid t9; clear h9 t9)
        go_ret
        exact ⟨rfl, H9.out, HT4.out.trans (T9.out.mono (fun i _ hi => .inl hi))⟩
end
end Go.Proofs.Ytcmffifehpbjnaa
