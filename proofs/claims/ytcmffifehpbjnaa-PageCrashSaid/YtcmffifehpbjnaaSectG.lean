/- Layer 7: Make. -/
import Derived.Test.YtcmffifehpbjnaaSectF
namespace Go.Proofs.Ytcmffifehpbjnaa
open Go.RowKit Go.Maps
set_option maxRecDepth 100000
set_option linter.unusedSimpArgs false
set_option linter.unusedVariables false
theorem la_put (S : Dv) (nm : Nm) (F : Fil) (x : Nm × Nat) : (S.put nm F).la x = if x.1 = nm then F.l[x.2]?.bind (·.la) else S.la x := by
  unfold Dv.la Dv.put
  simp only [fnd_ins]
  by_cases h : nm = x.1
  · rw [if_pos h, if_pos h.symm]; rfl
  · rw [if_neg h, if_neg (Ne.symm h)]
theorem fr_put (S : Dv) (nm : Nm) (F : Fil) (x : Nm × Nat) : (S.put nm F).fr x = if x.1 = nm then F.l[x.2]?.bind (·.fr) else S.fr x := by
  unfold Dv.fr Dv.put
  simp only [fnd_ins]
  by_cases h : nm = x.1
  · rw [if_pos h, if_pos h.symm]; rfl
  · rw [if_neg h, if_neg (Ne.symm h)]
theorem fnd_put (S : Dv) (nm : Nm) (F : Fil) (y : Nm) : fnd (S.put nm F).fs y = if nm = y then some F else fnd S.fs y := fnd_ins _ _ _ _
theorem used_put {S : Dv} (hr : Rising S.fs) (nm : Nm) (F : Fil) : (S.put nm F).used + S.len nm = S.used + F.l.length := by
  have := tot_ins hr (fun F : Fil => F.l.length) nm F
  unfold Dv.used Dv.put Dv.len
  cases h : fnd S.fs nm with
  | none => rw [h] at this; exact this
  | some G => rw [h] at this; exact this
section
variable {K : Nat → Prop} {w w' : World} {g : Nat} {b1 b2 b3 : Nat} {S : Dv} {sv : Nm → Value}
theorem names_all {S : Dv} : ∀ x, ((fun nm => (fnd S.fs nm).map fun F => flV F.l.length (sv nm)) x).isSome = true → x ∈ S.fs.map (·.1) := by
  intro x hx
  simp only [Option.isSome_map] at hx
  obtain ⟨F, hF⟩ := Option.isSome_iff_exists.1 hx
  exact List.mem_map.2 ⟨_, fnd_mem hF, rfl⟩
theorem Raw.dev {ff : Nm → Option Value} {lf rf : Nm × Nat → Option Value} {mo us le : Int} (h : Raw K w g mo us le b1 b2 b3 ff lf rf) (S : Dv) (sv : Nm → Value) (e0 : mo = S.most) (e1 : us = S.used) (e2 : le = S.left)
    (hf : ∀ nm, ff nm = (fnd S.fs nm).map fun F => flV F.l.length (sv nm)) (hl : ∀ x, lf x = (S.la x).map laV) (hr : ∀ x, rf x = (S.fr x).map frV)
    (rows : ∀ nm F, fnd S.fs nm = some F → w.ownsRow 0 3 1 (sv nm) F.wr.length (I64 F.wr) ∧ ∀ i, (sv nm).ownBlock = some i → K i)
    (alone : ∀ nm nm' F F', nm ≠ nm' → fnd S.fs nm = some F → fnd S.fs nm' = some F' → ∀ i, (sv nm).ownBlock = some i → (sv nm').ownBlock ≠ some i) : DevAt K w g S b1 b2 b3 sv := by
  subst e0 e1 e2
  have a1 := funext hf
  have a2 := funext hl
  have a3 := funext hr
  subst a1 a2 a3
  exact ⟨h.cells, h.files, h.lasts, h.fresh, h.own, h.apart, rows, alone⟩
open Classical in
/-- sv, but at nm -/
noncomputable def svAt (sv : Nm → Value) (nm : Nm) (v : Value) : Nm → Value := fun x => if x = nm then v else sv x
theorem svAt_self (sv : Nm → Value) (nm : Nm) (v : Value) : svAt sv nm v nm = v := by simp [svAt]
theorem svAt_other (sv : Nm → Value) (nm : Nm) (v : Value) (x : Nm) (h : x ≠ nm) : svAt sv nm v x = sv x := by simp [svAt, h]
def newF : Fil := ⟨[], []⟩
/-- a new file's entry -/
theorem DevAt.make (h : DevAt K w g S b1 b2 b3 sv) (hr : Rising S.fs) (hfew : S.fs.length < 1000000) (nm : Nm) (hn : nm.length ≤ maxLen) (hf : fnd S.fs nm = none) :
    ∃ w', (Instr.mapUpdate 71 (.map (some b1)) (nmV nm) (.agg #[.int .i64 0, .slice none 0 0])).run Try.prog w = .ok () w' ∧ DevAt K w' g (S.put nm newF) b1 b2 b3 (svAt sv nm (.slice none 0 0)) ∧ w.mapTurned w' b1 := by
  obtain ⟨w1, r1, R1, t1⟩ := h.raw.put_fl hn (.agg #[.int .i64 0, .slice none 0 0]) (S.fs.map (·.1)) names_all (by simp; unfold maxLen; omega)
  refine ⟨w1, r1, R1.dev (S.put nm newF) _ rfl ?_ rfl ?_ ?_ ?_ ?_ ?_, t1⟩
  · have := used_put hr nm newF
    have e : S.len nm = 0 := by simp [Dv.len, hf]
    have e3 : newF.l.length = 0 := rfl
    have : (S.put nm newF).used = S.used := by omega
    rw [this]
  · intro y
    rw [fnd_put]
    by_cases e : y = nm
    · subst e
      rw [upd_self, if_pos rfl, svAt_self]
      rfl
    · rw [upd_other _ _ _ _ e, if_neg (Ne.symm e), svAt_other _ _ _ _ e]
  · intro x
    rw [la_put]
    by_cases e : x.1 = nm
    · rw [if_pos e]
      simp [Dv.la, e, hf, newF]
    · rw [if_neg e]
  · intro x
    rw [fr_put]
    by_cases e : x.1 = nm
    · rw [if_pos e]
      simp [Dv.fr, e, hf, newF]
    · rw [if_neg e]
  · intro y F hy
    rw [fnd_put] at hy
    by_cases e : nm = y
    · rw [if_pos e] at hy
      cases hy
      subst e
      rw [svAt_self]
      exact ⟨World.ownsRow_nil _ _ _ _, fun i hi => by cases hi⟩
    · rw [if_neg e] at hy
      rw [svAt_other _ _ _ _ (Ne.symm e)]
      obtain ⟨r1, r2⟩ := h.rows y F hy
      refine ⟨row_block r1 (fun i hi => ?_), r2⟩
      obtain ⟨cur, hc⟩ := sv_row r1 hi
      exact turned_block t1 (row_ne h hy hi).2.1 (Array.getElem?_eq_some_iff.1 hc).1
  · intro y y' F F' hne hy hy' i hi
    rw [fnd_put] at hy hy'
    by_cases e : nm = y
    · subst e
      rw [svAt_self] at hi
      cases hi
    · rw [if_neg e] at hy
      rw [svAt_other _ _ _ _ (Ne.symm e)] at hi
      by_cases e' : nm = y'
      · subst e'
        rw [svAt_self]
        simp [Value.ownBlock]
      · rw [if_neg e'] at hy'
        rw [svAt_other _ _ _ _ (Ne.symm e')]
        exact h.alone y y' F F' hne hy hy' i hi
set_option maxHeartbeats 4000000 in
theorem make_yes (h : DevAt K w g S b1 b2 b3 sv) (hr : Rising S.fs) (hfew : S.fs.length < 1000000) (hl : -9223372036854775808 ≤ S.left ∧ S.left < 9223372036854775808) (nm : Nm) (h1 : 1 ≤ nm.length) (h20 : nm.length ≤ 20) (hf : fnd S.fs nm = none) (hp : S.left ≠ 0) :
    Calls Try.prog 29 #[ptr g, nmV nm] w fun e w' => e = .returned (.int .i64 0) ∧ DevAt K w' g (S.put nm newF).tick b1 b2 b3 (svAt sv nm (.slice none 0 0)) ∧ Turn K w w' := by
  have hn : nm.length ≤ maxLen := by unfold maxLen; omega
  obtain ⟨c0, c1, c2, c3, c4, c5⟩ := h.cell
  have hg := h.glt
  have hb1 := h.files.lt
  obtain ⟨A1, hA1⟩ : ∃ A1 : Obj, A1 = .cells #[.int .i64 0, .slice none 0 0] 91 := ⟨_, rfl⟩
  have e1 := (h.raw.look_fl hn).1
  rw [hf] at e1
  simp only [Option.map_none, Option.getD_none, Option.isSome_none, flV] at e1
  obtain ⟨w2, r2, D2, t2⟩ := (h.alloc A1).make hr hfew nm hn hf
  have HT := Lib.hid ((Turn.of_below ((Below.refl _ w).alloc (Nat.le_refl _) A1)).trans (turn_map (K := More K w) t2 (.inl h.own.2.1)))
  have HD2 := Lib.hid D2
  have HH := Lib.hid h
  have HL := Lib.hid hl
  have hs : (⟨nm.toArray⟩ : ByteArray).size = nm.length := by simp [ByteArray.size]
  have hcut : (S.left == 0) = false := by simpa using hp
  subst hA1
  have hne : nm.isEmpty = false := by cases nm with
    | nil => simp at h1
    | cons a b => rfl
  have h20' : decide (20 < (nm.length : Int)) = false := by simp; omega
  unfold nmV at e1 r2 ⊢
  clear D2 h hl hf hp hr hfew t2
  go_enter Try.func29, Try.ntmps29
  go_wp2_with (first
    | (go_at_call 49; go_must (refine (cut_any HH.out).mono ?_); rintro e w' ⟨rfl, rfl⟩)
    | (go_at_call 50; go_must (refine (done_any HD2.out HL.out).mono ?_); rintro e w3 ⟨rfl, h3, t3⟩; have H3 := Lib.hid h3; have T3 := Lib.hid t3; clear h3 t3))
  go_ret
  exact ⟨rfl, H3.out, HT.out.trans (T3.out.mono (fun i _ hk => .inl hk))⟩
end
end Go.Proofs.Ytcmffifehpbjnaa
