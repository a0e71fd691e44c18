/- Layer 7, plain: a device of empty files; names that came in. -/
import Derived.Test.YtloomcompnopkaaSectU
import Derived.Test.YtloomcompnopkaaSectE0
import Derived.SliceStrings
import Derived.Laws.Cover1
namespace Go.Proofs.Ytloomcompnopkaa
open Go.RowKit Go.Maps Go.ChangeShapes Go.WideShapes
set_option maxRecDepth 100000
set_option linter.unusedSimpArgs false
set_option linter.unusedVariables false
structure DrS (S : Dv) : Prop where
  left : S.left = -1
  fs : ∀ p ∈ S.fs, p.2 = newF
def haV (S : Dv) : Nm → Option Value := fun x => (fnd S.fs x).map fun _ => Value.bool true
def remD (S : Dv) (nm : Nm) : Dv := { S with fs := rem S.fs nm }
theorem dr_new (m : Nat) : DrS (newDv m) := ⟨rfl, fun p hp => by cases hp⟩
section
variable {S : Dv} {nm : Nm}
theorem dr_tick (h : DrS S) : S.tick = S := by
  cases S
  have := h.left
  simp only at this
  subst this
  rfl
theorem dr_put (h : DrS S) (nm : Nm) : DrS (S.put nm newF) := ⟨h.left, fun p hp => by
  rcases mem_ins hp with rfl | hp
  · rfl
  · exact h.fs p hp⟩
theorem dr_rem (h : DrS S) (nm : Nm) : DrS (remD S nm) := ⟨h.left, fun p hp => h.fs p (mem_rem hp)⟩
theorem dr_bad (h : DrS S) (hb : ¬ (1 ≤ nm.length ∧ nm.length ≤ 20)) : pMake S nm = (1, S) := by
  unfold pMake
  rw [if_neg (by rw [h.left]; decide), if_pos hb]
theorem dr_old (h : DrS S) (hg : 1 ≤ nm.length ∧ nm.length ≤ 20) (hf : (fnd S.fs nm).isSome = true) : pMake S nm = (9, S) := by
  unfold pMake
  rw [if_neg (by rw [h.left]; decide), if_neg (not_not_intro hg), if_pos hf]
theorem dr_make (h : DrS S) (hg : 1 ≤ nm.length ∧ nm.length ≤ 20) (hf : (fnd S.fs nm).isSome = false) : pMake S nm = (0, S.put nm newF) := by
  unfold pMake
  rw [if_neg (by rw [h.left]; decide), if_neg (not_not_intro hg), if_neg (by simp [hf]), dr_tick (dr_put h nm)]
theorem dr_drop0 (h : DrS S) (hf : (fnd S.fs nm).isSome = false) : pDrop S nm = (10, S) := by
  unfold pDrop
  rw [if_neg (by rw [h.left]; decide)]
  cases hF : fnd S.fs nm with
  | none => rfl
  | some F => rw [hF] at hf; cases hf
theorem dr_drop1 (h : DrS S) (hf : (fnd S.fs nm).isSome = true) : pDrop S nm = (0, remD S nm) := by
  unfold pDrop
  rw [if_neg (by rw [h.left]; decide)]
  cases hF : fnd S.fs nm with
  | none => rw [hF] at hf; cases hf
  | some F =>
    simp only []
    rw [show ({ S with fs := rem S.fs nm } : Dv) = remD S nm from rfl, dr_tick (dr_rem h nm)]
theorem ha_put (S : Dv) (nm : Nm) (x : Nm) : haV (S.put nm newF) x = upd (haV S) nm (some (.bool true)) x := by
  unfold haV Dv.put
  simp only []
  rw [fnd_ins]
  by_cases e : x = nm
  · subst e
    rw [upd_self, if_pos rfl]
    rfl
  · rw [upd_other _ _ _ _ e, if_neg (Ne.symm e)]
theorem ha_same (S : Dv) (nm : Nm) (hf : (fnd S.fs nm).isSome = true) (x : Nm) : haV S x = upd (haV S) nm (some (.bool true)) x := by
  by_cases e : x = nm
  · subst e
    rw [upd_self]
    obtain ⟨F, hF⟩ := Option.isSome_iff_exists.1 hf
    simp [haV, hF]
  · rw [upd_other _ _ _ _ e]
theorem ha_rem (hr : Rising S.fs) (nm : Nm) (x : Nm) : haV (remD S nm) x = upd (haV S) nm none x := by
  unfold haV remD
  simp only []
  rw [fnd_rem hr]
  by_cases e : x = nm
  · subst e
    rw [upd_self, if_pos rfl]
    rfl
  · rw [upd_other _ _ _ _ e, if_neg (Ne.symm e)]
theorem ha_gone (S : Dv) (nm : Nm) (hf : (fnd S.fs nm).isSome = false) (x : Nm) : haV S x = upd (haV S) nm none x := by
  by_cases e : x = nm
  · subst e
    rw [upd_self]
    cases hF : fnd S.fs x with
    | none => simp [haV, hF]
    | some F => rw [hF] at hf; cases hf
  · rw [upd_other _ _ _ _ e]
theorem ha_get (S : Dv) (nm : Nm) (v : Bool) (h : (fnd S.fs nm).isSome = v) : (haV S nm).getD (.bool false) = .bool v := by
  unfold haV
  cases hF : fnd S.fs nm with
  | none => rw [hF] at h; subst h; rfl
  | some F => rw [hF] at h; subst h; rfl
theorem ins_self {L : List (Nm × Fil)} (hr : Rising L) {nm : Nm} {x : Fil} (h : fnd L nm = some x) : ins L nm x = L := by
  induction L with
  | nil => cases h
  | cons p r ih =>
    obtain ⟨a, y⟩ := p
    unfold fnd at h
    unfold ins
    by_cases e : a = nm
    · subst e
      rw [if_pos rfl] at h ⊢
      cases h
      rfl
    · rw [if_neg e] at h ⊢
      have hm := fnd_mem h
      have hlt := (List.pairwise_cons.1 hr).1 _ hm
      rw [if_neg (fun k => nm_irrefl _ (nm_lt_trans hlt k)), ih (List.pairwise_cons.1 hr).2 h]
theorem dr_step (h : DrS S) (hr : Rising S.fs) (nm : Nm) : crStep (S, []) nm = (S, []) := by
  unfold crStep
  simp only []
  cases hF : fnd S.fs nm with
  | none => rfl
  | some F =>
    have e : F = newF := h.fs _ (fnd_mem hF)
    subst e
    simp only []
    have e1 : sortN newF.wr = [] := by simp [newF, sortN]
    have e2 : stAll newF [] [] = (newF, []) := rfl
    have e3 : shF newF [] = newF := rfl
    rw [e1, e2, e3]
    simp only [Dv.put]
    rw [ins_self hr hF]
theorem dr_all (h : DrS S) (hr : Rising S.fs) : ∀ ns, crAll S ns [] = (S, []) := by
  intro ns
  induction ns with
  | nil => rfl
  | cons a r ih =>
    unfold crAll at ih ⊢
    rw [List.foldl_cons, dr_step h hr]
    exact ih
theorem dr_crash (h : DrS S) (hr : Rising S.fs) : crash S [] = S := by
  unfold crash
  rw [dr_all h hr]
  cases S
  have := h.left
  simp only at this
  subst this
  rfl
theorem dr_len (h : DrS S) (nm : Nm) : S.len nm = 0 := by
  unfold Dv.len
  cases hF : fnd S.fs nm with
  | none => rfl
  | some F =>
    have e : F = newF := h.fs _ (fnd_mem hF)
    subst e
    rfl
theorem dr_used (h : DrS S) : S.used = 0 := by
  obtain ⟨mo, le, fs⟩ := S
  have hf := h.fs
  simp only at hf
  show tot _ fs = 0
  clear h
  induction fs with
  | nil => rfl
  | cons p r ih =>
    rw [tot_cons, ih (fun q hq => hf q (List.mem_cons_of_mem _ hq)), hf p (by simp)]
    rfl
end
/-- as many entries as there are files -/
theorem ha_size {w : World} {S : Dv} (hO : Ok S) {D : DataW Value} {b n : Nat} (hown : w.ownsMap Try.prog 9 rid b n D) (h2 : ∀ x, nmOk x → Maps.has D (nmL x) = (haV S x).isSome) (h3 : ∀ l, Maps.has D l = true → ∃ x, nmOk x ∧ l = nmL x) : Maps.size D = S.fs.length := by
  have h := names_sorted hO.rising hown (haV S) (fun x => by simp [haV]) h2 h3 (fun x F hF => by have := (hO.names x F hF).2; unfold nmOk maxLen; omega) (List.Perm.refl (strKeys D))
  have h4 := congrArg List.length h
  obtain ⟨es, rfl, _, _⟩ := hown.entries nm_kind.law
  rw [List.length_mergeSort] at h4
  simpa [strKeys, Maps.size] using h4
def HaAt (w : World) (m : Nat) (S : Dv) : Prop := MapF Try.prog 9 nmOk nmL w m (haV S)
theorem HaAt.look {w : World} {m : Nat} {S : Dv} (h : HaAt w m S) {nm : Nm} (hn : nm.length ≤ maxLen) (v : Bool) (hv : (fnd S.fs nm).isSome = v) :
    (Instr.lookup 26 (.map (some m)) (.string ⟨nm.toArray⟩) false).run Try.prog w = .ok (.bool v) w := by
  have := MapF.look1 (z := .bool false) h nm_kind Try.underlying26 (by kernel_rfl) (x := nm) hn
  rw [ha_get S nm v hv] at this
  exact this
theorem HaAt.len {w : World} {m : Nat} {S : Dv} (h : HaAt w m S) (hO : Ok S) (ty : TypeId) : (Builtin.len_ #[26] ty #[.map (some m)]).run Try.prog w = .ok (.int .i64 (S.fs.length : Int)) w := by
  obtain ⟨D, h1, h2, h3, h4⟩ := h
  rw [h1.len Try.underlying26, ha_size hO h1 (fun x hx => (h2 x hx).1) h3]
theorem HaAt.put {w : World} {m : Nat} {S S' : Dv} (h : HaAt w m S) (hO : Ok S) {nm : Nm} (hn : nm.length ≤ maxLen) (hS : ∀ x, haV S' x = upd (haV S) nm (some (.bool true)) x) :
    ∃ w', (Instr.mapUpdate 26 (.map (some m)) (.string ⟨nm.toArray⟩) (.bool true)).run Try.prog w = .ok () w' ∧ HaAt w' m S' ∧ w.mapTurned w' m := by
  obtain ⟨w', h1, h2, h3⟩ := MapF.put h nm_kind Try.underlying26 (x := nm) hn (.bool true) (fun D hD hk => by
    have := size_bound nm_kind hD (S.fs.map (·.1)) (fun l hl => by
      obtain ⟨x, hx, e, hs⟩ := hk l hl
      unfold haV at hs
      rw [Option.isSome_map] at hs
      obtain ⟨F, hF⟩ := Option.isSome_iff_exists.1 hs
      exact ⟨x, List.mem_map.2 ⟨_, fnd_mem hF, rfl⟩, e⟩)
    have h5 := hO.few
    rw [List.length_map] at this
    unfold maxLen
    omega)
  exact ⟨w', h1, h2.same hS, h3⟩
theorem HaAt.del {w : World} {m : Nat} {S S' : Dv} (h : HaAt w m S) {nm : Nm} (hn : nm.length ≤ maxLen) (ty : TypeId) (hS : ∀ x, haV S' x = upd (haV S) nm none x) :
    ∃ w', (Builtin.delete_ #[26, 9] ty #[.map (some m), .string ⟨nm.toArray⟩]).run Try.prog w = .ok (.tuple #[]) w' ∧ HaAt w' m S' ∧ w.mapTurned w' m := by
  obtain ⟨w', h1, h2, h3⟩ := MapF.del h nm_kind Try.underlying26 (x := nm) hn ty
  exact ⟨w', h1, h2.same hS, h3⟩
theorem nm_less : ∀ (l l' : List UInt8), Op.bytesLess l l' = decide (l < l') := by
  intro l
  induction l with
  | nil => intro l'; cases l' <;> simp [Op.bytesLess]
  | cons c l ih =>
    intro l'
    cases l' with
    | nil => simp [Op.bytesLess]
    | cons d l' =>
      rw [Op.bytesLess, ih, Bool.eq_iff_iff]
      simp [List.cons_lt_cons_iff]
theorem nm_geq0 (a b : Nm) (w : World) : (binOp .geq 9 (.string ⟨a.toArray⟩) (.string ⟨b.toArray⟩)).run Try.prog w = .ok (.bool (!Op.bytesLess a b)) w := by
  rw [binOp_string_geq, Lib.toList_data, Lib.toList_data]
  rfl
theorem nm_geq (a b : Nm) (h : a < b) (w : World) : (binOp .geq 9 (.string ⟨a.toArray⟩) (.string ⟨b.toArray⟩)).run Try.prog w = .ok (.bool false) w := by
  rw [nm_geq0, nm_less, decide_eq_true h]
  rfl
def cellsNm (l : List Nm) : List Value := l.map fun p => .string ⟨p.toArray⟩
theorem open_names {H : Type} {enc : TypeId × Value → H} {w : World} {base : Nat} {spare : Nat → Bool} {held : Bool} {fuel : Nat} {cs : List Value} {x : DataW H × List MemPlace} (h : DataW.trod enc Try.prog w base spare held fuel 22 cs = some x) :
    ∃ (a : Option Addr) (l : List Nm) (cap : Nat), cs = [.slice a l.length cap] ∧ l.length ≤ cap ∧ cap ≤ maxLen ∧ Lies w w.heap.size a (cellsNm l) ∧ ∀ p ∈ l, p.length ≤ maxLen := by
  rcases open_strings Try.underlying22 Try.underlying9 (by kernel_rfl) h with ⟨rfl, _⟩ | ⟨⟨b, o, spot⟩, len, cap, zs, rfl, _, h1, h2, h3, _, h4, h5⟩
  · exact ⟨none, [], 0, rfl, Nat.le_refl _, Nat.zero_le _, Lies.empty _ _ _, fun p hp => by cases hp⟩
  · have hle : len ≤ zs.length := by rw [h3]; split <;> omega
    have hl : ((zs.take len).map fun n => n.data.toList).length = len := by rw [List.length_map, List.length_take]; omega
    refine ⟨some ⟨b, o, spot⟩, (zs.take len).map fun n => n.data.toList, cap, by rw [hl], by omega, h2, ?_, fun p hp => ?_⟩
    · rcases Nat.eq_zero_or_pos len with h0 | h0
      · subst h0
        exact .inl (by simp [cellsNm])
      · have hc0 := h4 0 (by omega)
        have hspot : spot = none := by simpa [Addr.add] using World.cell?_spot hc0
        subst hspot
        have hadd : ∀ j, (⟨b, o, none⟩ : Addr).add j = ⟨b, o + j, none⟩ := by intro j; unfold Addr.add; split <;> simp_all
        rw [hadd] at hc0
        refine .inr ⟨b, o, rfl, World.block_lt_of_cell? w ⟨b, o + 0, none⟩ hc0, fun j u hu => ?_⟩
        have hj : j < len := by
          have := (List.getElem?_eq_some_iff.1 hu).1
          unfold cellsNm at this
          rw [List.length_map, hl] at this
          exact this
        have hj2 : j < zs.length := by omega
        have hc := h4 j hj2
        rw [hadd] at hc
        have hg : zs.getD j ByteArray.empty = zs[j] := by simp [List.getD, hj2]
        rw [hc, hg]
        unfold cellsNm at hu
        rw [List.getElem?_map, List.getElem?_map, List.getElem?_take, if_pos hj, List.getElem?_eq_getElem hj2] at hu
        simpa using hu
    · obtain ⟨z, hz, rfl⟩ := List.mem_map.1 hp
      have := h5 z (List.mem_of_mem_take hz)
      rw [Array.length_toList]
      exact this
theorem lies_nm {w W : World} {B : Nat} {A : Option Addr} {l : List Nm} (h : Lies w B A (cellsNm l)) (hb : Below B w W) (i : Nat) (hi : i < l.length) : ∃ b o, A = some ⟨b, o, none⟩ ∧ b < B ∧ W.cell? ⟨b, o + i, none⟩ = some (.string ⟨(l.getD i []).toArray⟩) := by
  rcases h with h | ⟨b, o, rfl, h1, h2⟩
  · have : l = [] := by simpa [cellsNm] using h
    subst this
    simp at hi
  · refine ⟨b, o, rfl, h1, ?_⟩
    rw [World.cell?_of_block (w := w) (hb.block b h1)]
    refine h2 i _ ?_
    simp [cellsNm, hi]
section
variable {B g : Nat} {X : Nat → Prop} {w0 W : World} {S : Dv}
theorem at_names (h : At B X w0 g S W) : Calls Try.prog 14 #[ptr g] W fun e w' =>
    ∃ v, e = .returned v ∧ w'.ownsRow (W.heap.size + 1) 9 1 v S.fs.length ((S.fs.map (·.1)).map encStr) ∧ At B X w0 g S w' ∧ KeptX X W w' ∧ Below W.heap.size W w' := by
  obtain ⟨hO, b1, b2, b3, sv, hd⟩ := h.dev
  exact (names_any hd hO).mono fun e w' ⟨v, e1, e2, e3⟩ => ⟨v, e1, e2, (h.below e3).1, (h.below e3).2, e3⟩
/-- the call's own map turns -/
theorem At.turn {m : Nat} (h : At B X w0 g S W) (hX : X m) {w' : World} (ht : W.mapTurned w' m) : At B X w0 g S w' := by
  have hx := h.xs m hX
  have T : Turn (fun i => i = m) W w' := turn_map ht rfl
  exact ⟨h.dev.kept (fun j hj hk => T.block j hj (fun e => hk.2 (by rw [e]; exact hX))), h.bel.trans (T.below h.le (fun i e => by rw [e]; exact hx.1)), Nat.le_trans h.le T.size, fun i hi => ⟨(h.xs i hi).1, Nat.lt_of_lt_of_le (h.xs i hi).2 T.size⟩⟩
end
theorem HaAt.kept {w w' : World} {m : Nat} {S : Dv} {X : Nat → Prop} (h : HaAt w m S) (hk : KeptX X w w') (hX : X m) : HaAt w' m S := MapF.block h (hk.1 m hX)
theorem HaAt.new (w : World) (m : Nat) : HaAt (w.alloc (.map #[] 0)) w.heap.size (newDv m) := (MapF.made w).same fun x => rfl
end Go.Proofs.Ytloomcompnopkaa
