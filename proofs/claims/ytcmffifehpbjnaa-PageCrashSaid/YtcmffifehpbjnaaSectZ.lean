/- Layer 7: each call of a device, whatever it answers. -/
import Derived.Test.YtcmffifehpbjnaaSectX
import Derived.Test.YtcmffifehpbjnaaSectI
import Derived.Test.YtcmffifehpbjnaaSectN
namespace Go.Proofs.Ytcmffifehpbjnaa
open Go.RowKit Go.Maps
set_option maxRecDepth 100000
set_option linter.unusedSimpArgs false
set_option linter.unusedVariables false
def pMake (S : Dv) (nm : Nm) : Int × Dv :=
  if S.left = 0 then (8, S) else if ¬ (1 ≤ nm.length ∧ nm.length ≤ 20) then (1, S) else if (fnd S.fs nm).isSome then (9, S) else (0, (S.put nm newF).tick)
def pDrop (S : Dv) (nm : Nm) : Int × Dv :=
  if S.left = 0 then (8, S) else match fnd S.fs nm with
    | none => (10, S)
    | some _ => (0, Dv.tick { S with fs := rem S.fs nm })
def pWrite (S : Dv) (nm : Nm) (k : Int) (x : Sec) : Int × Dv :=
  if S.left = 0 then (8, S) else match fnd S.fs nm with
    | none => (10, S)
    | some F => if k < 0 ∨ (F.l.length : Int) < k then (1, S) else if k = F.l.length ∧ S.most ≤ S.used then (6, S) else (0, (S.put nm (wrF F k.toNat x)).tick)
def pSync (S : Dv) (nm : Nm) : Int × Dv :=
  if S.left = 0 then (8, S) else match fnd S.fs nm with
    | none => (10, S)
    | some F => (0, (S.put nm (syF F)).tick)
theorem ok_make {S : Dv} (h : Ok S) (hfew : S.fs.length < 1000000) {nm : Nm} (h1 : 1 ≤ nm.length) (h20 : nm.length ≤ 20) (hf : fnd S.fs nm = none) : Ok (S.put nm newF) where
  rising := rising_ins h.rising nm _
  names := fun y G hy => by
    rw [fnd_put] at hy
    by_cases e : nm = y
    · subst e; exact ⟨h1, h20⟩
    · rw [if_neg e] at hy; exact h.names y G hy
  few := by
    have := length_ins S.fs nm newF
    show (ins S.fs nm newF).length ≤ _
    omega
  room := by
    have := used_put h.rising nm newF
    have e : S.len nm = 0 := by simp [Dv.len, hf]
    have e3 : newF.l.length = 0 := rfl
    have := h.room
    show (S.put nm newF).used ≤ S.most
    omega
  most := h.most
  left := h.left
  once := fun y G hy => by
    rw [fnd_put] at hy
    by_cases e : nm = y
    · rw [if_pos e] at hy; cases hy
      exact ⟨List.nodup_nil, fun k => ⟨(fun hk => by cases hk), fun ⟨s, hs, _⟩ => by simp [newF] at hs⟩⟩
    · rw [if_neg e] at hy; exact h.once y G hy
  full := fun y G hy => by
    rw [fnd_put] at hy
    by_cases e : nm = y
    · rw [if_pos e] at hy; cases hy; intro s hs; cases hs
    · rw [if_neg e] at hy; exact h.full y G hy
theorem ok_drop {S : Dv} (h : Ok S) {nm : Nm} {F : Fil} (hf : fnd S.fs nm = some F) : Ok { S with fs := rem S.fs nm } where
  rising := rising_rem h.rising nm
  names := fun y G hy => by
    have hy' : fnd (rem S.fs nm) y = some G := hy
    rw [fnd_rem h.rising] at hy'
    split at hy'
    · cases hy'
    · exact h.names y G hy'
  few := Nat.le_trans (length_rem _ _) h.few
  room := by
    have := tot_rem (fun F : Fil => F.l.length) nm hf
    have h1 := h.room
    have e : S.used = tot (fun F : Fil => F.l.length) S.fs := rfl
    show tot (fun F : Fil => F.l.length) (rem S.fs nm) ≤ S.most
    omega
  most := h.most
  left := h.left
  once := fun y G hy => by
    have hy' : fnd (rem S.fs nm) y = some G := hy
    rw [fnd_rem h.rising] at hy'
    split at hy'
    · cases hy'
    · exact h.once y G hy'
  full := fun y G hy => by
    have hy' : fnd (rem S.fs nm) y = some G := hy
    rw [fnd_rem h.rising] at hy'
    split at hy'
    · cases hy'
    · exact h.full y G hy'
theorem ok_sync {S : Dv} (h : Ok S) {nm : Nm} {F : Fil} (hf : fnd S.fs nm = some F) : Ok (S.put nm (syF F)) := by
  have hget : ∀ (k : Nat) (s : Sct), (syF F).l[k]? = some s → s.fr = none ∧ ∃ s0, F.l[k]? = some s0 ∧ s = syS s0 := by
    intro k s hs
    simp only [syF, List.getElem?_map] at hs
    cases hg : F.l[k]? with
    | none => rw [hg] at hs; cases hs
    | some s0 =>
      rw [hg] at hs
      simp at hs
      subst hs
      refine ⟨?_, s0, rfl, rfl⟩
      unfold syS
      cases hfr : s0.fr with
      | none => exact hfr
      | some x => rfl
  refine h.put hf (used_le_put h hf (by simp [syF])) ⟨List.nodup_nil, fun k => ⟨(fun hk => by cases hk), ?_⟩⟩ ?_
  · rintro ⟨s, hs, hs2⟩
    rw [(hget k s hs).1] at hs2
    cases hs2
  · intro s hs
    obtain ⟨k, hk, rfl⟩ := List.getElem_of_mem hs
    obtain ⟨_, s0, h0, e⟩ := hget k _ (List.getElem?_eq_getElem hk)
    right
    rw [e]
    unfold syS
    cases hfr : s0.fr with
    | some x => rfl
    | none =>
      rcases h.full nm F hf s0 (List.mem_of_getElem? h0) with h1 | h1
      · rw [hfr] at h1; cases h1
      · exact h1
theorem ok_write {S : Dv} (h : Ok S) {nm : Nm} {F : Fil} (hf : fnd S.fs nm = some F) {j : Nat} (hj : j ≤ F.l.length) (x : Sec) (hu : j = F.l.length → S.used < S.most) : Ok (S.put nm (wrF F j x)) := by
  have hlen := wrF_length F j x
  obtain ⟨o1, o2⟩ := h.once nm F hf
  have hb : (F.l[j]?.bind (·.fr)).isSome = true ↔ j ∈ F.wr := by
    rw [o2]
    constructor
    · intro hh
      cases hg : F.l[j]? with
      | none => rw [hg] at hh; cases hh
      | some s => rw [hg] at hh; exact ⟨s, rfl, hh⟩
    · rintro ⟨s, hs, hs2⟩
      rw [hs]; exact hs2
  have hw : ∀ k, k ∈ (wrF F j x).wr ↔ k ∈ F.wr ∨ k = j := by
    intro k
    unfold wrF
    simp only []
    split
    · rename_i hh
      constructor
      · exact .inl
      · rintro (h1 | rfl)
        · exact h1
        · exact hb.1 hh
    · simp
  refine h.put hf ?_ ⟨?_, fun k => ?_⟩ ?_
  · have := used_put h.rising nm (wrF F j x)
    have e : S.len nm = F.l.length := by simp [Dv.len, hf]
    have := h.room
    split at hlen
    · omega
    · have := hu (by omega)
      omega
  · unfold wrF
    simp only []
    split
    · exact o1
    · rename_i hh
      refine List.nodup_append.2 ⟨o1, by simp, ?_⟩
      intro a ha b hb2
      simp at hb2
      subst hb2
      rintro rfl
      exact hh (hb.2 ha)
  · rw [hw, wrF_get F j x hj]
    by_cases e : k = j
    · subst e; simp
    · simp only [e, or_false, if_false]
      exact o2 k
  · intro s hs
    obtain ⟨k, hk, rfl⟩ := List.getElem_of_mem hs
    have hg := wrF_get F j x hj k
    rw [List.getElem?_eq_getElem hk] at hg
    by_cases e : k = j
    · rw [if_pos e] at hg
      injection hg with hg
      rw [hg]
      left; rfl
    · rw [if_neg e] at hg
      exact h.full nm F hf _ (List.mem_of_getElem? hg.symm)
section
variable {K : Nat → Prop} {w w' : World} {g : Nat} {S : Dv}
theorem more_of {K : Nat → Prop} {w : World} : ∀ i, K i → More K w i := fun _ h => .inl h
theorem make_dev (h : Dev K w g S) (hfew : S.fs.length < 1000000) (nm : Nm) (hn : nm.length ≤ maxLen) :
    Calls Try.prog 29 #[ptr g, nmV nm] w fun e w' => e = .returned (.int .i64 (pMake S nm).1) ∧ Dev (More K w) w' g (pMake S nm).2 ∧ Turn K w w' := by
  obtain ⟨hO, b1, b2, b3, sv, hD⟩ := h
  have keep : ∀ {w'}, Below w.heap.size w w' → Dev (More K w) w' g S ∧ Turn K w w' := fun hb => ⟨⟨hO, b1, b2, b3, sv, (hD.below hb).mono (fun i _ hi => .inl hi)⟩, Turn.of_below hb⟩
  unfold pMake
  by_cases hp : S.left = 0
  · rw [if_pos hp]
    exact (make_power hD nm hp).mono fun e w' ⟨h1, h2⟩ => ⟨h1, keep h2⟩
  · rw [if_neg hp]
    by_cases ha : 1 ≤ nm.length ∧ nm.length ≤ 20
    · rw [if_neg (by simpa using ha)]
      cases hf : fnd S.fs nm with
      | none =>
        refine (make_yes hD hO.rising hfew hO.left nm ha.1 ha.2 hf hp).mono fun e w' ⟨h1, h2, h3⟩ => ⟨h1, ⟨(ok_make hO hfew ha.1 ha.2 hf).tick, b1, b2, b3, _, h2.mono (fun i _ hi => .inl hi)⟩, h3⟩
      | some F => exact (make_there hD nm ha.1 ha.2 F hf hp).mono fun e w' ⟨h1, h2⟩ => ⟨h1, keep h2⟩
    · rw [if_pos ha]
      exact (make_arg hD nm hn hp ha).mono fun e w' ⟨h1, h2⟩ => ⟨h1, keep h2⟩
theorem drop_dev (h : Dev K w g S) (nm : Nm) (hn : nm.length ≤ maxLen) :
    Calls Try.prog 52 #[ptr g, nmV nm] w fun e w' => e = .returned (.int .i64 (pDrop S nm).1) ∧ Dev (More K w) w' g (pDrop S nm).2 ∧ Turn K w w' := by
  obtain ⟨hO, b1, b2, b3, sv, hD⟩ := h
  have keep : ∀ {w'}, Below w.heap.size w w' → Dev (More K w) w' g S ∧ Turn K w w' := fun hb => ⟨⟨hO, b1, b2, b3, sv, (hD.below hb).mono (fun i _ hi => .inl hi)⟩, Turn.of_below hb⟩
  unfold pDrop
  by_cases hp : S.left = 0
  · rw [if_pos hp]
    exact (drop_power hD nm hp).mono fun e w' ⟨h1, h2⟩ => ⟨h1, keep h2⟩
  · rw [if_neg hp]
    cases hf : fnd S.fs nm with
    | none => exact (drop_none hD nm hn hf hp).mono fun e w' ⟨h1, h2⟩ => ⟨h1, keep h2⟩
    | some F =>
      exact (drop_yes hD hO nm (hO.names nm F hf).2 F hf hp (fil_le hO hf).1).mono fun e w' ⟨h1, h2, h3⟩ => ⟨h1, ⟨(ok_drop hO hf).tick, b1, b2, b3, _, h2.mono (fun i _ hi => .inl hi)⟩, h3⟩
theorem sync_dev (h : Dev K w g S) (nm : Nm) (hn : nm.length ≤ maxLen) :
    Calls Try.prog 32 #[ptr g, nmV nm] w fun e w' => e = .returned (.int .i64 (pSync S nm).1) ∧ Dev (More K w) w' g (pSync S nm).2 ∧ Turn K w w' := by
  obtain ⟨hO, b1, b2, b3, sv, hD⟩ := h
  have keep : ∀ {w'}, Below w.heap.size w w' → Dev (More K w) w' g S ∧ Turn K w w' := fun hb => ⟨⟨hO, b1, b2, b3, sv, (hD.below hb).mono (fun i _ hi => .inl hi)⟩, Turn.of_below hb⟩
  unfold pSync
  by_cases hp : S.left = 0
  · rw [if_pos hp]
    exact (sync_power hD nm hp).mono fun e w' ⟨h1, h2⟩ => ⟨h1, keep h2⟩
  · rw [if_neg hp]
    cases hf : fnd S.fs nm with
    | none => exact (sync_none hD nm hn hf hp).mono fun e w' ⟨h1, h2⟩ => ⟨h1, keep h2⟩
    | some F =>
      exact (sync_yes hD hO nm (hO.names nm F hf).2 F hf hp (fil_le hO hf).2 (wr_le hO hf)).mono fun e w' ⟨h1, h2, h3⟩ => ⟨h1, ⟨(ok_sync hO hf).tick, b1, b2, b3, _, h2.mono (fun i _ hi => .inl hi)⟩, h3⟩
theorem write_dev (h : Dev K w g S) (nm : Nm) (hn : nm.length ≤ maxLen) (k : Int) (x : Sec) :
    Calls Try.prog 30 #[ptr g, nmV nm, .int .i64 k, .agg (csF x)] w fun e w' => e = .returned (.int .i64 (pWrite S nm k x).1) ∧ Dev (More K w) w' g (pWrite S nm k x).2 ∧ Turn K w w' := by
  obtain ⟨hO, b1, b2, b3, sv, hD⟩ := h
  have keep : ∀ {w'}, Below w.heap.size w w' → Dev (More K w) w' g S ∧ Turn K w w' := fun hb => ⟨⟨hO, b1, b2, b3, sv, (hD.below hb).mono (fun i _ hi => .inl hi)⟩, Turn.of_below hb⟩
  unfold pWrite
  by_cases hp : S.left = 0
  · rw [if_pos hp]
    exact (write_power hD nm k x hp).mono fun e w' ⟨h1, h2⟩ => ⟨h1, keep h2⟩
  · rw [if_neg hp]
    cases hf : fnd S.fs nm with
    | none => exact (write_none hD nm hn k x hf hp).mono fun e w' ⟨h1, h2⟩ => ⟨h1, keep h2⟩
    | some F =>
      simp only []
      by_cases ha : k < 0 ∨ (F.l.length : Int) < k
      · rw [if_pos ha]
        exact (write_arg hD nm hn k x F hf hp ha).mono fun e w' ⟨h1, h2⟩ => ⟨h1, keep h2⟩
      · rw [if_neg ha]
        obtain ⟨j, rfl⟩ : ∃ j : Nat, k = (j : Int) := ⟨k.toNat, by omega⟩
        by_cases hu : (j : Int) = F.l.length ∧ S.most ≤ S.used
        · rw [if_pos hu]
          exact (write_full hD nm hn j x F hf hp (by omega) hu.2).mono fun e w' ⟨h1, h2⟩ => ⟨h1, keep h2⟩
        · rw [if_neg hu]
          have hjl : j ≤ F.l.length := by omega
          have hok := (ok_write hO hf hjl x (fun e => by omega)).tick
          by_cases hlt : j < F.l.length
          · exact (write_old hD hO nm (hO.names nm F hf).2 j x F hf hp hlt (fil_le hO hf).2 (wr_le hO hf) _ rfl).mono fun e w' ⟨h1, sv', h2, h3⟩ => ⟨h1, ⟨hok, b1, b2, b3, sv', h2⟩, h3⟩
          · exact (write_new hD hO nm (hO.names nm F hf).2 j x F hf hp (by omega) (fil_le hO hf).2 (wr_le hO hf) _ rfl (by omega)).mono fun e w' ⟨h1, sv', h2, h3⟩ => ⟨h1, ⟨hok, b1, b2, b3, sv', h2⟩, h3⟩
theorem read_dev (h : Dev K w g S) (nm : Nm) (hn : nm.length ≤ maxLen) (k : Int) :
    Calls Try.prog 28 #[ptr g, nmV nm, .int .i64 k] w fun e w' => e = .returned (.tuple #[.agg (csF (pRead S nm k).1), .int .i64 (pRead S nm k).2]) ∧ Below w.heap.size w w' := by
  obtain ⟨hO, b1, b2, b3, sv, hD⟩ := h
  unfold pRead
  cases hf : fnd S.fs nm with
  | none => exact read_none hD nm hn k hf
  | some F =>
    simp only []
    by_cases ha : k < 0 ∨ (F.l.length : Int) ≤ k
    · rw [if_pos ha]
      exact read_out hD nm hn k F hf ha
    · rw [if_neg ha]
      obtain ⟨j, rfl⟩ : ∃ j : Nat, k = (j : Int) := ⟨k.toNat, by omega⟩
      have ej : ((j : Int)).toNat = j := rfl
      rw [ej]
      cases hfr : S.fr (nm, j) with
      | some s => exact read_fr hD nm hn (hO.names nm F hf).2 j F hf (by omega) (fil_le hO hf).2 s hfr
      | none =>
        simp only []
        refine read_la hD nm hn (hO.names nm F hf).2 j F hf (by omega) (fil_le hO hf).2 hfr _ rfl _ _ ?_
        split <;> exact ⟨rfl, rfl⟩
theorem crash_dev (h : Dev K w g S) (A : Option Addr) (ps : List Int) (c : Nat) (hc1 : ps.length ≤ c) (hc2 : c ≤ maxLen) (hP : PickAt K w A ps) (h64 : In64 ps) :
    Calls Try.prog 26 #[ptr g, .slice A ps.length c] w fun e w' => e = .returned (.tuple #[]) ∧ Dev K w' g (crash S ps) ∧ Turn K w w' := by
  obtain ⟨hO, b1, b2, b3, sv, hD⟩ := h
  have hD2 : DevAt (fun i => K i ∧ i < w.heap.size) w g S b1 b2 b3 sv := hD.mono (fun i hi hk => ⟨hk, hi⟩)
  refine (crash_any hD2 hO (fun i hi => hi.2) A ps c hc1 hc2 (hP.mono (fun i _ hi => hi.1)) h64).mono fun e w' ⟨h1, h2, h3⟩ => ⟨h1, h2.mono (fun i _ hi => hi.1), h3.mono (fun i _ hi => hi.1)⟩
/-- a device in a call's walk: B, where the call's own memory begins; X, blocks of the call's that are no device's -/
structure At (B : Nat) (X : Nat → Prop) (w0 : World) (g : Nat) (S : Dv) (W : World) : Prop where
  dev : Dev (fun i => B ≤ i ∧ ¬ X i) W g S
  bel : Below B w0 W
  le : B ≤ W.heap.size
  xs : ∀ i, X i → B ≤ i ∧ i < W.heap.size
def KeptX (X : Nat → Prop) (W w' : World) : Prop := (∀ i, X i → w'.heap[i]? = W.heap[i]?) ∧ W.heap.size ≤ w'.heap.size
section
variable {B : Nat} {X : Nat → Prop} {w0 W : World} {S' : Dv}
theorem At.step (h : At B X w0 g S W) (hd : Dev (More (fun i => B ≤ i ∧ ¬ X i) W) w' g S') (ht : Turn (fun i => B ≤ i ∧ ¬ X i) W w') : At B X w0 g S' w' ∧ KeptX X W w' := by
  have hle := h.le
  have hsz := ht.size
  refine ⟨⟨hd.mono (fun i _ hi => ?_), h.bel.trans (ht.below h.le (fun i hi => hi.1)), by omega, fun i hi => ⟨(h.xs i hi).1, by have := (h.xs i hi).2; omega⟩⟩, fun i hi => ht.block i (h.xs i hi).2 (fun e => e.2 hi), hsz⟩
  rcases hi with hi | hi
  · exact hi
  · exact ⟨by omega, fun e => by have := (h.xs i e).2; omega⟩
theorem At.below (h : At B X w0 g S W) (hb : Below W.heap.size W w') : At B X w0 g S w' ∧ KeptX X W w' :=
  ⟨⟨h.dev.below hb, h.bel.trans (hb.mono h.le), Nat.le_trans h.le hb.size, fun i hi => ⟨(h.xs i hi).1, Nat.lt_of_lt_of_le (h.xs i hi).2 hb.size⟩⟩, fun i hi => hb.block i (h.xs i hi).2, hb.size⟩
theorem At.own (h : At B X w0 g S W) (o : Obj) : At B (fun i => X i ∨ i = W.heap.size) w0 g S (W.alloc o) := by
  have hb : Below W.heap.size W (W.alloc o) := (Below.refl _ _).alloc (Nat.le_refl _) o
  have hsz : (W.alloc o).heap.size = W.heap.size + 1 := by simp
  have hle := h.le
  refine ⟨((h.dev.mono (K' := fun i => B ≤ i ∧ ¬ (X i ∨ i = W.heap.size)) (fun i hi hk => ⟨hk.1, fun e => by rcases e with e | e; exact hk.2 e; omega⟩)).below hb), h.bel.trans (hb.mono hle), by omega, fun i hi => ?_⟩
  rcases hi with hi | rfl
  · have := h.xs i hi; omega
  · omega
/-- what a call answered, and how the device stands then -/
def Gives (c : Value) (B : Nat) (X : Nat → Prop) (w0 : World) (g : Nat) (S' : Dv) (W : World) (e : Ending) (w' : World) : Prop := e = .returned c ∧ At B X w0 g S' w' ∧ KeptX X W w'
theorem at_make (h : At B X w0 g S W) (nm : Nm) (hn : nm.length ≤ maxLen) (hfew : S.fs.length < 1000000) (c : Int) (hc : pMake S nm = (c, S')) :
    Calls Try.prog 29 #[ptr g, .string ⟨nm.toArray⟩] W (Gives (.int .i64 c) B X w0 g S' W) :=
  (make_dev h.dev hfew nm hn).mono fun e w' ⟨h1, h2, h3⟩ => by rw [hc] at h1 h2; exact ⟨h1, h.step h2 h3⟩
theorem at_drop (h : At B X w0 g S W) (nm : Nm) (hn : nm.length ≤ maxLen) (c : Int) (hc : pDrop S nm = (c, S')) :
    Calls Try.prog 52 #[ptr g, .string ⟨nm.toArray⟩] W (Gives (.int .i64 c) B X w0 g S' W) :=
  (drop_dev h.dev nm hn).mono fun e w' ⟨h1, h2, h3⟩ => by rw [hc] at h1 h2; exact ⟨h1, h.step h2 h3⟩
theorem at_sync (h : At B X w0 g S W) (nm : Nm) (hn : nm.length ≤ maxLen) (c : Int) (hc : pSync S nm = (c, S')) :
    Calls Try.prog 32 #[ptr g, .string ⟨nm.toArray⟩] W (Gives (.int .i64 c) B X w0 g S' W) :=
  (sync_dev h.dev nm hn).mono fun e w' ⟨h1, h2, h3⟩ => by rw [hc] at h1 h2; exact ⟨h1, h.step h2 h3⟩
theorem at_write (h : At B X w0 g S W) (nm : Nm) (hn : nm.length ≤ maxLen) (k : Int) (x : Sec) (c : Int) (hc : pWrite S nm k x = (c, S')) :
    Calls Try.prog 30 #[ptr g, .string ⟨nm.toArray⟩, .int .i64 k, .agg (csF x)] W (Gives (.int .i64 c) B X w0 g S' W) :=
  (write_dev h.dev nm hn k x).mono fun e w' ⟨h1, h2, h3⟩ => by rw [hc] at h1 h2; exact ⟨h1, h.step h2 h3⟩
theorem at_read (h : At B X w0 g S W) (nm : Nm) (hn : nm.length ≤ maxLen) (k : Int) (x : Sec) (c : Int) (hc : pRead S nm k = (x, c)) :
    Calls Try.prog 28 #[ptr g, .string ⟨nm.toArray⟩, .int .i64 k] W (Gives (.tuple #[.agg (csF x), .int .i64 c]) B X w0 g S W) :=
  (read_dev h.dev nm hn k).mono fun e w' ⟨h1, h2⟩ => by rw [hc] at h1; exact ⟨h1, h.below h2⟩
theorem at_fuse (h : At B X w0 g S W) (n : Int) (hn : -9223372036854775808 ≤ n ∧ n < 9223372036854775808) :
    Calls Try.prog 25 #[ptr g, .int .i64 n] W (Gives (.tuple #[]) B X w0 g { S with left := n } W) :=
  (fuse_any h.dev n hn).mono fun e w' ⟨h1, h2, h3⟩ => ⟨h1, h.step (h2.mono (fun i _ hi => .inl hi)) h3⟩
theorem at_crash (h : At B X w0 g S W) (A : Option Addr) (ps : List Int) (c : Nat) (hc1 : ps.length ≤ c) (hc2 : c ≤ maxLen) (hP : PickAt (fun i => B ≤ i ∧ ¬ X i) W A ps) (h64 : In64 ps) (hS : crash S ps = S') :
    Calls Try.prog 26 #[ptr g, .slice A ps.length c] W (Gives (.tuple #[]) B X w0 g S' W) :=
  (crash_dev h.dev A ps c hc1 hc2 hP h64).mono fun e w' ⟨h1, h2, h3⟩ => by rw [hS] at h2; exact ⟨h1, h.step (h2.mono (fun i _ hi => .inl hi)) h3⟩
theorem at_len (h : At B X w0 g S W) (nm : Nm) (hn : nm.length ≤ maxLen) (c : Nat) (hc : S.len nm = c) :
    Calls Try.prog 27 #[ptr g, .string ⟨nm.toArray⟩] W fun e w' => e = .returned (.int .i64 (c : Int)) ∧ W = w' := by
  rw [← hc]; exact len_any h.dev nm hn
end
theorem at_new (m : Int) (w : World) (hm : -9223372036854775808 ≤ m ∧ m < 9223372036854775808) :
    Calls Try.prog 9 #[.int .i64 m] w fun e w' => ∃ g, e = .returned (ptr g) ∧ At w.heap.size (fun _ => False) w g (newDv m) w' :=
  (new_any m w hm).mono fun e w' ⟨g, h1, h2, h3⟩ => ⟨g, h1, h2.mono (fun i _ hi => ⟨hi.1, fun e => e⟩), h3, h3.size, fun i hi => hi.elim⟩
end
end Go.Proofs.Ytcmffifehpbjnaa
