/- Layer 9, plain: pages of a device whose power goes, and what a crash leaves of them. Layer 9: a file of pages whose device's power may go, and what is opened behind a crash: contracts within a law's walk. Layer 9: the law on crashes: its records, and what it holds between its calls. -/
import Derived.Test.YtcmffifehpbjnaaPagePr
namespace Go.Proofs.Ytcmffifehpbjnaa
section
open Go.RowKit Go.Maps
set_option maxRecDepth 100000
set_option linter.unusedSimpArgs false
set_option linter.unusedVariables false
/-- a sector that lasts as it is -/
def Firm1 (F : Fil) (k : Nat) (x : Sec) : Prop := k ∉ F.wr ∧ F.l[k]? = some ⟨none, some (x, false)⟩
/-- a sector that lasts, and has no meta of this generation or a later one -/
def OldS (F : Fil) (k g : Nat) : Prop := k ∉ F.wr ∧ ∃ y : Sec × Bool, F.l[k]? = some ⟨none, some y⟩ ∧ (y.2 = true ∨ y.1 = zSec ∨ ∃ m : Mt, m.fit ∧ m.gen < g ∧ y.1 = secM m)
/-- sector k stands as it did -/
def Same1 (F F' : Fil) (k : Nat) : Prop := F'.l[k]? = F.l[k]? ∧ (k ∉ F.wr → k ∉ F'.wr)
section
variable {F F' F2 : Fil} {k g : Nat} {x : Sec}
theorem Firm1.same (h : Firm1 F k x) (s : Same1 F F' k) : Firm1 F' k x := ⟨s.2 h.1, by rw [s.1]; exact h.2⟩
theorem OldS.same (h : OldS F k g) (s : Same1 F F' k) : OldS F' k g := by
  obtain ⟨h1, y, h2, h3⟩ := h
  exact ⟨s.2 h1, y, by rw [s.1]; exact h2, h3⟩
theorem Sees.same (h : Sees F k x) (s : Same1 F F' k) : Sees F' k x := by
  obtain ⟨t, h1, h2⟩ := h
  exact ⟨t, by rw [s.1]; exact h1, h2⟩
theorem Same1.trans (a : Same1 F F' k) (b : Same1 F' F2 k) : Same1 F F2 k := ⟨by rw [b.1, a.1], fun h => b.2 (a.2 h)⟩
theorem Firm1.lt (h : Firm1 F k x) : k < F.l.length := (List.getElem?_eq_some_iff.1 h.2).1
theorem OldS.lt (h : OldS F k g) : k < F.l.length := by
  obtain ⟨h1, y, h2, h3⟩ := h
  exact (List.getElem?_eq_some_iff.1 h2).1
theorem Firm1.sees (h : Firm1 F k x) : Sees F k x := ⟨_, h.2, .inr ⟨rfl, rfl⟩⟩
theorem sees_firm (h : Sees F k x) : Firm1 (syF F) k x := by
  obtain ⟨⟨fr, la⟩, h1, h2⟩ := h
  refine ⟨by simp [syF], ?_⟩
  have : (syF F).l[k]? = some (syS ⟨fr, la⟩) := by simp [syF, h1]
  rw [this]
  rcases h2 with h2 | ⟨h2, h3⟩
  · simp only at h2
    subst h2
    rfl
  · simp only at h2 h3
    subst h2 h3
    rfl
theorem OldS.sy (h : OldS F k g) : OldS (syF F) k g := by
  obtain ⟨h1, y, h2, h3⟩ := h
  exact ⟨by simp [syF], y, by simp [syF, h2, syS], h3⟩
theorem wr_same {j : Nat} (hj : j ≤ F.l.length) (hne : k ≠ j) (x : Sec) : Same1 F (wrF F j x) k := by
  refine ⟨by rw [wrF_get F j x hj k, if_neg hne], fun h => ?_⟩
  unfold wrF
  simp only []
  split
  · exact h
  · simp [h, hne]
theorem lastN_gt (l : List Sct) (k : Nat) (h : (l[k]?.bind (·.la)).isSome = true) : ∀ n, k < n → k < lastN l n := by
  intro n
  induction n with
  | zero => intro h; omega
  | succ n ih =>
    intro hk
    unfold lastN
    split
    · omega
    · rename_i hn
      by_cases e : k = n
      · subst e; exact absurd h hn
      · exact ih (by omega)
/-- a sector that has something stands as it is when a file is shut -/
theorem shF_keep {G : Fil} (y : Sec × Bool) (ks : List Nat) (hg : G.l[k]? = some ⟨none, some y⟩) : (shF G ks).l[k]? = some ⟨none, some y⟩ := by
  have hlt := (List.getElem?_eq_some_iff.1 hg).1
  have hL := lastN_gt G.l k (by rw [hg]; rfl) G.l.length hlt
  have hle := lastN_le G.l G.l.length
  rw [shF_get, if_pos hL]
  generalize lastN G.l G.l.length = N at hL hle ⊢
  have hbl := bdAll_length N ks G
  have hkb : k < (bdAll N G ks).l.length := by omega
  have h1 := bdAll_fr N ks G k
  have h2 := bdAll_la_some N ks G k (by rw [hg]; rfl)
  rw [hg, List.getElem?_eq_getElem hkb] at h1 h2
  rw [List.getElem?_eq_getElem hkb]
  have h3 : ((bdAll N G ks).l[k]).fr = none := h1
  have h4 : ((bdAll N G ks).l[k]).la = some y := h2
  congr 1
  rw [← h3, ← h4]
/-- a sector that was written and is none of the fresh ones stands as it is behind a crash -/
theorem crash_keep (y : Sec × Bool) (h : k ∉ F.wr) (hk : F.l[k]? = some ⟨none, some y⟩) (ps : List Int) : (shF (stAll F (sortN F.wr) ps).1 (sortN F.wr)).l[k]? = some ⟨none, some y⟩ := by
  have hm : k ∉ sortN F.wr := fun e => h ((sortN_perm F.wr).mem_iff.1 e)
  have hg := stAll_fr (sortN F.wr) F ps k hm
  rw [hk] at hg
  exact shF_keep y _ hg
theorem Firm1.crash (h : Firm1 F k x) (ps : List Int) : Firm1 (shF (stAll F (sortN F.wr) ps).1 (sortN F.wr)) k x := ⟨by simp [shF], crash_keep _ h.1 h.2 ps⟩
theorem OldS.crash (h : OldS F k g) (ps : List Int) : OldS (shF (stAll F (sortN F.wr) ps).1 (sortN F.wr)) k g := by
  obtain ⟨h1, y, h2, h3⟩ := h
  exact ⟨by simp [shF], y, crash_keep _ h1 h2 ps, h3⟩
theorem crash_le (ps : List Int) : (shF (stAll F (sortN F.wr) ps).1 (sortN F.wr)).l.length ≤ F.l.length := by
  rw [shF_length]
  exact Nat.le_trans (lastN_le _ _) (by rw [stAll_length]; exact Nat.le_refl _)
end
/-! ### what a file of pages has, whatever is lost of the rest -/
structure QF (mo : Nat) (m : Mt) (cm : List (Nat × List UInt8)) (F : Fil) : Prop where
  room : mo ≤ 100000
  fit : m.fit
  pos : 0 < m.gen
  cnt : m.count ≤ 4611686018427387904
  root : m.root = 0 ∨ (2 ≤ m.root ∧ ∃ b, (m.root, b) ∈ cm)
  full : F.l.length ≤ mo
  last : Firm1 F 15 zSec
  now : Firm1 F (m.gen % 2 * 8) (secM m)
  old : OldS F ((m.gen + 1) % 2 * 8) m.gen
  pgs : ∀ p ∈ cm, 2 ≤ p.1 ∧ ∀ k, k < 8 → Firm1 F (p.1 * 8 + k) (secG p.2 k)
def Qt (mo : Nat) (m : Mt) (cm : List (Nat × List UInt8)) (S : Dv) : Prop := ∃ le F, S = one mo le nmP F ∧ QF mo m cm F
section
variable {mo : Nat} {le : Int} {m : Mt} {cm : List (Nat × List UInt8)} {F F' : Fil} {S : Dv}
theorem QF.long (h : QF mo m cm F) : 16 ≤ F.l.length := h.last.lt
theorem QF.crash (h : QF mo m cm F) (ps : List Int) : QF mo m cm (shF (stAll F (sortN F.wr) ps).1 (sortN F.wr)) :=
  ⟨h.room, h.fit, h.pos, h.cnt, h.root, Nat.le_trans (crash_le ps) h.full, h.last.crash ps, h.now.crash ps, h.old.crash ps, fun p hp => ⟨(h.pgs p hp).1, fun k hk => ((h.pgs p hp).2 k hk).crash ps⟩⟩
theorem Qt.crash (h : Qt mo m cm S) (ps : List Int) : ∃ F, crash S ps = one mo (-1) nmP F ∧ QF mo m cm F := by
  obtain ⟨le, F, rfl, h⟩ := h
  exact ⟨_, one_crash ps, h.crash ps⟩
theorem QF.sy (h : QF mo m cm F) : QF mo m cm (syF F) :=
  ⟨h.room, h.fit, h.pos, h.cnt, h.root, by rw [syF_length]; exact h.full, sees_firm h.last.sees, sees_firm h.now.sees, h.old.sy, fun p hp => ⟨(h.pgs p hp).1, fun k hk => sees_firm ((h.pgs p hp).2 k hk).sees⟩⟩
theorem QF.same (h : QF mo m cm F) (hl : F'.l.length ≤ mo) (s : ∀ j, j < F.l.length → (j < 16 ∨ ∃ p ∈ cm, p.1 * 8 ≤ j ∧ j < p.1 * 8 + 8) → Same1 F F' j) : QF mo m cm F' := by
  have h16 := h.long
  refine ⟨h.room, h.fit, h.pos, h.cnt, h.root, hl, h.last.same (s _ h.last.lt (.inl (by omega))), h.now.same (s _ h.now.lt (.inl (by omega))), h.old.same (s _ h.old.lt (.inl (by omega))), fun p hp => ⟨(h.pgs p hp).1, fun k hk => ?_⟩⟩
  have := (h.pgs p hp).2 k hk
  exact this.same (s _ this.lt (.inr ⟨p, hp, by omega, by omega⟩))
/-- the meta that holds -/
theorem newP1_firm {page pages : Nat} {best : Mt} (h : Firm1 F (page * 8) (secM m)) (hf : m.fit) (hg : mtGood m page pages) (hb : best.gen < m.gen) : newP1 (one mo le nmP F) pages page best = m := by
  unfold newP1
  rw [h.sees.read]
  simp only [parse_secM hf, mtOf_secM hf]
  simp [hg, hb]
theorem newP1_old {page pages g : Nat} {best : Mt} (h : OldS F (page * 8) g) : (best.gen < g → (newP1 (one mo le nmP F) pages page best).gen < g) ∧ (g ≤ best.gen → newP1 (one mo le nmP F) pages page best = best) := by
  obtain ⟨h1, ⟨y, bad⟩, h2, h3⟩ := h
  have hr := one_read (mo := mo) (le := le) (nm := nmP) _ _ h2
  simp only at hr h3
  unfold newP1
  rw [hr]
  by_cases hb : bad = true
  · rw [if_pos hb]
    rw [if_neg (by simp)]
    exact ⟨id, fun _ => rfl⟩
  · rw [if_neg hb]
    rcases h3 with h3 | h3 | ⟨m', f1, f2, h3⟩
    · exact absurd h3 hb
    · subst h3
      rw [if_neg (by simp [parse_zero])]
      exact ⟨id, fun _ => rfl⟩
    · subst h3
      simp only [parse_secM f1, mtOf_secM f1]
      split
      · exact ⟨fun _ => f2, fun hg => by rename_i hh; omega⟩
      · exact ⟨id, fun _ => rfl⟩
theorem QF.good (h : QF mo m cm F) : mtGood m (m.gen % 2) (F.l.length / 8) := by
  refine ⟨h.pos, rfl, ?_, h.cnt⟩
  rcases h.root with e | ⟨e, b, hb⟩
  · exact .inl e
  · have := ((h.pgs _ hb).2 7 (by omega)).lt
    simp only at this
    exact .inr ⟨e, by omega⟩
theorem QF.newest (h : QF mo m cm F) : newP (one mo le nmP F) = m := by
  have h16 := h.long
  have hg := h.good
  have hp := h.pos
  unfold newP
  rw [one_len, if_neg (by omega)]
  have hn := h.now
  have ho := h.old
  rcases Nat.mod_two_eq_zero_or_one m.gen with e | e
  · rw [e] at hg hn
    rw [show (m.gen + 1) % 2 = 1 by omega] at ho
    rw [newP1_firm (page := 0) hn h.fit hg hp]
    exact (newP1_old (page := 1) ho).2 (Nat.le_refl _)
  · rw [e] at hg hn
    rw [show (m.gen + 1) % 2 = 0 by omega] at ho
    exact newP1_firm (page := 1) hn h.fit hg ((newP1_old (page := 0) ho).1 hp)
/-- a device behind a crash, opened -/
theorem QF.opened (h : QF mo m cm F) : openP (one mo (-1) nmP F) = (0, one mo (-1) nmP (syF F)) := by
  have hm : pMake (one mo (-1) nmP F) nmP = (9, one mo (-1) nmP F) := by
    unfold pMake
    rw [if_neg (show ¬ (one mo (-1) nmP F).left = 0 from (show ¬ (-1 : Int) = 0 by decide)), if_neg (by simp [nmP]), if_pos (by rw [one_fnd]; rfl)]
  have hc : createP (one mo (-1) nmP F) = (9, one mo (-1) nmP F) := by
    unfold createP
    rw [hm, if_neg (show ¬ (9 : Int) = 0 by decide)]
  have hs : pSync (one mo (-1) nmP F) nmP = (0, one mo (-1) nmP (syF F)) := one_sync (by decide)
  have hg := h.pos
  unfold openP
  rw [hc]
  simp only [hs, h.sy.newest]
  rw [if_neg (by simp), if_neg (by simp), if_neg (by omega)]
/-- a page that is kept is read -/
theorem rdG_firm {id : Nat} {b : List UInt8} (hp : ∀ k, k < 8 → Firm1 F (id * 8 + k) (secG b k)) (hb : b.length ≤ 512) : ∀ (n j : Nat), j + n = 8 → rdG (one mo le nmP F) id j n ((pad b).take (64 * j)) = (pad b, 0) := by
  intro n
  induction n with
  | zero =>
    intro j hj
    have : j = 8 := by omega
    subst this
    unfold rdG
    rw [List.take_of_length_le (by rw [pad_length hb]; omega)]
  | succ n ih =>
    intro j hj
    have hr := (hp j (by omega)).sees.read (mo := mo) (le := le) (nm := nmP)
    unfold rdG
    rw [hr, if_pos rfl, ← secG_take hb j (by omega)]
    exact ih (j + 1) (by omega)
theorem QF.read (h : QF mo m cm F) {p : Nat × List UInt8} (hp : p ∈ cm) (hb : p.2.length ≤ 512) : rdA (one mo le nmP F) (p.1 : Int) = (pad p.2, 0) := by
  obtain ⟨h1, h2⟩ := h.pgs p hp
  have h7 := (h2 7 (by omega)).lt
  unfold rdA
  rw [one_len, if_pos (by omega), Int.toNat_natCast]
  have := rdG_firm (mo := mo) (le := le) h2 hb 8 0 (by omega)
  rwa [Nat.mul_zero, List.take_zero] at this
end
/-! ### what is written while there is power -/
theorem one_write_any {mo : Nat} {le : Int} {F : Fil} {k : Nat} (hk : k ≤ F.l.length) (x : Sec) : (∃ c, c ≠ 0 ∧ pWrite (one mo le nmP F) nmP (k : Int) x = (c, one mo le nmP F)) ∨ ((k = F.l.length → F.l.length < mo) ∧ pWrite (one mo le nmP F) nmP (k : Int) x = (0, one mo (tkD le) nmP (wrF F k x))) := by
  by_cases hle : le = 0
  · subst hle
    exact .inl ⟨8, by decide, pWrite_pow rfl _ _ _⟩
  · by_cases hf : k = F.l.length ∧ mo ≤ F.l.length
    · exact .inl ⟨6, by decide, one_put_full hle hf.1 hf.2 x⟩
    · exact .inr ⟨fun e => by omega, one_put_at hle hk (fun e => by omega) x⟩
theorem wp_any (mo id : Nat) (b : List UInt8) : ∀ (n k : Nat) (F : Fil) (le : Int), id * 8 + k ≤ F.l.length → F.l.length ≤ mo →
    ∃ c le' F', wpP nmP id b k n (one mo le nmP F) = (c, one mo le' nmP F') ∧ F.l.length ≤ F'.l.length ∧ F'.l.length ≤ mo ∧ (∀ j, j < F.l.length → (j < id * 8 + k ∨ id * 8 + k + n ≤ j) → Same1 F F' j) ∧
      (c = 0 → id * 8 + k + n ≤ F'.l.length ∧ ∀ i, k ≤ i → i < k + n → Sees F' (id * 8 + i) (secG b i)) := by
  intro n
  induction n with
  | zero => intro k F le h1 h2; exact ⟨0, le, F, rfl, Nat.le_refl _, h2, fun j _ _ => ⟨rfl, fun h => h⟩, fun _ => ⟨by omega, fun i h h2 => by omega⟩⟩
  | succ n ih =>
    intro k F le h1 h2
    rcases one_write_any (mo := mo) (le := le) h1 (secG b k) with ⟨c, hc, hw⟩ | ⟨hm, hw⟩
    · refine ⟨c, le, F, ?_, Nat.le_refl _, h2, fun j _ _ => ⟨rfl, fun h => h⟩, fun e => absurd e hc⟩
      unfold wpP
      rw [hw, if_neg hc]
    · have hl := wrF_length F (id * 8 + k) (secG b k)
      obtain ⟨c, le', F', e, e1, e2, e3, e4⟩ := ih (k + 1) (wrF F (id * 8 + k) (secG b k)) (tkD le) (by split at hl <;> omega) (by split at hl <;> omega)
      refine ⟨c, le', F', ?_, by split at hl <;> omega, e2, ?_, ?_⟩
      · unfold wpP
        rw [hw, if_pos rfl]
        exact e
      · intro j hj hj2
        exact (wr_same h1 (by omega) _).trans (e3 j (by split at hl <;> omega) (by omega))
      · intro hc
        obtain ⟨g1, g2⟩ := e4 hc
        refine ⟨by omega, fun i hi hi2 => ?_⟩
        by_cases he : i = k
        · subst he
          refine (Sees.wr h1 (secG b i)).same (e3 _ (by split at hl <;> omega) (by omega))
        · exact g2 i (by omega) (by omega)
theorem keeps_at {n : Nat} {l : List Int} (h : keepsB n l = true) : ∀ j, j < l.length → 2 + (j : Int) ≤ l.getD j 0 ∧ l.getD j 0 < (n : Int) := by
  obtain ⟨h1, h2⟩ := (keeps_iff _ _).1 h
  intro j
  induction j with
  | zero =>
    intro hj
    have hm : l.getD 0 0 ∈ l := by simp only [List.getD, List.getElem?_eq_getElem hj, Option.getD_some]; exact List.getElem_mem hj
    have := h1 _ hm
    omega
  | succ j ih =>
    intro hj
    have hm : l.getD (j + 1) 0 ∈ l := by simp only [List.getD, List.getElem?_eq_getElem hj, Option.getD_some]; exact List.getElem_mem hj
    have g := h1 _ hm
    have := ih (by omega)
    have := keeps_up h j hj
    omega
theorem keeps_short {n : Nat} {l : List Int} (h : keepsB n l = true) : l.length ≤ n := by
  rcases Nat.eq_zero_or_pos l.length with e | e
  · omega
  · have := keeps_at h (l.length - 1) (by omega)
    omega
theorem keeps_mono {n n' : Nat} {l : List Int} (h : keepsB n l = true) (hn : n ≤ n') : keepsB n' l = true := by
  obtain ⟨h1, h2⟩ := (keeps_iff _ _).1 h
  exact (keeps_iff _ _).2 ⟨fun x hx => by have := h1 x hx; omega, h2⟩
theorem keeps_lt {n : Nat} {l : List Int} (h : keepsB n l = true) {i j : Nat} (hij : i < j) (hj : j < l.length) : l.getD i 0 < l.getD j 0 := by
  obtain ⟨h1, h2⟩ := (keeps_iff _ _).1 h
  have := List.pairwise_iff_getElem.1 h2 i j (by omega) hj hij
  simpa [List.getD, hj, show i < l.length by omega] using this
/-- behind some Puts since the last Commit -/
structure RnF (mo : Nat) (m : Mt) (cm : List (Nat × List UInt8)) (L : List Int) (put : Nat) (bs : List (List UInt8)) (F : Fil) : Prop where
  q : QF mo m cm F
  keeps : keepsB (F.l.length / 8) L = true
  putle : put ≤ L.length
  off : ∀ p ∈ cm, (p.1 : Int) ∉ L
  n : bs.length = put
  tx : ∀ i b, bs[i]? = some b → b.length ≤ 512 ∧ ∀ k, k < 8 → Sees F ((L.getD i 0).toNat * 8 + k) (secG b k)
def Rn (mo : Nat) (m : Mt) (cm : List (Nat × List UInt8)) (L : List Int) (put : Nat) (bs : List (List UInt8)) (S : Dv) : Prop := ∃ le F, S = one mo le nmP F ∧ RnF mo m cm L put bs F
section
variable {mo put : Nat} {le : Int} {m : Mt} {cm : List (Nat × List UInt8)} {F F' : Fil} {S : Dv} {L : List Int} {bs : List (List UInt8)}
theorem Rn.qt (h : Rn mo m cm L put bs S) : Qt mo m cm S := by
  obtain ⟨le, F, rfl, h⟩ := h
  exact ⟨le, F, rfl, h.q⟩
theorem Rn.fuse (h : Rn mo m cm L put bs S) (n : Int) : Rn mo m cm L put bs { S with left := n } := by
  obtain ⟨le, F, rfl, h⟩ := h
  exact ⟨n, F, rfl, h⟩
theorem Rn.few (h : Rn mo m cm L put bs S) : 2 ≤ S.len nmP / 8 ∧ L.length ≤ 1000000 ∧ keepsB (S.len nmP / 8) L = true := by
  obtain ⟨le, F, rfl, h⟩ := h
  have h1 := h.q.long
  have h2 := keeps_short h.keeps
  have h3 := h.q.full
  have h4 := h.q.room
  rw [one_len]
  exact ⟨by omega, by omega, h.keeps⟩
theorem Rn.putle (h : Rn mo m cm L put bs S) : put ≤ L.length ∧ bs.length = put := by
  obtain ⟨le, F, rfl, h⟩ := h
  exact ⟨h.putle, h.n⟩
theorem Rn.puts (h : Rn mo m cm L put bs S) (b : List UInt8) (hb : b.length ≤ 512) :
    ((ptP S L put false b).e = 0 ∧ (ptP S L put false b).put = put + 1 ∧ (ptP S L put false b).L.take (put + 1) = L.take put ++ [(ptP S L put false b).id] ∧ 2 ≤ (ptP S L put false b).id ∧ (ptP S L put false b).id ≤ 100000 ∧ Rn mo m cm (ptP S L put false b).L (put + 1) (bs ++ [b]) (ptP S L put false b).S) ∨
    ((ptP S L put false b).e ≠ 0 ∧ Qt mo m cm (ptP S L put false b).S) := by
  obtain ⟨le, F, rfl, h⟩ := h
  have h16 := h.q.long
  have hfl := h.q.full
  have hro := h.q.room
  have hks := keeps_short h.keeps
  have hput := h.putle
  unfold ptP
  rw [if_neg (by simp), if_neg (by omega)]
  by_cases hp : put < L.length
  · rw [if_pos hp]
    obtain ⟨i1, i2⟩ := keeps_at h.keeps put hp
    obtain ⟨id, hid⟩ : ∃ id : Nat, L.getD put 0 = (id : Int) := ⟨(L.getD put 0).toNat, by omega⟩
    rw [hid] at i1 i2 ⊢
    rw [Int.toNat_natCast]
    obtain ⟨c, le', F', e, e1, e2, e3, e4⟩ := wp_any mo id b 8 0 F le (by omega) hfl
    have hq : QF mo m cm F' := h.q.same e2 fun j hj hj2 => e3 j hj (by
      rcases hj2 with hj2 | ⟨p, hp2, hj2, hj3⟩
      · left; omega
      · have hne : p.1 ≠ id := fun e => by
          have := h.off p hp2
          rw [e, ← hid] at this
          exact this (by simp only [List.getD, List.getElem?_eq_getElem hp, Option.getD_some]; exact List.getElem_mem hp)
        rcases Nat.lt_or_gt_of_ne hne with hh | hh
        · left; omega
        · right; omega)
    rw [e]
    by_cases hc : c = 0
    · subst hc
      obtain ⟨g1, g2⟩ := e4 rfl
      left
      rw [if_pos rfl]
      refine ⟨rfl, rfl, ?_, by show 2 ≤ (id : Int); omega, by show (id : Int) ≤ 100000; omega, le', F', rfl, hq, keeps_mono h.keeps (Nat.div_le_div_right e1), hp, h.off, by simp [h.n], ?_⟩
      · show L.take (put + 1) = L.take put ++ [(id : Int)]
        rw [List.take_succ_eq_append_getElem hp]
        congr 2
        rw [← hid]
        simp [List.getD, hp]
      · intro i b' hb'
        have hil := (List.getElem?_eq_some_iff.1 hb').1
        simp [h.n] at hil
        rcases Nat.lt_or_ge i put with hi | hi
        · rw [List.getElem?_append_left (by rw [h.n]; exact hi)] at hb'
          obtain ⟨t1, t2⟩ := h.tx i b' hb'
          refine ⟨t1, fun k hk => (t2 k hk).same (e3 _ (t2 k hk).lt ?_)⟩
          have hlt := keeps_lt h.keeps hi hp
          have hat := keeps_at h.keeps i (by omega)
          rw [hid] at hlt
          left
          show (L.getD i 0).toNat * 8 + k < id * 8 + 0
          omega
        · have : i = put := by omega
          subst this
          rw [List.getElem?_append_right (by rw [h.n]; exact Nat.le_refl _), h.n] at hb'
          simp at hb'
          subst hb'
          refine ⟨hb, fun k hk => ?_⟩
          show Sees F' ((L.getD i 0).toNat * 8 + k) _
          rw [hid, Int.toNat_natCast]
          exact g2 k (by omega) (by omega)
    · right
      rw [if_neg hc]
      exact ⟨hc, le', F', rfl, hq⟩
  · rw [if_neg hp, one_len]
    have hpe : put = L.length := by omega
    obtain ⟨id, hid⟩ : ∃ id, id = F.l.length / 8 := ⟨_, rfl⟩
    rw [← hid]
    obtain ⟨c, le', F', e, e1, e2, e3, e4⟩ := wp_any mo id b 8 0 F le (by omega) hfl
    have hlow : ∀ p ∈ cm, p.1 < id := fun p hp => by
      have := ((h.q.pgs p hp).2 7 (by omega)).lt
      omega
    have hq : QF mo m cm F' := h.q.same e2 fun j hj hj2 => e3 j hj (by
      rcases hj2 with hj2 | ⟨p, hp2, hj2, hj3⟩
      · left; omega
      · have := hlow p hp2
        left; omega)
    rw [e]
    by_cases hc : c = 0
    · subst hc
      obtain ⟨g1, g2⟩ := e4 rfl
      left
      rw [if_pos rfl]
      refine ⟨rfl, rfl, ?_, by show 2 ≤ (id : Int); omega, by show (id : Int) ≤ 100000; omega, le', F', rfl, hq, ?_, by show put + 1 ≤ (L ++ [(id : Int)]).length; simp; omega, ?_, by simp [h.n], ?_⟩
      · show (L ++ [(id : Int)]).take (put + 1) = L.take put ++ [(id : Int)]
        rw [hpe, List.take_of_length_le (by simp), List.take_length]
      · show keepsB (F'.l.length / 8) (L ++ [(id : Int)]) = true
        refine keeps_mono (n := id + 1) ?_ (by omega)
        have := keeps_more h.keeps (by omega)
        rw [← hid] at this
        exact this
      · intro p hp2
        show (p.1 : Int) ∉ L ++ [(id : Int)]
        have := hlow p hp2
        rw [List.mem_append]
        rintro (hh | hh)
        · exact h.off p hp2 hh
        · have := List.mem_singleton.1 hh
          omega
      · intro i b' hb'
        show b'.length ≤ 512 ∧ ∀ k, k < 8 → Sees F' (((L ++ [(id : Int)]).getD i 0).toNat * 8 + k) _
        have hil := (List.getElem?_eq_some_iff.1 hb').1
        simp [h.n] at hil
        rcases Nat.lt_or_ge i put with hi | hi
        · rw [List.getElem?_append_left (by rw [h.n]; exact hi)] at hb'
          obtain ⟨t1, t2⟩ := h.tx i b' hb'
          have hat := keeps_at h.keeps i (by omega)
          have hgd : (L ++ [(id : Int)]).getD i 0 = L.getD i 0 := by simp [List.getD, List.getElem?_append_left (show i < L.length by omega)]
          rw [hgd]
          refine ⟨t1, fun k hk => (t2 k hk).same (e3 _ (t2 k hk).lt ?_)⟩
          left
          omega
        · have : i = put := by omega
          subst this
          rw [List.getElem?_append_right (by rw [h.n]; exact Nat.le_refl _), h.n] at hb'
          simp at hb'
          subst hb'
          have hgd : (L ++ [(id : Int)]).getD i 0 = (id : Int) := by simp [List.getD, hpe]
          rw [hgd, Int.toNat_natCast]
          exact ⟨hb, fun k hk => g2 k (by omega) (by omega)⟩
    · right
      rw [if_neg hc]
      exact ⟨hc, le', F', rfl, hq⟩
end
/-! ### a commit -/
theorem zip_page {L : List Int} {put : Nat} {bs : List (List UInt8)} {p : Nat × List UInt8} (h : p ∈ ((L.take put).map Int.toNat).zip bs) : ∃ i : Nat, i < put ∧ i < L.length ∧ p.1 = (L.getD i 0).toNat ∧ bs[i]? = some p.2 := by
  obtain ⟨i, hi, e⟩ := List.getElem_of_mem h
  have hi' := hi
  rw [List.length_zip, List.length_map, List.length_take] at hi'
  rw [List.getElem_zip] at e
  have h1 : i < L.length := by omega
  refine ⟨i, by omega, h1, ?_, ?_⟩
  · rw [← e]
    simp [List.getD, h1]
  · rw [← e, List.getElem?_eq_getElem (by omega)]
theorem zip_first {L : List Int} {put : Nat} {bs : List (List UInt8)} (hp : 1 ≤ put) (hl : put ≤ L.length) (hb : bs.length = put) : ∃ b, ((L.getD 0 0).toNat, b) ∈ ((L.take put).map Int.toNat).zip bs := by
  refine ⟨bs[0]'(by omega), ?_⟩
  have hz : 0 < (((L.take put).map Int.toNat).zip bs).length := by rw [List.length_zip, List.length_map, List.length_take]; omega
  have e : (((L.take put).map Int.toNat).zip bs)[0]'hz = ((L.getD 0 0).toNat, bs[0]'(by omega)) := by
    rw [List.getElem_zip]
    simp [List.getD, show 0 < L.length by omega]
  rw [← e]
  exact List.getElem_mem hz
def nxM (m : Mt) (L : List Int) (i mark : Nat) : Mt := ⟨m.gen + 1, (L.getD 0 0).toNat, i, mark⟩
def nxC (L : List Int) (put : Nat) (bs : List (List UInt8)) : List (Nat × List UInt8) := ((L.take put).map Int.toNat).zip bs
section
variable {mo put : Nat} {le : Int} {m m' : Mt} {cm cm' : List (Nat × List UInt8)} {F F' G : Fil} {S : Dv} {L : List Int} {bs : List (List UInt8)}
/-- what stands when all was synced, ahead of the meta -/
structure PreF (mo : Nat) (m m' : Mt) (cm cm' : List (Nat × List UInt8)) (F : Fil) : Prop where
  q : QF mo m cm F
  gen : m'.gen = m.gen + 1
  fit : m'.fit
  cnt : m'.count ≤ 4611686018427387904
  root : m'.root = 0 ∨ (2 ≤ m'.root ∧ ∃ b, (m'.root, b) ∈ cm')
  pgs : ∀ p ∈ cm', 2 ≤ p.1 ∧ ∀ k, k < 8 → Firm1 F (p.1 * 8 + k) (secG p.2 k)
  nofr : F.wr = [] ∧ ∀ (k : Nat) (s : Sct), F.l[k]? = some s → s.fr = none
theorem PreF.wr (h : PreF mo m m' cm cm' F) : (wrF F (m'.gen % 2 * 8) (secM m')).wr = [m'.gen % 2 * 8] := by
  have hlt := h.q.old.lt
  have e : (m.gen + 1) % 2 * 8 = m'.gen % 2 * 8 := by rw [h.gen]
  rw [e] at hlt
  unfold wrF
  simp only []
  have hg := List.getElem?_eq_getElem hlt
  have := h.nofr.2 _ _ hg
  rw [hg]
  simp only [Option.bind_some, this, Option.isSome_none, h.nofr.1]
  rfl
theorem PreF.sect (h : PreF mo m m' cm cm' F) : m.gen % 2 * 8 ≠ m'.gen % 2 * 8 ∧ (m'.gen + 1) % 2 * 8 = m.gen % 2 * 8 ∧ m'.gen % 2 * 8 < 16 ∧ m'.gen % 2 * 8 ≠ 15 := by
  have := h.gen
  omega
theorem PreF.low (h : PreF mo m m' cm cm' F) : m'.gen % 2 * 8 ≤ F.l.length := by
  have := h.q.long
  have := h.sect
  omega
theorem PreF.len (h : PreF mo m m' cm cm' F) (x : Sec) : (wrF F (m'.gen % 2 * 8) x).l.length = F.l.length := by
  have := h.q.long
  have := h.sect
  rw [wrF_length, if_pos (by omega)]
/-- the meta has come through -/
theorem PreF.done (h : PreF mo m m' cm cm' F) (hs : ∀ j, j ≠ m'.gen % 2 * 8 → ∀ x, Firm1 F j x → Firm1 G j x) (hl : G.l.length ≤ mo) (hk : Firm1 G (m'.gen % 2 * 8) (secM m')) : QF mo m' cm' G := by
  obtain ⟨s1, s2, s3, s4⟩ := h.sect
  have hm := hs _ s1 _ h.q.now
  refine ⟨h.q.room, h.fit, by rw [h.gen]; omega, h.cnt, h.root, hl, hs _ (Ne.symm s4) _ h.q.last, hk, ?_, fun p hp => ⟨(h.pgs p hp).1, fun k hk => hs _ ?_ _ ((h.pgs p hp).2 k hk)⟩⟩
  · rw [s2]
    exact ⟨hm.1, _, hm.2, .inr (.inr ⟨m, h.q.fit, by rw [h.gen]; omega, rfl⟩)⟩
  · have := (h.pgs p hp).1
    omega
/-- the meta is lost, or bad -/
theorem PreF.lost (h : PreF mo m m' cm cm' F) (hs : ∀ j, j ≠ m'.gen % 2 * 8 → ∀ x, Firm1 F j x → Firm1 G j x) (hl : G.l.length ≤ mo) (hk : OldS G (m'.gen % 2 * 8) m.gen) : QF mo m cm G := by
  obtain ⟨s1, s2, s3, s4⟩ := h.sect
  refine ⟨h.q.room, h.q.fit, h.q.pos, h.q.cnt, h.q.root, hl, hs _ (Ne.symm s4) _ h.q.last, hs _ s1 _ h.q.now, by rw [← h.gen]; exact hk, fun p hp => ⟨(h.q.pgs p hp).1, fun k hk => hs _ ?_ _ ((h.q.pgs p hp).2 k hk)⟩⟩
  have := (h.q.pgs p hp).1
  omega
theorem PreF.firm (h : PreF mo m m' cm cm' F) (x : Sec) : ∀ j, j ≠ m'.gen % 2 * 8 → ∀ y, Firm1 F j y → Firm1 (wrF F (m'.gen % 2 * 8) x) j y := fun j hj y hy => hy.same (wr_same h.low hj x)
/-- a crash behind the meta's write -/
theorem PreF.cut (h : PreF mo m m' cm cm' F) (ps : List Int) : QF mo m cm (shF (stAll (wrF F (m'.gen % 2 * 8) (secM m')) (sortN (wrF F (m'.gen % 2 * 8) (secM m')).wr) ps).1 (sortN (wrF F (m'.gen % 2 * 8) (secM m')).wr)) ∨ QF mo m' cm' (shF (stAll (wrF F (m'.gen % 2 * 8) (secM m')) (sortN (wrF F (m'.gen % 2 * 8) (secM m')).wr) ps).1 (sortN (wrF F (m'.gen % 2 * 8) (secM m')).wr)) := by
  have hw := h.wr
  have hf := h.firm (secM m')
  have hln := h.len (secM m')
  have hfull := h.q.full
  obtain ⟨o1, y, o2, o3⟩ := h.q.old
  rw [← h.gen] at o2
  have hk : (wrF F (m'.gen % 2 * 8) (secM m')).l[m'.gen % 2 * 8]? = some ⟨some (secM m'), some y⟩ := by
    rw [wrF_get _ _ _ h.low, if_pos rfl, o2]
    rfl
  obtain ⟨k, hkk⟩ : ∃ k, k = m'.gen % 2 * 8 := ⟨_, rfl⟩
  have hD := fun (G : Fil) => PreF.done (G := G) h
  have hL := fun (G : Fil) => PreF.lost (G := G) h
  rw [← hkk] at hw hf hln hk hD hL ⊢
  obtain ⟨G, hG⟩ : ∃ G, G = wrF F k (secM m') := ⟨_, rfl⟩
  rw [← hG] at hw hf hln hk ⊢
  have hso : sortN G.wr = [k] := by
    rw [hw]
    exact List.perm_singleton.1 (sortN_perm [k])
  have hcl := crash_le (F := G) ps
  have hcr : ∀ j, j ≠ k → ∀ x, Firm1 F j x → Firm1 (shF (stAll G (sortN G.wr) ps).1 (sortN G.wr)) j x := fun j hj x hx => (hf j hj x hx).crash ps
  have hst : (stAll G (sortN G.wr) ps).1.l[k]? = some (stl (pk ps) ⟨some (secM m'), some y⟩) := by
    rw [hso]
    show (setF G k (stl (pk ps))).l[k]? = _
    rw [setF_get, if_pos rfl, hk]
    rfl
  have hwr : ∀ K : Fil, k ∉ (shF K (sortN G.wr)).wr := fun K => by simp [shF]
  rcases pk_three ps with e | e | e
  · left
    rw [e] at hst
    exact hL _ hcr (by omega) ⟨hwr _, y, shF_keep y _ hst, o3⟩
  · right
    rw [e] at hst
    exact hD _ hcr (by omega) ⟨hwr _, shF_keep _ _ hst⟩
  · left
    rw [e] at hst
    exact hL _ hcr (by omega) ⟨hwr _, _, shF_keep _ _ hst, .inl rfl⟩
theorem RnF.pre (h : RnF mo m cm L put bs F) (hput : 1 ≤ put) (hg : m.gen < 1000000) (i mark : Nat) (hi : i < 1000000) (hmk : mark < 18446744073709551616) : PreF mo m (nxM m L i mark) cm (nxC L put bs) (syF F) := by
  have hl := h.putle
  have h0 := keeps_at h.keeps 0 (by omega)
  have hfl := h.q.full
  have hro := h.q.room
  refine ⟨h.q.sy, rfl, ⟨by show m.gen + 1 < _; omega, by show (L.getD 0 0).toNat < _; omega, by show i < _; omega, hmk⟩, by show i ≤ _; omega, .inr ⟨by show 2 ≤ (L.getD 0 0).toNat; omega, zip_first hput hl h.n⟩, ?_, rfl, ?_⟩
  · intro p hp
    obtain ⟨j, j1, j2, j3, j4⟩ := zip_page hp
    have := keeps_at h.keeps j j2
    refine ⟨by omega, fun k hk => ?_⟩
    rw [j3]
    exact sees_firm ((h.tx j p.2 j4).2 k hk)
  · intro k s hs
    simp only [syF, List.getElem?_map, Option.map_eq_some_iff] at hs
    obtain ⟨t, _, rfl⟩ := hs
    unfold syS
    split
    · rfl
    · assumption
theorem Rn.commit (h : Rn mo m cm L put bs S) (hput : 1 ≤ put) (hg : m.gen < 1000000) (i mark : Nat) (hi : i < 1000000) (hmk : mark < 18446744073709551616) :
    ((cmP S m L put false (L.getD 0 0) (i : Int) mark (L.take put)).e = 0 ∧ (cmP S m L put false (L.getD 0 0) (i : Int) mark (L.take put)).m = nxM m L i mark ∧ (cmP S m L put false (L.getD 0 0) (i : Int) mark (L.take put)).dead = false ∧ (cmP S m L put false (L.getD 0 0) (i : Int) mark (L.take put)).put = 0 ∧
      Rn mo (nxM m L i mark) (nxC L put bs) (cmP S m L put false (L.getD 0 0) (i : Int) mark (L.take put)).L 0 [] (cmP S m L put false (L.getD 0 0) (i : Int) mark (L.take put)).S) ∨
    ((cmP S m L put false (L.getD 0 0) (i : Int) mark (L.take put)).e ≠ 0 ∧ ∀ ps, ∃ F, crash (cmP S m L put false (L.getD 0 0) (i : Int) mark (L.take put)).S ps = one mo (-1) nmP F ∧ (QF mo m cm F ∨ QF mo (nxM m L i mark) (nxC L put bs) F)) := by
  obtain ⟨le, F, rfl, h⟩ := h
  have hpre := h.pre hput hg i mark hi hmk
  have quiet : ∀ le' F', QF mo m cm F' → ∀ ps, ∃ F, crash (one mo le' nmP F') ps = one mo (-1) nmP F ∧ (QF mo m cm F ∨ QF mo (nxM m L i mark) (nxC L put bs) F) := fun le' F' hq ps => ⟨_, one_crash ps, .inl (hq.crash ps)⟩
  have hm' : (⟨m.gen + 1, (L.getD 0 0).toNat, ((i : Int)).toNat, mark⟩ : Mt) = nxM m L i mark := by rw [Int.toNat_natCast]; rfl
  unfold cmP
  rw [if_neg (by simp)]
  split
  · exact .inr ⟨fun e => absurd (show (1 : Int) = 0 from e) (by decide), quiet _ _ h.q⟩
  split
  · omega
  simp only [hm']
  by_cases h0 : le = 0
  · subst h0
    have hs : storeP (one mo 0 nmP F) (nxM m L i mark) = (8, one mo 0 nmP F) := by
      unfold storeP
      rw [pSync_pow rfl, if_neg (show ¬ (8 : Int) = 0 by decide)]
    rw [hs, if_neg (show ¬ (8 : Int) = 0 by decide)]
    exact .inr ⟨(by decide : (8 : Int) ≠ 0), quiet _ _ h.q⟩
  have hs1 := one_sync (mo := mo) (nm := nmP) (F := F) h0
  rcases one_write_any (mo := mo) (le := tkD le) hpre.low (secM (nxM m L i mark)) with ⟨c, hc, hw⟩ | ⟨_, hw⟩
  · have hs : storeP (one mo le nmP F) (nxM m L i mark) = (c, one mo (tkD le) nmP (syF F)) := by
      unfold storeP
      rw [hs1, if_pos rfl]
      simp only [hw]
      rw [if_neg hc]
    rw [hs, if_neg hc]
    exact .inr ⟨hc, quiet _ _ h.q.sy⟩
  obtain ⟨k, hkk⟩ : ∃ k, k = (nxM m L i mark).gen % 2 * 8 := ⟨_, rfl⟩
  have hcut := hpre.cut
  have hfirm := hpre.firm (secM (nxM m L i mark))
  have hlen := hpre.len (secM (nxM m L i mark))
  have hsee : Sees (wrF (syF F) k (secM (nxM m L i mark))) k (secM (nxM m L i mark)) := by
    rw [hkk]
    exact Sees.wr hpre.low _
  have hD := fun (G : Fil) => PreF.done (G := G) hpre
  rw [← hkk] at hw hcut hfirm hlen hD
  obtain ⟨G, hG⟩ : ∃ G, G = wrF (syF F) k (secM (nxM m L i mark)) := ⟨_, rfl⟩
  rw [← hG] at hw hcut hfirm hlen hsee
  by_cases h1 : tkD (tkD le) = 0
  · rw [h1] at hw
    have hs : storeP (one mo le nmP F) (nxM m L i mark) = (8, one mo 0 nmP G) := by
      unfold storeP
      rw [hs1, if_pos rfl]
      simp only [← hkk, hw]
      rw [if_pos trivial, pSync_pow rfl]
    rw [hs, if_neg (show ¬ (8 : Int) = 0 by decide)]
    exact .inr ⟨(by decide : (8 : Int) ≠ 0), fun ps => ⟨_, one_crash ps, hcut ps⟩⟩
  · have hs2 := one_sync (mo := mo) (nm := nmP) (F := G) h1
    have hs : storeP (one mo le nmP F) (nxM m L i mark) = (0, one mo (tkD (tkD (tkD le))) nmP (syF G)) := by
      unfold storeP
      rw [hs1, if_pos rfl]
      simp only [← hkk, hw]
      rw [if_pos trivial, hs2]
    have hput2 := h.putle
    have hlG : (syF G).l.length = F.l.length := by rw [syF_length, hlen, syF_length]
    have hkp : keepsB ((one mo (tkD (tkD (tkD le))) nmP (syF G)).len nmP / 8) (L.take put) = true := by
      rw [one_len, hlG]
      exact keeps_take h.keeps put
    rw [hs, if_pos rfl]
    simp only [hkp, if_true]
    left
    refine ⟨trivial, trivial, trivial, trivial, _, syF G, rfl, ?_, ?_, Nat.zero_le _, ?_, rfl, fun i b hb => by simp at hb⟩
    · exact hD _ (fun j hj x hx => sees_firm (hfirm j hj x hx).sees) (by rw [hlG]; exact h.q.full) (sees_firm hsee)
    · rw [one_len]
      have h16 := h.q.long
      have := othP_keeps (L.take put) ((syF G).l.length / 8 - 2)
      rwa [show (syF G).l.length / 8 - 2 + 2 = (syF G).l.length / 8 by omega] at this
    · intro p hp
      obtain ⟨j, j1, j2, j3, j4⟩ := zip_page hp
      have hat := keeps_at h.keeps j j2
      obtain ⟨k1, k2⟩ := (keeps_iff _ _).1 (keeps_take h.keeps put)
      rw [othP_free _ _ _ (fun x hx => (k1 x hx).1) k2]
      intro hx
      obtain ⟨q, e, _, _, hf⟩ := (freeF_mem _ _ _ _).1 hx
      have hm : (q : Int) ∈ L.take put := by
        rw [← e, j3, Int.toNat_of_nonneg (by omega)]
        have : (L.take put)[j]'(by simp; omega) = L.getD j 0 := by simp [List.getD, j2]
        rw [← this]
        exact List.getElem_mem _
      simp [hm] at hf
end
end
section
open Go.RowKit Go.Maps
set_option maxRecDepth 100000
set_option linter.unusedSimpArgs false
set_option linter.unusedVariables false
section
variable {B g fb put mo : Nat} {Y : Nat → Prop} {w0 W w' : World} {S S' : Dv} {m : Mt} {L : List Int} {dead : Bool} {cm : List (Nat × List UInt8)} {bs : List (List UInt8)} {F : Fil} {le : Int}
theorem f_fuse (h : FAt B g fb Y w0 S m L put dead W) (n : Int) (hn : -9223372036854775808 ≤ n ∧ n < 9223372036854775808) :
    Calls Try.prog 25 #[ptr g, .int .i64 n] W fun e w' => e = .returned (.tuple #[]) ∧ FAt B g fb Y w0 { S with left := n } m L put dead w' ∧ KeptX Y W w' := by
  obtain ⟨Z, hat, hdis, hZ, v, hbox, hown, hZv⟩ := h.at_
  refine (at_fuse hat n hn).mono ?_
  rintro e w' ⟨rfl, ha, hk⟩
  exact ⟨rfl, ⟨⟨Z, ha, hdis, hZ, v, (hk.1 fb (.inr hZ)).trans hbox, own_block hown (fun i hi => hk.1 i (.inr (hZv i hi))), hZv⟩, h.lo, h.num, h.putle⟩, fun i hi => hk.1 i (.inl hi), hk.2⟩
/-- a file behind some Puts since the last Commit, with power for some calls -/
structure CrA (B g fb mo : Nat) (Y : Nat → Prop) (w0 : World) (m : Mt) (cm : List (Nat × List UInt8)) (L : List Int) (put : Nat) (bs : List (List UInt8)) (W : World) : Prop where
  ex : ∃ S, FAt B g fb Y w0 S m L put false W ∧ Rn mo m cm L put bs S
theorem CrA.below (h : CrA B g fb mo Y w0 m cm L put bs W) (hb : Below W.heap.size W w') : CrA B g fb mo Y w0 m cm L put bs w' := by
  obtain ⟨S, h1, h2⟩ := h.ex
  exact ⟨S, h1.below hb, h2⟩
theorem CrA.fence (h : CrA B g fb mo Y w0 m cm L put bs W) (hb : Below W.heap.size W w') : CrA B g fb mo (fun i => Y i ∨ (W.heap.size ≤ i ∧ i < w'.heap.size)) w0 m cm L put bs w' := by
  obtain ⟨S, h1, h2⟩ := h.ex
  exact ⟨S, h1.fence hb, h2⟩
theorem CrA.less (h : CrA B g fb mo Y w0 m cm L put bs W) {Y' : Nat → Prop} (hy : ∀ i, Y' i → Y i) : CrA B g fb mo Y' w0 m cm L put bs W := by
  obtain ⟨S, h1, h2⟩ := h.ex
  exact ⟨S, h1.less hy, h2⟩
theorem CrA.grown (h : CrA B g fb mo Y w0 m cm L put bs W) {row : Option Nat} (hg : W.grownBy w' row) (hr : ∀ k, row = some k → Y k) : CrA B g fb mo (fun i => Y i ∨ (W.heap.size ≤ i ∧ i < w'.heap.size)) w0 m cm L put bs w' := by
  obtain ⟨S, h1, h2⟩ := h.ex
  exact ⟨S, h1.grown hg hr, h2⟩
theorem CrA.xs (h : CrA B g fb mo Y w0 m cm L put bs W) : ∀ i, Y i → B ≤ i ∧ i < W.heap.size := by
  obtain ⟨S, h1, h2⟩ := h.ex
  exact h1.dev.xs
theorem CrA.bel (h : CrA B g fb mo Y w0 m cm L put bs W) : Below B w0 W ∧ B ≤ W.heap.size := by
  obtain ⟨S, h1, h2⟩ := h.ex
  exact ⟨h1.dev.bel, h1.dev.le⟩
theorem CrA.dev (h : CrA B g fb mo Y w0 m cm L put bs W) : ∃ S, At B Y w0 g S W ∧ Qt mo m cm S := by
  obtain ⟨S, h1, h2⟩ := h.ex
  exact ⟨S, h1.dev, h2.qt⟩
theorem CrA.num (h : CrA B g fb mo Y w0 m cm L put bs W) : put ≤ L.length ∧ bs.length = put ∧ (∀ x ∈ L, 2 ≤ x ∧ x ≤ 1000000) ∧ (∀ j, j + 1 < (L.take put).length → (L.take put).getD j 0 < (L.take put).getD (j + 1) 0) := by
  obtain ⟨S, h1, h2⟩ := h.ex
  exact ⟨h2.putle.1, h2.putle.2, h1.num, keeps_up (keeps_take h2.few.2.2 put)⟩
theorem cr_fuse (h : CrA B g fb mo Y w0 m cm L put bs W) (n : Int) (hn : -9223372036854775808 ≤ n ∧ n < 9223372036854775808) :
    Calls Try.prog 25 #[ptr g, .int .i64 n] W fun e w' => e = .returned (.tuple #[]) ∧ CrA B g fb mo Y w0 m cm L put bs w' ∧ KeptX Y W w' := by
  obtain ⟨S, h1, h2⟩ := h.ex
  exact (f_fuse h1 n hn).mono fun e w' ⟨a, b, c⟩ => ⟨a, ⟨_, b, h2.fuse n⟩, c⟩
theorem cr_meta (h : CrA B g fb mo Y w0 m cm L put bs W) : Calls Try.prog 16 #[ptr fb] W fun e w' => e = .returned (.agg #[.int .u64 (m.gen : Int), .int .i64 (m.root : Int), .int .i64 (m.count : Int), .int .u64 (m.mark : Int)]) ∧ Below W.heap.size W w' := by
  obtain ⟨S, h1, h2⟩ := h.ex
  exact fmeta_at h1
theorem cr_put (h : CrA B g fb mo Y w0 m cm L put bs W) (b : List UInt8) (A : Option Addr) (c : Nat) (hl : LiesP W Y A (B8 b)) (hc1 : b.length ≤ c) (hc2 : c ≤ maxLen) (hb : b.length ≤ 512) :
    Calls Try.prog 11 #[ptr fb, .slice A b.length c] W fun e w' => ∃ id x : Int, e = .returned (.tuple #[.int .i64 id, .int .i64 x]) ∧ KeptX Y W w' ∧
      ((x = 0 ∧ 2 ≤ id ∧ id ≤ 100000 ∧ ∃ L', L'.take (put + 1) = L.take put ++ [id] ∧ CrA B g fb mo Y w0 m cm L' (put + 1) (bs ++ [b]) w') ∨ ((x != 0) = true ∧ ∃ S', At B Y w0 g S' w' ∧ Qt mo m cm S')) := by
  obtain ⟨S, h1, h2⟩ := h.ex
  obtain ⟨f1, f2, f3⟩ := h2.few
  have hr := h2.puts b hb
  refine (put_any h1 b A c hl hc1 hc2 f1 f2).mono ?_
  rintro e w' ⟨rfl, hf, hk⟩
  refine ⟨_, _, rfl, hk, ?_⟩
  rcases hr with ⟨r1, r2, r3, r4, r5, r6⟩ | ⟨r1, r2⟩
  · rw [r2] at hf
    exact .inl ⟨r1, r4, r5, _, r3, ⟨_, hf, r6⟩⟩
  · exact .inr ⟨bne_iff_ne.2 r1, _, hf.dev, r2⟩
theorem cr_commit (h : CrA B g fb mo Y w0 m cm L put bs W) (hput : 1 ≤ put) (hg : m.gen < 1000000) (i mark : Nat) (hi : i < 1000000) (hmk : mark < 18446744073709551616) (A : Option Addr) (c : Nat) (hl : LiesP W (fun i => Y i ∨ i < B) A (cellsZ (L.take put))) (hc1 : put ≤ c) (hc2 : c ≤ maxLen) :
    Calls Try.prog 14 #[ptr fb, .int .i64 (L.getD 0 0), .int .i64 (i : Int), .int .u64 (mark : Int), .slice A put c] W fun e w' => ∃ x : Int, e = .returned (.int .i64 x) ∧ KeptX Y W w' ∧
      (((x != 0) = false ∧ ∃ L', CrA B g fb mo Y w0 (nxM m L i mark) (nxC L put bs) L' 0 [] w') ∨ ((x != 0) = true ∧ ∃ S', At B Y w0 g S' w' ∧ ∀ ps, ∃ F, crash S' ps = one mo (-1) nmP F ∧ (QF mo m cm F ∨ QF mo (nxM m L i mark) (nxC L put bs) F))) := by
  obtain ⟨S, h1, h2⟩ := h.ex
  have hpl := h2.putle.1
  have hlen : (L.take put).length = put := by rw [List.length_take]; omega
  have hnum := h1.num
  have h0 : L.getD 0 0 ∈ L := by
    simp only [List.getD, List.getElem?_eq_getElem (show 0 < L.length by omega), Option.getD_some]
    exact List.getElem_mem _
  have hn0 := hnum _ h0
  have hr := h2.commit hput hg i mark hi hmk
  have hc := commit_any h1 (L.getD 0 0) (i : Int) mark (L.take put) A c hl (by rw [hlen]; exact hc1) hc2 (fun x hx => by have := hnum x (List.mem_of_mem_take hx); omega) (by omega) (by omega) hmk
  rw [hlen] at hc
  refine hc.mono ?_
  rintro e w' ⟨rfl, hf, hk⟩
  refine ⟨_, rfl, hk, ?_⟩
  rcases hr with ⟨r1, r2, r3, r4, r5⟩ | ⟨r1, r2⟩
  · rw [r2, r3, r4] at hf
    exact .inl ⟨by rw [r1]; rfl, _, ⟨_, hf, r5⟩⟩
  · exact .inr ⟨bne_iff_ne.2 r1, _, hf.dev, r2⟩
/-- a new device, opened -/
theorem cr_start {S : Dv} (h : At B Y w0 g S W) (hS : S = ⟨mo, -1, []⟩) (hr : 16 ≤ mo) (hm : mo ≤ 100000) :
    Calls Try.prog 10 #[ptr g] W fun e w' => ∃ fb, e = .returned (.tuple #[ptr fb, .int .i64 0]) ∧ W.heap.size ≤ fb ∧ CrA B g fb mo Y w0 ⟨1, 0, 0, 0⟩ [] [] 0 [] w' ∧ KeptX Y W w' := by
  subst hS
  obtain ⟨S1, e1, h1⟩ := PD.create hr hm
  obtain ⟨_, F, rfl, l1, l2, l3, p0, p1, _⟩ := h1
  have hq : QF mo ⟨1, 0, 0, 0⟩ [] (syF F) := by
    have s0 := p0 0 (by omega)
    have s1 := p1 0 (by omega)
    have s7 := p1 7 (by omega)
    have e0 : secG (mp none) 0 = zSec := secG_nil 0
    have e1 : secG (mp (some ⟨1, 0, 0, 0⟩)) 0 = secM ⟨1, 0, 0, 0⟩ := secG_meta _
    have e7 : secG (mp (some ⟨1, 0, 0, 0⟩)) 7 = zSec := secG_meta1 _ 7 (by omega)
    rw [e0] at s0
    rw [e1] at s1
    rw [e7] at s7
    refine ⟨hm, ⟨by decide, by decide, by decide, by decide⟩, by decide, by decide, .inl rfl, by rw [syF_length]; exact l3, sees_firm s7, sees_firm s1, ?_, fun p hp => by cases hp⟩
    have := sees_firm s0
    exact ⟨this.1, _, this.2, .inr (.inl rfl)⟩
  have hs : pSync (one mo (-1) nmP F) nmP = (0, one mo (-1) nmP (syF F)) := one_sync (by decide)
  have hop : openP ⟨mo, -1, []⟩ = (0, one mo (-1) nmP (syF F)) := by
    unfold openP
    rw [e1]
    simp only [hs, hq.newest]
    rfl
  refine (open_any h (by show 0 < 1000000; omega)).mono ?_
  rintro e w' ⟨vp, r1, r2, r3, r4⟩
  rw [hop] at r1 r2
  obtain ⟨fb, rfl, hfb, hf⟩ := r2 rfl
  simp only [hq.newest] at hf
  exact ⟨fb, r1, hfb, ⟨_, hf, -1, _, rfl, hq, (keeps_iff _ _).2 ⟨fun x hx => (by cases hx), List.Pairwise.nil⟩, Nat.le_refl _, fun p hp => (by cases hp), rfl, fun i b hb => by simp at hb⟩, r4⟩
/-- what a crash left, opened -/
structure CrG (B g fb mo : Nat) (Y : Nat → Prop) (w0 : World) (m : Mt) (cm : List (Nat × List UInt8)) (W : World) : Prop where
  ex : ∃ F, FAt B g fb Y w0 (one mo (-1) nmP F) m [] 0 false W ∧ QF mo m cm F
theorem CrG.below (h : CrG B g fb mo Y w0 m cm W) (hb : Below W.heap.size W w') : CrG B g fb mo Y w0 m cm w' := by
  obtain ⟨F, h1, h2⟩ := h.ex
  exact ⟨F, h1.below hb, h2⟩
theorem CrG.bel (h : CrG B g fb mo Y w0 m cm W) : Below B w0 W ∧ B ≤ W.heap.size := by
  obtain ⟨F, h1, h2⟩ := h.ex
  exact ⟨h1.dev.bel, h1.dev.le⟩
theorem cg_open (h : At B Y w0 g (one mo (-1) nmP F) W) (hq : QF mo m cm F) : Calls Try.prog 10 #[ptr g] W fun e w' => ∃ fb, e = .returned (.tuple #[ptr fb, .int .i64 0]) ∧ CrG B g fb mo Y w0 m cm w' ∧ KeptX Y W w' := by
  refine (open_any h (by show 1 < 1000000; omega)).mono ?_
  rintro e w' ⟨vp, r1, r2, r3, r4⟩
  rw [hq.opened] at r1 r2
  obtain ⟨fb, rfl, hfb, hf⟩ := r2 rfl
  simp only [hq.sy.newest] at hf
  exact ⟨fb, r1, ⟨_, hf, hq.sy⟩, r4⟩
theorem cg_meta (h : CrG B g fb mo Y w0 m cm W) : Calls Try.prog 16 #[ptr fb] W fun e w' => e = .returned (.agg #[.int .u64 (m.gen : Int), .int .i64 (m.root : Int), .int .i64 (m.count : Int), .int .u64 (m.mark : Int)]) ∧ Below W.heap.size W w' := by
  obtain ⟨F, h1, h2⟩ := h.ex
  exact fmeta_at h1
theorem cg_read (h : CrG B g fb mo Y w0 m cm W) {id : Nat} {b : List UInt8} (hp : (id, b) ∈ cm) (hb : b.length ≤ 512) :
    Calls Try.prog 21 #[ptr fb, .int .i64 (id : Int)] W fun e w' => ∃ (A : Option Addr) (c : Nat), e = .returned (.tuple #[.slice A 512 c, .int .i64 0]) ∧ LiesP w' (fun _ => True) A (B8 (pad b)) ∧ Below W.heap.size W w' := by
  obtain ⟨F, h1, h2⟩ := h.ex
  have hr := h2.read (le := -1) hp hb
  have hh := fread_at h1 (id : Int)
  simp only at hr
  rw [hr] at hh
  refine hh.mono ?_
  rintro e w' ⟨v, rfl, ho, hb2⟩
  have ho2 : w'.ownsRow W.heap.size 5 1 v 512 (B8 (pad b)) := by rw [← pad_length hb]; exact ho
  obtain ⟨A, c, rfl, _, _⟩ := own_form ho2
  exact ⟨A, c, rfl, LiesP.own ho2 (fun _ _ => trivial), hb2⟩
end
end
section
open Go.RowKit Go.Maps
set_option maxRecDepth 100000
set_option linter.unusedSimpArgs false
set_option linter.unusedVariables false
def cellsX (bs : List (List UInt8)) : List Value := bs.map fun b => .string ⟨(pad b).toArray⟩
theorem cellsX_length (bs : List (List UInt8)) : (cellsX bs).length = bs.length * 1 := by simp [cellsX]
def cmOf (ids : List Int) (bs : List (List UInt8)) : List (Nat × List UInt8) := (ids.map Int.toNat).zip bs
/-- a record's box -/
def recB (m : Mt) (u4 u5 : Value) : Array Value := #[.int .u64 (m.gen : Int), .int .i64 (m.root : Int), .int .i64 (m.count : Int), .int .u64 (m.mark : Int), u4, u5]
/-- a record of the law: a meta, the numbers of its pages, and their texts; its rows named -/
structure RecE (Y : Nat → Prop) (w : World) (b : Nat) (m : Mt) (ids : List Int) (bs : List (List UInt8)) (A : Option Addr) (c : Nat) (A' : Option Addr) (c' : Nat) : Prop where
  box : Whole w b 58 (recB m (.slice A ids.length c) (.slice A' ids.length c'))
  row : w.ownsRow 0 3 1 (.slice A ids.length c) ids.length (cellsZ ids)
  txt : w.ownsRow 0 9 1 (.slice A' ids.length c') ids.length (cellsX bs)
  yI : ∀ i, (Value.slice A ids.length c).ownBlock = some i → Y i
  yT : ∀ i, (Value.slice A' ids.length c').ownBlock = some i → Y i
  y : Y b
  len : bs.length = ids.length
  fit : ∀ b ∈ bs, b.length ≤ 512
  num : ∀ x ∈ ids, 2 ≤ x
def RecAt (Y : Nat → Prop) (w : World) (b : Nat) (m : Mt) (ids : List Int) (bs : List (List UInt8)) : Prop := ∃ A c A' c', RecE Y w b m ids bs A c A' c'
section
variable {Y Y' : Nat → Prop} {w w' : World} {b b2 : Nat} {m : Mt} {ids : List Int} {bs : List (List UInt8)} {A A' : Option Addr} {c c' : Nat}
theorem RecE.kept (h : RecE Y w b m ids bs A c A' c') (hk : ∀ i, Y i → w'.heap[i]? = w.heap[i]?) : RecE Y w' b m ids bs A c A' c' :=
  ⟨(hk b h.y).trans h.box, own_block h.row (fun i hi => hk i (h.yI i hi)), own_block h.txt (fun i hi => hk i (h.yT i hi)), h.yI, h.yT, h.y, h.len, h.fit, h.num⟩
theorem RecE.more (h : RecE Y w b m ids bs A c A' c') (hy : ∀ i, Y i → Y' i) : RecE Y' w b m ids bs A c A' c' :=
  ⟨h.box, h.row, h.txt, fun i hi => hy i (h.yI i hi), fun i hi => hy i (h.yT i hi), hy b h.y, h.len, h.fit, h.num⟩
theorem RecAt.kept (h : RecAt Y w b m ids bs) (hk : ∀ i, Y i → w'.heap[i]? = w.heap[i]?) (_hs : w.heap.size ≤ w'.heap.size) : RecAt Y w' b m ids bs := by
  obtain ⟨A, c, A', c', h⟩ := h
  exact ⟨A, c, A', c', h.kept hk⟩
theorem RecAt.more (h : RecAt Y w b m ids bs) (hy : ∀ i, Y i → Y' i) : RecAt Y' w b m ids bs := by
  obtain ⟨A, c, A', c', h⟩ := h
  exact ⟨A, c, A', c', h.more hy⟩
theorem RecE.below (h : RecE Y w b m ids bs A c A' c') (hb : Below w.heap.size w w') : RecE Y w' b m ids bs A c A' c' :=
  ⟨h.box.below hb h.box.lt, own_block h.row (fun i hi => hb.block i (h.row.lt i hi).2), own_block h.txt (fun i hi => hb.block i (h.txt.lt i hi).2), h.yI, h.yT, h.y, h.len, h.fit, h.num⟩
/-- a store into another box leaves a record -/
theorem RecE.aside (h : RecE Y w b m ids bs A c A' c') (hg : w.grownBy w' (some b2)) {cs : Array Value} (hb2 : Whole w b2 58 cs) (hne : b ≠ b2) : RecE Y w' b m ids bs A c A' c' := by
  have h1 := whole_apart hb2 h.row (by decide)
  have h2 := whole_apart hb2 h.txt (by decide)
  exact ⟨(hg.block b h.box.lt (fun e => hne (by injection e))).trans h.box, own_block h.row (fun i hi => hg.block i (h.row.lt i hi).2 (fun e => h1 (by rw [← e, hi]))), own_block h.txt (fun i hi => hg.block i (h.txt.lt i hi).2 (fun e => h2 (by rw [← e, hi]))), h.yI, h.yT, h.y, h.len, h.fit, h.num⟩
theorem RecE.cells (h : RecE Y w b m ids bs A c A' c') : ids.length ≤ c ∧ c ≤ maxLen ∧ ids.length ≤ c' ∧ c' ≤ maxLen := by
  obtain ⟨_, _, e1, h1, h2⟩ := own_form h.row
  obtain ⟨_, _, e2, h3, h4⟩ := own_form h.txt
  injection e1 with _ _ e3
  injection e2 with _ _ e4
  subst e3 e4
  exact ⟨h1, h2, h3, h4⟩
theorem Whole.put6 {w : World} {g : Nat} {t : TypeId} {a0 a1 a2 a3 a4 a5 : Value} (h : Whole w g t #[a0, a1, a2, a3, a4, a5]) (u0 u1 u2 u3 u4 u5 : Value) :
    Whole ((((((w.setCell ⟨g, 0, none⟩ u0).setCell ⟨g, 1, none⟩ u1).setCell ⟨g, 2, none⟩ u2).setCell ⟨g, 3, none⟩ u3).setCell ⟨g, 4, none⟩ u4).setCell ⟨g, 5, none⟩ u5) g t #[u0, u1, u2, u3, u4, u5] :=
  Whole.put (Whole.put (Whole.put (Whole.put (Whole.put (Whole.put h 0 u0) 1 u1) 2 u2) 3 u3) 4 u4) 5 u5
theorem Whole.six {w : World} {g : Nat} {t : TypeId} {a0 a1 a2 a3 a4 a5 : Value} (h : Whole w g t #[a0, a1, a2, a3, a4, a5]) : w.cell? ⟨g, 0, none⟩ = some a0 ∧ w.cell? ⟨g, 1, none⟩ = some a1 ∧ w.cell? ⟨g, 2, none⟩ = some a2 ∧ w.cell? ⟨g, 3, none⟩ = some a3 ∧ w.cell? ⟨g, 4, none⟩ = some a4 ∧ w.cell? ⟨g, 5, none⟩ = some a5 :=
  ⟨(Whole.cell h 0).trans rfl, (Whole.cell h 1).trans rfl, (Whole.cell h 2).trans rfl, (Whole.cell h 3).trans rfl, (Whole.cell h 4).trans rfl, (Whole.cell h 5).trans rfl⟩
/-- a store into a block leaves the others -/
theorem grown_set {w : World} {b j : Nat} {u : Value} : w.grownBy (w.setCell ⟨b, j, none⟩ u) (some b) := ⟨rfl, rfl, rfl, by simp, fun k hk hne => Below.heap_setCell w ⟨b, j, none⟩ u k (fun e => hne (by rw [e]))⟩
theorem grown_trans {a b c : World} {r : Option Nat} (h : a.grownBy b r) (k : b.grownBy c r) : a.grownBy c r := ⟨k.os.trans h.os, k.tape.trans h.tape, k.output.trans h.output, Nat.le_trans h.size k.size, fun i hi hne => (k.block i (Nat.lt_of_lt_of_le hi h.size) hne).trans (h.block i hi hne)⟩
theorem grown_six {w : World} {g : Nat} (u0 u1 u2 u3 u4 u5 : Value) : w.grownBy ((((((w.setCell ⟨g, 0, none⟩ u0).setCell ⟨g, 1, none⟩ u1).setCell ⟨g, 2, none⟩ u2).setCell ⟨g, 3, none⟩ u3).setCell ⟨g, 4, none⟩ u4).setCell ⟨g, 5, none⟩ u5) (some g) :=
  grown_trans (grown_trans (grown_trans (grown_trans (grown_trans grown_set grown_set) grown_set) grown_set) grown_set) grown_set
theorem grown_four {w : World} {g : Nat} (u0 u1 u2 u3 : Value) : w.grownBy ((((w.setCell ⟨g, 0, none⟩ u0).setCell ⟨g, 1, none⟩ u1).setCell ⟨g, 2, none⟩ u2).setCell ⟨g, 3, none⟩ u3) (some g) :=
  grown_trans (grown_trans (grown_trans grown_set grown_set) grown_set) grown_set
/-- a record written over another one -/
theorem RecE.over (h : RecE Y w b m ids bs A c A' c') {cs : Array Value} (hb2 : Whole w b2 58 cs) (hs : cs.size = 6) (hy : Y b2) :
    RecE Y ((((((w.setCell ⟨b2, 0, none⟩ (.int .u64 (m.gen : Int))).setCell ⟨b2, 1, none⟩ (.int .i64 (m.root : Int))).setCell ⟨b2, 2, none⟩ (.int .i64 (m.count : Int))).setCell ⟨b2, 3, none⟩ (.int .u64 (m.mark : Int))).setCell ⟨b2, 4, none⟩ (.slice A ids.length c)).setCell ⟨b2, 5, none⟩ (.slice A' ids.length c')) b2 m ids bs A c A' c' := by
  have hg := grown_six (w := w) (g := b2) (.int .u64 (m.gen : Int)) (.int .i64 (m.root : Int)) (.int .i64 (m.count : Int)) (.int .u64 (m.mark : Int)) (.slice A ids.length c) (.slice A' ids.length c')
  have h1 := whole_apart hb2 h.row (by decide)
  have h2 := whole_apart hb2 h.txt (by decide)
  obtain ⟨cs⟩ := cs
  match cs, hs with
  | [a0, a1, a2, a3, a4, a5], _ =>
    exact ⟨Whole.put6 hb2 _ _ _ _ _ _, own_block h.row (fun i hi => hg.block i (h.row.lt i hi).2 (fun e => h1 (by rw [← e, hi]))), own_block h.txt (fun i hi => hg.block i (h.txt.lt i hi).2 (fun e => h2 (by rw [← e, hi]))), h.yI, h.yT, hy, h.len, h.fit, h.num⟩
end
def mt0 : Mt := ⟨0, 0, 0, 0⟩
/-- within a round: the file behind some Puts; the records of what was kept; the next one's box and its rows -/
structure CwA (B g fb : Nat) (w0 : World) (base bx bw bn : Nat) (YR : Nat → Prop) (m : Mt) (idsR : List Int) (bsR : List (List UInt8)) (L : List Int) (k : Nat) (bs : List (List UInt8)) (mx : Mt) (u4 u5 vI : Value) (nI : Nat) (idsN : List Int) (vT : Value) (nT : Nat) (tsN : List (List UInt8)) (Y : Nat → Prop) (w : World) : Prop where
  a : CrA B g fb 3000 Y w0 m (cmOf idsR bsR) L k bs w
  sub : ∀ i, YR i → Y i
  yx : Y bx
  yI : ∀ i, vI.ownBlock = some i → Y i
  yT : ∀ i, vT.ownBlock = some i → Y i
  rw : RecAt YR w bw m idsR bsR
  rn : RecAt YR w bn m idsR bsR
  low : ∀ i, YR i → i < base
  box : Whole w bx 58 (recB mx u4 u5)
  lb : base ≤ bx
  ids : w.ownsRow base 3 1 vI nI (cellsZ idsN)
  txt : w.ownsRow base 9 1 vT nT (cellsX tsN)
  le : base ≤ w.heap.size
/-- a Put that failed -/
structure CwB (B g : Nat) (w0 : World) (bx bw bn : Nat) (YR : Nat → Prop) (m : Mt) (idsR : List Int) (bsR : List (List UInt8)) (mx : Mt) (u4 u5 : Value) (Y : Nat → Prop) (w : World) : Prop where
  a : ∃ S, At B Y w0 g S w ∧ Qt 3000 m (cmOf idsR bsR) S
  sub : ∀ i, YR i → Y i
  rw : RecAt YR w bw m idsR bsR
  rn : RecAt YR w bn m idsR bsR
  box : Whole w bx 58 (recB mx u4 u5)
  yx : Y bx
section
variable {B g fb base bx bw bn k nI nT i mark : Nat} {w0 w w' : World} {YR Y : Nat → Prop} {m mx : Mt} {idsR idsN L : List Int} {bsR bs tsN : List (List UInt8)} {u4 u5 vI vT : Value}
theorem CwA.below (h : CwA B g fb w0 base bx bw bn YR m idsR bsR L k bs mx u4 u5 vI nI idsN vT nT tsN Y w) (hb : Below w.heap.size w w') : CwA B g fb w0 base bx bw bn YR m idsR bsR L k bs mx u4 u5 vI nI idsN vT nT tsN Y w' := by
  have hk : ∀ i, Y i → w'.heap[i]? = w.heap[i]? := fun i hi => hb.block i (h.a.xs i hi).2
  exact ⟨h.a.below hb, h.sub, h.yx, h.yI, h.yT, h.rw.kept (fun i hi => hk i (h.sub i hi)) hb.size, h.rn.kept (fun i hi => hk i (h.sub i hi)) hb.size, h.low, (hk bx h.yx).trans h.box, h.lb, own_block h.ids (fun i hi => hk i (h.yI i hi)), own_block h.txt (fun i hi => hk i (h.yT i hi)), Nat.le_trans h.le hb.size⟩
/-- what is new is the law's own from now on -/
theorem CwA.fence (h : CwA B g fb w0 base bx bw bn YR m idsR bsR L k bs mx u4 u5 vI nI idsN vT nT tsN Y w) (hb : Below w.heap.size w w') : CwA B g fb w0 base bx bw bn YR m idsR bsR L k bs mx u4 u5 vI nI idsN vT nT tsN (fun i => Y i ∨ (w.heap.size ≤ i ∧ i < w'.heap.size)) w' := by
  have h2 := h.below hb
  exact ⟨h.a.fence hb, fun i hi => .inl (h.sub i hi), .inl h.yx, fun i hi => .inl (h.yI i hi), fun i hi => .inl (h.yT i hi), h2.rw, h2.rn, h.low, h2.box, h.lb, h2.ids, h2.txt, h2.le⟩
theorem CwA.blt (h : CwA B g fb w0 base bx bw bn YR m idsR bsR L k bs mx u4 u5 vI nI idsN vT nT tsN Y w) : bx < w.heap.size := h.box.lt
/-- a number more -/
theorem CwA.appI (h : CwA B g fb w0 base bx bw bn YR m idsR bsR L k bs mx u4 u5 vI nI idsN vT nT tsN Y w) {v : Value} {n : Nat} {l : List Int} (ho : w'.ownsRow base 3 1 v n (cellsZ l)) (hg : w.grownBy w' vI.ownBlock) (hv : v.ownBlock = vI.ownBlock ∨ v.ownBlock = some w.heap.size) :
    CwA B g fb w0 base bx bw bn YR m idsR bsR L k bs mx u4 u5 v n l vT nT tsN (fun i => Y i ∨ (w.heap.size ≤ i ∧ i < w'.heap.size)) w' := by
  have hx := whole_apart h.box h.ids (by decide)
  have hap := own_apart_types h.txt h.ids (by decide)
  have hR : ∀ i, YR i → w'.heap[i]? = w.heap[i]? := fun i hi => hg.block i (h.a.xs i (h.sub i hi)).2 (fun e => by
    have h1 := (h.ids.lt i e.symm).1
    have h2 := h.low i hi
    omega)
  refine ⟨h.a.grown hg (fun i hi => h.yI i hi), fun i hi => .inl (h.sub i hi), .inl h.yx, fun i hi => ?_, fun i hi => .inl (h.yT i hi), h.rw.kept hR hg.size, h.rn.kept hR hg.size, h.low, (hg.block bx h.blt hx).trans h.box, h.lb, ho, own_block h.txt (fun i hi => hg.block i (h.txt.lt i hi).2 (fun e => ?_)), Nat.le_trans h.le hg.size⟩
  · rcases hv with e | e
    · rw [e] at hi; exact .inl (h.yI i hi)
    · have h2 := (ho.lt i hi).2
      rw [e] at hi
      have h1 := Option.some.inj hi
      exact .inr ⟨by omega, h2⟩
  · rcases hap with h1 | h1
    · rw [h1] at hi; cases hi
    · exact h1 (hi.trans e)
/-- a text more -/
theorem CwA.appT (h : CwA B g fb w0 base bx bw bn YR m idsR bsR L k bs mx u4 u5 vI nI idsN vT nT tsN Y w) {v : Value} {n : Nat} {l : List (List UInt8)} (ho : w'.ownsRow base 9 1 v n (cellsX l)) (hg : w.grownBy w' vT.ownBlock) (hv : v.ownBlock = vT.ownBlock ∨ v.ownBlock = some w.heap.size) :
    CwA B g fb w0 base bx bw bn YR m idsR bsR L k bs mx u4 u5 vI nI idsN v n l (fun i => Y i ∨ (w.heap.size ≤ i ∧ i < w'.heap.size)) w' := by
  have hx := whole_apart h.box h.txt (by decide)
  have hap := own_apart_types h.ids h.txt (by decide)
  have hR : ∀ i, YR i → w'.heap[i]? = w.heap[i]? := fun i hi => hg.block i (h.a.xs i (h.sub i hi)).2 (fun e => by
    have h1 := (h.txt.lt i e.symm).1
    have h2 := h.low i hi
    omega)
  refine ⟨h.a.grown hg (fun i hi => h.yT i hi), fun i hi => .inl (h.sub i hi), .inl h.yx, fun i hi => .inl (h.yI i hi), fun i hi => ?_, h.rw.kept hR hg.size, h.rn.kept hR hg.size, h.low, (hg.block bx h.blt hx).trans h.box, h.lb, own_block h.ids (fun i hi => hg.block i (h.ids.lt i hi).2 (fun e => ?_)), ho, Nat.le_trans h.le hg.size⟩
  · rcases hv with e | e
    · rw [e] at hi; exact .inl (h.yT i hi)
    · have h2 := (ho.lt i hi).2
      rw [e] at hi
      have h1 := Option.some.inj hi
      exact .inr ⟨by omega, h2⟩
  · rcases hap with h1 | h1
    · rw [h1] at hi; cases hi
    · exact h1 (hi.trans e)
/-- a cell of the next record's box is stored -/
theorem CwA.store (h : CwA B g fb w0 base bx bw bn YR m idsR bsR L k bs mx u4 u5 vI nI idsN vT nT tsN Y w) {my : Mt} {v4 v5 : Value} (hg : w.grownBy w' (some bx)) (hs : w'.heap.size = w.heap.size) (hb : Whole w' bx 58 (recB my v4 v5)) :
    CwA B g fb w0 base bx bw bn YR m idsR bsR L k bs my v4 v5 vI nI idsN vT nT tsN Y w' := by
  have hx := whole_apart h.box h.ids (by decide)
  have hx2 := whole_apart h.box h.txt (by decide)
  have hR : ∀ i, YR i → w'.heap[i]? = w.heap[i]? := fun i hi => hg.block i (h.a.xs i (h.sub i hi)).2 (fun e => by
    have h1 := Option.some.inj e
    have h2 := h.low i hi
    have h3 := h.lb
    omega)
  exact ⟨(h.a.grown hg (fun i hi => by rw [← Option.some.inj hi]; exact h.yx)).less (fun i hi => .inl hi), h.sub, h.yx, h.yI, h.yT, h.rw.kept hR hg.size, h.rn.kept hR hg.size, h.low, hb, h.lb, own_block h.ids (fun i hi => hg.block i (h.ids.lt i hi).2 (fun e => hx (by rw [← e, hi]))), own_block h.txt (fun i hi => hg.block i (h.txt.lt i hi).2 (fun e => hx2 (by rw [← e, hi]))), by rw [hs]; exact h.le⟩
theorem CwA.st4 (h : CwA B g fb w0 base bx bw bn YR m idsR bsR L k bs mx u4 u5 vI nI idsN vT nT tsN Y w) (v : Value) : CwA B g fb w0 base bx bw bn YR m idsR bsR L k bs mx v u5 vI nI idsN vT nT tsN Y (w.setCell ⟨bx, 4, none⟩ v) :=
  h.store grown_set (by simp) (h.box.put 4 v)
theorem CwA.st5 (h : CwA B g fb w0 base bx bw bn YR m idsR bsR L k bs mx u4 u5 vI nI idsN vT nT tsN Y w) (v : Value) : CwA B g fb w0 base bx bw bn YR m idsR bsR L k bs mx u4 v vI nI idsN vT nT tsN Y (w.setCell ⟨bx, 5, none⟩ v) :=
  h.store grown_set (by simp) (h.box.put 5 v)
theorem cw_fill (h : CwA B g fb w0 base bx bw bn YR m idsR bsR L k bs mx u4 u5 vI nI idsN vT nT tsN Y w) (v : Int) (hv : -9223372036854775808 ≤ v ∧ v < 9223372036854775808) :
    Calls Try.prog 12 #[.int .i64 v] w fun e w' => ∃ (A : Option Addr) (c : Nat) (Y' : Nat → Prop), e = .returned (.slice A (fillB v).length c) ∧ (fillB v).length ≤ c ∧ c ≤ maxLen ∧ CwA B g fb w0 base bx bw bn YR m idsR bsR L k bs mx u4 u5 vI nI idsN vT nT tsN Y' w' ∧ LiesP w' Y' A (B8 (fillB v)) := by
  refine (fill_any v hv w).mono ?_
  rintro e w' ⟨A, c, rfl, ho, hb⟩
  obtain ⟨A2, c2, e2, h1, h2⟩ := own_form ho
  injection e2 with e3 _ e4
  subst e3 e4
  exact ⟨A, c, _, rfl, h1, h2, h.fence hb, LiesP.own ho (fun i hi => .inr (ho.lt i hi))⟩
theorem cw_put (h : CwA B g fb w0 base bx bw bn YR m idsR bsR L k bs mx u4 u5 vI nI idsN vT nT tsN Y w) (b : List UInt8) (A : Option Addr) (c : Nat) (hl : LiesP w Y A (B8 b)) (hc1 : b.length ≤ c) (hc2 : c ≤ maxLen) (hb : b.length ≤ 512) :
    Calls Try.prog 11 #[ptr fb, .slice A b.length c] w fun e w' => ∃ id x : Int, e = .returned (.tuple #[.int .i64 id, .int .i64 x]) ∧
      ((x = 0 ∧ 2 ≤ id ∧ id ≤ 100000 ∧ ∃ L', L'.take (k + 1) = L.take k ++ [id] ∧ CwA B g fb w0 base bx bw bn YR m idsR bsR L' (k + 1) (bs ++ [b]) mx u4 u5 vI nI idsN vT nT tsN Y w') ∨ ((x != 0) = true ∧ CwB B g w0 bx bw bn YR m idsR bsR mx u4 u5 Y w')) := by
  refine (cr_put h.a b A c hl hc1 hc2 hb).mono ?_
  rintro e w' ⟨id, x, rfl, hk, hr⟩
  have hR : ∀ i, YR i → w'.heap[i]? = w.heap[i]? := fun i hi => hk.1 i (h.sub i hi)
  refine ⟨id, x, rfl, ?_⟩
  rcases hr with ⟨r1, r2, r3, L', r4, r5⟩ | ⟨r1, S', r2, r3⟩
  · exact .inl ⟨r1, r2, r3, L', r4, r5, h.sub, h.yx, h.yI, h.yT, h.rw.kept hR hk.2, h.rn.kept hR hk.2, h.low, (hk.1 bx h.yx).trans h.box, h.lb, own_block h.ids (fun i hi => hk.1 i (h.yI i hi)), own_block h.txt (fun i hi => hk.1 i (h.yT i hi)), Nat.le_trans h.le hk.2⟩
  · exact .inr ⟨r1, ⟨S', r2, r3⟩, h.sub, h.rw.kept hR hk.2, h.rn.kept hR hk.2, (hk.1 bx h.yx).trans h.box, h.yx⟩
/-- a commit: the next record is whole; it went well, or a crash leaves the one or the other -/
theorem cw_commit (h : CwA B g fb w0 base bx bw bn YR m idsR bsR L k bs (nxM m L i mark) vI vT vI k (L.take k) vT k bs Y w) (hput : 1 ≤ k) (hgn : m.gen < 1000000) (hi : i < 1000000) (hmk : mark < 18446744073709551616) (hfit : ∀ b ∈ bs, b.length ≤ 512) (A : Option Addr) (c : Nat) (hl : LiesP w Y A (cellsZ (L.take k))) (hc1 : k ≤ c) (hc2 : c ≤ maxLen) :
    Calls Try.prog 14 #[ptr fb, .int .i64 (L.getD 0 0), .int .i64 (i : Int), .int .u64 (mark : Int), .slice A k c] w fun e w' => ∃ x : Int, e = .returned (.int .i64 x) ∧ RecAt YR w' bw m idsR bsR ∧ RecAt YR w' bn m idsR bsR ∧ (∃ A1 c1 A2 c2, vI = .slice A1 k c1 ∧ vT = .slice A2 k c2 ∧ RecE Y w' bx (nxM m L i mark) (L.take k) bs A1 c1 A2 c2) ∧
      (((x != 0) = false ∧ ∃ L', CrA B g fb 3000 Y w0 (nxM m L i mark) (cmOf (L.take k) bs) L' 0 [] w') ∨ ((x != 0) = true ∧ ∃ S', At B Y w0 g S' w' ∧ ∀ ps, ∃ F, crash S' ps = one 3000 (-1) nmP F ∧ (QF 3000 m (cmOf idsR bsR) F ∨ QF 3000 (nxM m L i mark) (cmOf (L.take k) bs) F))) := by
  obtain ⟨hpl, hbl, hnum, _⟩ := h.a.num
  have hlen : (L.take k).length = k := by rw [List.length_take]; omega
  refine (cr_commit h.a hput hgn i mark hi hmk A c (hl.mono (fun i _ hi => .inl hi)) hc1 hc2).mono ?_
  rintro e w' ⟨x, rfl, hk, hr⟩
  have hR : ∀ i, YR i → w'.heap[i]? = w.heap[i]? := fun i hi => hk.1 i (h.sub i hi)
  refine ⟨x, rfl, h.rw.kept hR hk.2, h.rn.kept hR hk.2, ?_, hr⟩
  obtain ⟨A1, c1, rfl, _, _⟩ := own_form h.ids
  obtain ⟨A2, c2, rfl, _, _⟩ := own_form h.txt
  refine ⟨A1, c1, A2, c2, rfl, rfl, ?_⟩
  refine ⟨by rw [hlen]; exact (hk.1 bx h.yx).trans h.box, by rw [hlen]; exact own_less9 (own_block h.ids (fun i hi => hk.1 i (h.yI i hi))) (Nat.zero_le _), by rw [hlen]; exact own_less9 (own_block h.txt (fun i hi => hk.1 i (h.yT i hi))) (Nat.zero_le _), by rw [hlen]; exact h.yI, by rw [hlen]; exact h.yT, h.yx, by rw [hlen]; exact hbl, hfit, fun x hx => (hnum x (List.mem_of_mem_take hx)).1⟩
end
/-- between two rounds -/
def CkO (W : World) (g fb bw bn L0 : Nat) (v12 : Value) (wr : World) : Prop :=
  ∃ (i : Nat) (Y : Nat → Prop) (m : Mt) (ids : List Int) (bs : List (List UInt8)) (L : List Int), v12 = .int .i64 (i : Int) ∧ i ≤ L0 ∧ i ≤ 8 ∧ m.gen = i + 1 ∧ CrA W.heap.size g fb 3000 Y W m (cmOf ids bs) L 0 [] wr ∧ RecAt Y wr bw m ids bs ∧ RecAt Y wr bn m ids bs
/-- behind the rounds: what a crash leaves -/
def CkX (W : World) (g bw bn : Nat) (wx : World) : Prop :=
  ∃ (Y : Nat → Prop) (S : Dv) (mW : Mt) (idsW : List Int) (bsW : List (List UInt8)) (mN : Mt) (idsN : List Int) (bsN : List (List UInt8)), At W.heap.size Y W g S wx ∧ RecAt Y wx bw mW idsW bsW ∧ RecAt Y wx bn mN idsN bsN ∧ (mW = mN → idsW = idsN ∧ bsW = bsN) ∧
    ∀ ps, ∃ F, crash S ps = one 3000 (-1) nmP F ∧ (QF 3000 mW (cmOf idsW bsW) F ∨ QF 3000 mN (cmOf idsN bsN) F)
/-- behind i Puts of a round -/
def CkP (W : World) (g fb base bx bw bn : Nat) (YR : Nat → Prop) (m : Mt) (idsR : List Int) (bsR : List (List UInt8)) (c : Nat) (v14 : Value) (wr : World) : Prop :=
  ∃ (k : Nat) (Y : Nat → Prop) (L : List Int) (bs : List (List UInt8)) (vI vT : Value), v14 = .int .i64 (k : Int) ∧ k ≤ c + 1 ∧ CwA W.heap.size g fb W base bx bw bn YR m idsR bsR L k bs mt0 vI vT vI k (L.take k) vT k bs Y wr
/-- behind a round's Puts: q of them, or fewer -/
def CkQ (W : World) (g fb base bx bw bn : Nat) (YR : Nat → Prop) (m : Mt) (idsR : List Int) (bsR : List (List UInt8)) (q : Nat) (wr : World) : Prop :=
  (∃ (Y : Nat → Prop) (L : List Int) (bs : List (List UInt8)) (vI vT : Value), CwA W.heap.size g fb W base bx bw bn YR m idsR bsR L q bs mt0 vI vT vI q (L.take q) vT q bs Y wr) ∨
  ∃ (Y : Nat → Prop) (A : Option Addr) (cA k : Nat) (u5 : Value), k < q ∧ CwB W.heap.size g W bx bw bn YR m idsR bsR mt0 (.slice A k cA) u5 Y wr
/-- a round that broke off -/
theorem CwB.fin {W : World} {g bx bw bn : Nat} {YR Y : Nat → Prop} {m mx : Mt} {idsR : List Int} {bsR : List (List UInt8)} {u4 u5 : Value} {w : World} (h : CwB W.heap.size g W bx bw bn YR m idsR bsR mx u4 u5 Y w) : CkX W g bw bn w := by
  obtain ⟨S, h1, h2⟩ := h.a
  exact ⟨Y, S, m, idsR, bsR, m, idsR, bsR, h1, h.rw.more h.sub, h.rn.more h.sub, fun _ => ⟨rfl, rfl⟩, fun ps => by obtain ⟨F, e, q⟩ := h2.crash ps; exact ⟨F, e, .inl q⟩⟩
theorem CkO.fin {W : World} {g fb bw bn : Nat} {Y : Nat → Prop} {m : Mt} {ids L : List Int} {bs : List (List UInt8)} {w : World} (h : CrA W.heap.size g fb 3000 Y W m (cmOf ids bs) L 0 [] w) (h1 : RecAt Y w bw m ids bs) (h2 : RecAt Y w bn m ids bs) : CkX W g bw bn w := by
  obtain ⟨S, d1, d2⟩ := h.dev
  exact ⟨Y, S, m, ids, bs, m, ids, bs, d1, h1, h2, fun _ => ⟨rfl, rfl⟩, fun ps => by obtain ⟨F, e, q⟩ := d2.crash ps; exact ⟨F, e, .inl q⟩⟩
end
end Go.Proofs.Ytcmffifehpbjnaa
