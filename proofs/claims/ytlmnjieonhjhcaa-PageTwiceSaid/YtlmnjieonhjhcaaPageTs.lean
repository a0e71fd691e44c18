/- Layer 9: PageTwice: what stands between two steps of the law. -/
import Derived.Test.YtlmnjieonhjhcaaPageTx
import Derived.Test.YtlmnjieonhjhcaaPageMt
namespace Go.Proofs.Ytlmnjieonhjhcaa
open Go.RowKit Go.Maps
set_option maxRecDepth 100000
set_option linter.unusedSimpArgs false
set_option linter.unusedVariables false
def MtTwo (a0 a1 : Option Mt) (m : Mt) (n : Nat) : Prop :=
  paQ a0 a1 m.gen = some m ∧ (∀ m', paQ a0 a1 (m.gen + 1) = some m' → m'.gen < m.gen ∧ m'.fit) ∧ m.fit ∧ 0 < m.gen ∧ m.count ≤ 4611686018427387904 ∧ (m.root = 0 ∨ (2 ≤ m.root ∧ m.root < n))
theorem mtTwo_start : MtTwo none (some ⟨1, 0, 0, 0⟩) ⟨1, 0, 0, 0⟩ 2 := ⟨rfl, (fun m' h => by cases h), ⟨by decide, by decide, by decide, by decide⟩, by decide, by decide, .inl rfl⟩
theorem mtTwo_next {a0 a1 : Option Mt} {m m' : Mt} {n n' : Nat} (h : MtTwo a0 a1 m n) (hg : m'.gen = m.gen + 1) (hf : m'.fit) (hc : m'.count ≤ 4611686018427387904) (hr : m'.root = 0 ∨ (2 ≤ m'.root ∧ m'.root < n')) : MtTwo (st0 a0 m') (st1 a1 m') m' n' := by
  obtain ⟨h1, h2, h3, h4, h5, h6⟩ := h
  have e1 : paQ (st0 a0 m') (st1 a1 m') m'.gen = some m' := by
    unfold paQ st0 st1
    by_cases e : m'.gen % 2 = 0
    · rw [if_pos e, if_pos e]
    · rw [if_neg e, if_neg e]
  have e2 : paQ (st0 a0 m') (st1 a1 m') (m'.gen + 1) = some m := by
    rw [← h1, hg]
    unfold paQ st0 st1
    rw [hg]
    by_cases e : m.gen % 2 = 0
    · rw [if_pos (show (m.gen + 1 + 1) % 2 = 0 by omega), if_neg (show ¬ (m.gen + 1) % 2 = 0 by omega), if_pos e]
    · rw [if_neg (show ¬ (m.gen + 1 + 1) % 2 = 0 by omega), if_pos (show (m.gen + 1) % 2 = 0 by omega), if_neg e]
  exact ⟨e1, fun m2 hm => by
    rw [e2] at hm
    cases hm
    exact ⟨by omega, h3⟩, hf, by omega, hc, hr⟩
theorem mtTwo_fit {a0 a1 : Option Mt} {m : Mt} {n : Nat} (h : MtTwo a0 a1 m n) : (∀ x, a0 = some x → x.fit) ∧ (∀ x, a1 = some x → x.fit) := by
  obtain ⟨h1, h2, h3, h4, h5, h6⟩ := h
  unfold paQ at h1 h2
  by_cases e : m.gen % 2 = 0
  · rw [if_pos e] at h1
    rw [if_neg (show ¬ (m.gen + 1) % 2 = 0 by omega)] at h2
    exact ⟨fun x hx => by rw [h1] at hx; cases hx; exact h3, fun x hx => (h2 x hx).2⟩
  · rw [if_neg e] at h1
    rw [if_pos (show (m.gen + 1) % 2 = 0 by omega)] at h2
    exact ⟨fun x hx => (h2 x hx).2, fun x hx => by rw [h1] at hx; cases hx; exact h3⟩
theorem newM_le {a : Option Mt} {p n : Nat} {best : Mt} : newM a p n best = best ∨ ∃ x, a = some x ∧ newM a p n best = x := by
  unfold newM
  cases a with
  | none => exact .inl rfl
  | some x =>
    by_cases h : mtGood x p n ∧ best.gen < x.gen
    · exact .inr ⟨x, rfl, by simp [h]⟩
    · exact .inl (by simp [h])
theorem mtTwo_new {a0 a1 : Option Mt} {m : Mt} {n : Nat} (h : MtTwo a0 a1 m n) : newM a1 1 n (newM a0 0 n ⟨0, 0, 0, 0⟩) = m := by
  obtain ⟨h1, h2, h3, h4, h5, h6⟩ := h
  unfold paQ at h1 h2
  by_cases e : m.gen % 2 = 0
  · rw [if_pos e] at h1
    rw [if_neg (show ¬ (m.gen + 1) % 2 = 0 by omega)] at h2
    subst h1
    rw [newM_some ⟨h4, e, h6, h5⟩ h4]
    cases a1 with
    | none => rfl
    | some x => exact newM_old (by have := (h2 x rfl).1; omega)
  · rw [if_neg e] at h1
    rw [if_pos (show (m.gen + 1) % 2 = 0 by omega)] at h2
    subst h1
    refine newM_some ⟨h4, by omega, h6, h5⟩ ?_
    rcases newM_le (a := a0) (p := 0) (n := n) (best := ⟨0, 0, 0, 0⟩) with e2 | ⟨x, hx, e2⟩
    · rw [e2]; exact h4
    · rw [e2]; exact (h2 x hx).1
theorem mtTwo_mono {a0 a1 : Option Mt} {m : Mt} {n n' : Nat} (h : MtTwo a0 a1 m n) (hn : n ≤ n') : MtTwo a0 a1 m n' := by
  obtain ⟨h1, h2, h3, h4, h5, h6⟩ := h
  exact ⟨h1, h2, h3, h4, h5, by rcases h6 with h | h; exact .inl h; exact .inr ⟨h.1, by omega⟩⟩
theorem keeps_len {k : Nat} {l : List Int} (h : keepsB (k + 2) l = true) : l.length ≤ k := by
  have := othP_all h
  omega
/-- pages are put, one behind the other -/
structure TwS (B g fb : Nat) (w0 : World) (i k : Nat) (ids : List Int) (Y : Nat → Prop) (w : World) : Prop where
  ex : ∃ a0 a1 D m L, PAt B g fb 3000 Y w0 a0 a1 D m L ids.length w ∧ MtTwo a0 a1 m (D.length + 2) ∧ (∀ b ∈ D, b.length ≤ 512) ∧ D.length ≤ 4 * i + k ∧ keepsB (D.length + 2) L = true ∧ ids = L.take ids.length ∧ m.gen ≤ 1 + i
/-- a Commit has been -/
structure TwC (B g fb : Nat) (w0 : World) (i : Nat) (ids : List Int) (Y : Nat → Prop) (w : World) : Prop where
  ex : ∃ a0 a1 D m, PAt B g fb 3000 Y w0 a0 a1 D m (othP ids 2 D.length) 0 w ∧ MtTwo a0 a1 m (D.length + 2) ∧ (∀ b ∈ D, b.length ≤ 512) ∧ D.length ≤ 4 * i ∧ keepsB (D.length + 2) ids = true ∧ m.gen ≤ 1 + i
section
variable {B g fb i k : Nat} {w0 w w' : World} {ids : List Int} {Y : Nat → Prop} {row : Option Nat}
theorem TwC.begin (h : TwC B g fb w0 i ids Y w) : TwS B g fb w0 i 0 [] Y w := by
  obtain ⟨a0, a1, D, m, h1, h2, h3, h4, h5, h6⟩ := h.ex
  exact ⟨a0, a1, D, m, _, h1, h2, h3, h4, othP_keeps ids D.length, by simp, h6⟩
theorem TwS.fence (h : TwS B g fb w0 i k ids Y w) (hb : Below w.heap.size w w') : TwS B g fb w0 i k ids (fun j => Y j ∨ (w.heap.size ≤ j ∧ j < w'.heap.size)) w' := by
  obtain ⟨a0, a1, D, m, L, h1, h2⟩ := h.ex
  exact ⟨a0, a1, D, m, L, h1.fence hb, h2⟩
theorem TwS.grown (h : TwS B g fb w0 i k ids Y w) (hg : w.grownBy w' row) (hr : ∀ k, row = some k → Y k) : TwS B g fb w0 i k ids (fun j => Y j ∨ (w.heap.size ≤ j ∧ j < w'.heap.size)) w' := by
  obtain ⟨a0, a1, D, m, L, h1, h2⟩ := h.ex
  exact ⟨a0, a1, D, m, L, h1.grown hg hr, h2⟩
theorem TwS.xs (h : TwS B g fb w0 i k ids Y w) : ∀ j, Y j → B ≤ j ∧ j < w.heap.size := by
  obtain ⟨a0, a1, D, m, L, h1, h2⟩ := h.ex
  exact h1.xs
theorem TwS.bel (h : TwS B g fb w0 i k ids Y w) : Below B w0 w ∧ B ≤ w.heap.size := by
  obtain ⟨a0, a1, D, m, L, h1, h2⟩ := h.ex
  exact ⟨h1.bel, h1.le⟩
theorem TwC.xs (h : TwC B g fb w0 i ids Y w) : ∀ j, Y j → B ≤ j ∧ j < w.heap.size := h.begin.xs
theorem TwC.bel (h : TwC B g fb w0 i ids Y w) : Below B w0 w ∧ B ≤ w.heap.size := h.begin.bel
theorem TwS.nums (h : TwS B g fb w0 i k ids Y w) (hk : 4 * i + k ≤ 100) : In64 ids ∧ ids.length ≤ 100 ∧ ∀ j, j + 1 < ids.length → ids.getD j 0 < ids.getD (j + 1) 0 := by
  obtain ⟨a0, a1, D, m, L, h1, h2, h3, h4, h5, h6, h7⟩ := h.ex
  have h8 := keeps_take h5 ids.length
  rw [← h6] at h8
  refine ⟨fun x hx => ?_, ?_, keeps_up h8⟩
  · have := ((keeps_iff _ _).1 h8).1 x hx
    omega
  · have := keeps_len h8
    omega
theorem tw_put (h : TwS B g fb w0 i k ids Y w) (hk : 4 * i + k ≤ 100) (b : List UInt8) (A : Option Addr) (c : Nat) (hl : LiesP w Y A (B8 b)) (hc1 : b.length ≤ c) (hc2 : c ≤ maxLen) (hb : b.length ≤ 512) :
    Calls Try.prog 11 #[ptr fb, .slice A b.length c] w fun e w' => ∃ id : Int, e = .returned (.tuple #[.int .i64 id, .int .i64 0]) ∧ TwS B g fb w0 i (k + 1) (ids ++ [id]) Y w' ∧ KeptX Y w w' := by
  obtain ⟨a0, a1, D, m, L, h1, h2, h3, h4, h5, h6, h7⟩ := h.ex
  have hL := keeps_len h5
  have hids : ids.length ≤ L.length := by rw [h6, List.length_take]; omega
  by_cases hp : ids.length < L.length
  · obtain ⟨id, hid⟩ : ∃ id, id = L.getD ids.length 0 := ⟨_, rfl⟩
    have hmem : L[ids.length] = id := by rw [hid]; simp [List.getD, hp]
    have hr := ((keeps_iff _ _).1 h5).1 L[ids.length] (List.getElem_mem hp)
    rw [hmem] at hr
    obtain ⟨j, hj⟩ : ∃ j : Nat, id = ((j + 2 : Nat) : Int) := ⟨(id - 2).toNat, by omega⟩
    refine (p_put_old h1 b A c hl hc1 hc2 (by omega) hb j hp (by rw [← hid, hj]) (by omega)).mono ?_
    rintro e w' ⟨r1, r2, r3⟩
    refine ⟨id, by rw [r1, hj], ⟨a0, a1, _, m, L, by rw [List.length_append]; exact r2, by rw [List.length_set]; exact h2, fun x hx => ?_, by rw [List.length_set]; omega, by rw [List.length_set]; exact h5, ?_, h7⟩, r3⟩
    · rcases List.mem_or_eq_of_mem_set hx with hx | rfl
      · exact h3 x hx
      · exact hb
    · rw [List.length_append, List.length_singleton, List.take_succ_eq_append_getElem hp, ← h6, hmem]
  · have hpe : ids.length = L.length := by omega
    have hidL : ids = L := by rw [h6, hpe, List.take_length]
    refine (p_put_new h1 b A c hl hc1 hc2 (by omega) hb hpe (by omega)).mono ?_
    rintro e w' ⟨r1, r2, r3⟩
    refine ⟨_, r1, ⟨a0, a1, _, m, _, by rw [List.length_append]; exact r2, mtTwo_mono h2 (by simp), fun x hx => ?_, by simp; omega, ?_, ?_, h7⟩, r3⟩
    · rcases List.mem_append.1 hx with hx | hx
      · exact h3 x hx
      · rw [List.mem_singleton.1 hx]; exact hb
    · have := keeps_more h5 (by omega)
      rw [List.length_append, List.length_singleton, show D.length + 1 + 2 = D.length + 2 + 1 by omega]
      exact this
    · rw [hidL, List.take_of_length_le (by simp)]
theorem tw_commit (h : TwS B g fb w0 i k ids Y w) (hk : 4 * i + k ≤ 100) (hk4 : k ≤ 4) (hi : i ≤ 10) (hne : 0 < ids.length) (A : Option Addr) (c : Nat) (hl : LiesP w Y A (cellsZ ids)) (hc1 : ids.length ≤ c) (hc2 : c ≤ maxLen) :
    Calls Try.prog 14 #[ptr fb, .int .i64 (ids.getD 0 0), .int .i64 (i : Int), .int .u64 (i : Int), .slice A ids.length c] w fun e w' => e = .returned (.int .i64 0) ∧ TwC B g fb w0 (i + 1) ids Y w' ∧ KeptX Y w w' := by
  have hnum := h.nums hk
  obtain ⟨a0, a1, D, m, L, h1, h2, h3, h4, h5, h6, h7⟩ := h.ex
  have h8 := keeps_take h5 ids.length
  rw [← h6] at h8
  have hmem : ids.getD 0 0 ∈ ids := by
    rw [show ids.getD 0 0 = ids[0] by simp [List.getD, hne]]
    exact List.getElem_mem hne
  have hr := ((keeps_iff _ _).1 h8).1 _ hmem
  obtain ⟨r, hr2⟩ : ∃ r : Nat, ids.getD 0 0 = (r : Int) := ⟨(ids.getD 0 0).toNat, by omega⟩
  have hbad : cmBad (D.length + 2) (r : Int) (i : Int) ids = false := by
    unfold cmBad
    rw [h8, ← hr2, decide_eq_true hmem, decide_eq_false (show ¬ ((i : Int) < 0) by omega), decide_eq_false (show ¬ (4611686018427387904 < (i : Int)) by omega)]
    simp
  rw [hr2] at hr ⊢
  refine (p_commit h1 r i i ids A c (hl.mono fun _ _ hy => .inl hy) hc1 hc2 hnum.1 (by omega) (by omega) (by omega) hbad h8 (by omega)).mono ?_
  rintro e w' ⟨r1, r2, r3⟩
  exact ⟨r1, ⟨_, _, D, _, r2, mtTwo_next h2 rfl ⟨by show m.gen + 1 < _; omega, by show r < _; omega, by show i < _; omega, by show i < _; omega⟩ (by show i ≤ _; omega) (.inr ⟨by show 2 ≤ r; omega, by show r < _; omega⟩), h3, by omega, h8, by show m.gen + 1 ≤ _; omega⟩, r3⟩
/-- the pages' numbers lie in a row of the law's own -/
structure TwI (B g fb : Nat) (w0 : World) (i k : Nat) (ids : List Int) (v : Value) (Y : Nat → Prop) (w : World) : Prop where
  s : TwS B g fb w0 i k ids Y w
  row : w.ownsRow 0 3 1 v ids.length (cellsZ ids)
  own : ∀ j, v.ownBlock = some j → Y j
theorem TwI.fence {v : Value} (h : TwI B g fb w0 i k ids v Y w) (hb : Below w.heap.size w w') : TwI B g fb w0 i k ids v (fun j => Y j ∨ (w.heap.size ≤ j ∧ j < w'.heap.size)) w' :=
  ⟨h.s.fence hb, own_block h.row (fun j hj => hb.block j (h.row.lt j hj).2), fun j hj => .inl (h.own j hj)⟩
theorem ti_fill {v : Value} (h : TwI B g fb w0 i k ids v Y w) (x : Int) (hx : -9223372036854775808 ≤ x ∧ x < 9223372036854775808) :
    Calls Try.prog 12 #[.int .i64 x] w fun e w' => ∃ (A : Option Addr) (c : Nat) (Y2 : Nat → Prop), e = .returned (.slice A (fillB x).length c) ∧ (fillB x).length ≤ c ∧ c ≤ maxLen ∧ TwI B g fb w0 i k ids v Y2 w' ∧ LiesP w' Y2 A (B8 (fillB x)) := by
  refine (fill_any x hx w).mono ?_
  rintro e w' ⟨A, c, rfl, ho, hb⟩
  obtain ⟨A2, c2, e2, h1, h2⟩ := own_form ho
  injection e2 with e3 _ e4
  subst e3 e4
  exact ⟨A, c, _, rfl, h1, h2, h.fence hb, LiesP.own ho (fun i hi => .inr (ho.lt i hi))⟩
/-- a page has been put, its number not yet noted -/
structure TwP (B g fb : Nat) (w0 : World) (i k : Nat) (ids : List Int) (id : Int) (v : Value) (Y : Nat → Prop) (w : World) : Prop where
  s : TwS B g fb w0 i (k + 1) (ids ++ [id]) Y w
  row : w.ownsRow 0 3 1 v ids.length (cellsZ ids)
  own : ∀ j, v.ownBlock = some j → Y j
theorem ti_put {v : Value} (h : TwI B g fb w0 i k ids v Y w) (hk : 4 * i + k ≤ 100) (b : List UInt8) (A : Option Addr) (c : Nat) (hl : LiesP w Y A (B8 b)) (hc1 : b.length ≤ c) (hc2 : c ≤ maxLen) (hb : b.length ≤ 512) :
    Calls Try.prog 11 #[ptr fb, .slice A b.length c] w fun e w' => ∃ id : Int, e = .returned (.tuple #[.int .i64 id, .int .i64 0]) ∧ TwP B g fb w0 i k ids id v Y w' :=
  (tw_put h.s hk b A c hl hc1 hc2 hb).mono fun e w' ⟨id, r1, r2, r3⟩ => ⟨id, r1, r2, own_block h.row (fun j hj => r3.1 j (h.own j hj)), h.own⟩
theorem TwP.noted {id : Int} {v v' : Value} {W1 : World} (h : TwP B g fb w0 i k ids id v Y w) (hb : Below w.heap.size w W1) (hg : W1.grownBy w' v.ownBlock) (ho : w'.ownsRow 0 3 1 v' (ids.length + 1) (cellsZ ids ++ [.int .i64 id])) (hv : v'.ownBlock = v.ownBlock ∨ v'.ownBlock = some W1.heap.size) :
    ∃ Y', TwI B g fb w0 i (k + 1) (ids ++ [id]) v' Y' w' := by
  have h1 := h.s.fence hb
  have h2 := h1.grown hg (fun j hj => .inl (h.own j hj))
  refine ⟨_, h2, ?_, fun j hj => ?_⟩
  · rw [List.length_append, List.length_singleton, show cellsZ (ids ++ [id]) = cellsZ ids ++ [.int .i64 id] by simp [cellsZ]]
    exact ho
  · rcases hv with e | e
    · exact .inl (.inl (h.own j (by rw [← e]; exact hj)))
    · have hj2 := (ho.lt j hj).2
      rw [e] at hj
      cases hj
      exact .inr ⟨Nat.le_refl _, hj2⟩
theorem ti_sorted {v : Value} {A : Option Addr} {c : Nat} (h : TwI B g fb w0 i k ids v Y w) (hv : v = .slice A ids.length c) (hk : 4 * i + k ≤ 100) :
    Calls Try.prog 13 #[.slice A ids.length c] w fun e w' => ∃ (A2 : Option Addr) (c2 : Nat) (Y2 : Nat → Prop), e = .returned (.slice A2 ids.length c2) ∧ ids.length ≤ c2 ∧ c2 ≤ maxLen ∧ TwS B g fb w0 i k ids Y2 w' ∧ LiesP w' Y2 A2 (cellsZ ids) := by
  obtain ⟨n1, n2, n3⟩ := h.s.nums hk
  have hrow := h.row
  rw [hv] at hrow
  have hl : Lies w w.heap.size A (cellsZ ids) := (LiesP.own (P := fun _ => True) hrow (fun _ _ => trivial)).lies
  refine (sorted_up9 ids A c w.heap.size w hl (Nat.le_refl _) (by omega) n3).mono ?_
  rintro e w' ⟨v2, rfl, ho, hb⟩
  obtain ⟨A2, c2, rfl, h1, h2⟩ := own_form ho
  exact ⟨A2, c2, _, rfl, h1, h2, h.s.fence hb, LiesP.own ho (fun i hi => .inr (ho.lt i hi))⟩
end
end Go.Proofs.Ytlmnjieonhjhcaa
