/- Layer 8, plain: devices of files one behind the other; batches beside each other. -/
import Derived.Test.YtmemdkgoeldemaaGreatDoorJourQ
import Derived.Test.YtmemdkgoeldemaaGreatDoorJourN
import Derived.Test.YtmemdkgoeldemaaGreatDoorSectU
namespace Go.Proofs.YtmemdkgoeldemaaGreatDoor
open Go.RowKit Go.Maps
set_option maxRecDepth 100000
set_option linter.unusedSimpArgs false
set_option linter.unusedVariables false
/-! ### names rise as their numbers do -/
theorem dig_lt {a b : Nat} : dig a < dig b ↔ a % 10 < b % 10 := by
  rw [UInt8.lt_iff_toNat_lt, dig_val, dig_val]
  omega
theorem dig_eq {a b : Nat} : dig a = dig b ↔ a % 10 = b % 10 := by
  constructor
  · exact dig_inj
  · intro h
    apply UInt8.toNat_inj.1
    rw [dig_val, dig_val]
    omega
theorem lt_app : ∀ {l l' : List UInt8} (r r' : List UInt8), l < l' → l.length = l'.length → l ++ r < l' ++ r' := by
  intro l
  induction l with
  | nil => intro l' r r' h hl; cases l' with
    | nil => exact absurd h (List.lt_irrefl _)
    | cons b l' => simp at hl
  | cons a l ih => intro l' r r' h hl; cases l' with
    | nil => simp at hl
    | cons b l' =>
      rw [List.cons_append, List.cons_append, List.cons_lt_cons_iff]
      rcases List.cons_lt_cons_iff.1 h with h2 | ⟨h1, h2⟩
      · exact .inl h2
      · exact .inr ⟨h1, ih r r' h2 (by simpa using hl)⟩
theorem lt_app_same : ∀ (l : List UInt8) {r r' : List UInt8}, r < r' → l ++ r < l ++ r' := by
  intro l
  induction l with
  | nil => intro r r' h; exact h
  | cons a l ih => intro r r' h; rw [List.cons_append, List.cons_append, List.cons_lt_cons_iff]; exact .inr ⟨rfl, ih h⟩
theorem digs_lt : ∀ (k a b : Nat), a < b → b < 10 ^ k → digs k a < digs k b := by
  intro k
  induction k with
  | zero => intro a b h hb; simp at hb; omega
  | succ k ih =>
    intro a b h hb
    show digs k (a / 10) ++ [dig a] < digs k (b / 10) ++ [dig b]
    by_cases e : a / 10 = b / 10
    · rw [e]
      refine lt_app_same _ (List.cons_lt_cons_iff.2 (.inl (dig_lt.2 (by omega))))
    · exact lt_app _ _ (ih _ _ (by omega) (by rw [Nat.pow_succ] at hb; omega)) (by rw [digs_length, digs_length])
theorem nmJ_lt {a b : Nat} (h1 : 1 ≤ a) (h : a < b) (hb : b ≤ 999999) : nmJ (a : Int) < nmJ (b : Int) := by
  rw [nmJ_digs (by omega), nmJ_digs (by omega), Int.toNat_natCast, Int.toNat_natCast]
  exact List.cons_lt_cons_iff.2 (.inr ⟨rfl, digs_lt 6 a b h (by omega)⟩)
theorem nmJ_pos {a : Nat} (h1 : 1 ≤ a) (hb : a ≤ 999999) : (nmJ (a : Int)).length = 7 := by
  rw [nmJ_in (by omega)]; rfl
/-! ### files one behind the other -/
def jrFs : Nat → List Fil → List (Nm × Fil)
  | _, [] => []
  | k, F :: r => (nmJ (k : Int), F) :: jrFs (k + 1) r
theorem jrFs_length (l : List Fil) : ∀ k, (jrFs k l).length = l.length := by
  induction l with
  | nil => intro k; rfl
  | cons F r ih => intro k; simp [jrFs, ih]
theorem jrFs_fnd (l : List Fil) : ∀ (k j : Nat), 1 ≤ k → k + l.length ≤ 1000000 → 1 ≤ j → j ≤ 999999 → fnd (jrFs k l) (nmJ (j : Int)) = if k ≤ j then l[j - k]? else none := by
  induction l with
  | nil => intro k j _ _ _ _; simp [jrFs, fnd]
  | cons F r ih =>
    intro k j hk hl hj hj2
    rw [List.length_cons] at hl
    unfold jrFs fnd
    by_cases e : k = j
    · subst e
      rw [if_pos rfl, if_pos (Nat.le_refl _), Nat.sub_self]
      rfl
    · have hne : nmJ (k : Int) ≠ nmJ (j : Int) := fun h => e (by have := nmJ_inj (by omega) h; omega)
      rw [if_neg hne, ih (k + 1) j (by omega) (by omega) hj hj2]
      by_cases h : k ≤ j
      · rw [if_pos h, if_pos (by omega), show j - k = (j - (k + 1)) + 1 by omega]
        rfl
      · rw [if_neg h, if_neg (by omega)]
theorem jrFs_ins (l : List Fil) (G : Fil) : ∀ (k j : Nat), 1 ≤ k → k + l.length ≤ 1000000 → k ≤ j → j < k + l.length → ins (jrFs k l) (nmJ (j : Int)) G = jrFs k (l.set (j - k) G) := by
  induction l with
  | nil => intro k j _ _ _ h; simp at h; omega
  | cons F r ih =>
    intro k j hk hl hj hj2
    rw [List.length_cons] at hl hj2
    by_cases e : k = j
    · subst e
      simp [jrFs, ins]
    · have hlt := nmJ_lt (a := k) (b := j) hk (by omega) (by omega)
      have hne : nmJ (k : Int) ≠ nmJ (j : Int) := fun h => e (by have := nmJ_inj (by omega) h; omega)
      unfold jrFs ins
      rw [if_neg hne, if_neg (fun h => nm_irrefl _ (nm_lt_trans h hlt)), ih (k + 1) j (by omega) (by omega) (by omega) (by omega)]
      rw [show j - k = (j - (k + 1)) + 1 by omega, List.set_cons_succ]
      try rfl
theorem jrFs_app (l : List Fil) (G : Fil) : ∀ k, jrFs k (l ++ [G]) = jrFs k l ++ [(nmJ ((k + l.length : Nat) : Int), G)] := by
  induction l with
  | nil => intro k; simp [jrFs]
  | cons F r ih =>
    intro k
    rw [List.cons_append]
    unfold jrFs
    rw [ih (k + 1), List.cons_append, List.length_cons, show k + 1 + r.length = k + (r.length + 1) by omega]
theorem jrFs_new (l : List Fil) (G : Fil) : ∀ k, 1 ≤ k → k + l.length ≤ 999999 → ins (jrFs k l) (nmJ ((k + l.length : Nat) : Int)) G = jrFs k (l ++ [G]) := by
  induction l with
  | nil => intro k _ _; simp [jrFs, ins]
  | cons F r ih =>
    intro k hk hl
    rw [List.length_cons] at hl
    rw [List.length_cons, List.cons_append]
    have hlt := nmJ_lt (a := k) (b := k + (r.length + 1)) hk (by omega) (by omega)
    have hne : nmJ (k : Int) ≠ nmJ ((k + (r.length + 1) : Nat) : Int) := fun h => by have := nmJ_inj (by omega) h; omega
    unfold jrFs ins
    rw [if_neg hne, if_neg (fun h => nm_irrefl _ (nm_lt_trans h hlt)), show k + (r.length + 1) = k + 1 + r.length by omega, ih (k + 1) (by omega) (by omega)]
def totF (l : List Fil) : Nat := (l.map fun F => F.l.length).sum
theorem jrFs_tot (l : List Fil) : ∀ k, tot (fun F : Fil => F.l.length) (jrFs k l) = totF l := by
  induction l with
  | nil => intro k; rfl
  | cons F r ih => intro k; unfold jrFs; rw [tot_cons, ih]; simp [totF]
theorem totF_app (l : List Fil) (F : Fil) : totF (l ++ [F]) = totF l + F.l.length := by simp [totF]
/-- a device whose files are the journal's first ones -/
def jrD (mo : Nat) (le : Int) (l : List Fil) : Dv := ⟨mo, le, jrFs 1 l⟩
section
variable {mo : Nat} {le : Int} {l : List Fil} {F : Fil}
theorem jrD_used : (jrD mo le l).used = totF l := jrFs_tot l 1
theorem jrD_fnd (hl : l.length ≤ 999999) {j : Nat} (h1 : 1 ≤ j) (h2 : j ≤ 999999) : fnd (jrD mo le l).fs (nmJ (j : Int)) = l[j - 1]? := by
  show fnd (jrFs 1 l) _ = _
  rw [jrFs_fnd l 1 j (by omega) (by omega) h1 h2, if_pos h1]
theorem jrD_last (hl : l.length < 999999) : fnd (jrD mo le (l ++ [F])).fs (nmJ ((l.length + 1 : Nat) : Int)) = some F := by
  rw [jrD_fnd (by rw [List.length_append]; simp; omega) (by omega) (by omega)]
  simp
theorem jrD_len (hl : l.length ≤ 999999) {j : Nat} (h1 : 1 ≤ j) (h2 : j ≤ 999999) : (jrD mo le l).len (nmJ (j : Int)) = (match l[j - 1]? with | some F => F.l.length | none => 0) := by
  unfold Dv.len
  rw [jrD_fnd hl h1 h2]
  cases l[j - 1]? <;> rfl
theorem jrD_len_last (hl : l.length < 999999) : (jrD mo le (l ++ [F])).len (nmJ ((l.length + 1 : Nat) : Int)) = F.l.length := by
  unfold Dv.len
  rw [jrD_last hl]
theorem jrD_put (hl : l.length < 999999) (G : Fil) : (jrD mo le (l ++ [F])).put (nmJ ((l.length + 1 : Nat) : Int)) G = jrD mo le (l ++ [G]) := by
  show (⟨mo, le, ins (jrFs 1 (l ++ [F])) _ G⟩ : Dv) = _
  rw [jrFs_ins _ G 1 _ (Nat.le_refl _) (by simp <;> omega) (by omega) (by simp <;> omega)]
  simp [jrD]
theorem jrD_make (hle : le ≠ 0) (hl : l.length < 999999) : pMake (jrD mo le l) (nmJ ((l.length + 1 : Nat) : Int)) = (0, jrD mo (tkD le) (l ++ [newF])) := by
  unfold pMake
  have h7 := nmJ_pos (a := l.length + 1) (by omega) (by omega)
  rw [if_neg (show ¬ (jrD mo le l).left = 0 from hle), if_neg (by omega), jrD_fnd (by omega) (by omega) (by omega)]
  rw [if_neg (by simp)]
  show (0, Dv.tick ⟨mo, le, ins (jrFs 1 l) _ newF⟩) = _
  rw [show l.length + 1 = 1 + l.length by omega, jrFs_new l newF 1 (by omega) (by omega)]
  rfl
theorem jrD_write (hle : le ≠ 0) (hl : l.length < 999999) (hm : totF (l ++ [F]) < mo) (x : Sec) : pWrite (jrD mo le (l ++ [F])) (nmJ ((l.length + 1 : Nat) : Int)) (F.l.length : Int) x = (0, jrD mo (tkD le) (l ++ [wrF F F.l.length x])) := by
  unfold pWrite
  rw [if_neg (show ¬ (jrD mo le (l ++ [F])).left = 0 from hle), jrD_last hl]
  simp only []
  rw [if_neg (by omega), if_neg (by rw [jrD_used]; show ¬ (_ ∧ mo ≤ _); omega), jrD_put hl]
  rfl
theorem jrD_sync (hle : le ≠ 0) (hl : l.length < 999999) : pSync (jrD mo le (l ++ [F])) (nmJ ((l.length + 1 : Nat) : Int)) = (0, jrD mo (tkD le) (l ++ [syF F])) := by
  unfold pSync
  rw [if_neg (show ¬ (jrD mo le (l ++ [F])).left = 0 from hle), jrD_last hl]
  simp only []
  rw [jrD_put hl]
  rfl
theorem jrD_read (hl : l.length ≤ 999999) {j : Nat} (h1 : 1 ≤ j) (h2 : j ≤ l.length) {G : Fil} (hG : l[j - 1]? = some G) (k : Int) : pRead (jrD mo le l) (nmJ (j : Int)) k = rdF G k := by
  rw [read_is, jrD_fnd hl h1 (by omega), hG]
end
/-! ### a batch is written at the end of the last file -/
theorem appF_app (F : Fil) (l : List Sec) (s : Sec) : appF F (l ++ [s]) = wrF (appF F l) (appF F l).l.length s := by
  unfold appF
  rw [List.foldl_append]
  rfl
theorem btSecs_take (x : Bt) (k : Nat) (hk : k < need x.b.length) : (btSecs x).take (k + 1) = (btSecs x).take k ++ [btSec x k] := by
  unfold btSecs
  rw [List.take_add_one, List.getElem?_map, List.getElem?_range hk]
  rfl
/-- with power for all of it -/
theorem wrP_all {mo : Nat} {l : List Fil} {F : Fil} (x : Bt) (hl : l.length < 999999) (hm : totF (l ++ [F]) + need x.b.length ≤ mo) : ∀ n, n ≤ need x.b.length →
    wrP (nmJ ((l.length + 1 : Nat) : Int)) (F.l.length : Int) x n (jrD mo (-1) (l ++ [appF F ((btSecs x).take (need x.b.length - n))])) = (0, jrD mo (-1) (l ++ [syF (appF F (btSecs x))])) := by
  intro n
  induction n with
  | zero =>
    intro _
    unfold wrP
    rw [Nat.sub_zero, List.take_of_length_le (by rw [btSecs_length]; omega), jrD_sync (by decide) hl]
    rfl
  | succ n ih =>
    intro hn
    have hlen : (appF F ((btSecs x).take (need x.b.length - (n + 1)))).l.length = F.l.length + (need x.b.length - (n + 1)) := by
      rw [appF_length, List.length_take, btSecs_length, Nat.min_eq_left (by omega)]
    have hw := jrD_write (mo := mo) (le := -1) (l := l) (F := appF F ((btSecs x).take (need x.b.length - (n + 1)))) (by decide) hl (by rw [totF_app, hlen]; rw [totF_app] at hm; omega) (btSec x (need x.b.length - (n + 1)))
    rw [← appF_app, ← btSecs_take x _ (by omega), hlen, show need x.b.length - (n + 1) + 1 = need x.b.length - n by omega] at hw
    unfold wrP
    rw [show (F.l.length : Int) + ((need x.b.length - (n + 1) : Nat) : Int) = ((F.l.length + (need x.b.length - (n + 1)) : Nat) : Int) by omega, hw, if_neg (by simp)]
    exact ih (by omega)
/-! ### reading of batches beside each other -/
def GoodB (x : Bt) : Prop := 0 < x.seq ∧ x.seq < 18446744073709551616 ∧ 0 < x.kind ∧ x.kind < 256 ∧ x.b.length ≤ 196608
theorem need_le {n : Nat} (h : n ≤ 196608) : need n ≤ 4096 := by unfold need; split <;> omega
theorem need_48 (n : Nat) : n ≤ 48 * need n := by unfold need; split <;> omega
theorem btHd_fit {x : Bt} (h : GoodB x) (k : Nat) (hk : k < need x.b.length) : (btHd x k).fit := by
  obtain ⟨h1, h2, h3, h4, h5⟩ := h
  have := need_le h5
  have := btPart_le x.b k
  exact ⟨h2, by show k < 65536; omega, by show need x.b.length < 65536; omega, h4, by show (btPart x.b k).length < 65536; omega⟩
/-- the sectors of x stand in F from p on -/
def SecsAt (F : Fil) (p : Nat) (x : Bt) : Prop := ∀ k, k < need x.b.length → rdF F ((p + k : Nat) : Int) = (btSec x k, 0)
theorem whL_step {S : Dv} {nm : Nm} {at0 : Int} {h : Hd} {n : Nat} {acc b : List UInt8} {s : Sec} (hr : pRead S nm (at0 + ((h.count - (n + 1) : Nat) : Int)) = (s, 0)) (hd : dataP (h.at (h.count - (n + 1))) s = some b) :
    whL S nm at0 h (n + 1) acc = whL S nm at0 h n (acc ++ b) := by
  conv => lhs; unfold whL
  rw [hr, if_neg (by simp)]
  simp only []
  rw [hd]
theorem dataP_bt {x : Bt} (hx : GoodB x) {h : Hd} {k : Nat} (hk : k < need x.b.length) (e : (h.at k).sized (btPart x.b k).length = btHd x k) : dataP (h.at k) (btSec x k) = some (btPart x.b k) := by
  have f := btHd_fit hx k hk
  have hle := btHd_least x k hk
  unfold btSec
  rw [← e] at f hle ⊢
  exact dataP_is f (btPart_le _ _) hle
theorem whL_at {S : Dv} {nm : Nm} {F : Fil} (hf : fnd S.fs nm = some F) {p : Nat} {x : Bt} (hx : GoodB x) (hs : SecsAt F p x) (h : Hd) (hh : ∀ k, k < need x.b.length → (h.at k).sized (btPart x.b k).length = btHd x k) (hc : h.count = need x.b.length) : ∀ n, n ≤ need x.b.length →
    whL S nm (p : Int) h n (x.b.take (48 * (need x.b.length - n))) = (0, x.b) := by
  intro n
  induction n with
  | zero =>
    intro _
    unfold whL
    rw [Nat.sub_zero, need_all]
  | succ n ih =>
    intro hn
    obtain ⟨k, hk⟩ : ∃ k, k = need x.b.length - (n + 1) := ⟨_, rfl⟩
    have hk1 : k < need x.b.length := by omega
    have hk2 : need x.b.length - n = k + 1 := by omega
    have hr : pRead S nm ((p : Int) + ((h.count - (n + 1) : Nat) : Int)) = (btSec x k, 0) := by
      rw [read_is, hf, hc, ← hk]
      exact hs k hk1
    have hd : dataP (h.at (h.count - (n + 1))) (btSec x k) = some (btPart x.b k) := by
      rw [hc, ← hk]
      exact dataP_bt hx hk1 (hh k hk1)
    rw [← hk, whL_step hr hd, ← btPart_take, ← hk2]
    exact ih (by omega)
theorem whP_at {S : Dv} {nm : Nm} {F : Fil} (hf : fnd S.fs nm = some F) {p : Nat} {x : Bt} (hx : GoodB x) (hs : SecsAt F p x) (file : Int) : whP S nm file (p : Int) = (0, ⟨x.seq, x.kind, x.b, file, (p : Int)⟩) := by
  have h1 : pRead S nm (p : Int) = (btSec x 0, 0) := by
    rw [read_is, hf]
    exact hs 0 (need_pos _)
  have h2 : hdOf (btSec x 0).1 = btHd x 0 := secH_hd (btHd_fit hx 0 (need_pos _)) _ (btPart_le _ _)
  have hb : (btHd x 0).begins := ⟨hx.1, hx.2.2.1, rfl, need_pos _, need_le hx.2.2.2.2⟩
  have hw := whL_at hf hx hs (btHd x 0) (fun k _ => rfl) rfl (need x.b.length) (Nat.le_refl _)
  rw [Nat.sub_self, Nat.mul_zero, List.take_zero] at hw
  unfold whP
  rw [h1]
  simp only []
  rw [h2, if_neg (by simp), if_neg (by simpa using hb), show (btHd x 0).count = need x.b.length from rfl, hw]
  rfl
/-- the batches bs stand in F from p on, one behind the other -/
def RowAt (F : Fil) : Nat → List Bt → Prop
  | _, [] => True
  | p, x :: r => SecsAt F p x ∧ x.pos = (p : Int) ∧ RowAt F (p + need x.b.length) r
def needs (bs : List Bt) : Nat := (bs.map fun x => need x.b.length).sum
theorem needs_cons (x : Bt) (r : List Bt) : needs (x :: r) = need x.b.length + needs r := by simp [needs]
theorem needs_app (l : List Bt) (x : Bt) : needs (l ++ [x]) = needs l + need x.b.length := by simp [needs]
/-- each may be told behind what stands ahead of it -/
def Flows : List Bt → List Bt → Prop
  | _, [] => True
  | l, x :: r => flw l x = true ∧ Flows (l ++ [x]) r
theorem scF_row {S : Dv} {nm : Nm} {F : Fil} (hf : fnd S.fs nm = some F) (file : Int) : ∀ (bs : List Bt) (n p : Nat) (l : List Bt), (∀ x ∈ bs, GoodB x ∧ x.file = file) → RowAt F p bs → Flows l bs → bs.length ≤ n →
    scF S nm file n p l = scF S nm file (n - bs.length) (p + needs bs) (l ++ bs) := by
  intro bs
  induction bs with
  | nil => intro n p l _ _ _ _; simp [needs]
  | cons x r ih =>
    intro n p l hg hr hfl hn
    obtain ⟨r1, r2, r3⟩ := hr
    obtain ⟨f1, f2⟩ := hfl
    rw [List.length_cons] at hn
    obtain ⟨m, rfl⟩ : ∃ m, n = m + 1 := ⟨n - 1, by omega⟩
    obtain ⟨g1, g2⟩ := hg x (by simp)
    have hw := whP_at hf g1 r1 file
    have he : (⟨x.seq, x.kind, x.b, file, (p : Int)⟩ : Bt) = x := by
      cases x
      simp only at g2 r2
      subst g2
      subst r2
      rfl
    rw [he] at hw
    conv => lhs; unfold scF
    rw [hw, if_neg (by simp [f1])]
    rw [ih m (p + need x.b.length) (l ++ [x]) (fun y hy => hg y (by simp [hy])) r3 f2 (by omega)]
    rw [List.length_cons, needs_cons, show m + 1 - (r.length + 1) = m - r.length by omega, List.append_assoc, Nat.add_assoc]
    rfl
theorem scF_end {S : Dv} {nm : Nm} (file : Int) (n p : Nat) (l : List Bt) (h : S.len nm ≤ p) : scF S nm file n p l = l := by
  cases n with
  | zero => rfl
  | succ n =>
    unfold scF
    rw [if_pos]
    left
    unfold whP
    have := read_notin (S := S) (nm := nm) (k := (p : Int)) (by omega)
    rw [if_pos this]
    exact this
theorem scF_all {S : Dv} {nm : Nm} {F : Fil} (hf : fnd S.fs nm = some F) (file : Int) (bs : List Bt) (n : Nat) (l : List Bt) (hg : ∀ x ∈ bs, GoodB x ∧ x.file = file) (hr : RowAt F 0 bs) (hfl : Flows l bs) (hn : bs.length ≤ n) (hlen : F.l.length = needs bs) :
    scF S nm file n 0 l = l ++ bs := by
  rw [scF_row hf file bs n 0 l hg hr hfl hn]
  apply scF_end
  unfold Dv.len
  rw [hf]
  simp only []
  omega
end Go.Proofs.YtmemdkgoeldemaaGreatDoor
