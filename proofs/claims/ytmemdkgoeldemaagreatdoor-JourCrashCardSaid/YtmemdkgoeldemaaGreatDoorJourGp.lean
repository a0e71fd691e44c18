/- Layer 8, plain and over it: files whose first sectors are batches and behind them nothing is whole; a sector turned to noughts; a journal opened over it; a law's own row of batches; rows beside one that grows. -/
import Derived.Test.YtmemdkgoeldemaaGreatDoorJourT
import Derived.Test.YtmemdkgoeldemaaGreatDoorJourS
import Derived.Test.YtmemdkgoeldemaaGreatDoorJourK
import Derived.Test.YtmemdkgoeldemaaGreatDoorJourRd
import Derived.Test.YtmemdkgoeldemaaGreatDoorSectE0
namespace Go.Proofs.YtmemdkgoeldemaaGreatDoor
section
open Go.RowKit Go.Maps
set_option maxRecDepth 100000
set_option linter.unusedSimpArgs false
set_option linter.unusedVariables false
/-! ### what is whole hangs on what is read alone -/
theorem whL_congr {S S' : Dv} {nm nm' : Nm} (h : ∀ k, pRead S nm k = pRead S' nm' k) (at0 : Int) (hd : Hd) : ∀ (n : Nat) (acc : List UInt8), whL S nm at0 hd n acc = whL S' nm' at0 hd n acc := by
  intro n
  induction n with
  | zero => intro acc; rfl
  | succ n ih =>
    intro acc
    unfold whL
    rw [h]
    split
    · rfl
    · cases dataP (hd.at (hd.count - (n + 1))) (pRead S' nm' (at0 + ((hd.count - (n + 1) : Nat) : Int))).1 with
      | none => rfl
      | some b => exact ih _
theorem whP_congr {S S' : Dv} {nm nm' : Nm} (h : ∀ k, pRead S nm k = pRead S' nm' k) (file at0 : Int) : whP S nm file at0 = whP S' nm' file at0 := by
  unfold whP
  rw [h, whL_congr h]
/-- nothing whole is at p -/
def StopF (F : Fil) (file : Int) (p : Nat) : Prop := ∀ (S : Dv) (nm : Nm), fnd S.fs nm = some F → (whP S nm file (p : Int)).1 ≠ 0
theorem read_file {S : Dv} {nm : Nm} {F : Fil} (h : fnd S.fs nm = some F) (k : Int) : pRead S nm k = rdF F k := by rw [read_is, h]
theorem StopF.congr {F G : Fil} {file : Int} {p : Nat} (h : StopF F file p) (hr : ∀ k, rdF G k = rdF F k) : StopF G file p := fun S nm hG => by
  have h1 := h ⟨0, 0, [(nm, F)]⟩ nm (by simp [fnd])
  rwa [whP_congr (S' := S) (nm' := nm) (fun k => by rw [read_file (F := F) (by simp [fnd]), read_file hG, hr])] at h1
theorem StopF.end {F : Fil} {file : Int} {p : Nat} (h : F.l.length ≤ p) : StopF F file p := fun S nm hF => by
  unfold whP
  have := read_notin (S := S) (nm := nm) (k := (p : Int)) (by unfold Dv.len; rw [hF]; simp only []; omega)
  rw [if_pos this]
  exact this
/-- the batches bss stand in the files of a device, behind them nothing is whole -/
def JG (mo : Nat) (bss : List (List Bt)) (S : Dv) : Prop :=
  ∃ l : List Fil, S = jrD mo (-1) l ∧ l.length = bss.length ∧ ∀ k F bs, l[k]? = some F → bss[k]? = some bs → StopF F ((k + 1 : Nat) : Int) (needs bs) ∧ needs bs ≤ F.l.length ∧ RowAt F 0 bs ∧ ∀ x ∈ bs, GoodB x ∧ x.file = ((k + 1 : Nat) : Int)
section
variable {mo : Nat} {bss : List (List Bt)} {S : Dv}
theorem JD.toJG (h : JD mo bss S) : JG mo bss S := by
  obtain ⟨l, rfl, h1, h2⟩ := h
  refine ⟨l, rfl, h1, fun k F bs a b => ?_⟩
  obtain ⟨c1, c2, c3⟩ := h2 k F bs a b
  exact ⟨StopF.end (by omega), by omega, c2, c3⟩
theorem JG.most (h : JG mo bss S) : S.most = mo := by
  obtain ⟨l, rfl, _⟩ := h
  rfl
theorem JG.files (h : JG mo bss S) : S.fs.length = bss.length := by
  obtain ⟨l, rfl, h1, h2⟩ := h
  rw [← h1]
  exact jrFs_length l 1
theorem JG.names (h : JG mo bss S) : S.fs.map (·.1) = (nums bss.length).map nmJ := by
  obtain ⟨l, rfl, h1, h2⟩ := h
  show (jrFs 1 l).map (·.1) = _
  rw [jrFs_names, h1, nums, List.map_map]
  apply List.map_congr_left
  intro i _
  simp only [Function.comp]
  congr 2
  omega
theorem scF_allG {nm : Nm} {F : Fil} (hf : fnd S.fs nm = some F) (file : Int) (bs : List Bt) (n : Nat) (l : List Bt) (hg : ∀ x ∈ bs, GoodB x ∧ x.file = file) (hr : RowAt F 0 bs) (hfl : Flows l bs) (hn : bs.length ≤ n) (hst : StopF F file (needs bs)) :
    scF S nm file n 0 l = l ++ bs := by
  rw [scF_row hf file bs n 0 l hg hr hfl hn, Nat.zero_add]
  exact scF_stop (.inl (hst S nm hf))
theorem jg_fold {S : Dv} : ∀ (bss : List (List Bt)) (j : Nat) (l : List Bt),
    (∀ k bs, bss[k]? = some bs → ∃ F, fnd S.fs (nmJ ((j + k + 1 : Nat) : Int)) = some F ∧ StopF F ((j + k + 1 : Nat) : Int) (needs bs) ∧ needs bs ≤ F.l.length ∧ RowAt F 0 bs ∧ ∀ x ∈ bs, GoodB x ∧ x.file = ((j + k + 1 : Nat) : Int)) → Flows l bss.flatten →
    scN S ((List.range bss.length).map fun i => ((j + i + 1 : Nat) : Int)) l = l ++ bss.flatten := by
  intro bss
  induction bss with
  | nil => intro j l _ _; simp [scN]
  | cons bs r ih =>
    intro j l hk hf
    rw [List.flatten_cons, flows_app] at hf
    obtain ⟨f1, f2⟩ := hf
    obtain ⟨F, h1, h2, h3, h4, h5⟩ := hk 0 bs rfl
    have e1 : scF S (nmJ ((j + 0 + 1 : Nat) : Int)) ((j + 0 + 1 : Nat) : Int) (S.len (nmJ ((j + 0 + 1 : Nat) : Int)) + 1) 0 l = l ++ bs := by
      refine scF_allG h1 _ bs _ l h5 h4 f1 ?_ h2
      have := row_pos bs 0 h4
      unfold Dv.len
      rw [h1]
      simp only []
      omega
    have e2 := ih (j + 1) (l ++ bs) (fun k cs hc => by
      have := hk (k + 1) cs (by simpa using hc)
      rwa [show j + (k + 1) + 1 = j + 1 + k + 1 by omega] at this) f2
    rw [List.length_cons, List.range_succ_eq_map, List.map_cons, List.map_map]
    show scN S _ (scF S (nmJ ((j + 0 + 1 : Nat) : Int)) ((j + 0 + 1 : Nat) : Int) (S.len (nmJ ((j + 0 + 1 : Nat) : Int)) + 1) 0 l) = _
    rw [e1, List.flatten_cons, ← List.append_assoc, ← e2]
    congr 1
    apply List.map_congr_left
    intro i _
    simp only [Function.comp, Nat.succ_eq_add_one]
    congr 1
    omega
theorem JG.scan (h : JG mo bss S) (hl : bss.length ≤ 999999) (hs : Seqs bss.flatten) : scN S (nums bss.length) [] = bss.flatten := by
  obtain ⟨l, rfl, h1, h2⟩ := h
  have := jg_fold (S := jrD mo (-1) l) bss 0 [] (fun k bs hk => by
    have hlt := (List.getElem?_eq_some_iff.1 hk).1
    have hg : l[k]? = some l[k] := List.getElem?_eq_getElem (by omega)
    obtain ⟨a1, a2, a3, a4⟩ := h2 k _ bs hg hk
    refine ⟨l[k], ?_, by rw [Nat.zero_add]; exact a1, a2, a3, fun x hx => by rw [Nat.zero_add]; exact a4 x hx⟩
    rw [jrD_fnd (by omega) (by omega) (by omega), show 0 + k + 1 - 1 = k by omega]
    exact hg) (seqs_flows _ _ hs)
  simp only [Nat.zero_add, List.nil_append] at this
  exact this
theorem JG.sync (h : JG mo bss S) (hl : bss.length < 999999) {j : Nat} (h1 : 1 ≤ j) (h2 : j ≤ bss.length) : ∃ S', pSync S (nmJ (j : Int)) = (0, S') ∧ JG mo bss S' ∧ S'.used = S.used := by
  obtain ⟨l, rfl, e1, e2⟩ := h
  have hg : l[j - 1]? = some (l[j - 1]'(by omega)) := List.getElem?_eq_getElem (by omega)
  obtain ⟨F, hF⟩ : ∃ F, F = l[j - 1]'(by omega) := ⟨_, rfl⟩
  rw [← hF] at hg
  have hput : (jrD mo (-1) l).put (nmJ (j : Int)) (syF F) = jrD mo (-1) (l.set (j - 1) (syF F)) := by
    show (⟨mo, -1, ins (jrFs 1 l) _ (syF F)⟩ : Dv) = _
    rw [jrFs_ins l _ 1 j (Nat.le_refl _) (by omega) (by omega) (by omega)]
    rfl
  refine ⟨jrD mo (-1) (l.set (j - 1) (syF F)), ?_, ⟨l.set (j - 1) (syF F), rfl, by simp [e1], fun k G bs hG hb => ?_⟩, ?_⟩
  · unfold pSync
    rw [if_neg (show ¬ (jrD mo (-1) l).left = 0 from (show ¬ (-1 : Int) = 0 by decide)), jrD_fnd (by omega) h1 (by omega), hg]
    simp only []
    rw [hput]
    rfl
  · rw [List.getElem?_set] at hG
    split at hG
    · rename_i hk
      split at hG
      · cases hG
        rw [← hk] at hb
        obtain ⟨a1, a2, a3, a4⟩ := e2 (j - 1) F bs hg hb
        refine ⟨by rw [← hk]; exact a1.congr (fun k => rdF_sy F k), by simpa [syF] using a2, rowAt_sy bs 0 a3, by rw [← hk]; exact a4⟩
      · cases hG
    · exact e2 k G bs hG hb
  · rw [jrD_used, jrD_used]
    unfold totF
    rw [List.map_set]
    have : (l.map fun F => F.l.length).set (j - 1) (syF F).l.length = l.map fun F => F.l.length := by
      apply List.ext_getElem?
      intro i
      rw [List.getElem?_set]
      split
      · rename_i hi
        rw [← hi, List.getElem?_map, hg]
        split
        · simp [syF]
        · rename_i h3
          simp at h3
          omega
      · rfl
    rw [this]
end
end
section
open Go.RowKit Go.Maps
set_option maxRecDepth 100000
set_option linter.unusedSimpArgs false
set_option linter.unusedVariables false
theorem hd_zero : hdOf zSec.1 = ⟨0, 0, 0, 0, 0⟩ := by rfl
theorem zero_begins : ¬ (hdOf zSec.1).begins := by
  rw [hd_zero]
  intro h
  exact absurd h.1 (by decide)
theorem zero_data (h : Hd) (hp : 0 < h.place) : dataP h zSec = none := by
  have : 0 < h.least := by
    unfold Hd.least
    split
    · omega
    · first
      | omega
      | rw [if_pos hp]; omega
  unfold dataP
  rw [hd_zero, if_pos (.inl this)]
/-- the sectors of x stand in F from p on, but the o-th is of noughts -/
def GapAt (F : Fil) (p : Nat) (x : Bt) (o : Nat) : Prop := ∀ k, k < need x.b.length → rdF F ((p + k : Nat) : Int) = if k = o then (zSec, 0) else (btSec x k, 0)
theorem whL_gap {S : Dv} {nm : Nm} {F : Fil} (hf : fnd S.fs nm = some F) {p : Nat} {x : Bt} {o : Nat} (hx : GoodB x) (h0 : 0 < o) (ho : o < need x.b.length) (hs : GapAt F p x o) : ∀ n acc, n ≤ need x.b.length → need x.b.length - n ≤ o →
    (whL S nm (p : Int) (btHd x 0) n acc).1 ≠ 0 := by
  intro n
  induction n with
  | zero => intro acc _ h; omega
  | succ n ih =>
    intro acc hn hko
    obtain ⟨k, hk⟩ : ∃ k, k = need x.b.length - (n + 1) := ⟨_, rfl⟩
    have hr : pRead S nm ((p : Int) + (k : Int)) = if k = o then (zSec, 0) else (btSec x k, 0) := by
      rw [read_is, hf]
      have := hs k (by omega)
      rwa [show ((p + k : Nat) : Int) = (p : Int) + (k : Int) by omega] at this
    by_cases e : k = o
    · rw [if_pos e] at hr
      unfold whL
      rw [show (btHd x 0).count = need x.b.length from rfl, ← hk, hr, if_neg (by simp)]
      simp only []
      rw [zero_data _ (by show 0 < k; omega)]
      simp
    · rw [if_neg e] at hr
      have hd : dataP ((btHd x 0).at k) (btSec x k) = some (btPart x.b k) := dataP_bt hx (by omega) rfl
      rw [hk] at hr hd
      rw [whL_step (h := btHd x 0) hr hd]
      exact ih _ (by omega) (by omega)
theorem gap_stop {F : Fil} {p : Nat} {x : Bt} {o : Nat} (hx : GoodB x) (hs : GapAt F p x o) (ho : o < need x.b.length) (file : Int) : StopF F file p := fun S nm hf => by
  rcases Nat.eq_zero_or_pos o with rfl | h0
  · have h1 : pRead S nm (p : Int) = (zSec, 0) := by
      rw [read_is, hf]
      have := hs 0 (need_pos _)
      rwa [if_pos rfl] at this
    unfold whP
    rw [h1]
    simp only []
    rw [if_neg (by simp), if_pos zero_begins]
    simp
  · have h1 : pRead S nm (p : Int) = (btSec x 0, 0) := by
      rw [read_is, hf]
      have := hs 0 (need_pos _)
      rwa [if_neg (by omega)] at this
    have h2 : hdOf (btSec x 0).1 = btHd x 0 := secH_hd (btHd_fit hx 0 (need_pos _)) _ (btPart_le _ _)
    have hb : (btHd x 0).begins := ⟨hx.1, hx.2.2.1, rfl, need_pos _, need_le hx.2.2.2.2⟩
    have hw := whL_gap hf hx h0 ho hs (need x.b.length) [] (Nat.le_refl _) (by omega)
    unfold whP
    rw [h1]
    simp only []
    rw [h2, if_neg (by simp), if_neg (by simpa using hb), show (btHd x 0).count = need x.b.length from rfl, if_pos hw]
    exact hw
theorem needs_two (l r : List Bt) : needs (l ++ r) = needs l + needs r := by simp [needs]
theorem row_two {F : Fil} : ∀ (l r : List Bt) (p : Nat), RowAt F p (l ++ r) → RowAt F p l ∧ RowAt F (p + needs l) r := by
  intro l
  induction l with
  | nil => intro r p h; exact ⟨trivial, by simpa [needs] using h⟩
  | cons x l ih =>
    intro r p ⟨h1, h2, h3⟩
    obtain ⟨h4, h5⟩ := ih r _ h3
    exact ⟨⟨h1, h2, h4⟩, by rw [needs_cons, ← Nat.add_assoc]; exact h5⟩
section
variable {mo : Nat} {bss : List (List Bt)} {S : Dv}
theorem JD.turn {bs r : List Bt} {x : Bt} (h : JD mo [bs ++ x :: r] S) {o : Nat} (ho : o < need x.b.length) : ∃ S', x.pos = ((needs bs : Nat) : Int) ∧ pWrite S (nmJ 1) ((needs bs + o : Nat) : Int) zSec = (0, S') ∧ JG mo [bs] S' ∧ S'.used = S.used := by
  obtain ⟨l, rfl, h1, h2⟩ := h
  obtain ⟨F, rfl⟩ : ∃ F, l = [F] := by
    match l, h1 with
    | [F], _ => exact ⟨F, rfl⟩
  obtain ⟨f1, f2, f3⟩ := h2 0 F _ rfl rfl
  obtain ⟨g1, g2, g3, g4⟩ := row_two bs (x :: r) 0 f2
  rw [Nat.zero_add] at g2 g3 g4
  rw [needs_two, needs_cons] at f1
  have hx : GoodB x := (f3 x (by simp)).1
  have hlast := jrD_last (mo := mo) (le := -1) (l := []) (F := F) (by decide)
  have hput := jrD_put (mo := mo) (le := -1) (l := []) (F := F) (by decide) (wrF F (needs bs + o) zSec)
  have hwl := wrF_length F (needs bs + o) zSec
  rw [if_pos (by omega)] at hwl
  refine ⟨jrD mo (-1) [wrF F (needs bs + o) zSec], g3, ?_, ⟨[wrF F (needs bs + o) zSec], rfl, rfl, fun k G cs hG hc => ?_⟩, ?_⟩
  · unfold pWrite
    rw [if_neg (show ¬ (jrD mo (-1) [F]).left = 0 from (show ¬ (-1 : Int) = 0 by decide)), show fnd (jrD mo (-1) [F]).fs (nmJ 1) = some F from hlast]
    simp only []
    rw [if_neg (by omega), if_neg (by omega), Int.toNat_natCast, show (jrD mo (-1) [F]).put (nmJ 1) (wrF F (needs bs + o) zSec) = jrD mo (-1) [wrF F (needs bs + o) zSec] from hput]
    rfl
  · match k, hG, hc with
    | 0, hG, hc =>
      simp at hG hc
      subst hG
      subst hc
      refine ⟨gap_stop hx (fun k hk => ?_) ho _, by omega, row_same bs 0 (fun k hk => ?_) g1, fun y hy => f3 y (by simp [hy])⟩
      · rw [rdF_wr F _ zSec (by omega)]
        by_cases e : k = o
        · rw [if_pos (by rw [e]), if_pos e]
        · rw [if_neg (by omega), if_neg e]
          exact g2 k hk
      · rw [rdF_wr F _ zSec (by omega), if_neg (by omega)]
  · rw [jrD_used, jrD_used]
    simp [totF, hwl]
theorem JG.fresh {x : Bt} (h : JG mo bss S) (hl : bss.length < 99999) (hx : GoodB x) (hf : x.file = ((bss.length + 1 : Nat) : Int)) (hp : x.pos = 0) (hm : S.used + need x.b.length ≤ mo) :
    ∃ S1 S', pMake S (nmJ ((bss.length + 1 : Nat) : Int)) = (0, S1) ∧ S1.len (nmJ ((bss.length + 1 : Nat) : Int)) = 0 ∧ wrP (nmJ ((bss.length + 1 : Nat) : Int)) 0 x (need x.b.length) S1 = (0, S') ∧ JG mo (bss ++ [[x]]) S' := by
  obtain ⟨l, rfl, h1, h2⟩ := h
  rw [jrD_used] at hm
  have hw := wrP_all (mo := mo) (l := l) (F := newF) x (by omega) (by rw [totF_app]; show totF l + 0 + _ ≤ _; omega) (need x.b.length) (Nat.le_refl _)
  rw [Nat.sub_self, List.take_zero] at hw
  rw [← h1]
  have e0 : (newF : Fil).l.length = 0 := rfl
  refine ⟨_, _, jrD_make (by decide) (by omega), jrD_len_last (by omega), hw, l ++ [syF (appF newF (btSecs x))], rfl, by simp [h1], fun k G cs hG hc => ?_⟩
  rcases Nat.lt_or_ge k l.length with hk | hk
  · rw [List.getElem?_append_left hk] at hG
    rw [List.getElem?_append_left (by omega)] at hc
    exact h2 k G cs hG hc
  · have hk2 : k = l.length := by
      have := (List.getElem?_eq_some_iff.1 hG).1
      simp at this
      omega
    subst hk2
    rw [List.getElem?_append_right (Nat.le_refl _), Nat.sub_self] at hG
    rw [List.getElem?_append_right (by omega), h1, Nat.sub_self] at hc
    simp at hG hc
    subst hG
    subst hc
    have e1 : (syF (appF newF (btSecs x))).l.length = need x.b.length := by
      simp only [syF, List.length_map]
      rw [appF_length, btSecs_length, e0, Nat.zero_add]
    have e2 : needs [x] = need x.b.length := by simp [needs]
    refine ⟨StopF.end (by omega), by omega, ⟨fun k hk => ?_, by rw [hp]; rfl, trivial⟩, fun y hy => ?_⟩
    · rw [rdF_sy, Nat.zero_add]
      have := appF_new (btSecs x) newF k (by rw [btSecs_length]; exact hk)
      rw [e0] at this
      rw [show (k : Int) = ((0 : Nat) : Int) + (k : Int) by omega, this]
      simp [btSecs]
    · simp at hy
      subst hy
      exact ⟨hx, by rw [hf, h1]⟩
def gpB (bss : List (List Bt)) (kind : Int) (b : List UInt8) : Bt := ⟨bss.flatten.length + 1, kind.toNat, b, ((bss.length + 1 : Nat) : Int), 0⟩
theorem JG.append (h : JG mo bss S) {kind : Int} {b : List UInt8} (hk : 1 ≤ kind ∧ kind ≤ 255) (hb : b.length ≤ 196608) (hroom : S.used + need b.length ≤ mo) (hl : bss.length < 99) (hs : bss.flatten.length < 1000000) :
    ∃ S', apP S ⟨bss.flatten.length, 0, bss.length + 1, false⟩ kind b = ⟨gpB bss kind b, 0, S', ⟨bss.flatten.length + 1, bss.length + 1, bss.length + 2, false⟩⟩ ∧ JG mo (bss ++ [[gpB bss kind b]]) S' := by
  have hn := need_le hb
  obtain ⟨S1, S', h1, h2, h3, h4⟩ := h.fresh (x := gpB bss kind b) (by omega) ⟨by show 0 < _ + 1; omega, by show _ + 1 < _; omega, by show 0 < kind.toNat; omega, by show kind.toNat < _; omega, hb⟩ rfl rfl hroom
  refine ⟨S', ?_, h4⟩
  have hrf : rfP S ⟨bss.flatten.length, 0, bss.length + 1, false⟩ kind (need b.length) = 0 := by
    unfold rfP
    rw [if_neg (by simp), if_neg (by omega), if_neg (by simp only []; omega), if_neg (by rw [h.most]; omega)]
  have hop : opP S ⟨bss.flatten.length, 0, bss.length + 1, false⟩ = ⟨bss.length + 1, 0, S1, ⟨bss.flatten.length, bss.length + 1, bss.length + 2, false⟩⟩ := by
    unfold opP
    rw [if_pos (.inl rfl)]
    unfold nxP
    rw [if_neg (by simp), if_neg (by simp only []; omega)]
    simp only []
    rw [h1, if_neg (by simp)]
    rfl
  have hx : apB S1 ⟨bss.flatten.length, bss.length + 1, bss.length + 2, false⟩ kind b = gpB bss kind b := by
    unfold apB gpB
    simp only []
    rw [h2]
    rfl
  unfold apP
  rw [hrf, if_neg (by simp), hop]
  simp only []
  rw [if_neg (by simp), hx, h2, show ((0 : Nat) : Int) = 0 from rfl]
  have h3' : wrP (nmJ ((bss.length + 1 : Nat) : Int)) 0 (gpB bss kind b) (need b.length) S1 = (0, S') := h3
  rw [h3', if_neg (by simp)]
theorem JG.mem (h : JG mo bss S) {x : Bt} (hx : x ∈ bss.flatten) : GoodB x ∧ ∃ j : Nat, x.file = (j : Int) ∧ 1 ≤ j ∧ j ≤ bss.length := by
  obtain ⟨l, rfl, e1, e2⟩ := h
  obtain ⟨bs, hb, hx⟩ := List.mem_flatten.1 hx
  obtain ⟨k, hk, rfl⟩ := List.getElem_of_mem hb
  have hg : l[k]? = some (l[k]'(by omega)) := List.getElem?_eq_getElem (by omega)
  obtain ⟨_, _, _, a3⟩ := e2 k _ _ hg (List.getElem?_eq_getElem hk)
  obtain ⟨a4, a5⟩ := a3 x hx
  exact ⟨a4, k + 1, a5, by omega, by omega⟩
theorem JG.syncs (hl : bss.length < 999999) : ∀ (l : List Bt) (f : Int) (S : Dv), JG mo bss S → (∀ x ∈ l, ∃ j : Nat, x.file = (j : Int) ∧ 1 ≤ j ∧ j ≤ bss.length) → ∃ S', syA S f l = (0, S') ∧ JG mo bss S' ∧ S'.used = S.used := by
  intro l
  induction l with
  | nil => intro f S h _; exact ⟨S, rfl, h, rfl⟩
  | cons x r ih =>
    intro f S h hx
    unfold syA
    by_cases e : x.file = f
    · rw [if_pos e]
      exact ih f S h (fun y hy => hx y (by simp [hy]))
    · rw [if_neg e]
      obtain ⟨j, hj, h1, h2⟩ := hx x (by simp)
      obtain ⟨S', hs, hd, hu⟩ := h.sync hl h1 h2
      rw [hj, hs, if_neg (by simp)]
      obtain ⟨S2, a1, a2, a3⟩ := ih _ S' hd (fun y hy => hx y (by simp [hy]))
      exact ⟨S2, a1, a2, by rw [a3, hu]⟩
end
section
variable {B g jb mo : Nat} {X : Nat → Prop} {w0 W w' : World} {bss : List (List Bt)} {S : Dv} {J : Jr}
theorem g_scan (h : At B X w0 g S W) (hd : JG mo bss S) (hs : Seqs bss.flatten) (hn : bss.length < 99) :
    Calls Tryz.prog 19 #[ptr g] W fun e w' => ∃ A c ms, e = .returned (.slice A ms.length c) ∧ ms.map (·.x) = bss.flatten ∧ BmsAt w' (fun i => W.heap.size ≤ i) ms A c ∧ Below W.heap.size W w' := by
  refine (scan_any h (nums bss.length) hd.names (nums_in (by omega))).mono ?_
  rintro e w' ⟨v, ms, rfl, hm, ho, hb⟩
  obtain ⟨A, c, rfl, hbm⟩ := own_bms ho
  exact ⟨A, c, ms, rfl, by rw [hm, hd.scan (by omega) hs], hbm, hb⟩
theorem g_open (h : At B X w0 g S W) (hd : JG mo bss S) (hs : Seqs bss.flatten) (hn : bss.length < 99) :
    Calls Tryz.prog 11 #[ptr g] W fun e w' => ∃ (jb : Nat) (A : Option Addr) (c : Nat) (ms : List Bm) (X' : Nat → Prop) (S' : Dv), e = .returned (.tuple #[ptr jb, .slice A ms.length c]) ∧ ms.map (·.x) = bss.flatten ∧ (∀ i, X i → X' i) ∧ ¬ X jb ∧ W.heap.size ≤ jb ∧
      At B X' w0 g S' w' ∧ X' jb ∧ JAt w' jb g ⟨bss.flatten.length, 0, bss.length + 1, false⟩ ∧ JG mo bss S' ∧ S'.used = S.used ∧ KeptX X W w' ∧ BmsAt w' (fun i => X' i ∧ W.heap.size ≤ i ∧ i ≠ jb) ms A c := by
  have hsc := hd.scan (by omega) hs
  obtain ⟨S', hsy, hd', hu⟩ := JG.syncs (by omega) bss.flatten 0 S hd (fun x hx => (hd.mem hx).2)
  refine (open_any h (nums bss.length) hd.names (nums_in (by omega))).mono ?_
  rintro e w' ⟨jb, A, c, ms, X', he, hm, hXX, hXj, hnj, hjb, hat, hj, hk, hbm⟩
  rw [hsc] at hm hat hj
  rw [hsy] at hat hj
  rw [lastSeq_seqs hs, grN_nums, Int.toNat_natCast] at hj
  exact ⟨jb, A, c, ms, X', S', he, hm, hXX, hnj, hjb, hat, hXj, by simpa using hj, hd', hu, hk, hbm⟩
theorem g_append (h1 : At B X w0 g S W) (h2 : X jb) (h3 : JAt W jb g ⟨bss.flatten.length, 0, bss.length + 1, false⟩) (h4 : JG mo bss S) (kind : Int) (hk : 1 ≤ kind ∧ kind ≤ 255) (A : Option Addr) (c : Nat) (b : List UInt8) (hl : LiesP W (fun i => X i ∧ i ≠ jb) A (B8 b)) (hb : b.length ≤ 196608) (hroom : S.used + need b.length ≤ mo) (hn : bss.length < 98) (hs : bss.flatten.length < 1000000) :
    Calls Tryz.prog 12 #[ptr jb, .int .i64 kind, .slice A b.length c] W fun e w' => ∃ (A' : Option Addr) (c' : Nat) (X' : Nat → Prop) (S' : Dv), e = .returned (.tuple #[btV ⟨gpB bss kind b, A', c'⟩, .int .i64 0]) ∧ (∀ i, X i → X' i) ∧
      At B X' w0 g S' w' ∧ JG mo (bss ++ [[gpB bss kind b]]) S' ∧ KeptO X jb W w' ∧ BmAt w' (fun i => X' i ∧ W.heap.size ≤ i) ⟨gpB bss kind b, A', c'⟩ := by
  obtain ⟨S', ha, hJ⟩ := h4.append hk hb hroom (by omega) hs
  refine (append_any h1 h2 h3 kind (by omega) A c b hl (by omega) ⟨by simp only []; omega, by simp only []; omega, by simp only []; omega, by simp only []; omega⟩ (by rw [h4.files]; omega)).mono ?_
  rintro e w' ⟨⟨x, A', c'⟩, X', he, hx, hXX, hat, hj, hk', hbm⟩
  rw [ha] at he hx hat hj
  have hx' : x = gpB bss kind b := hx
  subst hx'
  exact ⟨A', c', X', S', he, hXX, hat, hJ, hk', hbm⟩
end
end
section
open Go.RowKit Go.Maps
set_option maxRecDepth 100000
set_option linter.unusedSimpArgs false
set_option linter.unusedVariables false
section
variable {B g jb mo : Nat} {X X' : Nat → Prop} {w0 W w w' : World} {bss : List (List Bt)} {S : Dv} {J : Jr}
theorem At.grown (h : At B X w0 g S W) {r : Option Nat} (hX : ∀ i, r = some i → X i) (hg : W.grownBy w' r) : At B (fun i => X i ∨ (W.heap.size ≤ i ∧ i < w'.heap.size)) w0 g S w' := by
  have hle := h.le
  have hsz := hg.size
  refine ⟨(h.dev.mono (K' := fun i => B ≤ i ∧ ¬ (X i ∨ (W.heap.size ≤ i ∧ i < w'.heap.size))) (fun i hi hk => ⟨hk.1, fun e => by rcases e with e | e; exact hk.2 e; omega⟩)).kept (fun i hi hk => hg.block i hi (fun e => hk.2 (.inl (hX i e.symm)))), h.bel.grown hg hle (fun k hk => (h.xs k (hX k hk)).1), Nat.le_trans hle hsz, fun i hi => ?_⟩
  rcases hi with hi | hi
  · have := h.xs i hi
    omega
  · omega
/-- a law's own row of batches -/
structure RowJ (B : Nat) (X : Nat → Prop) (jb : Nat) (w : World) (v : Value) (ms : List Bm) : Prop where
  row : w.ownsRow B 32 5 v ms.length (cellsBs ms)
  blk : ∀ i, v.ownBlock = some i → X i ∧ i ≠ jb
  mem : ∀ m ∈ ms, BmAt w (fun i => X i ∧ i ≠ jb) m
theorem RowJ.nil (w : World) : RowJ B X jb w (.slice none 0 0) [] := ⟨World.ownsRow_nil _ _ _ _, (fun i hi => by cases hi), (fun m hm => by cases hm)⟩
theorem RowJ.kept {v : Value} {ms : List Bm} (h : RowJ B X jb w v ms) (hX : ∀ i, X i → X' i) (hk : KeptO X jb w w') : RowJ B X' jb w' v ms :=
  ⟨own_block h.row (fun i hi => hk.1 i (h.blk i hi).1 (h.blk i hi).2), fun i hi => ⟨hX i (h.blk i hi).1, (h.blk i hi).2⟩, fun m hm => ((h.mem m hm).kept (fun i _ hi => hk.1 i hi.1 hi.2)).mono (fun i _ hi => ⟨hX i hi.1, hi.2⟩)⟩
theorem RowJ.below {v : Value} {ms : List Bm} (h : RowJ B X jb w v ms) (hX : ∀ i, X i → X' i) (hb : Below w.heap.size w w') : RowJ B X' jb w' v ms :=
  ⟨own_block h.row (fun i hi => hb.block i (h.row.lt i hi).2), fun i hi => ⟨hX i (h.blk i hi).1, (h.blk i hi).2⟩, fun m hm => ((h.mem m hm).below hb).mono (fun i _ hi => ⟨hX i hi.1, hi.2⟩)⟩
theorem RowJ.bms {A : Option Addr} {n c : Nat} {ms : List Bm} (h : RowJ B X jb w (.slice A n c) ms) : n = ms.length ∧ BmsAt w (fun i => X i ∧ i ≠ jb) ms A c := by
  obtain ⟨A', c', e, h1, h2⟩ := own_form h.row
  injection e with e1 e2 e3
  subst e1 e2 e3
  exact ⟨rfl, h1, h2, LiesP.own h.row h.blk, h.mem⟩
theorem BmsAt.take {P : Nat → Prop} {A : Option Addr} {c : Nat} {ms : List Bm} (h : BmsAt w P ms A c) (t : Nat) : BmsAt w P (ms.take t) A c := by
  obtain ⟨h1, h2, h3, h4⟩ := h
  have e : cellsBs (ms.take t) = (cellsBs ms).take (t * 5) := by
    have hs : cellsBs ms = cellsBs (ms.take t) ++ cellsBs (ms.drop t) := by rw [← cellsBs_append, List.take_append_drop]
    by_cases ht : t ≤ ms.length
    · have hl : (cellsBs (ms.take t)).length = t * 5 := by rw [cellsBs_length, List.length_take, Nat.min_eq_left ht]
      rw [hs, List.take_append_of_le_length (by omega)]
      exact (List.take_of_length_le (by omega)).symm
    · rw [List.take_of_length_le (by omega), List.take_of_length_le (by rw [cellsBs_length]; omega)]
  exact ⟨by rw [List.length_take]; omega, h2, by rw [e]; exact h3.take _, fun m hm => h4 m (List.mem_of_mem_take hm)⟩
/-- one more of them -/
theorem row_more {w4 w6 w7 : World} {v v7 : Value} {ms : List Bm} {m : Bm} (L : LAt B g jb mo X w0 bss S J w4) (R : RowJ B X jb w4 v ms) (M : BmAt w4 (fun i => X i ∧ i ≠ jb) m) (hb : Below w4.heap.size w4 w6)
    (hg : w6.grownBy w7 v.ownBlock) (ho : w7.ownsRow B 32 5 v7 (ms.length + 1) (cellsBs ms ++ cellsBm m)) (hv : v7.ownBlock = v.ownBlock ∨ v7.ownBlock = some w6.heap.size) :
    ∃ X7 : Nat → Prop, (∀ i, X i → X7 i) ∧ LAt B g jb mo X7 w0 bss S J w7 ∧ RowJ B X7 jb w7 v7 (ms ++ [m]) := by
  have L6 := L.below hb
  have R6 := R.below (fun i hi => hi) hb
  have M6 := M.below hb
  have hjb := L6.jlt
  refine ⟨fun i => X i ∨ (w6.heap.size ≤ i ∧ i < w7.heap.size), fun i hi => .inl hi, ⟨L6.at_.grown (fun i hi => (R6.blk i hi).1) hg, .inl L6.x, (hg.block jb hjb (fun e => (R6.blk jb e.symm).2 rfl)).trans L6.j, L6.i⟩, ⟨?_, fun i hi => ?_, fun m' hm => ?_⟩⟩
  · rw [List.length_append, cellsBs_append]
    simpa [cellsBs] using ho
  · rcases hv with e | e
    · rw [e] at hi
      exact ⟨.inl (R6.blk i hi).1, (R6.blk i hi).2⟩
    · have h2 := (ho.lt i hi).2
      rw [e] at hi
      have h1 := Option.some.inj hi
      exact ⟨.inr ⟨by omega, h2⟩, by omega⟩
  · rcases List.mem_append.1 hm with hm | hm
    · exact ((R6.mem m' hm).beside R6.row hg).mono (fun i _ hi => ⟨.inl hi.1, hi.2⟩)
    · simp at hm
      subst hm
      exact (M6.beside R6.row hg).mono (fun i _ hi => ⟨.inl hi.1, hi.2⟩)
end
/-- a journal of i small batches, all of them in its first file -/
def FewJ (i : Nat) (bss : List (List Bt)) (J : Jr) : Prop := (i = 0 ∧ bss = [] ∧ J.file = 0) ∨ (0 < i ∧ ∃ bs, bss = [bs] ∧ J.file = 1 ∧ needs bs ≤ 11 * i ∧ bs.length = i)
theorem FewJ.bounds {i : Nat} {bss : List (List Bt)} {J : Jr} (h : FewJ i bss J) : bss.length ≤ 1 ∧ bss.flatten.length = i ∧ needss bss ≤ 11 * i := by
  rcases h with ⟨rfl, rfl, _⟩ | ⟨_, bs, rfl, _, h1, h2⟩
  · exact ⟨by simp, rfl, Nat.zero_le _⟩
  · exact ⟨by simp, by simpa using h2, by simpa [needss] using h1⟩
theorem FewJ.more {i : Nat} {bss : List (List Bt)} {J : Jr} (h : FewJ i bss J) (hi : i < 12) (b : List UInt8) (hb : need b.length ≤ 11) : (newB bss J 1 b).file = 1 ∧ FewJ (i + 1) (addB bss J (newB bss J 1 b)) (newJ bss J) := by
  rcases h with ⟨rfl, rfl, h3⟩ | ⟨h0, bs, rfl, h1, h2, h3⟩
  · have hst : ¬ stays [] J := fun h => h.1 h3
    refine ⟨?_, .inr ⟨by omega, [newB [] J 1 b], ?_, ?_, ?_, rfl⟩⟩
    · show (if stays [] J then _ else _) = _
      rw [if_neg hst]
      rfl
    · unfold addB
      rw [if_neg hst]
      rfl
    · unfold newJ
      rw [if_neg hst]
      rfl
    · show need b.length + 0 ≤ _
      omega
  · have hst : stays [bs] J := ⟨by omega, by show needs bs < 256; omega⟩
    refine ⟨?_, .inr ⟨by omega, bs ++ [newB [bs] J 1 b], ?_, ?_, ?_, by simp [h3]⟩⟩
    · show (if stays [bs] J then _ else _) = _
      rw [if_pos hst]
      rfl
    · unfold addB
      rw [if_pos hst]
      rfl
    · unfold newJ
      rw [if_pos hst]
      exact h1
    · rw [needs_app]
      show _ + need b.length ≤ _
      omega
end
section
open Go.RowKit Go.Maps
set_option maxRecDepth 100000
set_option linter.unusedSimpArgs false
set_option linter.unusedVariables false
theorem step_append_g {P : Program} {w : World} {ops : Array Oper} {o : Oper} {a : Act} {K : Act → World → Prop} {Q : Exit → Act → World → Prop} {E : Prop} (hw : Region.wanted o (yielded ops a.tmps) = true) (s x : Operand) (t : TypeId)
    (ho : o.op = .call { callee := .builtin .append, args := #[s, x], argTypes := #[t, t] })
    (base : Nat) (e : TypeId) (i : TypeInfo) (z : Value) (size bytes : Nat) (ht : P.underlying t = some (.slice e)) (hi : P.info? e = some i) (hz : i.zero = some z)
    (hsize : i.size = size) (hby : i.bytes = bytes) (hzs : z.cells.size = size) (hsz : 0 < size)
    (v : Value) (n : Nat) (xs : List Value) (hs : a.eval s = v) (hown : w.ownsRow base e size v n xs)
    (B : Nat) (A : Option Addr) (m c : Nat) (ys : List Value) (hx : a.eval x = .slice A m c) (hl : Lies w B A ys) (hm : ys.length = m * size) (hone : ∀ u ∈ ys, u.oneCell' = true)
    (h63 : n + m ≤ maxLen) (hbytes : (n + m) * bytes ≤ 140737488355328) (hbase : base ≤ w.heap.size)
    (h : ∀ v' w', w'.ownsRow base e size v' (n + m) (xs ++ ys) → w.grownBy w' v.ownBlock → (v'.ownBlock = v.ownBlock ∨ v'.ownBlock = some w.heap.size) → K (a.put o.dst v') w') : if Region.wanted o (yielded ops a.tmps) = true then Oper.wp P o a w K Q else E := by
  rw [if_pos hw]
  obtain ⟨v', w', hrun, h2, h3, h4⟩ := run_append_cells2 (P := P) base t o.type e i z size bytes ht hi hz hsize hby hzs hsz v n xs hown B A m c ys hl hm hone h63 hbytes hbase
  unfold Oper.wp execOp
  simp only [ho, resolve, invoke, builtin, Sem.run_bind, Sem.run_pure, Result.andThen_ok, List.map_toArray, List.map_cons, List.map_nil, hs, hx, hrun]
  exact h v' w' h2 h3 h4
section
variable {w w' : World} {v v' : Value} {ms : List Bm} {A : Option Addr} {c : Nat} {xs : List Value}
/-- not in v's own block -/
def Off (v : Value) : Nat → Prop := fun i => some i ≠ v.ownBlock
theorem bms_grown (h : BmsAt w (Off v) ms A c) (hg : w.grownBy w' v.ownBlock) (hv : v'.ownBlock = v.ownBlock ∨ v'.ownBlock = some w.heap.size) : BmsAt w' (Off v') ms A c :=
  ((h.mono (Q := fun i => Off v i ∧ Off v' i) (fun i hi h1 => ⟨h1, by
    rcases hv with e | e
    · show some i ≠ v'.ownBlock; rw [e]; exact h1
    · show some i ≠ v'.ownBlock; rw [e]; intro e2; have := Option.some.inj e2; omega⟩)).kept (fun i hi h1 => hg.block i hi h1.1) hg.size).mono (fun i _ h1 => h1.2)
theorem lies_grown (h : LiesP w (Off v) A xs) (hg : w.grownBy w' v.ownBlock) (hv : v'.ownBlock = v.ownBlock ∨ v'.ownBlock = some w.heap.size) : LiesP w' (Off v') A xs :=
  ((h.mono (Q := fun i => Off v i ∧ Off v' i) (fun i hi h1 => ⟨h1, by
    rcases hv with e | e
    · show some i ≠ v'.ownBlock; rw [e]; exact h1
    · show some i ≠ v'.ownBlock; rw [e]; intro e2; have := Option.some.inj e2; omega⟩)).kept (fun i hi h1 => hg.block i hi h1.1) hg.size).mono (fun i _ h1 => h1.2)
theorem bms_alloc (h : BmsAt w (Off v) ms A c) (o : Obj) {c0 : Nat} : BmsAt (w.alloc o) (Off (.slice (some ⟨w.heap.size, 0, none⟩) 0 c0)) ms A c :=
  (h.mono (Q := Off (.slice (some ⟨w.heap.size, 0, none⟩) 0 c0)) (fun i hi _ => by show some i ≠ some w.heap.size; intro e; have := Option.some.inj e; omega)).below ((Below.refl _ _).alloc (Nat.le_refl _) _)
theorem lies_alloc (h : LiesP w (Off v) A xs) (o : Obj) {c0 : Nat} : LiesP (w.alloc o) (Off (.slice (some ⟨w.heap.size, 0, none⟩) 0 c0)) A xs :=
  (h.mono (Q := Off (.slice (some ⟨w.heap.size, 0, none⟩) 0 c0)) (fun i hi _ => by show some i ≠ some w.heap.size; intro e; have := Option.some.inj e; omega)).below ((Below.refl _ _).alloc (Nat.le_refl _) _)
theorem bms_new {base : Nat} {e : TypeId} {sz n : Nat} (ho : w.ownsRow base e sz v n xs) (h : BmsAt w' (fun i => w.heap.size ≤ i) ms A c) : BmsAt w' (Off v) ms A c :=
  h.mono (fun i _ hi => fun e2 => by have := (ho.lt i e2.symm).2; omega)
theorem bms_new0 (h : BmsAt w' (fun i => w.heap.size ≤ i) ms A c) : BmsAt w' (Off (.slice none 0 0)) ms A c :=
  h.mono (fun i _ hi => fun e2 => by cases e2)
theorem lies_new {base : Nat} {e : TypeId} {sz n : Nat} (ho : w.ownsRow base e sz v n xs) (t : TypeId) (cs : List Value) : LiesP (w.alloc (.cells cs.toArray t)) (Off v) (some ⟨w.heap.size, 0, none⟩) cs :=
  LiesP.litm w t cs (0, 0) _ (fun e2 => by have := (ho.lt _ e2.symm).2; omega)
theorem lies_new0 (w : World) (t : TypeId) (cs : List Value) : LiesP (w.alloc (.cells cs.toArray t)) (Off (.slice none 0 0)) (some ⟨w.heap.size, 0, none⟩) cs :=
  LiesP.litm w t cs (0, 0) _ (fun e2 => by cases e2)
end
end
end Go.Proofs.YtmemdkgoeldemaaGreatDoor
