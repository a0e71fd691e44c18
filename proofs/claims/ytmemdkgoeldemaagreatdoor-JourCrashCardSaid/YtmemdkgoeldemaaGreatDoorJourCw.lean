/- Layer 8, plain: a journal's device whose power goes, and the crash behind it. Layer 8, plain: a journal that goes on while there is power; what a crash leaves of it. Layer 8: a journal that is opened, goes on while there is power, and crashes: contracts within a law's walk. The law on crashes: its walk. Layer 8: numbers that came in, with what they weigh. -/
import Derived.Test.YtmemdkgoeldemaaGreatDoorJourGp
import Derived.BigQuiet
import Derived.Test.YtmemdkgoeldemaaGreatDoorSectW
import Derived.SizedLaws
namespace Go.Proofs.YtmemdkgoeldemaaGreatDoor
section
open Go.RowKit Go.Maps
set_option maxRecDepth 100000
set_option linter.unusedSimpArgs false
set_option linter.unusedVariables false
theorem st_some8 (ks : List Nat) (hn : ks.Nodup) (F : Fil) (ps : List Int) (j : Nat) (hj : j ∈ ks) (s : Sct) (hs : F.l[j]? = some s) :
    ∃ what : Int, (what = 0 ∨ what = 1 ∨ what = 2) ∧ (stAll F ks ps).1.l[j]? = some (stl what s) := by
  induction ks generalizing F ps with
  | nil => cases hj
  | cons k ks ih =>
    obtain ⟨n1, n2⟩ := List.nodup_cons.1 hn
    unfold stAll
    rw [List.foldl_cons]
    show ∃ what : Int, (what = 0 ∨ what = 1 ∨ what = 2) ∧ (stAll (setF F k (stl (pk ps))) ks ps.tail).1.l[j]? = _
    by_cases e : j = k
    · subst e
      refine ⟨pk ps, pk_three ps, ?_⟩
      rw [stAll_fr _ _ _ _ n1, setF_get, if_pos rfl, hs]
      rfl
    · refine ih n2 _ _ (by simpa [e] using hj) ?_
      rw [setF_get, if_neg e, hs]
theorem lastN_ge8 (l : List Sct) (n m : Nat) (hnm : n ≤ m) (h : ∀ k, k < n → (l[k]?.bind (·.la)).isSome = true) : n ≤ lastN l m := by
  induction m with
  | zero => omega
  | succ m ih =>
    unfold lastN
    split
    · omega
    · rename_i hn
      by_cases e : n = m + 1
      · exact absurd (h m (by omega)) hn
      · exact ih (by omega)
/-- nothing of a file is fresh -/
def Firm (F : Fil) : Prop := F.wr = [] ∧ ∀ s ∈ F.l, s.fr = none ∧ s.la.isSome = true
theorem firm_new : Firm newF := ⟨rfl, fun s hs => by cases hs⟩
theorem Firm.get {F : Fil} (h : Firm F) {k : Nat} (hk : k < F.l.length) : ∃ y, F.l[k]? = some ⟨none, some y⟩ := by
  obtain ⟨h1, h2⟩ := h.2 F.l[k] (List.getElem_mem hk)
  obtain ⟨y, hy⟩ := Option.isSome_iff_exists.1 h2
  refine ⟨y, ?_⟩
  rw [List.getElem?_eq_getElem hk]
  congr 1
  rw [← h1, ← hy]
theorem lastN_firm (l : List Sct) (h : ∀ s ∈ l, s.la.isSome = true) : lastN l l.length = l.length := by
  cases hl : l.length with
  | zero => rfl
  | succ n =>
    unfold lastN
    have hn : n < l.length := by omega
    rw [if_pos]
    rw [List.getElem?_eq_getElem hn]
    exact h _ (List.getElem_mem hn)
theorem sort_nil : sortN [] = [] := by simp [sortN]
theorem firm_shut {F : Fil} (h : Firm F) (ps : List Int) : stAll F (sortN F.wr) ps = (F, ps) ∧ shF F (sortN F.wr) = F := by
  obtain ⟨h1, h2⟩ := h
  rw [h1, sort_nil]
  refine ⟨rfl, ?_⟩
  unfold shF
  rw [lastN_firm _ (fun s hs => (h2 s hs).2)]
  show (⟨F.l.take F.l.length, []⟩ : Fil) = F
  rw [List.take_length, ← h1]
/-- files of which nothing is fresh stand as they are behind a crash -/
theorem cr_firm (S : Dv) (ps : List Int) : ∀ (ns : List Nm), (∀ nm ∈ ns, ∃ F, fnd S.fs nm = some F ∧ Firm F ∧ S.put nm F = S) → crAll S ns ps = (S, ps) := by
  intro ns
  induction ns with
  | nil => intro _; rfl
  | cons nm r ih =>
    intro h
    obtain ⟨F, h1, h2, h3⟩ := h nm (by simp)
    obtain ⟨e1, e2⟩ := firm_shut h2 ps
    have hs : crStep (S, ps) nm = (S, ps) := by
      unfold crStep
      simp only [h1, e1, e2, h3]
    show (nm :: r).foldl crStep (S, ps) = _
    rw [List.foldl_cons, hs]
    exact ih (fun y hy => h y (by simp [hy]))
section
variable {mo : Nat} {le : Int} {l : List Fil} {F : Fil}
theorem jrD_same (hl : l.length < 999999) {j : Nat} (h1 : 1 ≤ j) (h2 : j ≤ l.length) (hF : l[j - 1]? = some F) : (jrD mo le l).put (nmJ (j : Int)) F = jrD mo le l := by
  show (⟨mo, le, ins (jrFs 1 l) _ F⟩ : Dv) = ⟨mo, le, jrFs 1 l⟩
  rw [jrFs_ins l F 1 j (Nat.le_refl _) (by omega) h1 (by omega)]
  congr 2
  apply List.ext_getElem?
  intro i
  rw [List.getElem?_set]
  by_cases e : j - 1 = i
  · subst e
    rw [if_pos rfl, if_pos (by omega), hF]
  · rw [if_neg e]
theorem cr_names (hl : l.length < 999999) (hf : ∀ G ∈ l, Firm G) (ps : List Int) (r : List Fil) (hr : (l ++ r).length < 999999) : crAll (jrD mo le (l ++ r)) ((jrFs 1 l).map (·.1)) ps = (jrD mo le (l ++ r), ps) := by
  refine cr_firm _ ps _ fun nm hnm => ?_
  rw [jrFs_names] at hnm
  obtain ⟨i, hi, rfl⟩ := List.mem_map.1 hnm
  have hi := List.mem_range.1 hi
  have hg : (l ++ r)[1 + i - 1]? = some l[i] := by rw [show 1 + i - 1 = i by omega, List.getElem?_append_left hi, List.getElem?_eq_getElem hi]
  refine ⟨l[i], ?_, hf _ (List.getElem_mem hi), jrD_same hr (by omega) (by rw [List.length_append]; omega) hg⟩
  rw [jrD_fnd (by omega) (by omega) (by omega)]
  exact hg
/-- a crash where nothing is fresh -/
theorem crash_firm (hl : l.length < 999999) (hf : ∀ G ∈ l, Firm G) (ps : List Int) : crash (jrD mo le l) ps = jrD mo (-1) l := by
  have h := cr_names (mo := mo) (le := le) hl hf ps [] (by simpa using hl)
  rw [List.append_nil] at h
  unfold crash
  show { (crAll (jrD mo le l) ((jrFs 1 l).map (·.1)) ps).1 with left := -1 } = _
  rw [h]
  rfl
/-- a crash where only the last file has fresh sectors -/
theorem crash_last (hl : l.length + 1 < 999999) (hf : ∀ G ∈ l, Firm G) (ps : List Int) : crash (jrD mo le (l ++ [F])) ps = jrD mo (-1) (l ++ [shF (stAll F (sortN F.wr) ps).1 (sortN F.wr)]) := by
  have h := cr_names (mo := mo) (le := le) (by omega) hf ps [F] (by simpa using hl)
  unfold crash
  show { (crAll (jrD mo le (l ++ [F])) ((jrFs 1 (l ++ [F])).map (·.1)) ps).1 with left := -1 } = _
  rw [jrFs_app, List.map_append, List.map_cons, List.map_nil, crAll_snoc, h]
  unfold crStep
  rw [show (nmJ ((1 + l.length : Nat) : Int)) = nmJ ((l.length + 1 : Nat) : Int) by rw [Nat.add_comm]]
  simp only [jrD_last (mo := mo) (le := le) (F := F) (l := l) (by omega)]
  rw [jrD_put (by omega)]
  rfl
end
/-! ### sectors written at a file's end, and lost or not -/
theorem appF_l (secs : List Sec) : ∀ F : Fil, (appF F secs).l = F.l ++ secs.map fun s => ⟨some s, none⟩ := by
  induction secs with
  | nil => intro F; simp [appF]
  | cons s r ih =>
    intro F
    rw [appF_cons, ih]
    have : (wrF F F.l.length s).l = F.l ++ [⟨some s, none⟩] := by
      unfold wrF
      simp
    rw [this]
    simp
theorem appF_wr (secs : List Sec) : ∀ F : Fil, (appF F secs).wr = F.wr ++ (List.range secs.length).map (F.l.length + ·) := by
  induction secs with
  | nil => intro F; simp [appF]
  | cons s r ih =>
    intro F
    rw [appF_cons, ih]
    have h1 : (wrF F F.l.length s).wr = F.wr ++ [F.l.length] := by
      unfold wrF
      simp
    have h2 : (wrF F F.l.length s).l.length = F.l.length + 1 := by rw [wrF_length, if_neg (by omega)]
    rw [h1, h2, List.length_cons, List.range_succ_eq_map, List.map_cons, List.map_map, List.append_assoc, List.singleton_append, Nat.add_zero]
    congr 2
    apply List.map_congr_left
    intro i _
    simp only [Function.comp]
    omega
theorem app_crash {F : Fil} (h : Firm F) (secs : List Sec) (ps : List Int) :
    ∃ F', shF (stAll (appF F secs) (sortN (appF F secs).wr) ps).1 (sortN (appF F secs).wr) = F' ∧ Firm F' ∧ F.l.length ≤ F'.l.length ∧ F'.l.length ≤ F.l.length + secs.length ∧ (∀ k, k < F.l.length → F'.l[k]? = F.l[k]?) ∧
      ∀ k, F.l.length ≤ k → k < F'.l.length → ∃ y, F'.l[k]? = some ⟨none, some y⟩ ∧ (y.2 = true ∨ ∃ s, secs[k - F.l.length]? = some s ∧ y = (s, false)) := by
  obtain ⟨G0, hG0⟩ : ∃ G0, G0 = appF F secs := ⟨_, rfl⟩
  have hl0 : G0.l = F.l ++ secs.map fun s => ⟨some s, none⟩ := by rw [hG0, appF_l]
  have hw0 : G0.wr = (List.range secs.length).map (F.l.length + ·) := by rw [hG0, appF_wr, h.1, List.nil_append]
  rw [← hG0]
  have hlen0 : G0.l.length = F.l.length + secs.length := by rw [hl0]; simp
  have hperm := sortN_perm G0.wr
  have hnd : (sortN G0.wr).Nodup := hperm.nodup_iff.2 (by rw [hw0]; exact List.pairwise_map.2 (List.nodup_range.imp (fun h e => h (by omega))))
  have hmem : ∀ k, k ∈ sortN G0.wr ↔ F.l.length ≤ k ∧ k < F.l.length + secs.length := fun k => by
    rw [hperm.mem_iff, hw0, List.mem_map]
    constructor
    · rintro ⟨i, hi, rfl⟩
      have := List.mem_range.1 hi
      show F.l.length ≤ F.l.length + i ∧ F.l.length + i < _
      omega
    · rintro ⟨h1, h2⟩
      exact ⟨k - F.l.length, List.mem_range.2 (by omega), by show F.l.length + (k - F.l.length) = k; omega⟩
  obtain ⟨ks, hks⟩ : ∃ ks, ks = sortN G0.wr := ⟨_, rfl⟩
  rw [← hks] at hnd hmem ⊢
  generalize hG : (stAll G0 ks ps).1 = G
  have hGl : G.l.length = F.l.length + secs.length := by rw [← hG, stAll_length, hlen0]
  have hold : ∀ k, k < F.l.length → G.l[k]? = F.l[k]? := fun k hk => by
    rw [← hG, stAll_fr _ _ _ _ (fun hm => by have := (hmem k).1 hm; omega), hl0, List.getElem?_append_left hk]
  have hnew : ∀ k, F.l.length ≤ k → k < F.l.length + secs.length → ∃ s la, secs[k - F.l.length]? = some s ∧ G.l[k]? = some ⟨none, la⟩ ∧ (la = none ∨ la = some (s, false) ∨ ∃ z, la = some (z, true)) := fun k h1 h2 => by
    have hlt : k - F.l.length < secs.length := by omega
    have hs : G0.l[k]? = some ⟨some secs[k - F.l.length], none⟩ := by
      rw [hl0, List.getElem?_append_right h1, List.getElem?_map, List.getElem?_eq_getElem hlt]
      rfl
    obtain ⟨what, hw, e⟩ := st_some8 ks hnd G0 ps k ((hmem k).2 ⟨h1, h2⟩) _ hs
    rw [hG] at e
    refine ⟨secs[k - F.l.length], _, List.getElem?_eq_getElem hlt, e, ?_⟩
    rcases hw with rfl | rfl | rfl
    · exact .inl (by simp [stl])
    · exact .inr (.inl (by simp [stl]))
    · exact .inr (.inr ⟨_, by simp [stl]; rfl⟩)
  have hge : F.l.length ≤ lastN G.l G.l.length := lastN_ge8 _ _ _ (by omega) (fun k hk => by
    rw [hold k hk]
    obtain ⟨y, hy⟩ := h.get hk
    rw [hy]
    rfl)
  have hle := lastN_le G.l G.l.length
  obtain ⟨L, hL⟩ : ∃ L, L = lastN G.l G.l.length := ⟨_, rfl⟩
  have hSl : (shF G ks).l.length = L := by rw [shF_length, ← hL]
  rw [← hL] at hge hle
  have hbl : (bdAll L G ks).l.length = G.l.length := bdAll_length _ _ _
  have key : ∀ k y, k < L → (G.l[k]?.bind (·.fr)) = none → ((bdAll L G ks).l[k]?.bind (·.la)) = some y → (shF G ks).l[k]? = some ⟨none, some y⟩ := by
    intro k y hk hfr hy
    have hkb : k < (bdAll L G ks).l.length := by omega
    have hf1 := bdAll_fr L ks G k
    rw [hfr, List.getElem?_eq_getElem hkb] at hf1
    rw [shF_get, ← hL, if_pos hk]
    rw [List.getElem?_eq_getElem hkb] at hy ⊢
    have hfr2 : ((bdAll L G ks).l[k]).fr = none := hf1
    have hla2 : ((bdAll L G ks).l[k]).la = some y := hy
    congr 1
    rw [← hfr2, ← hla2]
  have oldS : ∀ k, k < F.l.length → (shF G ks).l[k]? = F.l[k]? := fun k hk => by
    obtain ⟨y, hy⟩ := h.get hk
    rw [hy]
    refine key k y (by omega) (by rw [hold k hk, hy]; rfl) ?_
    rw [bdAll_la_some _ _ _ k (by rw [hold k hk, hy]; rfl), hold k hk, hy]
    rfl
  have newS : ∀ k, F.l.length ≤ k → k < L → ∃ y, (shF G ks).l[k]? = some ⟨none, some y⟩ ∧ (y.2 = true ∨ ∃ s, secs[k - F.l.length]? = some s ∧ y = (s, false)) := fun k h1 h2 => by
    obtain ⟨s, la, e1, e2, e3⟩ := hnew k h1 (by omega)
    rcases e3 with rfl | rfl | ⟨z, rfl⟩
    · exact ⟨_, key k _ h2 (by rw [e2]; rfl) (bdAll_fill _ _ _ k ((hmem k).2 ⟨h1, by omega⟩) h2 (by omega) (by rw [e2]; rfl)), .inl rfl⟩
    · exact ⟨_, key k (s, false) h2 (by rw [e2]; rfl) (by rw [bdAll_la_some _ _ _ k (by rw [e2]; rfl), e2]; rfl), .inr ⟨s, e1, rfl⟩⟩
    · exact ⟨_, key k (z, true) h2 (by rw [e2]; rfl) (by rw [bdAll_la_some _ _ _ k (by rw [e2]; rfl), e2]; rfl), .inl rfl⟩
  refine ⟨_, rfl, ⟨rfl, fun s hs => ?_⟩, by rw [hSl]; exact hge, by rw [hSl]; omega, oldS, fun k h1 h2 => newS k h1 (by rw [hSl] at h2; exact h2)⟩
  obtain ⟨k, hk, e⟩ := List.getElem_of_mem hs
  have hg : (shF G ks).l[k]? = some s := by rw [List.getElem?_eq_getElem hk, e]
  rw [hSl] at hk
  rcases Nat.lt_or_ge k F.l.length with hh | hh
  · obtain ⟨y, hy⟩ := h.get hh
    rw [oldS k hh, hy] at hg
    cases hg
    exact ⟨rfl, rfl⟩
  · obtain ⟨y, hy, _⟩ := newS k hh hk
    rw [hy] at hg
    cases hg
    exact ⟨rfl, rfl⟩
/-! ### what Scan tells of it -/
theorem rdF_bad {F : Fil} {k : Nat} {y : Sec × Bool} (h : F.l[k]? = some ⟨none, some y⟩) : rdF F (k : Int) = if y.2 then (zSec, 7) else (y.1, 0) := by
  have hlt := (List.getElem?_eq_some_iff.1 h).1
  unfold rdF
  rw [if_neg (by omega), Int.toNat_natCast, h]
theorem stop_bad {F : Fil} {file : Int} {p : Nat} {x : Bt} (hx : GoodB x) (h0 : (rdF F (p : Int)).2 ≠ 0 ∨ rdF F (p : Int) = (btSec x 0, 0)) (k : Nat) (hk : k < need x.b.length) (hb : (rdF F ((p + k : Nat) : Int)).2 ≠ 0) : StopF F file p := fun S nm hF => by
  have hr : ∀ q, pRead S nm q = rdF F q := fun q => read_file hF q
  unfold whP
  rw [hr]
  rcases h0 with h0 | h0
  · rw [if_pos h0]
    exact h0
  · have h2 : hdOf (btSec x 0).1 = btHd x 0 := secH_hd (btHd_fit hx 0 (need_pos _)) _ (btPart_le _ _)
    have hbg : (btHd x 0).begins := ⟨hx.1, hx.2.2.1, rfl, need_pos _, need_le hx.2.2.2.2⟩
    rw [h0]
    simp only []
    rw [h2, if_neg (by simp), if_neg (by simpa using hbg)]
    by_cases e : (whL S nm (p : Int) (btHd x 0) (btHd x 0).count []).1 = 0
    · exfalso
      obtain ⟨_, _, _, _, _, hk2⟩ := whL_ok S nm (p : Int) (btHd x 0) (btHd x 0).count [] _ (Nat.le_refl _) (Prod.ext e rfl)
      have := hk2 k (by omega) hk
      rw [hr, show (p : Int) + (k : Int) = ((p + k : Nat) : Int) by omega] at this
      exact hb this
    · rw [if_pos e]
      exact e
/-- a batch of which some sectors were written at a file's end, behind a crash: it is whole, or nothing of it is -/
theorem cut_batch {F F' : Fil} {x : Bt} (hx : GoodB x) (m : Nat) (hm : m ≤ need x.b.length) (hl : F.l.length ≤ F'.l.length) (hl2 : F'.l.length ≤ F.l.length + m)
    (hn : ∀ k, F.l.length ≤ k → k < F'.l.length → ∃ y, F'.l[k]? = some ⟨none, some y⟩ ∧ (y.2 = true ∨ ∃ s, ((btSecs x).take m)[k - F.l.length]? = some s ∧ y = (s, false))) (file : Int) :
    StopF F' file F.l.length ∨ (SecsAt F' F.l.length x ∧ F'.l.length = F.l.length + need x.b.length) := by
  have hread : ∀ k, k < need x.b.length → (rdF F' ((F.l.length + k : Nat) : Int)).2 ≠ 0 ∨ rdF F' ((F.l.length + k : Nat) : Int) = (btSec x k, 0) := fun k hk => by
    rcases Nat.lt_or_ge (F.l.length + k) F'.l.length with hh | hh
    · obtain ⟨y, hy, hc⟩ := hn _ (by omega) hh
      rw [rdF_bad hy]
      rcases hc with hc | ⟨s, hs, rfl⟩
      · left; rw [if_pos hc]; decide
      · right
        rw [if_neg (by simp)]
        rw [show F.l.length + k - F.l.length = k by omega, List.getElem?_take] at hs
        split at hs
        · unfold btSecs at hs
          rw [List.getElem?_map, List.getElem?_range hk] at hs
          cases hs
          rfl
        · cases hs
    · left
      unfold rdF
      rw [if_pos (by omega)]
      decide
  by_cases hall : ∀ k, k < need x.b.length → rdF F' ((F.l.length + k : Nat) : Int) = (btSec x k, 0)
  · right
    refine ⟨hall, ?_⟩
    have hp := need_pos x.b.length
    have h1 := hall (need x.b.length - 1) (by omega)
    have : F.l.length + (need x.b.length - 1) < F'.l.length := by
      rcases Nat.lt_or_ge (F.l.length + (need x.b.length - 1)) F'.l.length with hh | hh
      · exact hh
      · unfold rdF at h1
        rw [if_pos (by omega)] at h1
        exact absurd (show (1 : Int) = 0 from congrArg Prod.snd h1) (by decide)
    omega
  · left
    obtain ⟨k, hk⟩ := Classical.not_forall.1 hall
    obtain ⟨hk1, hk2⟩ := Classical.not_imp.1 hk
    have hk3 := (hread k hk1).resolve_right hk2
    exact stop_bad hx (by have := hread 0 (need_pos _); rwa [Nat.add_zero] at this) k hk1 hk3
/-! ### a batch is written while there is power -/
theorem wrP_cut {mo : Nat} {l : List Fil} {F : Fil} (x : Bt) (hl : l.length < 999999) (hm : totF (l ++ [F]) + need x.b.length ≤ mo) : ∀ n, n ≤ need x.b.length → ∀ le : Int,
    wrP (nmJ ((l.length + 1 : Nat) : Int)) (F.l.length : Int) x n (jrD mo le (l ++ [appF F ((btSecs x).take (need x.b.length - n))])) =
      if le < 0 ∨ (n : Int) < le then (0, jrD mo (if le < 0 then le else le - n - 1) (l ++ [syF (appF F (btSecs x))])) else (8, jrD mo 0 (l ++ [appF F ((btSecs x).take (need x.b.length - n + le.toNat))])) := by
  intro n
  induction n with
  | zero =>
    intro _ le
    unfold wrP
    rw [Nat.sub_zero, List.take_of_length_le (by rw [btSecs_length]; omega)]
    by_cases h0 : le = 0
    · subst h0
      rw [if_neg (by omega)]
      unfold pSync
      rw [if_pos (show (jrD mo 0 (l ++ [appF F (btSecs x)])).left = 0 from rfl), List.take_of_length_le (by rw [btSecs_length]; omega)]
    · rw [jrD_sync h0 hl]
      by_cases hn : le < 0
      · rw [if_pos (.inl hn), if_pos hn]
        unfold tkD
        rw [if_neg (by omega)]
      · rw [if_pos (.inr (by omega)), if_neg hn]
        unfold tkD
        rw [if_pos (by omega), show le - ((0 : Nat) : Int) - 1 = le - 1 by omega]
  | succ n ih =>
    intro hn le
    have hlen : (appF F ((btSecs x).take (need x.b.length - (n + 1)))).l.length = F.l.length + (need x.b.length - (n + 1)) := by
      rw [appF_length, List.length_take, btSecs_length, Nat.min_eq_left (by omega)]
    by_cases h0 : le = 0
    · subst h0
      rw [if_neg (by omega)]
      unfold wrP
      have hw : pWrite (jrD mo 0 (l ++ [appF F ((btSecs x).take (need x.b.length - (n + 1)))])) (nmJ ((l.length + 1 : Nat) : Int)) ((F.l.length : Int) + ((need x.b.length - (n + 1) : Nat) : Int)) (btSec x (need x.b.length - (n + 1))) = (8, jrD mo 0 (l ++ [appF F ((btSecs x).take (need x.b.length - (n + 1)))])) := by
        unfold pWrite
        rw [if_pos (show (jrD mo 0 (l ++ [appF F ((btSecs x).take (need x.b.length - (n + 1)))])).left = 0 from rfl)]
      rw [hw, if_pos (by simp)]
      simp
    · have hw := jrD_write (mo := mo) (le := le) (l := l) (F := appF F ((btSecs x).take (need x.b.length - (n + 1)))) h0 hl (by rw [totF_app, hlen]; rw [totF_app] at hm; omega) (btSec x (need x.b.length - (n + 1)))
      rw [← appF_app, ← btSecs_take x _ (by omega), hlen, show need x.b.length - (n + 1) + 1 = need x.b.length - n by omega] at hw
      unfold wrP
      rw [show (F.l.length : Int) + ((need x.b.length - (n + 1) : Nat) : Int) = ((F.l.length + (need x.b.length - (n + 1)) : Nat) : Int) by omega, hw, if_neg (by simp)]
      simp only []
      rw [ih (by omega) (tkD le)]
      by_cases hneg : le < 0
      · have e : tkD le = le := by unfold tkD; rw [if_neg (by omega)]
        rw [e, if_pos (.inl hneg), if_pos hneg, if_pos (.inl hneg), if_pos hneg]
      · have e : tkD le = le - 1 := by unfold tkD; rw [if_pos (by omega)]
        rw [e]
        by_cases hlt : ((n + 1 : Nat) : Int) < le
        · rw [if_pos (.inr (by omega)), if_neg (by omega), if_pos (.inr hlt), if_neg hneg, show le - 1 - (n : Int) - 1 = le - ((n + 1 : Nat) : Int) - 1 by omega]
        · rw [if_neg (by omega), if_neg (by omega), show need x.b.length - n + (le - 1).toNat = need x.b.length - (n + 1) + le.toNat by omega]
/-! ### one file of a journal -/
/-- the batches bs stand in a file, nothing of it is fresh, and behind them nothing is whole -/
structure FileOk (F : Fil) (file : Nat) (bs : List Bt) : Prop where
  firm : Firm F
  stop : StopF F (file : Int) (needs bs)
  len : needs bs ≤ F.l.length
  row : RowAt F 0 bs
  good : ∀ x ∈ bs, GoodB x ∧ x.file = (file : Int)
theorem FileOk.new (file : Nat) : FileOk newF file [] := ⟨firm_new, StopF.end (by simp [newF, needs]), by simp [newF, needs], trivial, fun x hx => by cases hx⟩
theorem firm_sync {F : Fil} (h : Firm F) (secs : List Sec) : Firm (syF (appF F secs)) := by
  refine ⟨rfl, fun s hs => ?_⟩
  show s.fr = none ∧ s.la.isSome = true
  have hs' : s ∈ (appF F secs).l.map syS := hs
  rw [appF_l, List.map_append, List.mem_append] at hs'
  rcases hs' with hs' | hs'
  · obtain ⟨y, hy, rfl⟩ := List.mem_map.1 hs'
    obtain ⟨h1, h2⟩ := h.2 y hy
    unfold syS
    rw [h1]
    exact ⟨h1, h2⟩
  · obtain ⟨y, hy, rfl⟩ := List.mem_map.1 hs'
    obtain ⟨z, _, rfl⟩ := List.mem_map.1 hy
    exact ⟨rfl, rfl⟩
theorem FileOk.put {F : Fil} {file : Nat} {bs : List Bt} {x : Bt} (h : FileOk F file bs) (he : F.l.length = needs bs) (hx : GoodB x) (hf : x.file = (file : Int)) (hp : x.pos = ((needs bs : Nat) : Int)) :
    FileOk (syF (appF F (btSecs x))) file (bs ++ [x]) ∧ (syF (appF F (btSecs x))).l.length = needs (bs ++ [x]) := by
  have hl : (syF (appF F (btSecs x))).l.length = needs (bs ++ [x]) := by
    simp only [syF, List.length_map]
    rw [appF_length, btSecs_length, needs_app, he]
  refine ⟨⟨firm_sync h.firm _, StopF.end (by omega), by omega, ?_, fun y hy => ?_⟩, hl⟩
  · refine row_app bs 0 x (row_same bs 0 (fun k hk => ?_) h.row) (fun k hk => ?_) (by rw [hp, Nat.zero_add])
    · rw [rdF_sy, appF_old _ _ _ (by omega)]
    · rw [rdF_sy, Nat.zero_add]
      have := appF_new (btSecs x) F k (by rw [btSecs_length]; exact hk)
      rw [show ((needs bs + k : Nat) : Int) = (F.l.length : Int) + (k : Int) by omega, this]
      simp [btSecs]
  · rcases List.mem_append.1 hy with hy | hy
    · exact h.good y hy
    · rw [List.mem_singleton.1 hy]; exact ⟨hx, hf⟩
theorem FileOk.cut {F : Fil} {file : Nat} {bs : List Bt} {x : Bt} (h : FileOk F file bs) (he : F.l.length = needs bs) (hx : GoodB x) (hf : x.file = (file : Int)) (hp : x.pos = ((needs bs : Nat) : Int)) (m : Nat) (hm : m ≤ need x.b.length) (ps : List Int) :
    ∃ F', shF (stAll (appF F ((btSecs x).take m)) (sortN (appF F ((btSecs x).take m)).wr) ps).1 (sortN (appF F ((btSecs x).take m)).wr) = F' ∧ F'.l.length ≤ F.l.length + m ∧ (FileOk F' file bs ∨ FileOk F' file (bs ++ [x])) := by
  obtain ⟨F', h1, h2, h3, h4, h5, h6⟩ := app_crash h.firm ((btSecs x).take m) ps
  have hml : ((btSecs x).take m).length = m := by rw [List.length_take, btSecs_length]; omega
  rw [hml] at h4
  refine ⟨F', h1, h4, ?_⟩
  have hold : ∀ k : Nat, k < 0 + needs bs → rdF F' (k : Int) = rdF F (k : Int) := fun k hk => by
    have hk' : k < F.l.length := by omega
    have e := h5 k hk'
    unfold rdF
    rw [if_neg (by omega), if_neg (by omega), Int.toNat_natCast, e]
  have hrow := row_same bs 0 hold h.row
  rcases cut_batch hx m hm h3 h4 h6 (file : Int) with hc | ⟨hc1, hc2⟩
  · left
    rw [he] at hc
    exact ⟨h2, hc, by omega, hrow, h.good⟩
  · right
    have hl : F'.l.length = needs (bs ++ [x]) := by rw [hc2, needs_app, he]
    refine ⟨h2, StopF.end (by omega), by omega, row_app bs 0 x hrow (by rw [Nat.zero_add, ← he]; exact hc1) (by rw [hp, Nat.zero_add]), fun y hy => ?_⟩
    rcases List.mem_append.1 hy with hy | hy
    · exact h.good y hy
    · rw [List.mem_singleton.1 hy]; exact ⟨hx, hf⟩
end
section
open Go.RowKit Go.Maps
set_option maxRecDepth 100000
set_option linter.unusedSimpArgs false
set_option linter.unusedVariables false
/-- the batches bss stand in the files l, nothing of these is fresh -/
def Jl (l : List Fil) (bss : List (List Bt)) (T : Nat) : Prop := l.length = bss.length ∧ totF l ≤ T ∧ ∀ k F bs, l[k]? = some F → bss[k]? = some bs → FileOk F (k + 1) bs
theorem Jl.nil (T : Nat) : Jl [] [] T := ⟨rfl, by simp [totF], fun k F bs h => by simp at h⟩
theorem Jl.mono {l : List Fil} {bss : List (List Bt)} {T T' : Nat} (h : Jl l bss T) (ht : T ≤ T') : Jl l bss T' := ⟨h.1, by have := h.2.1; omega, h.2.2⟩
theorem Jl.snoc {l : List Fil} {bss : List (List Bt)} {T T' : Nat} {F : Fil} {bs : List Bt} (h : Jl l bss T) (hF : FileOk F (bss.length + 1) bs) (ht : totF (l ++ [F]) ≤ T') : Jl (l ++ [F]) (bss ++ [bs]) T' := by
  refine ⟨by simp [h.1], ht, fun k G cs hg hc => ?_⟩
  rcases Nat.lt_or_ge k l.length with hk | hk
  · rw [List.getElem?_append_left hk] at hg
    rw [List.getElem?_append_left (by have := h.1; omega)] at hc
    exact h.2.2 k G cs hg hc
  · rw [List.getElem?_append_right hk] at hg
    rw [List.getElem?_append_right (by have := h.1; omega)] at hc
    have hk0 : k - l.length = 0 := by
      have := (List.getElem?_eq_some_iff.1 hg).1
      simp at this
      omega
    rw [hk0] at hg
    rw [show k - bss.length = 0 by have := h.1; omega] at hc
    simp at hg hc
    subst hg hc
    rw [show k = bss.length by have := h.1; omega]
    exact hF
theorem Jl.firm {l : List Fil} {bss : List (List Bt)} {T : Nat} (h : Jl l bss T) : ∀ G ∈ l, Firm G := fun G hG => by
  obtain ⟨k, hk, rfl⟩ := List.getElem_of_mem hG
  exact (h.2.2 k _ _ (List.getElem?_eq_getElem hk) (List.getElem?_eq_getElem (show k < bss.length by have := h.1; omega))).firm
theorem Jl.init {l : List Fil} {F : Fil} {bss : List (List Bt)} {bs : List Bt} {T : Nat} (h : Jl (l ++ [F]) (bss ++ [bs]) T) : Jl l bss T ∧ FileOk F (bss.length + 1) bs := by
  have hl : l.length = bss.length := by have := h.1; simpa using this
  refine ⟨⟨hl, by have := h.2.1; rw [totF_app] at this; omega, fun k G cs hg hc => h.2.2 k G cs ?_ ?_⟩, ?_⟩
  · rw [List.getElem?_append_left (List.getElem?_eq_some_iff.1 hg).1]; exact hg
  · rw [List.getElem?_append_left (List.getElem?_eq_some_iff.1 hc).1]; exact hc
  · have := h.2.2 l.length F bs (by simp) (by rw [hl]; simp)
    rwa [hl] at this
theorem Jl.toJG {l : List Fil} {bss : List (List Bt)} {T : Nat} {mo : Nat} (h : Jl l bss T) : JG mo bss (jrD mo (-1) l) :=
  ⟨l, rfl, h.1, fun k F bs a b => by
    have hf := h.2.2 k F bs a b
    exact ⟨hf.stop, hf.len, hf.row, hf.good⟩⟩
/-- a batch is written behind the last file's batches: wholly, or until there is no power -/
theorem fo_write {mo T : Nat} {le : Int} {l : List Fil} {F : Fil} {bss : List (List Bt)} {bs : List Bt} {x : Bt} (h : Jl l bss T) (hll : l.length < 999) (hF : FileOk F (bss.length + 1) bs) (he : F.l.length = needs bs) (hx : GoodB x) (hf : x.file = ((bss.length + 1 : Nat) : Int)) (hp : x.pos = ((needs bs : Nat) : Int))
    (ht : totF (l ++ [F]) ≤ T) (hm : T + need x.b.length ≤ mo) :
    (∃ le' F', wrP (nmJ ((bss.length + 1 : Nat) : Int)) ((needs bs : Nat) : Int) x (need x.b.length) (jrD mo le (l ++ [F])) = (0, jrD mo le' (l ++ [F'])) ∧ Jl (l ++ [F']) (bss ++ [bs ++ [x]]) (T + need x.b.length) ∧ F'.l.length = needs (bs ++ [x])) ∨
    (∃ S', wrP (nmJ ((bss.length + 1 : Nat) : Int)) ((needs bs : Nat) : Int) x (need x.b.length) (jrD mo le (l ++ [F])) = (8, S') ∧ ∀ ps, ∃ l' bss', crash S' ps = jrD mo (-1) l' ∧ Jl l' bss' (T + need x.b.length) ∧ (bss' = bss ++ [bs] ∨ bss' = bss ++ [bs ++ [x]])) := by
  have hw := wrP_cut (mo := mo) (l := l) (F := F) x (by omega) (by omega) (need x.b.length) (Nat.le_refl _) le
  rw [Nat.sub_self, List.take_zero, show appF F [] = F from rfl, h.1, he] at hw
  rw [hw]
  by_cases hc : le < 0 ∨ (need x.b.length : Int) < le
  · left
    rw [if_pos hc]
    obtain ⟨h1, h2⟩ := hF.put he hx hf hp
    refine ⟨_, _, rfl, h.snoc h1 ?_, h2⟩
    rw [totF_app] at ht ⊢
    rw [h2, needs_app]
    omega
  · right
    rw [if_neg hc, Nat.zero_add]
    refine ⟨_, rfl, fun ps => ?_⟩
    obtain ⟨F', e1, e2, e3⟩ := hF.cut he hx hf hp le.toNat (by omega) ps
    rw [crash_last (by omega) h.firm ps, e1]
    have ht' : totF (l ++ [F']) ≤ T + need x.b.length := by rw [totF_app] at ht ⊢; omega
    rcases e3 with e3 | e3
    · exact ⟨_, _, rfl, h.snoc e3 ht', .inl rfl⟩
    · exact ⟨_, _, rfl, h.snoc e3 ht', .inr rfl⟩
/-- a journal between two appends, with power for some calls -/
structure JC (mo : Nat) (le : Int) (T : Nat) (bss : List (List Bt)) (S : Dv) (J : Jr) : Prop where
  ex : ∃ l : List Fil, S = jrD mo le l ∧ Jl l bss T ∧ (J.file = 0 ∨ (J.file = bss.length ∧ ∃ l0 F b0 bs, l = l0 ++ [F] ∧ bss = b0 ++ [bs] ∧ F.l.length = needs bs))
  dead : J.dead = false
  next : J.next = bss.length + 1
  seq : J.seq = bss.flatten.length
  seqs : Seqs bss.flatten
theorem JC.stays {mo : Nat} {le : Int} {T : Nat} {bss : List (List Bt)} {S : Dv} {J : Jr} (h : JC mo le T bss S J) : Go.Proofs.YtmemdkgoeldemaaGreatDoor.stays bss J → 0 < bss.length := fun hs => by
  obtain ⟨l, _, _, hf⟩ := h.ex
  rcases hf with hf | ⟨_, l0, F, b0, bs, _, rfl, _⟩
  · exact absurd hf hs.1
  · simp
theorem JC.append {mo : Nat} {le : Int} {T : Nat} {bss : List (List Bt)} {S : Dv} {J : Jr} (h : JC mo le T bss S J) {kind : Int} {b : List UInt8} (hk : 1 ≤ kind ∧ kind ≤ 255) (hb : b.length ≤ 196608) (hroom : T + need b.length ≤ mo) (hl : bss.length < 99) (hs : J.seq < 1000000) :
    (∃ le' S', apP S J kind b = ⟨newB bss J kind b, 0, S', newJ bss J⟩ ∧ JC mo le' (T + need b.length) (addB bss J (newB bss J kind b)) S' (newJ bss J)) ∨
    (∃ S' J', apP S J kind b = ⟨bt0, 8, S', J'⟩ ∧ ∀ ps, ∃ l' bss', crash S' ps = jrD mo (-1) l' ∧ Jl l' bss' (T + need b.length) ∧ bss'.length ≤ bss.length + 1 ∧ (bss'.flatten = bss.flatten ∨ bss'.flatten = bss.flatten ++ [newB bss J kind b])) := by
  have hstays := h.stays
  obtain ⟨⟨l, rfl, hJ, h3⟩, h1, h2, h4, h5⟩ := h
  have hn := need_le hb
  have hll : l.length < 99 := by have := hJ.1; omega
  have hrf : rfP (jrD mo le l) J kind (need b.length) = 0 := by
    unfold rfP
    rw [if_neg (by simp [h1]), if_neg (by omega), if_neg (by omega), if_neg (by rw [jrD_used]; have := hJ.2.1; show ¬ mo < _; omega)]
  have hgood : ∀ f p, GoodB ⟨J.seq + 1, kind.toNat, b, f, p⟩ := fun f p => ⟨by simp, by simp only []; omega, by simp only []; omega, by simp only []; omega, hb⟩
  have hfl := addB_flat hstays (newB bss J kind b)
  have hsq : Seqs (addB bss J (newB bss J kind b)).flatten := by rw [hfl]; exact h5.snoc (by show J.seq + 1 = _; rw [h4])
  have hsl : (addB bss J (newB bss J kind b)).flatten.length = J.seq + 1 := by rw [hfl]; simp [h4]
  unfold apP
  rw [hrf, if_neg (by simp)]
  by_cases hst : Go.Proofs.YtmemdkgoeldemaaGreatDoor.stays bss J
  · have hst2 := hst
    obtain ⟨s1, s2⟩ := hst2
    obtain ⟨hf, l0, F, b0, bs, rfl, rfl, he⟩ := h3.resolve_left s1
    obtain ⟨hJ0, hF0⟩ := hJ.init
    have hlas : lastN' (b0 ++ [bs]) = bs := by simp [lastN']
    rw [hlas] at s2
    have hbl : (b0 ++ [bs]).length = b0.length + 1 := by simp
    have hlen : (jrD mo le (l0 ++ [F])).len (nmJ (J.file : Int)) = needs bs := by
      rw [hf, hbl, ← hJ0.1, jrD_len_last (by have := hJ0.1; simp at hl; omega), he]
    have hop : opP (jrD mo le (l0 ++ [F])) J = ⟨0, 0, jrD mo le (l0 ++ [F]), J⟩ := by
      unfold opP
      rw [if_neg (by rw [hlen]; omega)]
    have hx : newB (b0 ++ [bs]) J kind b = apB (jrD mo le (l0 ++ [F])) J kind b := by
      unfold newB apB
      rw [if_pos hst, if_pos hst, hlen, hlas, hf]
    have hadd : addB (b0 ++ [bs]) J (newB (b0 ++ [bs]) J kind b) = b0 ++ [bs ++ [newB (b0 ++ [bs]) J kind b]] := by
      unfold addB
      rw [if_pos hst, hlas]
      simp
    have hJn : newJ (b0 ++ [bs]) J = { J with seq := J.seq + 1 } := by unfold newJ; rw [if_pos hst]
    rw [hop]
    simp only []
    rw [if_neg (by simp), hlen, ← hx, hf, hbl]
    obtain ⟨x, hxx⟩ : ∃ x, x = newB (b0 ++ [bs]) J kind b := ⟨_, rfl⟩
    have hxb : x.b = b := by rw [hxx]; rfl
    have hw := fo_write (mo := mo) (le := le) (x := x) hJ0 (by have := hJ0.1; simp at hl; omega) hF0 he (by rw [hxx]; exact hgood _ _) (by rw [hxx]; show (if _ then _ else _) = _; rw [if_pos hst, hbl]) (by rw [hxx]; show (if _ then _ else _) = _; rw [if_pos hst, hlas]) hJ.2.1 (by rw [hxb]; exact hroom)
    rw [hxb] at hw
    rw [← hxx] at hadd hsq hsl ⊢
    rcases hw with ⟨le', F', e1, e2, e3⟩ | ⟨S', e1, e2⟩
    · left
      rw [e1, if_neg (by simp), hJn, hadd]
      rw [hadd] at hsq hsl
      exact ⟨le', _, by rw [hf]; simp, ⟨⟨_, rfl, e2, .inr ⟨by show J.file = _; rw [hf]; simp, l0, F', b0, _, rfl, rfl, e3⟩⟩, h1, by show J.next = _; rw [h2]; simp, by rw [hsl], hsq⟩⟩
    · right
      rw [e1, if_pos (by simp)]
      refine ⟨_, _, rfl, fun ps => ?_⟩
      obtain ⟨l', bss', g1, g2, g3⟩ := e2 ps
      refine ⟨l', bss', g1, g2, ?_, ?_⟩
      · rcases g3 with rfl | rfl <;> simp
      · rcases g3 with rfl | rfl
        · exact .inl rfl
        · right; simp
  · have hop1 : J.file = 0 ∨ 256 ≤ (jrD mo le l).len (nmJ (J.file : Int)) := by
      by_cases h0 : J.file = 0
      · exact .inl h0
      · right
        obtain ⟨hf, l0, F, b0, bs, rfl, rfl, he⟩ := h3.resolve_left h0
        obtain ⟨hJ0, hF0⟩ := hJ.init
        have hlas : lastN' (b0 ++ [bs]) = bs := by simp [lastN']
        rw [hf, show (b0 ++ [bs]).length = b0.length + 1 by simp, ← hJ0.1, jrD_len_last (by simp at hll; omega), he]
        by_cases hh : needs bs < 256
        · exact absurd ⟨h0, by rw [hlas]; exact hh⟩ hst
        · omega
    have hadd : addB bss J (newB bss J kind b) = bss ++ [[newB bss J kind b]] := by
      unfold addB
      rw [if_neg hst]
    by_cases hle : le = 0
    · subst hle
      right
      have hmk : pMake (jrD mo 0 l) (nmJ ((J.next : Nat) : Int)) = (8, jrD mo 0 l) := by
        unfold pMake
        rw [if_pos (show (jrD mo 0 l).left = 0 from rfl)]
      have hop : opP (jrD mo 0 l) J = ⟨0, 8, jrD mo 0 l, { J with dead := true }⟩ := by
        unfold opP
        rw [if_pos hop1]
        unfold nxP
        rw [if_neg (by simp [h1]), if_neg (by omega), hmk, if_pos (by simp)]
      rw [hop]
      simp only []
      rw [if_pos (by simp)]
      refine ⟨_, _, rfl, fun ps => ⟨l, bss, crash_firm (by omega) hJ.firm ps, hJ.mono (by omega), by omega, .inl rfl⟩⟩
    · have hmk : pMake (jrD mo le l) (nmJ ((J.next : Nat) : Int)) = (0, jrD mo (tkD le) (l ++ [newF])) := by
        rw [h2, ← hJ.1]
        exact jrD_make hle (by omega)
      have hop : opP (jrD mo le l) J = ⟨J.next, 0, jrD mo (tkD le) (l ++ [newF]), { J with file := J.next, next := J.next + 1 }⟩ := by
        unfold opP
        rw [if_pos hop1]
        unfold nxP
        rw [if_neg (by simp [h1]), if_neg (by omega), hmk, if_neg (by simp)]
      have hlen : (jrD mo (tkD le) (l ++ [newF])).len (nmJ ((J.next : Nat) : Int)) = 0 := by
        rw [h2, ← hJ.1, jrD_len_last (by omega)]
        rfl
      have hx : newB bss J kind b = apB (jrD mo (tkD le) (l ++ [newF])) { J with file := J.next, next := J.next + 1 } kind b := by
        unfold newB apB
        simp only []
        rw [if_neg hst, if_neg hst, hlen, h2]
        rfl
      have hJn : newJ bss J = ⟨J.seq + 1, bss.length + 1, bss.length + 2, false⟩ := by unfold newJ; rw [if_neg hst]
      rw [hop]
      simp only []
      rw [if_neg (by simp), hlen, ← hx, h2]
      obtain ⟨x, hxx⟩ : ∃ x, x = newB bss J kind b := ⟨_, rfl⟩
      have hxb : x.b = b := by rw [hxx]; rfl
      have ht0 : totF (l ++ [newF]) ≤ T := by rw [totF_app]; have := hJ.2.1; simpa [newF] using this
      have hw := fo_write (mo := mo) (le := tkD le) (x := x) hJ (by omega) (FileOk.new _) rfl (by rw [hxx]; exact hgood _ _) (by rw [hxx]; show (if _ then _ else _) = _; rw [if_neg hst]) (by rw [hxx]; show (if _ then _ else _) = _; rw [if_neg hst]; rfl) ht0 (by rw [hxb]; exact hroom)
      rw [hxb, show needs [] = 0 from rfl, List.nil_append] at hw
      rw [← hxx] at hadd hsq hsl ⊢
      rcases hw with ⟨le', F', e1, e2, e3⟩ | ⟨S', e1, e2⟩
      · left
        rw [e1, if_neg (by simp), hJn, hadd]
        rw [hadd] at hsq hsl
        exact ⟨le', _, by rw [h1], ⟨⟨_, rfl, e2, .inr ⟨by show bss.length + 1 = _; simp, l, F', bss, _, rfl, rfl, e3⟩⟩, rfl, by show bss.length + 2 = _; simp, by rw [hsl], hsq⟩⟩
      · right
        rw [e1, if_pos (by simp)]
        refine ⟨_, _, rfl, fun ps => ?_⟩
        obtain ⟨l', bss', g1, g2, g3⟩ := e2 ps
        refine ⟨l', bss', g1, g2, ?_, ?_⟩
        · rcases g3 with rfl | rfl <;> simp
        · rcases g3 with rfl | rfl
          · left; simp
          · right; simp
/-- a life's end: what a crash leaves where nothing is fresh -/
theorem JC.crash {mo : Nat} {le : Int} {T : Nat} {bss : List (List Bt)} {S : Dv} {J : Jr} (h : JC mo le T bss S J) (hl : bss.length < 99) (ps : List Int) : ∃ l, crash S ps = jrD mo (-1) l ∧ Jl l bss T := by
  obtain ⟨l, rfl, hJ, _⟩ := h.ex
  exact ⟨l, crash_firm (by have := hJ.1; omega) hJ.firm ps, hJ⟩
/-- a life's beginning -/
theorem Jl.start {mo : Nat} {le : Int} {T : Nat} {l : List Fil} {bss : List (List Bt)} (h : Jl l bss T) (hs : Seqs bss.flatten) : JC mo le T bss (jrD mo le l) ⟨bss.flatten.length, 0, bss.length + 1, false⟩ :=
  ⟨⟨l, rfl, h, .inl rfl⟩, rfl, rfl, rfl, hs⟩
end
section
open Go.RowKit Go.Maps
set_option maxRecDepth 100000
set_option linter.unusedSimpArgs false
set_option linter.unusedVariables false
theorem firm_sy {F : Fil} (h : Firm F) : syF F = F := by
  have e : F.l.map syS = F.l := by
    conv => rhs; rw [← List.map_id F.l]
    apply List.map_congr_left
    intro s hs
    unfold syS
    rw [(h.2 s hs).1]
    rfl
  unfold syF
  rw [e, ← h.1]
theorem Jl.sync {mo T : Nat} {l : List Fil} {bss : List (List Bt)} (h : Jl l bss T) (hl : l.length < 999999) {j : Nat} (h1 : 1 ≤ j) (h2 : j ≤ bss.length) : pSync (jrD mo (-1) l) (nmJ (j : Int)) = (0, jrD mo (-1) l) := by
  have hlb := h.1
  have hg : l[j - 1]? = some (l[j - 1]'(by omega)) := List.getElem?_eq_getElem (by omega)
  have hf := h.firm _ (List.getElem_mem (l := l) (n := j - 1) (by omega))
  unfold pSync
  rw [if_neg (show ¬ (jrD mo (-1) l).left = 0 from (show ¬ (-1 : Int) = 0 by decide)), jrD_fnd (by omega) h1 (by omega), hg]
  simp only []
  rw [firm_sy hf, jrD_same hl h1 (by omega) hg]
  rfl
theorem Jl.syncs {mo T : Nat} {l : List Fil} {bss : List (List Bt)} (h : Jl l bss T) (hl : l.length < 999999) : ∀ (xs : List Bt) (f : Int), (∀ x ∈ xs, ∃ j : Nat, x.file = (j : Int) ∧ 1 ≤ j ∧ j ≤ bss.length) → syA (jrD mo (-1) l) f xs = (0, jrD mo (-1) l) := by
  intro xs
  induction xs with
  | nil => intro f _; rfl
  | cons x r ih =>
    intro f hx
    unfold syA
    by_cases e : x.file = f
    · rw [if_pos e]
      exact ih f (fun y hy => hx y (by simp [hy]))
    · rw [if_neg e]
      obtain ⟨j, hj, h1, h2⟩ := hx x (by simp)
      rw [hj, h.sync hl h1 h2, if_neg (by simp)]
      exact ih _ (fun y hy => hx y (by simp [hy]))
/-- a journal within a law's walk, with power for some calls -/
structure CAt (B g jb mo : Nat) (le : Int) (T : Nat) (X : Nat → Prop) (w0 : World) (bss : List (List Bt)) (S : Dv) (J : Jr) (W : World) : Prop where
  at_ : At B X w0 g S W
  x : X jb
  j : JAt W jb g J
  c : JC mo le T bss S J
section
variable {B g jb mo T : Nat} {le : Int} {X : Nat → Prop} {w0 W w' : World} {bss : List (List Bt)} {S : Dv} {J : Jr} {l : List Fil}
theorem CAt.below (h : CAt B g jb mo le T X w0 bss S J W) (hb : Below W.heap.size W w') : CAt B g jb mo le T X w0 bss S J w' :=
  ⟨(h.at_.below hb).1, h.x, (hb.block jb (Whole.lt h.j)).trans h.j, h.c⟩
theorem CAt.fence (h : CAt B g jb mo le T X w0 bss S J W) (hb : Below W.heap.size W w') : CAt B g jb mo le T (fun i => X i ∨ (W.heap.size ≤ i ∧ i < w'.heap.size)) w0 bss S J w' :=
  ⟨h.at_.fence hb, .inl h.x, (hb.block jb (Whole.lt h.j)).trans h.j, h.c⟩
theorem CAt.jlt (h : CAt B g jb mo le T X w0 bss S J W) : jb < W.heap.size := Whole.lt h.j
theorem c_scan (h : At B X w0 g (jrD mo (-1) l) W) (hd : Jl l bss T) (hs : Seqs bss.flatten) (hn : bss.length < 99) :
    Calls Tryz.prog 19 #[ptr g] W fun e w' => ∃ A c ms, e = .returned (.slice A ms.length c) ∧ ms.map (·.x) = bss.flatten ∧ BmsAt w' (fun i => W.heap.size ≤ i) ms A c ∧ Below W.heap.size W w' :=
  g_scan h hd.toJG hs hn
theorem c_open (h : At B X w0 g (jrD mo (-1) l) W) (hd : Jl l bss T) (hs : Seqs bss.flatten) (hn : bss.length < 99) :
    Calls Tryz.prog 11 #[ptr g] W fun e w' => ∃ (jb : Nat) (A : Option Addr) (c : Nat) (ms : List Bm) (X' : Nat → Prop), e = .returned (.tuple #[ptr jb, .slice A ms.length c]) ∧ ms.map (·.x) = bss.flatten ∧ (∀ i, X i → X' i) ∧ ¬ X jb ∧ W.heap.size ≤ jb ∧
      CAt B g jb mo (-1) T X' w0 bss (jrD mo (-1) l) ⟨bss.flatten.length, 0, bss.length + 1, false⟩ w' ∧ KeptX X W w' ∧ BmsAt w' (fun i => X' i ∧ W.heap.size ≤ i ∧ i ≠ jb) ms A c := by
  have hJG := hd.toJG (mo := mo)
  have hsc := hJG.scan (by omega) hs
  have hsy := hd.syncs (mo := mo) (by have := hd.1; omega) bss.flatten 0 (fun x hx => (hJG.mem hx).2)
  refine (open_any h (nums bss.length) hJG.names (nums_in (by omega))).mono ?_
  rintro e w' ⟨jb, A, c, ms, X', he, hm, hXX, hXj, hnj, hjb, hat, hj, hk, hbm⟩
  rw [hsc] at hm hat hj
  rw [hsy] at hat hj
  rw [lastSeq_seqs hs, grN_nums, Int.toNat_natCast] at hj
  exact ⟨jb, A, c, ms, X', he, hm, hXX, hnj, hjb, ⟨hat, hXj, by simpa using hj, hd.start hs⟩, hk, hbm⟩
theorem c_fuse (h : CAt B g jb mo le T X w0 bss S J W) (n : Int) (hn : -9223372036854775808 ≤ n ∧ n < 9223372036854775808) :
    Calls Tryz.prog 27 #[ptr g, .int .i64 n] W fun e w' => e = .returned (.tuple #[]) ∧ CAt B g jb mo n T X w0 bss { S with left := n } J w' ∧ KeptX X W w' := by
  refine (at_fuse h.at_ n hn).mono ?_
  rintro e w' ⟨rfl, ha, hk⟩
  obtain ⟨l, hl, hJ, hf⟩ := h.c.ex
  exact ⟨rfl, ⟨ha, h.x, h.j.kept hk h.x, ⟨⟨l, by rw [hl]; rfl, hJ, hf⟩, h.c.dead, h.c.next, h.c.seq, h.c.seqs⟩⟩, hk⟩
theorem c_append (h : CAt B g jb mo le T X w0 bss S J W) (kind : Int) (hk : 1 ≤ kind ∧ kind ≤ 255) (A : Option Addr) (c : Nat) (b : List UInt8) (hl : LiesP W (fun i => X i ∧ i ≠ jb) A (B8 b)) (hb : b.length ≤ 196608) (hroom : T + need b.length ≤ mo) (hn : bss.length < 98) (hs : bss.flatten.length < 1000000) :
    Calls Tryz.prog 12 #[ptr jb, .int .i64 kind, .slice A b.length c] W fun e w' => ∃ (m : Bm) (X' : Nat → Prop), (∀ i, X i → X' i) ∧ KeptO X jb W w' ∧
      ((∃ le' S', e = .returned (.tuple #[btV m, .int .i64 0]) ∧ m.x = newB bss J kind b ∧ CAt B g jb mo le' (T + need b.length) X' w0 (addB bss J (newB bss J kind b)) S' (newJ bss J) w') ∨
       (∃ S', e = .returned (.tuple #[btV m, .int .i64 8]) ∧ At B X' w0 g S' w' ∧ ∀ ps, ∃ l' bss', crash S' ps = jrD mo (-1) l' ∧ Jl l' bss' (T + need b.length) ∧ bss'.length ≤ bss.length + 1 ∧ (bss'.flatten = bss.flatten ∨ bss'.flatten = bss.flatten ++ [newB bss J kind b]))) := by
  obtain ⟨h1, h2, h3, h4⟩ := h
  have hfile : J.file < 100 := by
    obtain ⟨_, _, _, hf⟩ := h4.ex
    rcases hf with hf | ⟨hf, _⟩ <;> omega
  have hfs : S.fs.length < 1000000 := by
    obtain ⟨l, rfl, hJ, _⟩ := h4.ex
    have : (jrFs 1 l).length = l.length := jrFs_length l 1
    show (jrFs 1 l).length < 1000000
    have := hJ.1
    omega
  have hap := h4.append hk hb hroom (by omega) (by rw [h4.seq]; omega)
  refine (append_any h1 h2 h3 kind (by omega) A c b hl (by omega) ⟨by rw [h4.seq]; omega, hfile, by rw [h4.next]; omega, by rw [h4.next]; omega⟩ hfs).mono ?_
  rintro e w' ⟨m, X', he, hx, hXX, hat, hj, hk', hbm⟩
  refine ⟨m, X', hXX, hk', ?_⟩
  rcases hap with ⟨le', S', ha, hJ⟩ | ⟨S', J', ha, hc⟩
  · left
    rw [ha] at he hx hat hj
    exact ⟨le', S', he, hx, hat, hXX _ h2, hj, hJ⟩
  · right
    rw [ha] at he hat
    exact ⟨S', he, hat, hc⟩
end
end
section
open Go.RowKit Go.Maps
set_option maxRecDepth 100000
set_option linter.unusedSimpArgs false
set_option linter.unusedVariables false
def cellsT (ts : List (List UInt8)) : List Value := ts.map fun t => .string ⟨t.toArray⟩
/-- a law's own row of texts, within blocks that are no device's -/
structure RowT (B : Nat) (X : Nat → Prop) (w : World) (v : Value) (ts : List (List UInt8)) : Prop where
  row : w.ownsRow B 9 1 v ts.length (cellsT ts)
  blk : ∀ i, v.ownBlock = some i → X i
section
variable {B : Nat} {X X' : Nat → Prop} {w w' : World} {v : Value} {ts : List (List UInt8)}
theorem RowT.nil (w : World) : RowT B X w (.slice none 0 0) [] := ⟨World.ownsRow_nil _ _ _ _, fun i hi => by cases hi⟩
theorem RowT.keep (h : RowT B X w v ts) (hX : ∀ i, X i → X' i) (hk : ∀ i, X i → v.ownBlock = some i → w'.heap[i]? = w.heap[i]?) : RowT B X' w' v ts :=
  ⟨own_block h.row (fun i hi => hk i (h.blk i hi) hi), fun i hi => hX i (h.blk i hi)⟩
theorem RowT.below (h : RowT B X w v ts) (hX : ∀ i, X i → X' i) (hb : Below w.heap.size w w') : RowT B X' w' v ts :=
  h.keep hX fun i _ hi => hb.block i (h.row.lt i hi).2
theorem RowT.form (h : RowT B X w v ts) : ∃ A c, v = .slice A ts.length c ∧ ts.length ≤ c ∧ c ≤ maxLen := own_form h.row
theorem RowT.cell {A : Option Addr} {n c : Nat} (h : RowT B X w (.slice A n c) ts) (t : Nat) (ht : t < ts.length) : ∃ b o, A = some ⟨b, o, none⟩ ∧ w.cell? ⟨b, o + t, none⟩ = some (.string ⟨ts[t].toArray⟩) := by
  obtain ⟨A', c', e, _, _⟩ := h.form
  cases e
  rcases (Lies.own h.row (Nat.le_refl _)) with h1 | ⟨b, o, rfl, h1, h2⟩
  · have : ts.length = 0 := by have := congrArg List.length h1; rw [cellsT, List.length_map] at this; exact this
    omega
  · exact ⟨b, o, rfl, h2 t _ (by simp [cellsT, ht])⟩
end
theorem zs_cell {B : Nat} {W : World} {l : List Int} {A : Option Addr} (h : Lies W B A (cellsZ l)) (i : Nat) (hi : i < l.length) :
    ∃ b o, A = some ⟨b, o, none⟩ ∧ ∀ w, Below B W w → w.cell? ⟨b, o + i, none⟩ = some (.int .i64 (l.getD i 0)) := by
  rcases h with h | ⟨b, o, rfl, h1, h2⟩
  · have : l.length = 0 := by have := congrArg List.length h; rw [cellsZ, List.length_map] at this; exact this
    omega
  · refine ⟨b, o, rfl, fun w hb => ?_⟩
    rw [World.cell?_of_block (w := W) (hb.block b h1)]
    exact h2 i _ (by simp [cellsZ, List.getD, hi])
theorem below_drewN8 {B : Nat} {w w' : World} (h : Below B w w') : ∀ q, Below B w (w'.drewN q) := by
  intro q
  induction q with
  | zero => exact h
  | succ q ih => exact ih.drew
theorem conv_of8 {w : World} {P : Nat → Prop} {A : Option Addr} {l : List UInt8} {N : Nat} (h : LiesP w P A (B8 l)) (hl : l.length = N) (c : Nat) : (convert 30 9 (.slice A N c)).run Tryz.prog w = .ok (.string ⟨l.toArray⟩) w := by
  subst hl
  exact run_octets_string (P := Tryz.prog) 30 9 5 Tryz.underlying30 Tryz.underlying5 Tryz.underlying9 h.lies c
/-- what the batches of a journal hold -/
def told (bss : List (List Bt)) : List (List UInt8) := bss.flatten.map (·.b)
theorem told_length (bss : List (List Bt)) : (told bss).length = bss.flatten.length := by unfold told; rw [List.length_map]
/-- between two lives -/
def CrOut (W : World) (g L : Nat) (v8 v9 : Value) (wr : World) : Prop :=
  ∃ (k : Nat) (X : Nat → Prop) (l : List Fil) (bss : List (List Bt)), k ≤ 4 ∧ k ≤ L ∧ v9 = .int .i64 (k : Int) ∧ At W.heap.size X W g (jrD 20000 (-1) l) wr ∧ Jl l bss (231 * k) ∧ Seqs bss.flatten ∧ RowT W.heap.size X wr v8 (told bss) ∧ bss.length ≤ 21 * k ∧ bss.flatten.length ≤ 21 * k
theorem str_info8 : (Tryz.prog.info? 9).map (fun i => (i.zero, i.size, i.bytes)) = some (some (.string ⟨#[]⟩), 1, 16) := by kernel_rfl
theorem int_info8 : (Tryz.prog.info? 3).map (fun i => (i.zero, i.size, i.bytes)) = some (some (.int .i64 0), 1, 8) := by kernel_rfl
section
variable {B g jb mo T : Nat} {le : Int} {X : Nat → Prop} {w0 W w w' w4 w6 w7 : World} {bss : List (List Bt)} {S : Dv} {J : Jr} {v v7 : Value} {ts : List (List UInt8)} {x : List UInt8}
theorem RowT.more (R : RowT B X w4 v ts) (hb : Below w4.heap.size w4 w6) (ho : w7.ownsRow B 9 1 v7 (ts.length + 1) (cellsT ts ++ [.string ⟨x.toArray⟩])) (hv : v7.ownBlock = v.ownBlock ∨ v7.ownBlock = some w6.heap.size) :
    RowT B (fun i => X i ∨ (w6.heap.size ≤ i ∧ i < w7.heap.size)) w7 v7 (ts ++ [x]) := by
  refine ⟨?_, fun i hi => ?_⟩
  · rw [List.length_append, List.length_singleton, show cellsT (ts ++ [x]) = cellsT ts ++ [.string ⟨x.toArray⟩] by simp [cellsT]]
    exact ho
  · rcases hv with e | e
    · rw [e] at hi
      exact .inl (R.blk i hi)
    · have h2 := (ho.lt i hi).2
      rw [e] at hi
      have h1 := Option.some.inj hi
      exact .inr ⟨by omega, h2⟩
theorem CAt.grown (C : CAt B g jb mo le T X w0 bss S J w) {r : Option Nat} (hX : ∀ i, r = some i → X i ∧ i ≠ jb) (hg : w.grownBy w' r) : CAt B g jb mo le T (fun i => X i ∨ (w.heap.size ≤ i ∧ i < w'.heap.size)) w0 bss S J w' :=
  ⟨C.at_.grown (fun i hi => (hX i hi).1) hg, .inl C.x, (hg.block jb C.jlt (fun e => (hX jb e.symm).2 rfl)).trans C.j, C.c⟩
theorem CAt.ready (h : CAt B g jb mo le T X w0 bss S J W) {A : Option Addr} {c : Nat} {l : List UInt8} (ho : w'.ownsRow W.heap.size 5 1 (.slice A l.length c) l.length (B8 l)) (hb : Below W.heap.size W w') :
    ∃ X3 : Nat → Prop, (∀ i, X i → X3 i) ∧ CAt B g jb mo le T X3 w0 bss S J w' ∧ LiesP w' (fun i => X3 i ∧ i ≠ jb) A (B8 l) := by
  refine ⟨_, fun i hi => .inl hi, h.fence hb, LiesP.own ho fun i hi => ?_⟩
  have h1 := ho.lt i hi
  have h2 := h.jlt
  exact ⟨.inr h1, by omega⟩
end
/-- behind i appends of a life -/
def CrIn (W : World) (g jb k n : Nat) (v8 v13 v14 v15 : Value) (wr : World) : Prop :=
  ∃ (i : Nat) (X : Nat → Prop) (le : Int) (bss : List (List Bt)) (S : Dv) (J : Jr), i ≤ n ∧ i ≤ 20 ∧ v15 = .int .i64 (i : Int) ∧ v13 = .string ⟨#[]⟩ ∧ v14 = .bool false ∧ CAt W.heap.size g jb 20000 le (231 * k + 11 * i) X W bss S J wr ∧ RowT W.heap.size X wr v8 (told bss) ∧
    (∀ b, v8.ownBlock = some b → b ≠ jb) ∧ bss.length ≤ 21 * k + i ∧ bss.flatten.length ≤ 21 * k + i
/-- behind a life's appends: what a crash leaves -/
def CrEnd (W : World) (g k : Nat) (v8 v13 v14 : Value) (wx : World) : Prop :=
  ∃ (bss : List (List Bt)) (X : Nat → Prop) (S : Dv) (bg : Bool) (mr : List UInt8), v13 = .string ⟨mr.toArray⟩ ∧ v14 = .bool bg ∧ At W.heap.size X W g S wx ∧ RowT W.heap.size X wx v8 (told bss) ∧ bss.flatten.length ≤ 21 * k + 20 ∧
    ∀ ps, ∃ l' bss', crash S ps = jrD 20000 (-1) l' ∧ Jl l' bss' (231 * (k + 1)) ∧ bss'.length ≤ 21 * (k + 1) ∧ Seqs bss'.flatten ∧ (bss'.flatten = bss.flatten ∨ (bg = true ∧ ∃ x, bss'.flatten = bss.flatten ++ [x] ∧ x.b = mr))
theorem CAt.room {B g jb mo T T' : Nat} {le : Int} {X : Nat → Prop} {w0 W : World} {bss : List (List Bt)} {S : Dv} {J : Jr} (h : CAt B g jb mo le T X w0 bss S J W) (ht : T ≤ T') : CAt B g jb mo le T' X w0 bss S J W := by
  obtain ⟨l, hl, hJ, hf⟩ := h.c.ex
  exact ⟨h.at_, h.x, h.j, ⟨⟨l, hl, hJ.mono ht, hf⟩, h.c.dead, h.c.next, h.c.seq, h.c.seqs⟩⟩
/-- the picks of a life, gathered -/
def CrP (W : World) (g : Nat) (S : Dv) (n : Nat) (v8 : Value) (ts : List (List UInt8)) (v19 v20 : Value) (wx : World) : Prop :=
  ∃ (X : Nat → Prop) (ps : List Int), ps.length ≤ n ∧ v20 = .int .i64 (ps.length : Int) ∧ At W.heap.size X W g S wx ∧ RowT W.heap.size X wx v8 ts ∧ wx.ownsRow W.heap.size 3 1 v19 ps.length (cellsZ ps) ∧ (∀ b, v19.ownBlock = some b → X b) ∧ In64 ps
theorem row_beside {B b2 n : Nat} {e2 : TypeId} {X : Nat → Prop} {w : World} {v v2 : Value} {ts : List (List UInt8)} {xs : List Value} (R : RowT B X w v ts) (O : w.ownsRow b2 e2 1 v2 n xs) (hne : 9 ≠ e2) : ∀ q, v.ownBlock = some q → some q ≠ v2.ownBlock := fun q hq e => by
  rcases own_apart_types R.row O hne with h | h
  · rw [h] at hq; cases hq
  · exact h (hq.trans e)
theorem pick_own {w : World} {B n c : Nat} {X : Nat → Prop} {A : Option Addr} {ps : List Int} (h : w.ownsRow B 3 1 (.slice A n c) n (cellsZ ps)) (hX : ∀ b, (Value.slice A n c).ownBlock = some b → X b) : PickAt (fun i => B ≤ i ∧ ¬ X i) w A ps := by
  rcases LiesP.own (P := X) h hX with h | ⟨b, o, rfl, h1, h2, h3⟩
  · left
    have := congrArg List.length h
    rw [cellsZ, List.length_map] at this
    exact List.eq_nil_of_length_eq_zero this
  · exact .inr ⟨b, o, rfl, h2, fun hh => hh.2 h1, fun i hi => h3 i _ (by simp [cellsZ, hi])⟩
theorem p_more {B n : Nat} {X : Nat → Prop} {w6 w7 : World} {v v7 : Value} {cs : List Value} (h : ∀ b, v.ownBlock = some b → X b) (ho : w7.ownsRow B 3 1 v7 n cs) (hv : v7.ownBlock = v.ownBlock ∨ v7.ownBlock = some w6.heap.size) : ∀ b, v7.ownBlock = some b → X b ∨ (w6.heap.size ≤ b ∧ b < w7.heap.size) := fun b hb => by
  rcases hv with e | e
  · rw [e] at hb; exact .inl (h b hb)
  · have h2 := (ho.lt b hb).2
    rw [e] at hb
    have h1 := Option.some.inj hb
    exact .inr ⟨by omega, h2⟩
theorem need_511 {n : Nat} (h : n ≤ 511) : need n ≤ 11 := by unfold need; split <;> omega
set_option maxHeartbeats 40000000 in
theorem crash_law (l1 l2 l3 : List Int) (A1 A2 A3 : Option Addr) (cap1 cap2 cap3 : Nat) (W : World) (c1 : l1.length ≤ cap1) (m1 : cap1 ≤ maxLen) (h1 : Lies W W.heap.size A1 (cellsZ l1)) (c2 : l2.length ≤ cap2) (m2 : cap2 ≤ maxLen) (h2 : Lies W W.heap.size A2 (cellsZ l2))
    (c3 : l3.length ≤ cap3) (m3 : cap3 ≤ maxLen) (h3 : Lies W W.heap.size A3 (cellsZ l3)) (h64 : In64 l3) (hsz : l3.length ≤ 17592186043904) :
    Calls Tryz.prog 6 #[.slice A1 l1.length cap1, .slice A2 l2.length cap2, .slice A3 l3.length cap3] W fun e w' => e = .returned (.bool true) ∧ Below W.heap.size W w' := by
  have H1 := Lib.hid h1
  have H2 := Lib.hid h2
  have H3 := Lib.hid h3
  have H64 := Lib.hid h64
  have hl1 : l1.length ≤ maxLen := Nat.le_trans c1 m1
  have hl2 : l2.length ≤ maxLen := Nat.le_trans c2 m2
  unfold maxLen at m1 m2 m3 hl1 hl2
  have hdv : newDv (20000 : Int) = jrD 20000 (-1) [] := rfl
  have HDV := Lib.hid hdv
  clear h1 h2 h3 h64 hdv
  go_enter Tryz.func6, Tryz.ntmps6
  go_upto_region 4 with (go_at_call 10; go_must (refine (at_new (20000 : Int) _ (by omega)).mono ?_); rintro e w1 ⟨g, rfl, h1⟩; rw [HDV.out] at h1; have A1' := Lib.hid h1; clear h1)
  go_wp2_with fail
  go_loopw [8, 9] (fun v8 v9 wr => CrOut W g l2.length v8 v9 wr) (fun _ v9 _ => 4 - (intOf v9).toNat)
  case atStart => exact ⟨0, _, [], [], Nat.zero_le _, Nat.zero_le _, rfl, A1'.out, Jl.nil _, Seqs.nil, RowT.nil _, by simp, by simp⟩
  case round =>
    obtain ⟨k, X, l, bss, hk1, hk2, rfl, hA, hJl, hSq, hR, hb1, hb2⟩ := hrel
    obtain ⟨w1, hw1⟩ : ∃ w1 : World, w1 = wr := ⟨_, rfl⟩
    subst hw1
    obtain ⟨Aa, ca, rfl, ha1, ha2⟩ := hR.form
    rw [told_length] at ha1
    rw [told_length]
    obtain ⟨q, hq⟩ : ∃ q, bss.flatten.length = q := ⟨_, rfl⟩
    rw [hq] at hb2 ha1
    rw [hq]
    have hR' : RowT W.heap.size X w1 (.slice Aa q ca) (told bss) := by rw [told_length, hq] at hR; exact hR
    have AA := Lib.hid hA
    have JL := Lib.hid hJl
    have SQ := Lib.hid hSq
    have RR := Lib.hid hR'
    have HQ := Lib.hid hq
    clear hA hJl hSq hR hR' hq
    by_cases hlt : k < 4 ∧ k < l2.length
    · obtain ⟨hk3, hk4⟩ := hlt
      have hg1 : (k : Int) < 4 := by omega
      have hg2 : (k : Int) < (l2.length : Int) := by omega
      have hop := c_open (mo := 20000) AA.out JL.out SQ.out (by omega)
      obtain ⟨J2, hJ2⟩ : ∃ J2 : Jr, J2 = ⟨bss.flatten.length, 0, bss.length + 1, false⟩ := ⟨_, rfl⟩
      rw [← hJ2] at hop
      have HOP := Lib.hid hop
      clear hop hJ2
      go_upto_region 9 with (go_at_call 11; go_must (refine HOP.out.mono ?_); rintro e w2 ⟨jb, A2', c2', ms, X2, rfl, hms, hXX, hnj, hjb, hC, hk, hbm⟩; have C2 := Lib.hid hC; have MS := Lib.hid hms; have BM := Lib.hid hbm; have hml := congrArg List.length hms; have R2 := Lib.hid (RR.out.keep (X' := X2) hXX (fun i hi _ => hk.1 i hi)); have NJ2 : Hid (∀ i, (Value.slice Aa q ca).ownBlock = some i → i ≠ jb) := Lib.hid (fun i hi e => hnj (by rw [← e]; exact RR.out.blk i hi)); clear hms hXX hnj hjb hC hk hbm)
      rw [List.length_map, HQ.out] at hml
      rw [hml]
      have hmc : q ≤ c2' := by have := BM.out.1; omega
      have hmc2 : c2' ≤ maxLen := BM.out.2.1
      clear HOP
      go_wp2_with fail
      go_loopw [12] (fun v12 wx => ∃ t : Nat, t ≤ q ∧ v12 = .int .i64 (t : Int) ∧ Below w2.heap.size w2 wx) (fun v12 _ => q - (intOf v12).toNat)
      case atStart => exact ⟨0, Nat.zero_le _, rfl, Below.refl _ _⟩
      case round =>
        obtain ⟨t, ht, rfl, hw⟩ := hrel
        have HW2 := Lib.hid hw
        clear hw
        by_cases htq : t < q
        · have hg5 : (t : Int) < (q : Int) := by omega
          have htm : t < ms.length := by omega
          have hBM := BM.out.below HW2.out
          obtain ⟨b, o, rfl, _, d0, d1, d2, d3, d4⟩ := lies_bm hBM.2.2.1.lies t htm
          obtain ⟨b2, o2, rfl, e0⟩ := (R2.out.below (fun _ h => h) HW2.out).cell t (by rw [told_length, HQ.out]; exact htq)
          have hx : (told bss)[t]'(by rw [told_length, HQ.out]; exact htq) = ms[t].x.b := by
            simp only [told, ← MS.out, List.getElem_map]
          rw [hx] at e0
          have hcv : ∀ nq, (convert 30 9 (.slice ms[t].A ms[t].x.b.length ms[t].c)).run Tryz.prog (wr.drewN nq) = .ok (.string ⟨ms[t].x.b.toArray⟩) (wr.drewN nq) := fun nq => conv_of8 ((hBM.2.2.2 _ (List.getElem_mem htm)).liesP.below (below_drewN8 (Below.refl _ _) nq)) rfl _
          obtain ⟨mt, hmt⟩ : ∃ mt, mt = ms[t] := ⟨_, rfl⟩
          rw [← hmt] at d2 e0 hcv
          clear d0 d1 d3 d4 hBM hx hmt
          go_upto_region 14 with fail
          go_quiet (fail)
          go_wp2_with fail
          go_roundw
          case rel => exact ⟨t + 1, by omega, by go_num, below_drewN8 HW2.out _⟩
          case measure => simp [intOf]; omega
        · have htq' : t = q := by omega
          have hg5 : ¬ (t : Int) < (q : Int) := by omega
          obtain ⟨b2, o2, rfl, e0⟩ := zs_cell H2.out k hk4
          have hcl := e0 wr (C2.out.at_.bel.trans (HW2.out.mono C2.out.at_.le))
          obtain ⟨v, hv⟩ : ∃ v, v = l2.getD k 0 := ⟨_, rfl⟩
          rw [← hv] at hcl
          obtain ⟨fn, hfn, _, hfe⟩ := mask_is v 127 7 (by omega) (by decide)
          have hfn' : fn < 128 := hfn
          have HFU := Lib.hid (c_fuse (C2.out.below HW2.out) (fn : Int) (by omega))
          have RW := Lib.hid (R2.out.below (fun _ h => h) HW2.out)
          clear hv hfn e0 hml hmc hmc2 MS BM R2 AA RR
          go_upto_region 17 with (go_at_call 27; go_must (refine HFU.out.mono ?_); rintro e w3 ⟨rfl, hC, hk⟩; have C3 := Lib.hid hC; have R3 := Lib.hid (RW.out.keep (X' := X2) (fun _ h => h) (fun i hi _ => hk.1 i hi)); clear hC hk)
          clear HFU C2 RW HW2 hcl hfe
          go_upto_block 4 with fail
          go_cut [8, 13, 14] (fun v8 v13 v14 wx => CrEnd W g k v8 v13 v14 wx)
          case first =>
            go_wp2_with fail
            go_loopw [8, 13, 14, 15] (fun v8 v13 v14 v15 wx => CrIn W g jb k l1.length v8 v13 v14 v15 wx) (fun _ _ _ v15 _ => 20 - (intOf v15).toNat)
            case atStart => exact ⟨0, X2, _, bss, _, J2, Nat.zero_le _, Nat.zero_le _, rfl, rfl, rfl, C3.out, R3.out, NJ2.out, hb1, by rw [HQ.out]; exact hb2⟩
            case round =>
              clear C3 R3 NJ2 JL SQ HQ hb1 hb2 ha1 ha2
              obtain ⟨i, X, le, bs3, S, J, hi1, hi2, rfl, rfl, rfl, hC, hR, hNJ, hb1, hb2⟩ := hrel
              obtain ⟨A8, c8, rfl, hc8, hc8'⟩ := hR.form
              have CC := Lib.hid hC
              have RR := Lib.hid hR
              have NJ := Lib.hid hNJ
              have hfin : ∀ (bg : Bool), True := fun _ => trivial
              obtain ⟨i0, hI, hz0, hz1, hz2⟩ := info_parts str_info8
              have HI := Lib.hid hI
              have HZ0 := Lib.hid hz0
              have HZ1 := Lib.hid hz1
              have HZ2 := Lib.hid hz2
              have hts : (told bs3).length = bs3.flatten.length := told_length bs3
              have HTS := Lib.hid hts
              clear hC hR hNJ hfin hI hz0 hz1 hz2 hts
              by_cases hlt : i < l1.length ∧ i < 20
              · obtain ⟨hi3, hi4⟩ := hlt
                have hg3 : (i : Int) < (l1.length : Int) := by omega
                have hg4 : (i : Int) < 20 := by omega
                obtain ⟨b, o, rfl, e0⟩ := zs_cell H1.out i hi3
                have hcl := e0 wr CC.out.at_.bel
                obtain ⟨v, hv⟩ : ∃ v, v = l1.getD i 0 := ⟨_, rfl⟩
                rw [← hv] at hcl
                obtain ⟨nn, hnn, _, hne⟩ := mask_is v 511 9 (by omega) (by decide)
                have hnn' : nn < 512 := hnn
                have hnd : need nn ≤ 11 := need_511 (by omega)
                have hkw : IntKind.i64.wrap ((k : Int) + (i : Int)) = (k : Int) + (i : Int) := IntWalk.i64_in _ ⟨by omega, by omega⟩
                have HOC := Lib.hid (fun w => octets_any nn (by omega) ((k : Int) + (i : Int)) ⟨by omega, by omega⟩ w)
                have hap := fun (X3 : Nat → Prop) (w : World) (A3 : Option Addr) (c3 : Nat) (lb : List UInt8) (hlb : lb.length = nn) (h : CAt W.heap.size g jb 20000 le (231 * k + 11 * i) X3 W bs3 S J w) (hl : LiesP w (fun i => X3 i ∧ i ≠ jb) A3 (B8 lb)) => c_append h 1 (by omega) A3 c3 lb hl (by omega) (by rw [hlb]; omega) (by omega) (by omega)
                have HAP := Lib.hid hap
                have HND := Lib.hid hnd
                clear hap hv hnn hnd e0
                go_upto_region 23 with (go_at_call 13; go_must (refine (HOC.out _).mono ?_); rintro e w5 ⟨A5, c5, lb, rfl, hlb, ho5, hb5⟩; obtain ⟨X5, hXX5, cc5, lb5⟩ := CC.out.ready ho5 hb5; have C5 := Lib.hid cc5; have L5 := Lib.hid lb5; have HLB := Lib.hid hlb; have R5 := Lib.hid (RR.out.below hXX5 hb5); clear hlb ho5 hb5 cc5 lb5 hXX5)
                clear hcl hne
                go_wp2_with fail
                refine (HAP.out X5 w5 A5 c5 lb HLB.out C5.out L5.out).mono ?_
                rintro e w6 ⟨m, X6, hXX6, hk6, hc6⟩
                have R6 := Lib.hid (R5.out.keep hXX6 (fun q hq ho => hk6.1 q hq (NJ.out q ho)))
                have L6 := Lib.hid ((L5.out.kept (fun q _ hq => hk6.1 q hq.1 hq.2) hk6.2).mono (Q := fun q => X6 q ∧ q ≠ jb) (fun q _ hq => ⟨hXX6 q hq.1, hq.2⟩))
                obtain ⟨mx, mA, mc⟩ := m
                obtain ⟨w7, hw7⟩ : ∃ w7, w7 = w6.alloc (.cells #[.int .u64 (mx.seq : Int), .int .i64 (mx.kind : Int), .slice mA mx.b.length mc, .int .i64 mx.file, .int .i64 mx.pos] 32) := ⟨_, rfl⟩
                have b7 : Below w6.heap.size w6 w7 := by rw [hw7]; exact (Below.refl _ _).alloc (Nat.le_refl _) _
                have R7 := Lib.hid (R6.out.below (fun _ h => h) b7)
                have hcv : (convert 30 9 (.slice A5 lb.length c5)).run Tryz.prog w7 = .ok (.string ⟨lb.toArray⟩) w7 := conv_of8 (L6.out.below b7) rfl c5
                have HFL := Lib.hid (addB_flat CC.out.c.stays (newB bs3 J 1 lb))
                have HLN := Lib.hid (addB_len bs3 J (newB bs3 J 1 lb) CC.out.c.stays)
                have HSQ := Lib.hid CC.out.c.seqs
                have HSE := Lib.hid CC.out.c.seq
                clear hXX6 hk6 CC RR C5 L5 R5 HAP HOC
                rcases hc6 with ⟨le6, S6, rfl, hm, hC6⟩ | ⟨S6, rfl, hA6, hcr⟩
                · have C7 := Lib.hid (hC6.below b7)
                  have B7 := Lib.hid hC6.at_.le
                  have hsz7 : w6.heap.size ≤ w7.heap.size := b7.size
                  clear hm hC6 b7
                  unfold btV
                  go_upto_region 26 with fail
                  rw [← hw7]
                  clear hw7
                  have hs1 : (told bs3).length + 1 ≤ maxLen := by rw [HTS.out]; unfold maxLen; omega
                  have hs2 : ((told bs3).length + 1) * 16 ≤ 140737488355328 := by rw [HTS.out]; omega
                  have hone : ∀ u ∈ [Value.string ⟨lb.toArray⟩], u.oneCell' = true := fun u hu => by simp [List.mem_singleton.1 hu, Value.oneCell']
                  have HS1 := Lib.hid hs1
                  have HS2 := Lib.hid hs2
                  have HON := Lib.hid hone
                  have HBE : Hid (W.heap.size ≤ (w7.alloc (.cells #[.string ⟨lb.toArray⟩] 9)).heap.size) := Lib.hid (by have := B7.out; simp; omega)
                  clear hs1 hs2 hone
                  go_upto_region 21 with (at_builtin; go_must (refine wpList_append_own2 rfl _ _ 73 rfl W.heap.size 9 i0 _ 1 16 Tryz.underlying73 HI.out HZ0.out HZ1.out HZ2.out rfl (by omega) (.slice A8 (told bs3).length c8) (told bs3).length (cellsT (told bs3)) rfl (R7.out.row.alloc _) _ _ 1 1 [.string ⟨lb.toArray⟩] rfl (Lies.lit w7 9 [.string ⟨lb.toArray⟩]) rfl HON.out HS1.out HS2.out HBE.out ?_); intro v9 w9 ho9 hg9 hv9; have R9 := Lib.hid (R7.out.more ((Below.refl _ _).alloc (Nat.le_refl _) _) ho9 hv9); have C9 := Lib.hid ((C7.out.below ((Below.refl _ _).alloc (Nat.le_refl _) _)).grown (fun q hq => ⟨R7.out.blk q hq, NJ.out q hq⟩) hg9); have NJ9 : Hid (∀ q, v9.ownBlock = some q → q ≠ jb) := Lib.hid (fun q hq => (by rcases hv9 with e | e; exact NJ.out q (e ▸ hq); rw [e] at hq; have h1 := Option.some.inj hq; have h2 := C7.out.jlt; simp at h1; omega)); clear ho9 hg9 hv9)
                  go_wp2_with fail
                  go_roundw
                  case rel =>
                    have hll := HLB.out
                    have hnd := HND.out
                    have hln := HLN.out
                    refine ⟨i + 1, _, le6, _, S6, _, by omega, by omega, by go_num, rfl, rfl, C9.out.room (by rw [hll]; omega), ?_, NJ9.out, by omega, by rw [HFL.out, List.length_append, List.length_singleton]; omega⟩
                    have := R9.out
                    unfold told at this ⊢
                    rw [HFL.out, List.map_append]
                    exact this
                  case measure => simp [intOf]; omega
                · have A7 := Lib.hid (hA6.below b7).1
                  have hcr' : ∀ ps, ∃ l' bss', crash S6 ps = jrD 20000 (-1) l' ∧ Jl l' bss' (231 * (k + 1)) ∧ bss'.length ≤ 21 * (k + 1) ∧ Seqs bss'.flatten ∧ (bss'.flatten = bs3.flatten ∨ (true = true ∧ ∃ x, bss'.flatten = bs3.flatten ++ [x] ∧ x.b = lb)) := fun ps => by
                    obtain ⟨l', bss', g1, g2, g3, g4⟩ := hcr ps
                    have hll := HLB.out
                    have hnd := HND.out
                    refine ⟨l', bss', g1, g2.mono (by rw [hll]; omega), by omega, ?_, ?_⟩
                    · rcases g4 with g4 | g4
                      · rw [g4]; exact HSQ.out
                      · rw [g4]; exact HSQ.out.snoc (by show J.seq + 1 = _; rw [HSE.out])
                    · rcases g4 with g4 | g4
                      · exact .inl g4
                      · exact .inr ⟨rfl, _, g4, rfl⟩
                  have D : Hid (CrEnd W g k (.slice A8 (told bs3).length c8) (.string ⟨lb.toArray⟩) (.bool true) w7) := Lib.hid ⟨bs3, X6, S6, true, lb, rfl, rfl, A7.out, R7.out, by omega, hcr'⟩
                  clear hA6 hcr hcr' b7
                  unfold btV
                  go_upto_region 25 with fail
                  rw [← hw7]
                  clear hw7
                  go_wp2_with fail
                  go_meet
                  exact D.out
              · have hends : ¬ (i : Int) < (l1.length : Int) ∨ ((i : Int) < (l1.length : Int) ∧ ¬ (i : Int) < 20) := by omega
                have D : Hid (CrEnd W g k (.slice A8 (told bs3).length c8) (.string ⟨#[]⟩) (.bool false) wr) := Lib.hid ⟨bs3, X, S, false, [], rfl, rfl, CC.out.at_, RR.out, by omega, fun ps => by
                  obtain ⟨l', e1, e2⟩ := CC.out.c.crash (by omega) ps
                  exact ⟨l', bs3, e1, e2.mono (by omega), by omega, CC.out.c.seqs, .inl rfl⟩⟩
                clear hlt
                rcases hends with hg3 | ⟨hg3, hg4⟩
                all_goals
                  go_wp2_with fail
                  go_meet
                  exact D.out
          case rest =>
            obtain ⟨bs4, X4, S4, bg, mr, rfl, rfl, hA, hR, hb4, hcr⟩ := hcut
            obtain ⟨A8, c8, rfl, hc8, hc8'⟩ := hR.form
            obtain ⟨w4, hw4⟩ : ∃ w4 : World, w4 = wc := ⟨_, rfl⟩
            subst hw4
            have A4 := Lib.hid hA
            have R4 := Lib.hid hR
            have CR := Lib.hid hcr
            have HTS := Lib.hid (told_length bs4)
            obtain ⟨i0, hI, hz0, hz1, hz2⟩ := info_parts str_info8
            have HI := Lib.hid hI
            have HZ0 := Lib.hid hz0
            have HZ1 := Lib.hid hz1
            have HZ2 := Lib.hid hz2
            obtain ⟨i1, hI1, hy0, hy1, hy2⟩ := info_parts int_info8
            have HI1 := Lib.hid hI1
            have HY0 := Lib.hid hy0
            have HY1 := Lib.hid hy1
            have HY2 := Lib.hid hy2
            clear hA hR hcr hI hz0 hz1 hz2 hI1 hy0 hy1 hy2 C3 R3 NJ2 JL SQ HQ hb1 hb2 ha1 ha2
            obtain ⟨q4, hq4⟩ : ∃ q4, (told bs4).length = q4 := ⟨_, rfl⟩
            rw [hq4] at R4 hc8
            rw [hq4]
            have HQ4 := Lib.hid hq4
            have hq4b : q4 ≤ 21 * k + 20 := by rw [← hq4, HTS.out]; exact hb4
            clear hq4 hb4
            go_wp2_with fail
            go_loopw [19, 20] (fun v19 v20 wx => CrP W g S4 l3.length (.slice A8 q4 c8) (told bs4) v19 v20 wx) (fun _ v20 _ => l3.length - (intOf v20).toNat)
            case atStart => exact ⟨X4, [], Nat.zero_le _, rfl, A4.out, R4.out, World.ownsRow_nil _ _ _ _, (fun q hq => by cases hq), (fun p hp => by cases hp)⟩
            case round =>
              obtain ⟨X5, ps, htl, rfl, hA5, hR5, hO5, hP5, h65⟩ := hrel
              obtain ⟨t, ht⟩ : ∃ t, t = ps.length := ⟨_, rfl⟩
              rw [← ht] at htl hO5
              rw [← ht]
              have A5 := Lib.hid hA5
              have R5 := Lib.hid hR5
              have O5 := Lib.hid hO5
              have P5 := Lib.hid hP5
              have S5 := Lib.hid h65
              have HT := Lib.hid ht
              clear hA5 hR5 hO5 hP5 h65 ht
              by_cases hlt : t < l3.length
              · have hg3 : (t : Int) < (l3.length : Int) := by omega
                obtain ⟨b, o, rfl, e0⟩ := zs_cell H3.out t hlt
                have hcl := e0 wr A5.out.bel
                obtain ⟨v, hv⟩ : ∃ v, v = l3.getD t 0 := ⟨_, rfl⟩
                rw [← hv] at hcl
                obtain ⟨z, hz⟩ : ∃ z, IntKind.i64.wrap (v + (k : Int)) = z := ⟨_, rfl⟩
                have hzr : -9223372036854775808 ≤ z ∧ z < 9223372036854775808 := by rw [← hz]; simp [IntKind.wrap, IntKind.signed, IntKind.bits]; omega
                have HZR := Lib.hid hzr
                have hs1 : t + 1 ≤ maxLen := by unfold maxLen; omega
                have hs2 : (t + 1) * 8 ≤ 140737488355328 := by omega
                have hone : ∀ u ∈ [Value.int .i64 z], u.oneCell' = true := fun u hu => by simp [List.mem_singleton.1 hu, Value.oneCell']
                have HS1 := Lib.hid hs1
                have HS2 := Lib.hid hs2
                have HON := Lib.hid hone
                have HBE : Hid (W.heap.size ≤ (wr.alloc (.cells #[.int .i64 z] 3)).heap.size) := Lib.hid (by have := A5.out.le; simp; omega)
                have RB := Lib.hid (row_beside R5.out O5.out (by decide))
                clear hs1 hs2 hone hv e0 hzr
                go_upto_region 30 with (at_builtin; go_must (refine wpList_append_own2 rfl _ _ 22 rfl W.heap.size 3 i1 _ 1 8 Tryz.underlying22 HI1.out HY0.out HY1.out HY2.out rfl (by omega) _ t (cellsZ ps) rfl (O5.out.alloc _) _ _ 1 1 [.int .i64 z] rfl (Lies.lit wr 3 [.int .i64 z]) rfl HON.out HS1.out HS2.out HBE.out ?_); intro v9 w9 ho9 hg9 hv9; have A9 := Lib.hid ((A5.out.below ((Below.refl _ _).alloc (Nat.le_refl _) (.cells #[.int .i64 z] 3))).1.grown (fun q hq => P5.out q hq) hg9); have R9 := Lib.hid ((R5.out.below (fun _ h => h) ((Below.refl _ _).alloc (Nat.le_refl _) (.cells #[.int .i64 z] 3))).keep (X' := fun i => X5 i ∨ ((wr.alloc (.cells #[.int .i64 z] 3)).heap.size ≤ i ∧ i < w9.heap.size)) (fun i hi => .inl hi) (fun q hq ho => hg9.block q ((R5.out.row.alloc _).lt q ho).2 (RB.out q ho))); have O9 := Lib.hid ho9; have P9 := Lib.hid (p_more P5.out ho9 hv9); clear ho9 hg9 hv9)
                go_wp2_with fail
                go_roundw
                case rel =>
                  refine ⟨_, ps ++ [z], by rw [List.length_append, List.length_singleton, ← HT.out]; omega, by rw [List.length_append, List.length_singleton, ← HT.out]; go_num, A9.out, R9.out, ?_, P9.out, fun p hp => ?_⟩
                  · rw [List.length_append, List.length_singleton, ← HT.out, show cellsZ (ps ++ [z]) = cellsZ ps ++ [.int .i64 z] by simp [cellsZ]]
                    exact O9.out
                  · rcases List.mem_append.1 hp with hp | hp
                    · exact S5.out p hp
                    · rw [List.mem_singleton.1 hp]; exact HZR.out
                case measure => simp [intOf]; omega
              · have hg3 : ¬ (t : Int) < (l3.length : Int) := by omega
                obtain ⟨Ap, cp, rfl, hcp1, hcp2⟩ := own_form O5.out
                obtain ⟨l6, bss6, e1, e2, e3, e4, e5⟩ := CR.out ps
                have HCR := Lib.hid (at_crashN A5.out Ap ps t cp HT.out.symm hcp1 hcp2 (pick_own O5.out P5.out) S5.out e1)
                have J6 := Lib.hid e2
                have SQ6 := Lib.hid e4
                clear e1 e2 e4 hcp1 hcp2
                go_upto_region 33 with (go_at_call 29; go_must (refine HCR.out.mono ?_); rintro e w6 ⟨rfl, hA6, hk6⟩; have A6 := Lib.hid hA6; have R6 := Lib.hid (R5.out.keep (X' := X5) (fun _ h => h) (fun i hi _ => hk6.1 i hi)); clear hA6 hk6)
                have HSC := Lib.hid (c_scan A6.out J6.out SQ6.out (by omega))
                clear HCR A5 R5 O5 P5
                go_upto_region 34 with (go_at_call 19; go_must (refine HSC.out.mono ?_); rintro e w7 ⟨A7, c7, ms, rfl, hms, hbm, hb7⟩; have MS := Lib.hid hms; have hml := congrArg List.length hms; have BM := Lib.hid hbm; have A7' := Lib.hid (A6.out.below hb7).1; have R7 := Lib.hid (R6.out.below (fun _ h => h) hb7); clear hbm hb7 hms)
                rw [List.length_map] at hml
                have hwq : IntKind.i64.wrap ((q4 : Int) + 1) = (q4 : Int) + 1 := IntWalk.i64_in _ ⟨by omega, by omega⟩
                rcases e5 with hs | ⟨rfl, x, hs, hxm⟩
                · have hml4 : ms.length = q4 := by rw [hml, hs, ← HTS.out, HQ4.out]
                  rw [hml4]
                  have FL6 : Hid (bss6.flatten.length = q4) := Lib.hid (by rw [← hml, hml4])
                  have hne4 : ((q4 : Int) == (q4 : Int) + 1) = false := beq_false_of_ne (by omega)
                  have HS := Lib.hid hs
                  clear hml hs
                  go_wp2_with fail
                  have hq5 : q4 ≤ 21 * k + 21 := by omega
                  have hcm5 : q4 ≤ c7 := by have := BM.out.1; omega
                  have hcm6 : c7 ≤ maxLen := BM.out.2.1
                  go_loopw [22] (fun v22 wx => ∃ t : Nat, t ≤ q4 ∧ v22 = .int .i64 (t : Int) ∧ Below w7.heap.size w7 wx) (fun v22 _ => q4 - (intOf v22).toNat)
                  case atStart => exact ⟨0, Nat.zero_le _, rfl, Below.refl _ _⟩
                  case round =>
                    obtain ⟨t, ht, rfl, hw⟩ := hrel
                    have HW := Lib.hid hw
                    clear hw
                    by_cases htq : t < q4
                    · have hg5 : (t : Int) < (q4 : Int) := by omega
                      have htm : t < ms.length := by omega
                      have hBM := BM.out.below HW.out
                      obtain ⟨b, o, rfl, _, d0, d1, d2, d3, d4⟩ := lies_bm hBM.2.2.1.lies t htm
                      obtain ⟨b9, o9, rfl, e0⟩ := (R7.out.below (fun _ h => h) HW.out).cell t (by have := HQ4.out; omega)
                      have hx : (told bs4)[t]'(by have := HQ4.out; omega) = ms[t].x.b := by simp only [told, ← HS.out, ← MS.out, List.getElem_map]
                      rw [hx] at e0
                      have hsx : ms[t].x.seq = t + 1 := SQ6.out t _ (by rw [← MS.out, List.getElem?_map, List.getElem?_eq_getElem htm]; rfl)
                      rw [hsx] at d0
                      have hw1 : IntKind.i64.wrap ((t : Int) + 1) = (t : Int) + 1 := IntWalk.i64_in _ ⟨by omega, by omega⟩
                      have hw2 : IntKind.u64.wrap ((t : Int) + 1) = (t : Int) + 1 := IntWalk.u64_in _ ⟨by omega, by omega⟩
                      have hcv : ∀ nq, (convert 30 9 (.slice ms[t].A ms[t].x.b.length ms[t].c)).run Tryz.prog (wr.drewN nq) = .ok (.string ⟨ms[t].x.b.toArray⟩) (wr.drewN nq) := fun nq => conv_of8 ((hBM.2.2.2 _ (List.getElem_mem htm)).liesP.below (below_drewN8 (Below.refl _ _) nq)) rfl _
                      obtain ⟨mt, hmt⟩ : ∃ mt, mt = ms[t] := ⟨_, rfl⟩
                      rw [← hmt] at d2 e0 hcv
                      clear d1 d3 d4 hBM hx hmt hsx
                      go_upto_region 41 with fail
                      go_quiet (fail)
                      go_wp2_with fail
                      go_roundw
                      case rel => exact ⟨t + 1, by omega, by go_num, below_drewN8 HW.out _⟩
                      case measure => simp [intOf]; omega
                    · have htq' : t = q4 := by omega
                      have hg5 : ¬ (t : Int) < (q4 : Int) := by omega
                      go_wp2_with fail
                      go_roundw
                      case rel => exact ⟨k + 1, X5, l6, bss6, by omega, by omega, by go_num, (A7'.out.below HW.out).1, J6.out, SQ6.out, by have := R7.out.below (fun _ h => h) HW.out; unfold told at this ⊢; rw [HS.out]; exact this, by omega, by have := FL6.out; omega⟩
                      case measure => simp [intOf]; omega
                · obtain ⟨q5, hq5⟩ : ∃ q5, q5 = q4 + 1 := ⟨_, rfl⟩
                  have hml4 : ms.length = q5 := by rw [hml, hs, List.length_append, List.length_singleton, ← HTS.out, HQ4.out, hq5]
                  have FL6 : Hid (bss6.flatten.length = q5) := Lib.hid (by rw [← hml, hml4])
                  have HALL : Hid (told bs4 ++ [mr] = ms.map fun m => m.x.b) := Lib.hid (by
                    have e : ms.map (fun m => m.x.b) = (ms.map (·.x)).map (·.b) := by rw [List.map_map]; rfl
                    rw [e, MS.out, hs, List.map_append, List.map_singleton, hxm]
                    rfl)
                  have HTL : Hid (told bss6 = told bs4 ++ [mr]) := Lib.hid (by unfold told; rw [hs, List.map_append, List.map_singleton, hxm])
                  have HTX : Hid ((told bs4 ++ [mr]).length = q5) := Lib.hid (by rw [List.length_append, List.length_singleton, HQ4.out, hq5])
                  have htm : q4 < ms.length := by omega
                  have hxb : ms[q4].x.b = mr := by
                    have e : (told bs4 ++ [mr])[q4]'(by rw [HTX.out]; omega) = ms[q4].x.b := (List.getElem_of_eq HALL.out _).trans (by simp)
                    rw [← e, List.getElem_append_right (by rw [HQ4.out]; exact Nat.le_refl _)]
                    simp
                  obtain ⟨b, o, rfl, _, d0, d1, d2, d3, d4⟩ := lies_bm BM.out.2.2.1.lies q4 htm
                  have hcv : (convert 30 9 (.slice ms[q4].A ms[q4].x.b.length ms[q4].c)).run Tryz.prog w7 = .ok (.string ⟨mr.toArray⟩) w7 := by rw [conv_of8 (BM.out.2.2.2 _ (List.getElem_mem htm)).liesP rfl _, hxb]
                  have HBX := Lib.hid hxb
                  obtain ⟨mq, hmq⟩ : ∃ mq, mq = ms[q4] := ⟨_, rfl⟩
                  rw [← hmq] at d2 hcv
                  rw [hml4]
                  have heq4 : ((q5 : Int) == (q4 : Int) + 1) = true := by rw [hq5]; simp
                  have hlt5 : (q4 : Int) < (q5 : Int) := by omega
                  have hcm0 : q5 ≤ c7 := by have := BM.out.1; omega
                  have hcm1 : c7 ≤ maxLen := BM.out.2.1
                  have O7 : Hid (w7.ownsRow W.heap.size 9 1 (.slice A8 q4 c8) q4 (cellsT (told bs4))) := Lib.hid (by have := R7.out.row; rw [HQ4.out] at this; exact this)
                  have OF7 : Hid (BmsAt w7 (Off (.slice A8 q4 c8)) ms (some ⟨b, o, none⟩) c7) := Lib.hid (BM.out.mono (fun q hq h => fun e => by have := (R6.out.row.lt q e.symm).2; omega))
                  have hs1 : q4 + 1 ≤ maxLen := by unfold maxLen; omega
                  have hs2 : (q4 + 1) * 16 ≤ 140737488355328 := by omega
                  have hone : ∀ u ∈ [Value.string ⟨mr.toArray⟩], u.oneCell' = true := fun u hu => by simp [List.mem_singleton.1 hu, Value.oneCell']
                  have HS1 := Lib.hid hs1
                  have HS2 := Lib.hid hs2
                  have HON := Lib.hid hone
                  have HBE : Hid (W.heap.size ≤ (w7.alloc (.cells #[.string ⟨mr.toArray⟩] 9)).heap.size) := Lib.hid (by have := A7'.out.le; simp; omega)
                  clear hml hs hxm d0 d1 d3 d4 hxb hmq hs1 hs2 hone
                  go_upto_region 35 with fail
                  clear d2 hcv
                  go_upto_region 36 with (at_builtin; go_must (refine wpList_append_own2 rfl _ _ 73 rfl W.heap.size 9 i0 _ 1 16 Tryz.underlying73 HI.out HZ0.out HZ1.out HZ2.out rfl (by omega) (.slice A8 q4 c8) q4 (cellsT (told bs4)) rfl (O7.out.alloc _) _ _ 1 1 [.string ⟨mr.toArray⟩] rfl (Lies.lit w7 9 [.string ⟨mr.toArray⟩]) rfl HON.out HS1.out HS2.out HBE.out ?_); intro v9 w9 ho9 hg9 hv9; have R9 := Lib.hid (R7.out.more ((Below.refl _ _).alloc (Nat.le_refl _) (.cells #[.string ⟨mr.toArray⟩] 9)) (by rw [HQ4.out]; exact ho9) hv9); have A9 := Lib.hid ((A7'.out.below ((Below.refl _ _).alloc (Nat.le_refl _) (.cells #[.string ⟨mr.toArray⟩] 9))).1.grown (fun q hq => R7.out.blk q hq) hg9); have BM9 := Lib.hid (bms_grown (OF7.out.below ((Below.refl _ _).alloc (Nat.le_refl _) (.cells #[.string ⟨mr.toArray⟩] 9))) hg9 hv9); have O9 := Lib.hid ho9; clear ho9 hg9 hv9)
                  obtain ⟨A9a, c9a, rfl, hc9, hc9'⟩ := own_form O9.out
                  rw [← hq5] at R9 hc9 ⊢
                  go_wp2_with fail
                  have hq5' : q5 ≤ 21 * k + 21 := by omega
                  have hcm5 : q5 ≤ c7 := by have := BM9.out.1; omega
                  have hcm6 : c7 ≤ maxLen := BM9.out.2.1
                  go_loopw [22] (fun v22 wx => ∃ t : Nat, t ≤ q5 ∧ v22 = .int .i64 (t : Int) ∧ Below w9.heap.size w9 wx) (fun v22 _ => q5 - (intOf v22).toNat)
                  case atStart => exact ⟨0, Nat.zero_le _, rfl, Below.refl _ _⟩
                  case round =>
                    obtain ⟨t, ht, rfl, hw⟩ := hrel
                    have HW := Lib.hid hw
                    clear hw
                    by_cases htq : t < q5
                    · have hg5 : (t : Int) < (q5 : Int) := by omega
                      have htm : t < ms.length := by omega
                      have hBM := BM9.out.below HW.out
                      obtain ⟨b7, o7, eA, _, d0, d1, d2, d3, d4⟩ := lies_bm hBM.2.2.1.lies t htm
                      injection eA with eA
                      injection eA with eb eo
                      subst eb eo
                      obtain ⟨b9, o9, rfl, e0⟩ := (R9.out.below (fun _ h => h) HW.out).cell t (by have := HTX.out; omega)
                      have hx : (told bs4 ++ [mr])[t]'(by have := HTX.out; omega) = ms[t].x.b := (List.getElem_of_eq HALL.out _).trans (by simp)
                      rw [hx] at e0
                      have hsx : ms[t].x.seq = t + 1 := SQ6.out t _ (by rw [← MS.out, List.getElem?_map, List.getElem?_eq_getElem htm]; rfl)
                      rw [hsx] at d0
                      have hw1 : IntKind.i64.wrap ((t : Int) + 1) = (t : Int) + 1 := IntWalk.i64_in _ ⟨by omega, by omega⟩
                      have hw2 : IntKind.u64.wrap ((t : Int) + 1) = (t : Int) + 1 := IntWalk.u64_in _ ⟨by omega, by omega⟩
                      have hcv : ∀ nq, (convert 30 9 (.slice ms[t].A ms[t].x.b.length ms[t].c)).run Tryz.prog (wr.drewN nq) = .ok (.string ⟨ms[t].x.b.toArray⟩) (wr.drewN nq) := fun nq => conv_of8 ((hBM.2.2.2 _ (List.getElem_mem htm)).liesP.below (below_drewN8 (Below.refl _ _) nq)) rfl _
                      obtain ⟨mt, hmt⟩ : ∃ mt, mt = ms[t] := ⟨_, rfl⟩
                      rw [← hmt] at d2 e0 hcv
                      clear d1 d3 d4 hBM hx hmt hsx
                      go_upto_region 41 with fail
                      go_quiet (fail)
                      go_wp2_with fail
                      go_roundw
                      case rel => exact ⟨t + 1, by omega, by go_num, below_drewN8 HW.out _⟩
                      case measure => simp [intOf]; omega
                    · have htq' : t = q5 := by omega
                      have hg5 : ¬ (t : Int) < (q5 : Int) := by omega
                      go_wp2_with fail
                      go_roundw
                      case rel => exact ⟨k + 1, _, l6, bss6, by omega, by omega, by go_num, (A9.out.below HW.out).1, J6.out, SQ6.out, by have := R9.out.below (fun _ h => h) HW.out; rw [hq5] at this; rw [HTL.out]; exact this, by omega, by have := FL6.out; omega⟩
                      case measure => simp [intOf]; omega
    · have hends : ¬ (k : Int) < 4 ∨ ((k : Int) < 4 ∧ ¬ (k : Int) < (l2.length : Int)) := by omega
      have WB := Lib.hid AA.out.bel
      have WL := Lib.hid AA.out.le
      clear hlt
      rcases hends with hg1 | ⟨hg1, hg2⟩
      all_goals
        go_wp2_with (go_at_call 14; go_must (refine (awake8 _).mono ?_); rintro e w6 ⟨rfl, hb6⟩; have B6 := Lib.hid (WB.out.trans (hb6.mono WL.out)); clear hb6)
        go_ret
        exact ⟨by first | rfl | (simp; done) | (simp; omega), B6.out⟩
end
section
open Go.RowKit Go.Maps Go.ChangeShapes Go.WideShapes
set_option maxRecDepth 100000
theorem open_zs_long {H : Type} {enc : TypeId × Value → H} {w : World} {base : Nat} {held : Bool} {fuel : Nat} {cs : List Value} {x : DataW H × List MemPlace} (h : DataW.trod enc Tryz.prog w base (fun _ => true) held fuel 22 cs = some x) :
    ∃ (a : Option Addr) (l : List Int) (cap : Nat), cs = [.slice a l.length cap] ∧ l.length ≤ cap ∧ cap ≤ maxLen ∧ Lies w w.heap.size a (cellsZ l) ∧ In64 l ∧ (l.length = 0 ∨ ∃ es sp, x.1 = .slice es sp ∧ l.length ≤ es.length + sp.length) := by
  obtain ⟨a, l, cap, e, g1, g2, g3, g4⟩ := open_zs h
  refine ⟨a, l, cap, e, g1, g2, g3, g4, ?_⟩
  rcases open_ints Tryz.underlying22 Tryz.underlying3 (by kernel_rfl) h with ⟨e2, _⟩ | ⟨a2, len, cap2, zs, e2, _, h1, h2, h3, h6, h4, h5⟩
  · left
    rw [e] at e2
    simp at e2
    rw [e2.2.1]; rfl
  · right
    rw [e] at e2
    simp at e2
    have hle : len ≤ zs.length := by rw [h3]; split <;> omega
    rw [h6]
    refine ⟨_, _, rfl, ?_⟩
    simp only [lits, List.length_map, List.length_take, List.length_drop]
    omega
end
end Go.Proofs.YtmemdkgoeldemaaGreatDoor
