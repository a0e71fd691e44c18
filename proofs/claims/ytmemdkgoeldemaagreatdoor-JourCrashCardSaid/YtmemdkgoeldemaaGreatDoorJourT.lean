/- Layer 8, plain: journals that were begun on an empty device; what is appended is told. Layer 8, plain: a journal that goes on; what Open and Append do to it. -/
import Derived.Test.YtmemdkgoeldemaaGreatDoorJourR
import Derived.Test.YtmemdkgoeldemaaGreatDoorJourQ
import Derived.Test.YtmemdkgoeldemaaGreatDoorJourY
namespace Go.Proofs.YtmemdkgoeldemaaGreatDoor
section
open Go.RowKit Go.Maps
set_option maxRecDepth 100000
set_option linter.unusedSimpArgs false
set_option linter.unusedVariables false
/-- the batches bss stand in the files of a device, one row in each -/
def JD (mo : Nat) (bss : List (List Bt)) (S : Dv) : Prop :=
  ∃ l : List Fil, S = jrD mo (-1) l ∧ l.length = bss.length ∧ ∀ k F bs, l[k]? = some F → bss[k]? = some bs → F.l.length = needs bs ∧ RowAt F 0 bs ∧ ∀ x ∈ bs, GoodB x ∧ x.file = ((k + 1 : Nat) : Int)
def needss (bss : List (List Bt)) : Nat := (bss.map needs).sum
theorem needss_snoc (bss : List (List Bt)) (bs : List Bt) : needss (bss ++ [bs]) = needss bss + needs bs := by simp [needss]
theorem needs_nil : needs [] = 0 := rfl
theorem tot_same : ∀ (l : List Fil) (bss : List (List Bt)), l.length = bss.length → (∀ (k : Nat) (F : Fil) (bs : List Bt), l[k]? = some F → bss[k]? = some bs → F.l.length = needs bs) → totF l = needss bss := by
  intro l
  induction l with
  | nil =>
    intro bss h _
    have : bss = [] := List.eq_nil_of_length_eq_zero h.symm
    subst this
    rfl
  | cons F r ih =>
    intro bss h hk
    cases bss with
    | nil => cases h
    | cons bs t =>
      have h1 := hk 0 F bs (by simp) (by simp)
      have h2 := ih t (by simpa using h) (fun k G cs h1 h2 => hk (k + 1) G cs (by simpa using h1) (by simpa using h2))
      simp only [totF, needss, List.map_cons, List.sum_cons] at h2 ⊢
      omega
section
variable {mo : Nat} {bss : List (List Bt)} {S : Dv}
theorem JD.used (h : JD mo bss S) : S.used = needss bss := by
  obtain ⟨l, rfl, h1, h2⟩ := h
  rw [jrD_used]
  exact tot_same l bss h1 fun k F bs a b => (h2 k F bs a b).1
theorem JD.most (h : JD mo bss S) : S.most = mo := by
  obtain ⟨l, rfl, h1, h2⟩ := h
  rfl
theorem JD.files (h : JD mo bss S) : S.fs.length = bss.length := by
  obtain ⟨l, rfl, h1, h2⟩ := h
  rw [← h1]
  exact jrFs_length l 1
theorem JD.len (h : JD mo bss S) (hl : bss.length ≤ 999999) {j : Nat} {bs : List Bt} (hj : bss[j]? = some bs) : S.len (nmJ ((j + 1 : Nat) : Int)) = needs bs := by
  obtain ⟨l, rfl, h1, h2⟩ := h
  have hlt := (List.getElem?_eq_some_iff.1 hj).1
  rw [jrD_len (by omega) (by omega) (by omega)]
  have : l[j]? = some l[j] := List.getElem?_eq_getElem (by omega)
  rw [show j + 1 - 1 = j by omega, this]
  exact (h2 j _ bs this hj).1
theorem jrFs_names (l : List Fil) : ∀ k, (jrFs k l).map (·.1) = (List.range l.length).map fun i => nmJ ((k + i : Nat) : Int) := by
  induction l with
  | nil => intro k; rfl
  | cons F r ih =>
    intro k
    show nmJ (k : Int) :: (jrFs (k + 1) r).map (·.1) = _
    rw [ih (k + 1), List.length_cons, List.range_succ_eq_map, List.map_cons, List.map_map]
    congr 1
    apply List.map_congr_left
    intro i _
    simp only [Function.comp, Nat.succ_eq_add_one]
    congr 2
    omega
def nums (n : Nat) : List Int := (List.range n).map fun i => ((i + 1 : Nat) : Int)
theorem JD.names (h : JD mo bss S) : S.fs.map (·.1) = (nums bss.length).map nmJ := by
  obtain ⟨l, rfl, h1, h2⟩ := h
  show (jrFs 1 l).map (·.1) = _
  rw [jrFs_names, h1, nums, List.map_map]
  apply List.map_congr_left
  intro i _
  simp only [Function.comp]
  congr 2
  omega
/-- the batches of all files -/
def scN (S : Dv) (ns : List Int) (l : List Bt) : List Bt := ns.foldl (fun l n => scF S (nmJ n) n (S.len (nmJ n) + 1) 0 l) l
theorem flows_app : ∀ (a l b : List Bt), Flows l (a ++ b) ↔ Flows l a ∧ Flows (l ++ a) b := by
  intro a
  induction a with
  | nil => intro l b; simp [Flows]
  | cons x r ih =>
    intro l b
    show (flw l x = true ∧ Flows (l ++ [x]) (r ++ b)) ↔ (flw l x = true ∧ Flows (l ++ [x]) r) ∧ Flows (l ++ (x :: r)) b
    rw [ih, and_assoc, List.append_assoc]
    rfl
def Seqs (l : List Bt) : Prop := ∀ i x, l[i]? = some x → x.seq = i + 1
theorem Seqs.nil : Seqs [] := fun i x h => by simp at h
theorem Seqs.snoc {l : List Bt} (h : Seqs l) {x : Bt} (hx : x.seq = l.length + 1) : Seqs (l ++ [x]) := by
  intro i y hy
  rcases Nat.lt_or_ge i l.length with hi | hi
  · rw [List.getElem?_append_left hi] at hy
    exact h i y hy
  · rw [List.getElem?_append_right hi] at hy
    have h0 : i - l.length = 0 := by
      have := (List.getElem?_eq_some_iff.1 hy).1
      simp at this
      omega
    rw [h0] at hy
    simp at hy
    subst hy
    omega
theorem Seqs.left {l r : List Bt} (h : Seqs (l ++ r)) : Seqs l := fun i x hx => h i x (by rw [List.getElem?_append_left (List.getElem?_eq_some_iff.1 hx).1]; exact hx)
theorem seqs_flw {l : List Bt} (h : Seqs l) {x : Bt} (hx : x.seq = l.length + 1) : flw l x = true := by
  unfold flw
  cases hl : l.getLast? with
  | none => rfl
  | some y =>
    have h1 : l[l.length - 1]? = some y := by rw [← List.getLast?_eq_getElem?]; exact hl
    have h2 := h _ _ h1
    have h3 := (List.getElem?_eq_some_iff.1 h1).1
    simp only [Bool.and_eq_true, Bool.or_eq_true, decide_eq_true_eq]
    omega
theorem seqs_flows : ∀ (r l : List Bt), Seqs (l ++ r) → Flows l r := by
  intro r
  induction r with
  | nil => intro l _; trivial
  | cons x r ih =>
    intro l h
    refine ⟨seqs_flw h.left (h l.length x (by simp)), ih (l ++ [x]) (by rw [List.append_assoc]; exact h)⟩
theorem row_same {F G : Fil} : ∀ (bs : List Bt) (p : Nat), (∀ k : Nat, k < p + needs bs → rdF G (k : Int) = rdF F (k : Int)) → RowAt F p bs → RowAt G p bs := by
  intro bs
  induction bs with
  | nil => intro p _ _; trivial
  | cons x r ih =>
    intro p hk ⟨h1, h2, h3⟩
    rw [needs_cons] at hk
    refine ⟨fun k hkk => ?_, h2, ih _ (fun k hkk => hk k (by omega)) h3⟩
    rw [hk (p + k) (by omega)]
    exact h1 k hkk
theorem row_app {F : Fil} : ∀ (bs : List Bt) (p : Nat) (x : Bt), RowAt F p bs → SecsAt F (p + needs bs) x → x.pos = ((p + needs bs : Nat) : Int) → RowAt F p (bs ++ [x]) := by
  intro bs
  induction bs with
  | nil =>
    intro p x _ h1 h2
    exact ⟨h1, h2, trivial⟩
  | cons y r ih =>
    intro p x ⟨h1, h2, h3⟩ h4 h5
    rw [needs_cons, ← Nat.add_assoc] at h4 h5
    exact ⟨h1, h2, ih _ x h3 h4 h5⟩
theorem row_pos {F : Fil} : ∀ (bs : List Bt) (p : Nat), RowAt F p bs → bs.length ≤ needs bs := by
  intro bs
  induction bs with
  | nil => intro p _; exact Nat.zero_le _
  | cons x r ih =>
    intro p ⟨_, _, h3⟩
    have := ih _ h3
    have := need_pos x.b.length
    rw [needs_cons, List.length_cons]
    omega
theorem jd_fold {S : Dv} : ∀ (bss : List (List Bt)) (j : Nat) (l : List Bt),
    (∀ k bs, bss[k]? = some bs → ∃ F, fnd S.fs (nmJ ((j + k + 1 : Nat) : Int)) = some F ∧ F.l.length = needs bs ∧ RowAt F 0 bs ∧ ∀ x ∈ bs, GoodB x ∧ x.file = ((j + k + 1 : Nat) : Int)) → Flows l bss.flatten →
    scN S ((List.range bss.length).map fun i => ((j + i + 1 : Nat) : Int)) l = l ++ bss.flatten := by
  intro bss
  induction bss with
  | nil => intro j l _ _; simp [scN]
  | cons bs r ih =>
    intro j l hk hf
    rw [List.flatten_cons, flows_app] at hf
    obtain ⟨f1, f2⟩ := hf
    obtain ⟨F, h1, h2, h3, h4⟩ := hk 0 bs rfl
    have e1 : scF S (nmJ ((j + 0 + 1 : Nat) : Int)) ((j + 0 + 1 : Nat) : Int) (S.len (nmJ ((j + 0 + 1 : Nat) : Int)) + 1) 0 l = l ++ bs := by
      refine scF_all h1 _ bs _ l h4 h3 f1 ?_ h2
      have := row_pos bs 0 h3
      unfold Dv.len
      rw [h1]
      simp only []
      omega
    have e2 := ih (j + 1) (l ++ bs) (fun k cs hc => by
      have := hk (k + 1) cs (by simpa using hc)
      rwa [show j + (k + 1) + 1 = j + 1 + k + 1 by omega] at this) f2
    rw [List.length_cons, List.range_succ_eq_map, List.map_cons, List.map_map]
    show scN S _ (scF S (nmJ ((j + 0 + 1 : Nat) : Int)) ((j + 0 + 1 : Nat) : Int) (S.len (nmJ ((j + 0 + 1 : Nat) : Int)) + 1) 0 l) = _
    rw [e1, List.flatten_cons, ← List.append_assoc, ← e2]
    congr 1
    apply List.map_congr_left
    intro i _
    simp only [Function.comp, Nat.succ_eq_add_one]
    congr 1
    omega
theorem JD.scan (h : JD mo bss S) (hl : bss.length ≤ 999999) (hs : Seqs bss.flatten) : scN S (nums bss.length) [] = bss.flatten := by
  obtain ⟨l, rfl, h1, h2⟩ := h
  have := jd_fold (S := jrD mo (-1) l) bss 0 [] (fun k bs hk => by
    have hlt := (List.getElem?_eq_some_iff.1 hk).1
    have hg : l[k]? = some l[k] := List.getElem?_eq_getElem (by omega)
    obtain ⟨a1, a2, a3⟩ := h2 k _ bs hg hk
    refine ⟨l[k], ?_, a1, a2, fun x hx => by rw [Nat.zero_add]; exact a3 x hx⟩
    rw [jrD_fnd (by omega) (by omega) (by omega), show 0 + k + 1 - 1 = k by omega]
    exact hg) (seqs_flows _ _ hs)
  simp only [Nat.zero_add, List.nil_append] at this
  exact this
theorem JD.new (m : Int) : JD (newDv m).most [] (newDv m) := ⟨[], rfl, rfl, fun k F bs h => by simp at h⟩
theorem JD.make (h : JD mo bss S) (hl : bss.length < 999999) : ∃ S', pMake S (nmJ ((bss.length + 1 : Nat) : Int)) = (0, S') ∧ JD mo (bss ++ [[]]) S' := by
  obtain ⟨l, rfl, h1, h2⟩ := h
  rw [← h1]
  refine ⟨_, jrD_make (by decide) (by omega), l ++ [newF], rfl, by simp [h1], fun k F bs hF hb => ?_⟩
  rcases Nat.lt_or_ge k l.length with hk | hk
  · rw [List.getElem?_append_left hk] at hF
    rw [List.getElem?_append_left (by omega)] at hb
    exact h2 k F bs hF hb
  · have hk2 : k = l.length := by
      have := (List.getElem?_eq_some_iff.1 hF).1
      simp at this
      omega
    subst hk2
    rw [List.getElem?_append_right (Nat.le_refl _), Nat.sub_self] at hF
    rw [List.getElem?_append_right (by omega), h1, Nat.sub_self] at hb
    simp at hF hb
    subst hF
    subst hb
    exact ⟨rfl, trivial, fun x hx => by cases hx⟩
theorem JD.write {bs : List Bt} {x : Bt} (h : JD mo (bss ++ [bs]) S) (hl : bss.length < 999999) (hx : GoodB x) (hf : x.file = ((bss.length + 1 : Nat) : Int)) (hp : x.pos = ((needs bs : Nat) : Int)) (hm : needss (bss ++ [bs]) + need x.b.length ≤ mo) :
    ∃ S', wrP (nmJ ((bss.length + 1 : Nat) : Int)) ((needs bs : Nat) : Int) x (need x.b.length) S = (0, S') ∧ JD mo (bss ++ [bs ++ [x]]) S' := by
  obtain ⟨l', rfl, h1, h2⟩ := id h
  obtain ⟨l, F, rfl⟩ : ∃ l F, l' = l ++ [F] := by
    rcases List.eq_nil_or_concat l' with e | ⟨l, F, e⟩
    · subst e; simp at h1
    · exact ⟨l, F, by simpa using e⟩
  have hll : l.length = bss.length := by simpa using h1
  obtain ⟨f1, f2, f3⟩ := h2 l.length F bs (by simp) (by rw [hll]; simp)
  have hu := h.used
  rw [jrD_used] at hu
  have hw := wrP_all (mo := mo) (l := l) (F := F) x (by omega) (by omega) (need x.b.length) (Nat.le_refl _)
  rw [Nat.sub_self, List.take_zero, hll, f1] at hw
  refine ⟨_, hw, l ++ [syF (appF F (btSecs x))], rfl, by simp [hll], fun k G cs hG hc => ?_⟩
  rcases Nat.lt_or_ge k l.length with hk | hk
  · rw [List.getElem?_append_left hk] at hG
    rw [List.getElem?_append_left (by omega)] at hc
    exact h2 k G cs (by rw [List.getElem?_append_left hk]; exact hG) (by rw [List.getElem?_append_left (by omega)]; exact hc)
  · have hk2 : k = l.length := by
      have := (List.getElem?_eq_some_iff.1 hG).1
      simp at this
      omega
    subst hk2
    rw [List.getElem?_append_right (Nat.le_refl _), Nat.sub_self] at hG
    rw [List.getElem?_append_right (by omega), hll, Nat.sub_self] at hc
    simp at hG hc
    subst hG
    subst hc
    have e1 : (syF (appF F (btSecs x))).l.length = needs bs + need x.b.length := by
      simp only [syF, List.length_map]
      rw [appF_length, btSecs_length, f1]
    refine ⟨by rw [e1, needs_app], row_app bs 0 x (row_same bs 0 (fun k hk => ?_) f2) (fun k hk => ?_) (by rw [Nat.zero_add]; exact hp), fun y hy => ?_⟩
    · rw [rdF_sy]
      exact appF_old _ F (k : Int) (by omega)
    · rw [rdF_sy, Nat.zero_add, ← f1]
      have := appF_new (btSecs x) F k (by rw [btSecs_length]; exact hk)
      rw [show ((F.l.length + k : Nat) : Int) = (F.l.length : Int) + (k : Int) by omega, this]
      simp [btSecs]
    · rcases List.mem_append.1 hy with hy | hy
      · exact f3 y hy
      · simp at hy
        subst hy
        exact ⟨hx, by rw [hf, hll]⟩
end
end
section
open Go.RowKit Go.Maps
set_option maxRecDepth 100000
set_option linter.unusedSimpArgs false
set_option linter.unusedVariables false
section
variable {mo : Nat} {bss : List (List Bt)} {S : Dv}
theorem rowAt_sy {F : Fil} (bs : List Bt) (p : Nat) (h : RowAt F p bs) : RowAt (syF F) p bs := row_same bs p (fun k _ => rdF_sy F k) h
theorem JD.sync (h : JD mo bss S) (hl : bss.length < 999999) {j : Nat} (h1 : 1 ≤ j) (h2 : j ≤ bss.length) : ∃ S', pSync S (nmJ (j : Int)) = (0, S') ∧ JD mo bss S' := by
  obtain ⟨l, rfl, e1, e2⟩ := h
  have hg : l[j - 1]? = some (l[j - 1]'(by omega)) := List.getElem?_eq_getElem (by omega)
  obtain ⟨F, hF⟩ : ∃ F, F = l[j - 1]'(by omega) := ⟨_, rfl⟩
  rw [← hF] at hg
  have hput : (jrD mo (-1) l).put (nmJ (j : Int)) (syF F) = jrD mo (-1) (l.set (j - 1) (syF F)) := by
    show (⟨mo, -1, ins (jrFs 1 l) _ (syF F)⟩ : Dv) = _
    rw [jrFs_ins l _ 1 j (Nat.le_refl _) (by omega) (by omega) (by omega)]
    rfl
  refine ⟨jrD mo (-1) (l.set (j - 1) (syF F)), ?_, l.set (j - 1) (syF F), rfl, by simp [e1], fun k G bs hG hb => ?_⟩
  · unfold pSync
    rw [if_neg (show ¬ (jrD mo (-1) l).left = 0 from (show ¬ (-1 : Int) = 0 by decide)), jrD_fnd (by omega) h1 (by omega), hg]
    simp only []
    rw [hput]
    rfl
  · rw [List.getElem?_set] at hG
    split at hG
    · rename_i hk
      split at hG
      · cases hG
        rw [← hk] at hb
        obtain ⟨a1, a2, a3⟩ := e2 (j - 1) F bs hg hb
        refine ⟨by simpa [syF] using a1, rowAt_sy bs 0 a2, by rw [← hk]; exact a3⟩
      · cases hG
    · exact e2 k G bs hG hb
theorem JD.mem (h : JD mo bss S) {x : Bt} (hx : x ∈ bss.flatten) : GoodB x ∧ ∃ j : Nat, x.file = (j : Int) ∧ 1 ≤ j ∧ j ≤ bss.length := by
  obtain ⟨l, rfl, e1, e2⟩ := h
  obtain ⟨bs, hb, hx⟩ := List.mem_flatten.1 hx
  obtain ⟨k, hk, rfl⟩ := List.getElem_of_mem hb
  have hg : l[k]? = some (l[k]'(by omega)) := List.getElem?_eq_getElem (by omega)
  obtain ⟨_, _, a3⟩ := e2 k _ _ hg (List.getElem?_eq_getElem hk)
  obtain ⟨a4, a5⟩ := a3 x hx
  exact ⟨a4, k + 1, a5, by omega, by omega⟩
theorem JD.syncs (hl : bss.length < 999999) : ∀ (l : List Bt) (f : Int) (S : Dv), JD mo bss S → (∀ x ∈ l, ∃ j : Nat, x.file = (j : Int) ∧ 1 ≤ j ∧ j ≤ bss.length) → ∃ S', syA S f l = (0, S') ∧ JD mo bss S' := by
  intro l
  induction l with
  | nil => intro f S h _; exact ⟨S, rfl, h⟩
  | cons x r ih =>
    intro f S h hx
    unfold syA
    by_cases e : x.file = f
    · rw [if_pos e]
      exact ih f S h (fun y hy => hx y (by simp [hy]))
    · rw [if_neg e]
      obtain ⟨j, hj, h1, h2⟩ := hx x (by simp)
      obtain ⟨S', hs, hd⟩ := h.sync hl h1 h2
      rw [hj, hs, if_neg (by simp)]
      exact ih _ S' hd (fun y hy => hx y (by simp [hy]))
end
/-- the greatest of the files -/
def grN (ns : List Int) : Int := ns.foldl max 0
theorem grN_nums (n : Nat) : grN (nums n) = (n : Int) := by
  induction n with
  | zero => rfl
  | succ n ih =>
    unfold grN nums at ih ⊢
    rw [List.range_succ, List.map_append, List.foldl_append, ih]
    simp only [List.map_cons, List.map_nil, List.foldl_cons, List.foldl_nil]
    omega
/-- a journal whose device bears these batches -/
structure JI (mo : Nat) (bss : List (List Bt)) (S : Dv) (J : Jr) : Prop where
  dev : JD mo bss S
  dead : J.dead = false
  next : J.next = bss.length + 1
  file : J.file = 0 ∨ (J.file = bss.length ∧ 0 < bss.length)
  seq : J.seq = bss.flatten.length
  seqs : Seqs bss.flatten
def lastN' (bss : List (List Bt)) : List Bt := bss.getLast?.getD []
/-- does a batch go into the file that is open -/
def stays (bss : List (List Bt)) (J : Jr) : Prop := J.file ≠ 0 ∧ needs (lastN' bss) < 256
instance (bss : List (List Bt)) (J : Jr) : Decidable (stays bss J) := by unfold stays; infer_instance
/-- where the rows of batches stand behind one more -/
def addB (bss : List (List Bt)) (J : Jr) (x : Bt) : List (List Bt) := if stays bss J then bss.dropLast ++ [lastN' bss ++ [x]] else bss ++ [[x]]
def newB (bss : List (List Bt)) (J : Jr) (kind : Int) (b : List UInt8) : Bt :=
  ⟨J.seq + 1, kind.toNat, b, if stays bss J then ((bss.length : Nat) : Int) else ((bss.length + 1 : Nat) : Int), if stays bss J then ((needs (lastN' bss) : Nat) : Int) else 0⟩
def newJ (bss : List (List Bt)) (J : Jr) : Jr := if stays bss J then { J with seq := J.seq + 1 } else ⟨J.seq + 1, bss.length + 1, bss.length + 2, false⟩
section
variable {mo : Nat} {bss : List (List Bt)} {S : Dv} {J : Jr}
theorem split_last (h : 0 < bss.length) : bss = bss.dropLast ++ [lastN' bss] := by
  have hne : bss ≠ [] := fun e => by subst e; simp at h
  have := List.dropLast_concat_getLast hne
  rw [← this]
  unfold lastN'
  simp
theorem addB_flat (h : stays bss J → 0 < bss.length) (x : Bt) : (addB bss J x).flatten = bss.flatten ++ [x] := by
  unfold addB
  split
  · rename_i hs
    conv => rhs; rw [split_last (h hs)]
    simp [List.flatten_append]
  · simp
theorem JI.append (h : JI mo bss S J) {kind : Int} {b : List UInt8} (hk : 1 ≤ kind ∧ kind ≤ 255) (hb : b.length ≤ 196608) (hroom : needss bss + need b.length ≤ mo) (hl : bss.length < 99) (hs : J.seq < 1000000) :
    ∃ S', apP S J kind b = ⟨newB bss J kind b, 0, S', newJ bss J⟩ ∧ JI mo (addB bss J (newB bss J kind b)) S' (newJ bss J) := by
  obtain ⟨hD, h1, h2, h3, h4, h5⟩ := h
  have hn := need_le hb
  have hrf : rfP S J kind (need b.length) = 0 := by
    unfold rfP
    rw [if_neg (by simp [h1]), if_neg (by omega), if_neg (by omega), if_neg (by rw [hD.used, hD.most]; omega)]
  have hgood : ∀ f p, GoodB ⟨J.seq + 1, kind.toNat, b, f, p⟩ := fun f p => ⟨by simp, by simp only []; omega, by simp only []; omega, by simp only []; omega, hb⟩
  unfold apP
  rw [hrf, if_neg (by simp)]
  by_cases hst : stays bss J
  · have hst2 := hst
    obtain ⟨s1, s2⟩ := hst2
    have hf : J.file = bss.length ∧ 0 < bss.length := by rcases h3 with h3 | h3; exact absurd h3 s1; exact h3
    have hsp := split_last hf.2
    obtain ⟨ini, hini⟩ : ∃ ini, ini = bss.dropLast := ⟨_, rfl⟩
    obtain ⟨las, hlas⟩ : ∃ las, las = lastN' bss := ⟨_, rfl⟩
    rw [← hini, ← hlas] at hsp
    rw [← hlas] at s2
    have hil : ini.length + 1 = bss.length := by rw [hsp]; simp
    have hlen : S.len (nmJ (J.file : Int)) = needs las := by
      have := hD.len (by omega) (j := ini.length) (bs := las) (by rw [hsp]; simp)
      rw [hf.1, ← hil]
      exact this
    have hop : opP S J = ⟨0, 0, S, J⟩ := by
      unfold opP
      rw [if_neg (by rw [hlen]; omega)]
    have hx : newB bss J kind b = apB S J kind b := by
      unfold newB apB
      rw [if_pos hst, if_pos hst, hlen, ← hlas, hf.1]
    have hD2 : JD mo (ini ++ [las]) S := by rw [← hsp]; exact hD
    have hadd : addB bss J (newB bss J kind b) = ini ++ [las ++ [newB bss J kind b]] := by
      unfold addB
      rw [if_pos hst, hini, hlas]
    obtain ⟨S', hw, hD3⟩ := hD2.write (x := newB bss J kind b) (by omega) (hgood _ _) (by show (if stays bss J then _ else _) = _; rw [if_pos hst, hil]) (by show (if stays bss J then _ else _) = _; rw [if_pos hst, hlas]) (by rw [← hsp]; exact hroom)
    rw [hop]
    simp only []
    rw [if_neg (by simp), hlen, ← hx]
    have hw' : wrP (nmJ ((J.file : Nat) : Int)) ((needs las : Nat) : Int) (newB bss J kind b) (need b.length) S = (0, S') := by
      rw [hf.1, ← hil]
      exact hw
    rw [hw', if_neg (by simp)]
    have hJ : newJ bss J = { J with seq := J.seq + 1 } := by unfold newJ; rw [if_pos hst]
    refine ⟨S', by rw [hJ], ?_⟩
    have hfl := addB_flat (J := J) (fun _ => hf.2) (newB bss J kind b)
    rw [hJ]
    refine ⟨by rw [hadd]; exact hD3, h1, ?_, .inr ⟨?_, ?_⟩, ?_, ?_⟩
    · rw [hadd]; simp; omega
    · rw [hadd]; simp; omega
    · rw [hadd]; simp
    · rw [hfl]; simp [h4]
    · rw [hfl]; exact h5.snoc (by show J.seq + 1 = _; rw [h4])
  · have hop1 : J.file = 0 ∨ 256 ≤ S.len (nmJ (J.file : Int)) := by
      by_cases h0 : J.file = 0
      · exact .inl h0
      · right
        have hf : J.file = bss.length ∧ 0 < bss.length := by rcases h3 with h3 | h3; exact absurd h3 h0; exact h3
        have hsp := split_last hf.2
        have hil : bss.dropLast.length + 1 = bss.length := by simp; omega
        have := hD.len (by omega) (j := bss.dropLast.length) (bs := lastN' bss) (by conv => lhs; rw [hsp]; simp)
        rw [hil] at this
        rw [hf.1, this]
        by_cases hh : needs (lastN' bss) < 256
        · exact absurd ⟨h0, hh⟩ hst
        · omega
    obtain ⟨S1, hm, hD1⟩ := hD.make (by omega)
    have hop : opP S J = ⟨J.next, 0, S1, { J with file := J.next, next := J.next + 1 }⟩ := by
      unfold opP
      rw [if_pos hop1]
      unfold nxP
      rw [if_neg (by simp [h1]), if_neg (by omega), h2, hm, if_neg (by simp)]
    have hlen : S1.len (nmJ ((J.next : Nat) : Int)) = 0 := by
      rw [h2]
      exact hD1.len (by simp; omega) (j := bss.length) (bs := []) (by simp)
    have hx : newB bss J kind b = apB S1 { J with file := J.next, next := J.next + 1 } kind b := by
      unfold newB apB
      simp only []
      rw [if_neg hst, if_neg hst, hlen, h2]
      rfl
    obtain ⟨S', hw, hD3⟩ := hD1.write (x := newB bss J kind b) (by omega) (hgood _ _) (by show (if stays bss J then _ else _) = _; rw [if_neg hst]) (by show (if stays bss J then _ else _) = _; rw [if_neg hst]; rfl) (by rw [needss_snoc, needs_nil]; exact hroom)
    have hadd : addB bss J (newB bss J kind b) = bss ++ [[newB bss J kind b]] := by
      unfold addB
      rw [if_neg hst]
    rw [hop]
    simp only []
    rw [if_neg (by simp), hlen, ← hx]
    have hw' : wrP (nmJ ((J.next : Nat) : Int)) ((0 : Nat) : Int) (newB bss J kind b) (need b.length) S1 = (0, S') := by
      rw [h2]
      exact hw
    rw [hw', if_neg (by simp)]
    have hJ : newJ bss J = ⟨J.seq + 1, bss.length + 1, bss.length + 2, false⟩ := by unfold newJ; rw [if_neg hst]
    refine ⟨S', by rw [hJ, h1, h2], ?_⟩
    have hfl := addB_flat (bss := bss) (J := J) (fun hh => absurd hh hst) (newB bss J kind b)
    rw [hJ]
    refine ⟨by rw [hadd]; simpa using hD3, rfl, ?_, .inr ⟨?_, ?_⟩, ?_, ?_⟩
    · rw [hadd]; simp
    · rw [hadd]; simp
    · rw [hadd]; simp
    · rw [hfl]; simp [h4]
    · rw [hfl]; exact h5.snoc (by show J.seq + 1 = _; rw [h4])
end
end
end Go.Proofs.YtmemdkgoeldemaaGreatDoor
