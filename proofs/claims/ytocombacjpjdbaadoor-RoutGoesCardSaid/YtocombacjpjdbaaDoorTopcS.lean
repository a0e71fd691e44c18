/- Words and patterns, plain: words of a text, and whether a pattern's words match a key's. No program is imported. -/
namespace Go.Proofs.YtocombacjpjdbaaDoor
set_option linter.unusedSimpArgs false
set_option linter.unusedVariables false

/-- the words of a text: what stands between its points -/
def wsL : List UInt8 → List (List UInt8)
  | [] => [[]]
  | c :: l => if c = 46 then [] :: wsL l else (c :: (wsL l).headD []) :: (wsL l).tail
/-- a rest of a row for which f holds -/
def anyTail (f : List (List UInt8) → Bool) : List (List UInt8) → Bool
  | [] => f []
  | x :: ks => f (x :: ks) || anyTail f ks
/-- one word of a pattern, that is not #, beside one of a key -/
def fitW (p x : List UInt8) : Bool := decide (p = [42]) || decide (p = x)
/-- the words of a pattern beside those of a key -/
def mt : List (List UInt8) → List (List UInt8) → Bool
  | [] => fun k => k.isEmpty
  | p :: ps => fun k => if p = [35] then anyTail (mt ps) k else match k with
    | [] => false
    | x :: ks => fitW p x && mt ps ks

theorem anyTail_iff (f : List (List UInt8) → Bool) : ∀ k, anyTail f k = true ↔ ∃ t, t ≤ k.length ∧ f (k.drop t) = true := by
  intro k
  induction k with
  | nil => simp [anyTail]
  | cons x ks ih =>
    unfold anyTail
    rw [Bool.or_eq_true, ih]
    constructor
    · rintro (h | ⟨t, h1, h2⟩)
      · exact ⟨0, by omega, h⟩
      · exact ⟨t + 1, by simp; omega, h2⟩
    · rintro ⟨t, h1, h2⟩
      cases t with
      | zero => exact .inl h2
      | succ t => exact .inr ⟨t, by simpa using h1, h2⟩
theorem mt_hash (ps k : List (List UInt8)) : mt ([35] :: ps) k = true ↔ ∃ t, t ≤ k.length ∧ mt ps (k.drop t) = true := by
  have e : mt ([35] :: ps) k = anyTail (mt ps) k := by simp only [mt, if_true]
  rw [e]
  exact anyTail_iff _ k
theorem mt_word {p : List UInt8} (hp : p ≠ [35]) (ps : List (List UInt8)) (x : List UInt8) (ks : List (List UInt8)) : mt (p :: ps) (x :: ks) = (fitW p x && mt ps ks) := by
  conv => lhs; unfold mt
  rw [if_neg hp]
theorem mt_word_nil {p : List UInt8} (hp : p ≠ [35]) (ps : List (List UInt8)) : mt (p :: ps) [] = false := by
  conv => lhs; unfold mt
  rw [if_neg hp]
theorem mt_nil (k : List (List UInt8)) : mt [] k = k.isEmpty := rfl
theorem mt_hash_nil (ps : List (List UInt8)) : mt ([35] :: ps) [] = mt ps [] := rfl
theorem mt_nil_all : ∀ p : List (List UInt8), mt p [] = p.all (· == [35])
  | [] => rfl
  | w :: ps => by
    by_cases h : w = [35]
    · subst h
      rw [mt_hash_nil, mt_nil_all ps]; rfl
    · rw [mt_word_nil h]
      simp [h]
/-- two patterns behind each other -/
theorem mt_append : ∀ (ps qs k : List (List UInt8)), mt (ps ++ qs) k = true ↔ ∃ t, t ≤ k.length ∧ mt ps (k.take t) = true ∧ mt qs (k.drop t) = true := by
  intro ps
  induction ps with
  | nil =>
    intro qs k
    rw [List.nil_append]
    constructor
    · intro h
      exact ⟨0, by omega, by simp [mt_nil], h⟩
    · rintro ⟨t, h1, h2, h3⟩
      rw [mt_nil, List.isEmpty_iff] at h2
      have : t = 0 ∨ k = [] := by
        cases t with
        | zero => exact .inl rfl
        | succ t => cases k <;> simp_all
      rcases this with rfl | rfl
      · exact h3
      · simpa using h3
  | cons p ps ih =>
    intro qs k
    by_cases hp : p = [35]
    · subst hp
      rw [List.cons_append, mt_hash]
      constructor
      · rintro ⟨s, h1, h2⟩
        obtain ⟨t, h3, h4, h5⟩ := (ih qs _).1 h2
        rw [List.length_drop] at h3
        refine ⟨s + t, by omega, (mt_hash _ _).2 ⟨s, by rw [List.length_take]; omega, ?_⟩, by rwa [List.drop_drop] at h5⟩
        rw [List.drop_take, Nat.add_sub_cancel_left]
        exact h4
      · rintro ⟨t, h1, h2, h3⟩
        obtain ⟨s, h4, h5⟩ := (mt_hash _ _).1 h2
        rw [List.length_take] at h4
        refine ⟨s, by omega, (ih qs _).2 ⟨t - s, by rw [List.length_drop]; omega, ?_, ?_⟩⟩
        · rwa [List.drop_take] at h5
        · rw [List.drop_drop, show s + (t - s) = t from by omega]; exact h3
    · rw [List.cons_append]
      cases k with
      | nil =>
        rw [mt_word_nil hp]
        simp [mt_word_nil hp]
      | cons x ks =>
        rw [mt_word hp, Bool.and_eq_true, ih]
        constructor
        · rintro ⟨h1, t, h2, h3, h4⟩
          exact ⟨t + 1, by simp; omega, by rw [List.take_succ_cons, mt_word hp, h1, h3]; rfl, h4⟩
        · rintro ⟨t, h1, h2, h3⟩
          cases t with
          | zero => rw [List.take_zero, mt_word_nil hp] at h2; cases h2
          | succ t =>
            rw [List.take_succ_cons, mt_word hp, Bool.and_eq_true] at h2
            exact ⟨h2.1, t, by simpa using h1, h2.2, h3⟩
theorem mt_two {ps qs k l : List (List UInt8)} (h1 : mt ps k = true) (h2 : mt qs l = true) : mt (ps ++ qs) (k ++ l) = true :=
  (mt_append _ _ _).2 ⟨k.length, by simp, by simpa using h1, by simpa using h2⟩
theorem mt_self : ∀ k : List (List UInt8), mt k k = true
  | [] => rfl
  | w :: k => by
    by_cases h : w = [35]
    · subst h
      exact (mt_hash _ _).2 ⟨1, by simp, mt_self k⟩
    · rw [mt_word h, mt_self k]; simp [fitW]
/-- words that are not # take one word each -/
theorem mt_seg : ∀ (seg qs k : List (List UInt8)), (∀ w ∈ seg, w ≠ [35]) → mt (seg ++ qs) k = true → seg.length ≤ k.length ∧ mt qs (k.drop seg.length) = true := by
  intro seg
  induction seg with
  | nil => intro qs k _ h; exact ⟨by simp, h⟩
  | cons w seg ih =>
    intro qs k hs h
    have hw := hs w (by simp)
    cases k with
    | nil => rw [List.cons_append, mt_word_nil hw] at h; cases h
    | cons x ks =>
      rw [List.cons_append, mt_word hw, Bool.and_eq_true] at h
      obtain ⟨h1, h2⟩ := ih qs ks (fun v hv => hs v (by simp [hv])) h.2
      exact ⟨by simp; omega, h2⟩
theorem mt_snoc_word {x : List UInt8} (hx : x ≠ [35]) (ps ks : List (List UInt8)) (y : List UInt8) : mt (ps ++ [x]) (ks ++ [y]) = (mt ps ks && fitW x y) := by
  rw [Bool.eq_iff_iff, mt_append, Bool.and_eq_true]
  constructor
  · rintro ⟨t, h1, h2, h3⟩
    rw [List.length_append] at h1
    simp only [List.length_cons, List.length_nil] at h1
    by_cases ht : t = ks.length
    · subst ht
      rw [List.drop_left, mt_word hx, Bool.and_eq_true] at h3
      rw [List.take_left] at h2
      exact ⟨h2, h3.1⟩
    · exfalso
      rcases Nat.lt_or_ge t ks.length with h | h
      · rw [List.drop_append_of_le_length (by omega)] at h3
        obtain ⟨z, zs, hz⟩ : ∃ z zs, ks.drop t = z :: zs := by
          cases hd : ks.drop t with
          | nil => have := congrArg List.length hd; rw [List.length_drop] at this; simp at this; omega
          | cons z zs => exact ⟨z, zs, rfl⟩
        rw [hz, List.cons_append, mt_word hx, Bool.and_eq_true, mt_nil] at h3
        have := h3.2
        simp at this
      · have h4 : t = ks.length + 1 := by omega
        subst h4
        rw [List.drop_of_length_le (by simp), mt_word_nil hx] at h3
        cases h3
  · rintro ⟨h1, h2⟩
    refine ⟨ks.length, by simp, by rw [List.take_left]; exact h1, ?_⟩
    rw [List.drop_left, mt_word hx, h2]; rfl
theorem mt_snoc_nil {x : List UInt8} (hx : x ≠ [35]) (ps : List (List UInt8)) : mt (ps ++ [x]) [] = false := by
  rw [mt_nil_all, List.all_append]
  simp [hx]
theorem mt_snoc_hash (ps k : List (List UInt8)) : mt (ps ++ [[35]]) k = true ↔ ∃ t, t ≤ k.length ∧ mt ps (k.take t) = true := by
  rw [mt_append]
  constructor
  · rintro ⟨t, h1, h2, _⟩; exact ⟨t, h1, h2⟩
  · rintro ⟨t, h1, h2⟩
    exact ⟨t, h1, h2, (mt_hash _ _).2 ⟨(k.drop t).length, Nat.le_refl _, by rw [List.drop_length]; rfl⟩⟩

/-! ### the program's way: the last # alone takes more -/
def later (p k : List (List UInt8)) (b u : Nat) : Prop := 0 < b ∧ ∃ t, u < t ∧ t ≤ k.length ∧ mt (p.drop b) (k.drop t) = true
structure GI (p k : List (List UInt8)) (i j b u : Nat) : Prop where
  hi : i ≤ p.length
  hj : j ≤ k.length
  hu : u ≤ j
  hb : b ≤ i
  seg : 0 < b → i + u = j + b ∧ ∀ w ∈ (p.drop b).take (i - b), w ≠ [35]
  says : mt p k = true ↔ mt (p.drop i) (k.drop j) = true ∨ later p k b u
section
variable {p k : List (List UInt8)} {i j b u : Nat}
theorem GI.start (p k : List (List UInt8)) : GI p k 0 0 0 0 := ⟨by omega, by omega, by omega, by omega, by omega, ⟨.inl, fun h => h.elim id (fun h => absurd h.1 (by omega))⟩⟩
theorem drop_parts (hb : b ≤ i) : p.drop b = (p.drop b).take (i - b) ++ p.drop i := by
  have h := (List.take_append_drop (i - b) (p.drop b)).symm
  rwa [List.drop_drop, show b + (i - b) = i from by omega] at h
theorem GI.later_on (h : GI p k i j b u) {t : Nat} (h0 : 0 < b) (hm : mt (p.drop b) (k.drop t) = true) : i - b ≤ (k.drop t).length ∧ mt (p.drop i) (k.drop (t + (i - b))) = true := by
  obtain ⟨_, hs⟩ := h.seg h0
  rw [drop_parts h.hb] at hm
  have hl : ((p.drop b).take (i - b)).length = i - b := by rw [List.length_take, List.length_drop]; have := h.hi; have := h.hb; omega
  obtain ⟨h1, h2⟩ := mt_seg _ _ _ hs hm
  rw [hl] at h1 h2
  rw [List.drop_drop] at h2
  exact ⟨h1, h2⟩
theorem drop_here {l : List (List UInt8)} {i : Nat} (h : i < l.length) : l.drop i = l[i] :: l.drop (i + 1) := List.drop_eq_getElem_cons h
theorem GI.hash (h : GI p k i j b u) (hi : i < p.length) (hp : p[i] = [35]) : GI p k (i + 1) j (i + 1) j := by
  refine ⟨by omega, h.hj, by omega, by omega, fun _ => ⟨by omega, by simp⟩, ?_⟩
  have e : p.drop i = [35] :: p.drop (i + 1) := by rw [drop_here hi, hp]
  have key : mt (p.drop i) (k.drop j) = true ↔ mt (p.drop (i + 1)) (k.drop j) = true ∨ later p k (i + 1) j := by
    rw [e, mt_hash]
    constructor
    · rintro ⟨t, h1, h2⟩
      rw [List.length_drop] at h1
      rw [List.drop_drop] at h2
      cases t with
      | zero => exact .inl h2
      | succ t => exact .inr ⟨by omega, j + (t + 1), by omega, by have := h.hj; omega, h2⟩
    · rintro (h1 | ⟨_, t, h1, h2, h3⟩)
      · exact ⟨0, by omega, h1⟩
      · exact ⟨t - j, by rw [List.length_drop]; omega, by rw [List.drop_drop, show j + (t - j) = t from by omega]; exact h3⟩
  rw [h.says, ← key]
  refine ⟨?_, .inl⟩
  rintro (h1 | ⟨h0, t, h1, h2, h3⟩)
  · exact h1
  · obtain ⟨h4, h5⟩ := h.later_on h0 h3
    have hs := (h.seg h0).1
    rw [e, mt_hash] at h5 ⊢
    obtain ⟨s, h6, h7⟩ := h5
    rw [List.length_drop] at h4 h6
    rw [List.drop_drop] at h7
    refine ⟨t + (i - b) + s - j, by rw [List.length_drop]; omega, ?_⟩
    rw [List.drop_drop, show j + (t + (i - b) + s - j) = t + (i - b) + s from by have := h.hb; omega]
    exact h7
theorem GI.fits (h : GI p k i j b u) (hi : i < p.length) (hj : j < k.length) (hp : p[i] ≠ [35]) (hf : fitW p[i] k[j] = true) : GI p k (i + 1) (j + 1) b u := by
  refine ⟨by omega, by omega, by have := h.hu; omega, by have := h.hb; omega, fun h0 => ⟨by have := (h.seg h0).1; omega, ?_⟩, ?_⟩
  · intro w hw
    have hb := h.hb
    rw [show i + 1 - b = (i - b) + 1 from by omega, List.take_succ_eq_append_getElem (by rw [List.length_drop]; omega), List.mem_append] at hw
    rcases hw with hw | hw
    · exact (h.seg h0).2 w hw
    · rw [List.mem_singleton] at hw
      subst hw
      rw [List.getElem_drop]
      have e : b + (i - b) = i := by omega
      simp only [e]
      exact hp
  · rw [h.says, drop_here hi, drop_here hj, mt_word hp, hf, Bool.true_and]
theorem GI.stuck (h : GI p k i j b u) (hj : j < k.length) (hn : ∀ hi : i < p.length, p[i] ≠ [35] ∧ fitW p[i] k[j] = false) : mt (p.drop i) (k.drop j) = false := by
  rw [drop_here hj]
  rcases Nat.lt_or_ge i p.length with hi | hi
  · obtain ⟨h1, h2⟩ := hn hi
    rw [drop_here hi, mt_word h1, h2]; rfl
  · rw [List.drop_of_length_le hi]; rfl
theorem GI.more (h : GI p k i j b u) (hj : j < k.length) (hn : ∀ hi : i < p.length, p[i] ≠ [35] ∧ fitW p[i] k[j] = false) (h0 : 0 < b) : GI p k b (u + 1) b (u + 1) := by
  have hu := h.hu
  have hb := h.hb
  have hi := h.hi
  refine ⟨by omega, by omega, by omega, by omega, fun _ => ⟨by omega, by simp⟩, ?_⟩
  rw [h.says, h.stuck hj hn]
  constructor
  · rintro (h1 | ⟨_, t, h1, h2, h3⟩)
    · cases h1
    · by_cases e : t = u + 1
      · subst e; exact .inl h3
      · exact .inr ⟨h0, t, by omega, h2, h3⟩
  · rintro (h1 | ⟨_, t, h1, h2, h3⟩)
    · exact .inr ⟨h0, u + 1, by omega, by omega, h1⟩
    · exact .inr ⟨h0, t, by omega, h2, h3⟩
theorem GI.no (h : GI p k i j b u) (hj : j < k.length) (hn : ∀ hi : i < p.length, p[i] ≠ [35] ∧ fitW p[i] k[j] = false) (h0 : b = 0) : mt p k = false := by
  have e := h.says
  rw [h.stuck hj hn] at e
  rw [Bool.eq_false_iff]
  intro hm
  rcases e.1 hm with h1 | h1
  · cases h1
  · exact absurd h1.1 (by omega)
theorem GI.done (h : GI p k i j b u) (hj : k.length ≤ j) : mt p k = (p.drop i).all (· == [35]) := by
  have hjj := h.hj
  have e : j = k.length := by omega
  subst e
  rw [← mt_nil_all, Bool.eq_iff_iff, h.says, List.drop_length]
  refine ⟨?_, .inl⟩
  rintro (h1 | ⟨h0, t, h1, h2, h3⟩)
  · exact h1
  · exfalso
    have h4 := (h.later_on h0 h3).1
    have h5 := (h.seg h0).1
    rw [List.length_drop] at h4
    have := h.hb
    omega
end

/-! ### words of texts -/
theorem wsL_ne (l : List UInt8) : wsL l ≠ [] := by
  cases l with
  | nil => simp [wsL]
  | cons c l => unfold wsL; split <;> simp
theorem wsL_cons (l : List UInt8) : (wsL l).headD [] :: (wsL l).tail = wsL l := by
  have := wsL_ne l
  cases h : wsL l with
  | nil => exact absurd h this
  | cons a b => rfl
theorem wsL_point (l : List UInt8) : wsL (46 :: l) = [] :: wsL l := by
  conv => lhs; unfold wsL
  rw [if_pos rfl]
theorem wsL_other {c : UInt8} (h : c ≠ 46) (l : List UInt8) : wsL (c :: l) = (c :: (wsL l).headD []) :: (wsL l).tail := by
  conv => lhs; unfold wsL
  rw [if_neg h]
theorem wsL_join (a b : List UInt8) : wsL (a ++ 46 :: b) = wsL a ++ wsL b := by
  induction a with
  | nil => rw [List.nil_append, wsL_point]; rfl
  | cons c a ih =>
    rw [List.cons_append]
    by_cases h : c = 46
    · subst h
      rw [wsL_point, wsL_point, ih]; rfl
    · rw [wsL_other h, wsL_other h, ih]
      have := wsL_ne a
      cases hw : wsL a with
      | nil => exact absurd hw this
      | cons x y => rfl
theorem wsL_word {a : List UInt8} (h : (46 : UInt8) ∉ a) : wsL a = [a] := by
  induction a with
  | nil => rfl
  | cons c a ih =>
    simp only [List.mem_cons, not_or] at h
    rw [wsL_other (fun e => h.1 e.symm), ih h.2]
    rfl
theorem wsL_length (l : List UInt8) : (wsL l).length = l.count 46 + 1 := by
  induction l with
  | nil => rfl
  | cons c l ih =>
    by_cases h : c = 46
    · subst h
      rw [wsL_point, List.length_cons, ih, List.count_cons_self]
    · rw [wsL_other h, List.length_cons, List.length_tail, ih, List.count_cons_of_ne h]
      omega
/-- words with points between -/
def joinW : List (List UInt8) → List UInt8
  | [] => []
  | [w] => w
  | w :: v :: ws => w ++ 46 :: joinW (v :: ws)
theorem joinW_cons (w : List UInt8) {ws : List (List UInt8)} (h : ws ≠ []) : joinW (w :: ws) = w ++ 46 :: joinW ws := by
  cases ws with
  | nil => exact absurd rfl h
  | cons v ws => rfl
theorem joinW_wsL (l : List UInt8) : joinW (wsL l) = l := by
  induction l with
  | nil => rfl
  | cons c l ih =>
    by_cases h : c = 46
    · subst h
      rw [wsL_point, joinW_cons _ (wsL_ne l), ih]; rfl
    · rw [wsL_other h]
      have := wsL_ne l
      cases hw : wsL l with
      | nil => exact absurd hw this
      | cons x y =>
        rw [hw] at ih
        cases y with
        | nil => simp only [joinW, List.headD_cons, List.tail_cons] at ih ⊢; rw [ih]
        | cons z zs => simp only [joinW, List.headD_cons, List.tail_cons] at ih ⊢; rw [← ih]; rfl
theorem wsL_mem {l w : List UInt8} (h : w ∈ wsL l) : (46 : UInt8) ∉ w := by
  induction l generalizing w with
  | nil => simp [wsL] at h; subst h; simp
  | cons c l ih =>
    by_cases hc : c = 46
    · subst hc
      rw [wsL_point, List.mem_cons] at h
      rcases h with rfl | h
      · simp
      · exact ih h
    · rw [wsL_other hc, List.mem_cons] at h
      have := wsL_ne l
      cases hw : wsL l with
      | nil => exact absurd hw this
      | cons x y =>
        rw [hw] at h ih
        rcases h with rfl | h
        · simp only [List.headD_cons, List.mem_cons, not_or]
          exact ⟨fun e => hc e.symm, ih (by simp)⟩
        · exact ih (by simp only [List.tail_cons] at h; simp [h])
theorem wsL_inj {a b : List UInt8} (h : wsL a = wsL b) : a = b := by rw [← joinW_wsL a, ← joinW_wsL b, h]
theorem wsL_le {l w : List UInt8} (h : w ∈ wsL l) : w.length ≤ l.length := by
  induction l generalizing w with
  | nil => simp [wsL] at h; subst h; simp
  | cons c l ih =>
    by_cases hc : c = 46
    · subst hc
      rw [wsL_point, List.mem_cons] at h
      rcases h with rfl | h
      · simp
      · have := ih h; simp; omega
    · rw [wsL_other hc, List.mem_cons] at h
      have := wsL_ne l
      cases hw : wsL l with
      | nil => exact absurd hw this
      | cons x y =>
        rw [hw] at h ih
        rcases h with rfl | h
        · have := ih (w := x) (by simp); simp; omega
        · have := ih (w := w) (by simp only [List.tail_cons] at h; simp [h]); simp; omega
theorem wsL_mid (a b : List UInt8) : wsL (a ++ [46] ++ b) = wsL a ++ wsL b := by rw [List.append_assoc]; exact wsL_join a b
theorem wsL_pre {w : List UInt8} (h : (46 : UInt8) ∉ w) (b : List UInt8) : wsL (w ++ 46 :: b) = w :: wsL b := by rw [wsL_join, wsL_word h]; rfl
theorem wsL_post {w : List UInt8} (h : (46 : UInt8) ∉ w) (a : List UInt8) : wsL (a ++ 46 :: w) = wsL a ++ [w] := by rw [wsL_join, wsL_word h]
/-- does the pattern P match the key K -/
def mtT (P K : List UInt8) : Bool := mt (wsL P) (wsL K)
theorem mtT_join {P Q A B : List UInt8} (h1 : mtT P A = true) (h2 : mtT Q B = true) : mtT (P ++ 46 :: Q) (A ++ 46 :: B) = true := by
  unfold mtT at *
  rw [wsL_join, wsL_join]
  exact mt_two h1 h2
theorem mtT_x (P A : List UInt8) : mtT (120 :: 46 :: P) (120 :: 46 :: A) = mtT P A := by
  unfold mtT
  rw [show (120 : UInt8) :: 46 :: P = [120] ++ 46 :: P from rfl, show (120 : UInt8) :: 46 :: A = [120] ++ 46 :: A from rfl, wsL_pre (by decide), wsL_pre (by decide), mt_word (by decide)]
  simp [fitW]
theorem mtT_xy (P A : List UInt8) : mtT (120 :: 46 :: P) (121 :: 46 :: A) = false := by
  unfold mtT
  rw [show (120 : UInt8) :: 46 :: P = [120] ++ 46 :: P from rfl, show (121 : UInt8) :: 46 :: A = [121] ++ 46 :: A from rfl, wsL_pre (by decide), wsL_pre (by decide), mt_word (by decide)]
  simp [fitW]
theorem mtT_sy (P A : List UInt8) : mtT (42 :: 46 :: P) (121 :: 46 :: A) = mtT P A := by
  unfold mtT
  rw [show (42 : UInt8) :: 46 :: P = [42] ++ 46 :: P from rfl, show (121 : UInt8) :: 46 :: A = [121] ++ 46 :: A from rfl, wsL_pre (by decide), wsL_pre (by decide), mt_word (by decide)]
  simp [fitW]
theorem mtT_behind (P A : List UInt8) : mtT (P ++ [46, 120]) (A ++ [46, 120]) = mtT P A := by
  unfold mtT
  rw [wsL_post (by decide), wsL_post (by decide), mt_snoc_word (by decide)]
  simp [fitW]
theorem mtT_self (A : List UInt8) : mtT A A = true := mt_self _
theorem mtT_hash (A : List UInt8) : mtT [35] A = true := by
  unfold mtT
  rw [wsL_word (by decide), mt_hash]
  exact ⟨(wsL A).length, Nat.le_refl _, by rw [List.drop_length]; rfl⟩
theorem mtT_hash2 (A : List UInt8) : mtT [35, 46, 35] A = true := by
  unfold mtT
  rw [show wsL [35, 46, 35] = [[35], [35]] from by decide, mt_hash]
  refine ⟨0, Nat.zero_le _, (mt_hash _ _).2 ⟨(wsL A).length, by simp, ?_⟩⟩
  rw [List.drop_zero, List.drop_length]; rfl
/-- # behind a pattern -/
theorem mtT_then (P K : List UInt8) : mtT (P ++ [46, 35]) K = true ↔ ∃ t, t ≤ (wsL K).length ∧ mt (wsL P) ((wsL K).take t) = true := by
  unfold mtT
  rw [wsL_post (by decide), mt_snoc_hash]
theorem mtT_then_of {P K : List UInt8} (h : mtT P K = true) : mtT (P ++ [46, 35]) K = true :=
  (mtT_then P K).2 ⟨_, Nat.le_refl _, by rw [List.take_length]; exact h⟩
theorem mtT_then2 (P K : List UInt8) : mtT (P ++ [46, 35, 46, 35]) K = mtT (P ++ [46, 35]) K := by
  have e : mtT (P ++ [46, 35, 46, 35]) K = true ↔ ∃ t, t ≤ (wsL K).length ∧ mt (wsL (P ++ [46, 35])) ((wsL K).take t) = true := by
    have h := mtT_then (P ++ [46, 35]) K
    rwa [List.append_assoc] at h
  rw [Bool.eq_iff_iff, e, mtT_then]
  have e2 : wsL (P ++ [46, 35]) = wsL P ++ [[35]] := wsL_post (by decide) P
  rw [e2]
  constructor
  · rintro ⟨t, h1, h2⟩
    obtain ⟨s, h3, h4⟩ := (mt_snoc_hash _ _).1 h2
    rw [List.length_take] at h3
    rw [List.take_take] at h4
    exact ⟨min s t, by omega, h4⟩
  · rintro ⟨t, h1, h2⟩
    exact ⟨t, h1, (mt_snoc_hash _ _).2 ⟨t, by rw [List.length_take]; omega, by rw [List.take_take, Nat.min_self]; exact h2⟩⟩
theorem mtT_ahead (P K : List UInt8) : mtT (35 :: 46 :: P) K = true ↔ ∃ t, t ≤ (wsL K).length ∧ mt (wsL P) ((wsL K).drop t) = true := by
  unfold mtT
  rw [show (35 : UInt8) :: 46 :: P = [35] ++ 46 :: P from rfl, wsL_pre (by decide), mt_hash]
theorem mtT_ahead_of {P K : List UInt8} (h : mtT P K = true) : mtT (35 :: 46 :: P) K = true := (mtT_ahead P K).2 ⟨0, Nat.zero_le _, h⟩
theorem mtT_ahead2 (P K : List UInt8) : mtT (35 :: 46 :: 35 :: 46 :: P) K = mtT (35 :: 46 :: P) K := by
  rw [Bool.eq_iff_iff, mtT_ahead, mtT_ahead]
  have e2 : wsL (35 :: 46 :: P) = [35] :: wsL P := wsL_pre (w := [35]) (by decide) P
  rw [e2]
  constructor
  · rintro ⟨t, h1, h2⟩
    obtain ⟨s, h3, h4⟩ := (mt_hash _ _).1 h2
    rw [List.length_drop] at h3
    rw [List.drop_drop] at h4
    exact ⟨t + s, by omega, h4⟩
  · rintro ⟨t, h1, h2⟩
    exact ⟨t, h1, (mt_hash _ _).2 ⟨0, Nat.zero_le _, h2⟩⟩
theorem mtT_a1 (A : List UInt8) : mtT (A ++ [46, 35]) A = true := mtT_then_of (mtT_self A)
theorem mtT_a2 (A B : List UInt8) : mtT (A ++ [46, 35]) (A ++ 46 :: B) = true := by
  refine (mtT_then _ _).2 ⟨(wsL A).length, by rw [wsL_join]; simp, ?_⟩
  rw [wsL_join, List.take_left]
  exact mt_self _
theorem mtT_a3 (A B : List UInt8) : mtT (35 :: 46 :: B) (A ++ 46 :: B) = true := by
  refine (mtT_ahead _ _).2 ⟨(wsL A).length, by rw [wsL_join]; simp, ?_⟩
  rw [wsL_join, List.drop_left]
  exact mt_self _
theorem mtT_a4 (B : List UInt8) : mtT (35 :: 46 :: B) B = true := mtT_ahead_of (mtT_self B)
theorem mtT_a5 (A B : List UInt8) : mtT (A ++ [46, 35, 46] ++ B) (A ++ 46 :: B) = true := by
  rw [List.append_assoc]
  exact mtT_join (mtT_self A) (mtT_a4 B)
/-! ### a pattern without signs -/
theorem mt_plain : ∀ (p k : List (List UInt8)), (∀ w ∈ p, w ≠ [35] ∧ w ≠ [42]) → mt p k = decide (p = k)
  | [], [], _ => rfl
  | [], _ :: _, _ => rfl
  | w :: p, [], h => by rw [mt_word_nil (h w (by simp)).1]; simp
  | w :: p, x :: k, h => by
    rw [mt_word (h w (by simp)).1, mt_plain p k (fun v hv => h v (by simp [hv]))]
    have hw := (h w (by simp)).2
    simp [fitW, hw]
/-- 6.2 -/
theorem mt_long : ∀ (p k : List (List UInt8)), (∀ w ∈ p, w ≠ [35]) → mt p k = true → p.length = k.length
  | [], [], _, _ => rfl
  | [], _ :: _, _, h => by cases h
  | w :: p, [], h, e => by rw [mt_word_nil (h w (by simp))] at e; cases e
  | w :: p, x :: k, h, e => by
    rw [mt_word (h w (by simp)), Bool.and_eq_true] at e
    simp [mt_long p k (fun v hv => h v (by simp [hv])) e.2]
/-- a text without points and signs -/
def bare (a : List UInt8) : Prop := ∀ c ∈ a, c ≠ 46 ∧ c ≠ 42 ∧ c ≠ 35
theorem bare.point {a : List UInt8} (h : bare a) : (46 : UInt8) ∉ a := fun hm => (h 46 hm).1 rfl
theorem bare.star {a : List UInt8} (h : bare a) : a ≠ [42] := fun e => (h 42 (by rw [e]; simp)).2.1 rfl
theorem bare.hash {a : List UInt8} (h : bare a) : a ≠ [35] := fun e => (h 35 (by rw [e]; simp)).2.2 rfl
def tri (a b c : List UInt8) : List UInt8 := a ++ 46 :: (b ++ 46 :: c)
section
variable {a b c : List UInt8}
theorem wsL_tri (ha : (46 : UInt8) ∉ a) (hb : (46 : UInt8) ∉ b) (hc : (46 : UInt8) ∉ c) : wsL (tri a b c) = [a, b, c] := by
  unfold tri
  rw [wsL_pre ha, wsL_pre hb, wsL_word hc]
theorem tri_star (ha : bare a) (hb : bare b) (hc : bare c) : mtT (tri a [42] c) (tri a b c) = true := by
  unfold mtT
  rw [wsL_tri ha.point (by decide) hc.point, wsL_tri ha.point hb.point hc.point, mt_word ha.hash, mt_word (by decide), mt_word hc.hash]
  simp [fitW, mt]
theorem tri_stars (ha : bare a) (hb : bare b) (hc : bare c) : mtT (tri [42] [42] [42]) (tri a b c) = true := by
  unfold mtT
  rw [wsL_tri (by decide) (by decide) (by decide), wsL_tri ha.point hb.point hc.point, mt_word (by decide), mt_word (by decide), mt_word (by decide)]
  simp [fitW, mt]
theorem tri_two (ha : bare a) (hb : bare b) (hc : bare c) : mtT [42, 46, 42] (tri a b c) = false := by
  unfold mtT
  rw [show wsL [42, 46, 42] = [[42], [42]] from by decide, wsL_tri ha.point hb.point hc.point, mt_word (by decide), mt_word (by decide)]
  simp [mt]
theorem tri_four (ha : bare a) (hb : bare b) (hc : bare c) : mtT [42, 46, 42, 46, 42, 46, 42] (tri a b c) = false := by
  unfold mtT
  rw [show wsL [42, 46, 42, 46, 42, 46, 42] = [[42], [42], [42], [42]] from by decide, wsL_tri ha.point hb.point hc.point, mt_word (by decide), mt_word (by decide), mt_word (by decide), mt_word_nil (by decide)]
  simp
theorem tri_only (ha : bare a) (hb : bare b) (hc : bare c) (k : List UInt8) : mtT (tri a b c) k = decide (k = tri a b c) := by
  unfold mtT
  rw [wsL_tri ha.point hb.point hc.point, mt_plain _ _ (by
    intro w hw
    simp only [List.mem_cons, List.not_mem_nil, or_false] at hw
    rcases hw with rfl | rfl | rfl
    · exact ⟨ha.hash, ha.star⟩
    · exact ⟨hb.hash, hb.star⟩
    · exact ⟨hc.hash, hc.star⟩), ← wsL_tri ha.point hb.point hc.point]
  rw [Bool.eq_iff_iff]
  simp only [decide_eq_true_eq]
  exact ⟨fun h => (wsL_inj h).symm, fun h => by rw [h]⟩
theorem tri_mid (hb : bare b) (k : List UInt8) : mtT (tri [42] b [42]) k = (decide ((wsL k).length = 3) && decide ((wsL k)[1]? = some b)) := by
  unfold mtT
  rw [wsL_tri (by decide) hb.point (by decide)]
  rcases h : wsL k with _ | ⟨x, _ | ⟨y, _ | ⟨z, _ | ⟨u, r⟩⟩⟩⟩
  · rw [mt_word_nil (by decide)]; rfl
  · rw [mt_word (by decide), mt_word_nil hb.hash]; simp
  · rw [mt_word (by decide), mt_word hb.hash, mt_word_nil (by decide)]; simp
  · rw [mt_word (by decide), mt_word hb.hash, mt_word (by decide)]
    rw [Bool.eq_iff_iff]
    simp [fitW, mt, hb.star]
    exact ⟨fun h => h.symm, fun h => h.symm⟩
  · rw [mt_word (by decide), mt_word hb.hash, mt_word (by decide)]
    simp [mt]
end
/-! ### the document's way: rows of what is reached -/
def anyUp (f : Nat → Bool) : Nat → Bool
  | 0 => false
  | j + 1 => anyUp f j || f j
theorem anyUp_iff (f : Nat → Bool) (j : Nat) : anyUp f j = true ↔ ∃ t, t < j ∧ f t = true := by
  induction j with
  | zero => simp [anyUp]
  | succ j ih =>
    rw [anyUp, Bool.or_eq_true, ih]
    constructor
    · rintro (⟨t, h1, h2⟩ | h)
      · exact ⟨t, by omega, h2⟩
      · exact ⟨j, by omega, h⟩
    · rintro ⟨t, h1, h2⟩
      by_cases e : t = j
      · subst e; exact .inr h2
      · exact .inl ⟨t, by omega, h2⟩
/-- the first i words of a pattern beside the first j of a key -/
def rv (p k : List (List UInt8)) (i j : Nat) : Bool := mt (p.take i) (k.take j)
theorem rv_zero (p k : List (List UInt8)) (j : Nat) (hj : j ≤ k.length) : rv p k 0 j = decide (j = 0) := by
  unfold rv
  rw [List.take_zero, mt_nil]
  cases j with
  | zero => simp
  | succ j =>
    cases k with
    | nil => simp at hj
    | cons x k => simp
theorem rv_hash {p k : List (List UInt8)} {i j : Nat} (hi : i < p.length) (hp : p[i] = [35]) (hj : j ≤ k.length) : rv p k (i + 1) j = anyUp (rv p k i) (j + 1) := by
  unfold rv
  rw [List.take_succ_eq_append_getElem hi, hp, Bool.eq_iff_iff, mt_snoc_hash, anyUp_iff]
  constructor
  · rintro ⟨t, h1, h2⟩
    rw [List.length_take] at h1
    rw [List.take_take] at h2
    exact ⟨t, by omega, by rwa [Nat.min_eq_left (by omega)] at h2⟩
  · rintro ⟨t, h1, h2⟩
    exact ⟨t, by rw [List.length_take]; omega, by rw [List.take_take, Nat.min_eq_left (by omega)]; exact h2⟩
theorem rv_word {p k : List (List UInt8)} {i j : Nat} (hi : i < p.length) (hp : p[i] ≠ [35]) (hj : j < k.length) : rv p k (i + 1) (j + 1) = (rv p k i j && fitW p[i] k[j]) := by
  unfold rv
  rw [List.take_succ_eq_append_getElem hi, List.take_succ_eq_append_getElem hj, mt_snoc_word hp]
theorem rv_word_zero {p k : List (List UInt8)} {i : Nat} (hi : i < p.length) (hp : p[i] ≠ [35]) : rv p k (i + 1) 0 = false := by
  unfold rv
  rw [List.take_succ_eq_append_getElem hi, List.take_zero, mt_snoc_nil hp]
theorem rv_all (p k : List (List UInt8)) : rv p k p.length k.length = mt p k := by
  unfold rv
  rw [List.take_length, List.take_length]
/-- a row of n whose first c are told -/
def rowUp (f : Nat → Bool) (c n : Nat) : List Bool := (List.range n).map fun m => decide (m < c) && f m
theorem rowUp_length (f : Nat → Bool) (c n : Nat) : (rowUp f c n).length = n := by simp [rowUp]
theorem rowUp_get (f : Nat → Bool) (c n m : Nat) (h : m < n) : (rowUp f c n)[m]? = some (decide (m < c) && f m) := by
  simp [rowUp, List.getElem?_map, List.getElem?_range h]
theorem rowUp_set {f : Nat → Bool} {c n : Nat} {v : Bool} (hv : f c = v) : (rowUp f c n).set c v = rowUp f (c + 1) n := by
  apply List.ext_getElem?
  intro m
  rcases Nat.lt_or_ge m n with h | h
  · rw [List.getElem?_set, rowUp_length]
    by_cases e : c = m
    · subst e
      rw [if_pos rfl, if_pos h, rowUp_get _ _ _ _ h, hv]; simp
    · rw [if_neg e, rowUp_get _ _ _ _ h, rowUp_get _ _ _ _ h, show decide (m < c) = decide (m < c + 1) from by rw [decide_eq_decide]; omega]
  · rw [List.getElem?_eq_none (by simpa [rowUp_length] using h), List.getElem?_eq_none (by rw [rowUp_length]; exact h)]
theorem rowUp_skip {f : Nat → Bool} {c n : Nat} (hv : c < n → f c = false) : rowUp f c n = rowUp f (c + 1) n := by
  apply List.ext_getElem?
  intro m
  rcases Nat.lt_or_ge m n with h | h
  · rw [rowUp_get _ _ _ _ h, rowUp_get _ _ _ _ h]
    by_cases e : c = m
    · subst e
      rw [hv h]; simp
    · rw [show decide (m < c) = decide (m < c + 1) from by rw [decide_eq_decide]; omega]
  · rw [List.getElem?_eq_none (by rw [rowUp_length]; exact h), List.getElem?_eq_none (by rw [rowUp_length]; exact h)]
theorem rowUp_none (f : Nat → Bool) (n : Nat) : rowUp f 0 n = List.replicate n false := by
  apply List.ext_getElem?
  intro m
  rcases Nat.lt_or_ge m n with h | h
  · rw [rowUp_get _ _ _ _ h, List.getElem?_replicate, if_pos h]; simp
  · rw [List.getElem?_eq_none (by rw [rowUp_length]; exact h), List.getElem?_eq_none (by simpa using h)]
theorem rowUp_full (f : Nat → Bool) (c n m : Nat) (hc : n ≤ c) (h : m < n) : (rowUp f c n)[m]? = some (f m) := by
  rw [rowUp_get _ _ _ _ h, decide_eq_true (by omega)]; rfl
theorem rowUp_cut (f : Nat → Bool) {c n : Nat} (hc : n ≤ c) : rowUp f c n = rowUp f n n := by
  apply List.ext_getElem?
  intro m
  rcases Nat.lt_or_ge m n with h | h
  · rw [rowUp_full _ _ _ _ hc h, rowUp_full _ _ _ _ (Nat.le_refl _) h]
  · rw [List.getElem?_eq_none (by rw [rowUp_length]; exact h), List.getElem?_eq_none (by rw [rowUp_length]; exact h)]
end Go.Proofs.YtocombacjpjdbaaDoor
