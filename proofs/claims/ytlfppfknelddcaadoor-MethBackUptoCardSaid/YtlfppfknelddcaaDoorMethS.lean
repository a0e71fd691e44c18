/- Methods, plainly: what parts octets tell by a form, and what octets parts have. No walk. Parts of methods in memory; the first one off a list. -/
import Derived.Test.YtlfppfknelddcaaDoorTablV0
import Derived.Test.YtlfppfknelddcaaDoorMethB
import Derived.Test.YtlfppfknelddcaaDoorMethG
namespace Go.Proofs.YtlfppfknelddcaaDoor
section
open Go.RowKit

structure Parts where
  n : List Nat
  s : List (List UInt8)
  f : List Bool
  t : List Fld
theorem Parts.ext4 {p q : Parts} (h1 : p.n = q.n) (h2 : p.s = q.s) (h3 : p.f = q.f) (h4 : p.t = q.t) : p = q := by
  cases p; cases q; simp_all
def Parts.none_ : Parts := ⟨[], [], [], []⟩
def Parts.app (p q : Parts) : Parts := ⟨p.n ++ q.n, p.s ++ q.s, p.f ++ q.f, p.t ++ q.t⟩
theorem Parts.app_none (p : Parts) : p.app Parts.none_ = p := by cases p; simp [Parts.app, Parts.none_]
theorem Parts.none_app (p : Parts) : Parts.none_.app p = p := by cases p; simp [Parts.app, Parts.none_]
theorem Parts.app_assoc (p q r : Parts) : (p.app q).app r = p.app (q.app r) := by simp [Parts.app]
abbrev PR := Option (Parts × List UInt8)
def addP (q : Parts) : PR → PR := Option.map fun x => (q.app x.1, x.2)
theorem addP_none (q : Parts) : addP q none = none := rfl
theorem addP_some (q p : Parts) (r : List UInt8) : addP q (some (p, r)) = some (q.app p, r) := rfl
theorem addP_addP (q p : Parts) (x : PR) : addP q (addP p x) = addP (q.app p) x := by
  cases x with
  | none => rfl
  | some x => simp [addP, Parts.app_assoc]
theorem addP_nothing (x : PR) : addP Parts.none_ x = x := by
  cases x with
  | none => rfl
  | some x => simp [addP, Parts.none_app]
abbrev pN (v : Nat) : Parts := ⟨[v], [], [], []⟩
abbrev pS (v : List UInt8) : Parts := ⟨[], [v], [], []⟩
abbrev pF (v : Bool) : Parts := ⟨[], [], [v], []⟩
abbrev pT (v : List Fld) : Parts := ⟨[], [], [], v⟩
/-- how many octets a letter's number has -/
def wd (c : UInt8) : Nat := c.toNat - 48
/-- what parts octets tell by letters, k flags' letters just behind, the last of them in an octet fl; what is left -/
def pr0 : List UInt8 → Nat → Nat → List UInt8 → PR
  | [], _, _, b => some (Parts.none_, b)
  | ch :: ls, k, fl, b =>
    if ch = 115 then (if txtShort 1 b then none else addP (pS (txt 1 b)) (pr0 ls 0 fl (txtRest 1 b)))
    else if ch = 108 then (if txtShort 4 b then none else addP (pS (txt 4 b)) (pr0 ls 0 fl (txtRest 4 b)))
    else if ch = 102 then
      (if k % 8 = 0 then (if short 1 b then none else addP (pF ((nat (tk 1 b)).testBit 0)) (pr0 ls (k + 1) (nat (tk 1 b)) (rst 1 b)))
      else addP (pF (fl.testBit (k % 8))) (pr0 ls (k + 1) fl b))
    else if ch = 116 then
      (if txtShort 4 b then none else match parseB (txt 4 b) with
        | none => none
        | some t => addP (pT t) (pr0 ls 0 fl (txtRest 4 b)))
    else (if short (wd ch) b then none else addP (pN (nat (tk (wd ch) b))) (pr0 ls 0 fl (rst (wd ch) b)))
/-- the letters that a form has -/
def goodL (ls : List UInt8) : Bool := ls.all (fun c => c == 115 || c == 108 || c == 102 || c == 116 || c == 49 || c == 50 || c == 52 || c == 56) && decide (ls.count 116 ≤ 1)
theorem letter_cases (c : UInt8) : c = 115 ∨ c = 108 ∨ c = 102 ∨ c = 116 ∨ (c ≠ 115 ∧ c ≠ 108 ∧ c ≠ 102 ∧ c ≠ 116) := by
  by_cases h1 : c = 115
  · exact .inl h1
  by_cases h2 : c = 108
  · exact .inr (.inl h2)
  by_cases h3 : c = 102
  · exact .inr (.inr (.inl h3))
  by_cases h4 : c = 116
  · exact .inr (.inr (.inr (.inl h4)))
  exact .inr (.inr (.inr (.inr ⟨h1, h2, h3, h4⟩)))

/-! ### what the reader does, letter by letter -/
structure RS where
  b : List UInt8
  bad : Bool
  fl : Nat
  p : Parts
  tb : Bool
def rstep (ch : UInt8) (k : Nat) (st : RS) : RS :=
  if ch = 115 then { st with b := txtRest 1 st.b, bad := st.bad || txtShort 1 st.b, p := st.p.app (pS (txt 1 st.b)) }
  else if ch = 108 then { st with b := txtRest 4 st.b, bad := st.bad || txtShort 4 st.b, p := st.p.app (pS (txt 4 st.b)) }
  else if ch = 102 then
    (if k = 0 then { st with b := rst 1 st.b, bad := st.bad || short 1 st.b, fl := nat (tk 1 st.b), p := st.p.app (pF ((nat (tk 1 st.b)).testBit 0)) }
    else { st with p := st.p.app (pF (st.fl.testBit k)) })
  else if ch = 116 then { st with b := txtRest 4 st.b, bad := st.bad || txtShort 4 st.b, p := { st.p with t := (parseB (txt 4 st.b)).getD [] }, tb := st.tb || (parseB (txt 4 st.b)).isNone }
  else { st with b := rst (wd ch) st.b, bad := st.bad || short (wd ch) st.b, p := st.p.app (pN (nat (tk (wd ch) st.b))) }
def nextK (ch : UInt8) (k : Nat) : Nat := if ch = 102 then k + 1 else 0
theorem tr_next (l : List UInt8) (j : Nat) (h : j < l.length) : tr (l.take (j + 1)) = nextK l[j] (tr (l.take j)) := by
  rw [tr_take l j h]
  unfold nextK
  by_cases e : l[j] = 102 <;> simp [e]
/-- what comes of it -/
def readG (st : RS) (ls : List UInt8) (k : Nat) : PR := if st.bad || st.tb then none else addP st.p (pr0 ls k st.fl st.b)
theorem read_step (st : RS) (ch : UInt8) (ls : List UInt8) (k : Nat) (ht : ch = 116 → st.p.t = []) : readG st (ch :: ls) k = readG (rstep ch (k % 8) st) ls (nextK ch k) := by
  unfold readG rstep nextK
  rcases letter_cases ch with h | h | h | h | ⟨h1, h2, h3, h4⟩
  · subst h
    simp only [pr0, if_true]
    cases hb : st.bad <;> cases htb : st.tb <;> cases hs : txtShort 1 st.b <;> simp [addP_addP, addP_none]
  · subst h
    simp only [pr0, if_true, show ¬ ((108 : UInt8) = 115) by decide, if_false]
    cases hb : st.bad <;> cases htb : st.tb <;> cases hs : txtShort 4 st.b <;> simp [addP_addP, addP_none]
  · subst h
    simp only [pr0, if_true, show ¬ ((102 : UInt8) = 115) by decide, show ¬ ((102 : UInt8) = 108) by decide, if_false]
    by_cases hk : k % 8 = 0
    · simp only [hk, if_true]
      cases hb : st.bad <;> cases htb : st.tb <;> cases hs : short 1 st.b <;> simp [addP_addP, addP_none]
    · simp only [hk, if_false]
      cases hb : st.bad <;> cases htb : st.tb <;> simp [addP_addP]
  · subst h
    have hpt := ht rfl
    simp only [pr0, if_true, show ¬ ((116 : UInt8) = 115) by decide, show ¬ ((116 : UInt8) = 108) by decide, show ¬ ((116 : UInt8) = 102) by decide, if_false]
    have happ : ∀ t, st.p.app (pT t) = { st.p with t := t } := by
      intro t
      simp [Parts.app, hpt]
    cases hb : st.bad <;> cases htb : st.tb <;> cases hs : txtShort 4 st.b <;> cases hp : parseB (txt 4 st.b) <;> simp [addP_addP, addP_none, happ]
  · simp only [pr0, h1, h2, h3, h4, if_false]
    cases hb : st.bad <;> cases htb : st.tb <;> cases hs : short (wd ch) st.b <;> simp [addP_addP, addP_none]
theorem read_end (st : RS) (k : Nat) : readG st [] k = if st.bad || st.tb then none else some (st.p, st.b) := by
  unfold readG
  simp only [pr0, addP_some, Parts.app_none]

/-! ### what is told of more octets -/
theorem tk_more {n : Nat} {x : List UInt8} (y : List UInt8) (h : short n x = false) : tk n (x ++ y) = tk n x ∧ rst n (x ++ y) = rst n x ++ y ∧ short n (x ++ y) = false := by
  have hl : n ≤ x.length := by simpa [short] using h
  have hl2 : n ≤ (x ++ y).length := by simp; omega
  rw [tk_yes hl, tk_yes hl2, rst_yes hl, rst_yes hl2]
  exact ⟨List.take_append_of_le_length hl, List.drop_append_of_le_length hl, short_no hl2⟩
theorem txt_more {n : Nat} {x : List UInt8} (y : List UInt8) (h : txtShort n x = false) : txt n (x ++ y) = txt n x ∧ txtRest n (x ++ y) = txtRest n x ++ y ∧ txtShort n (x ++ y) = false := by
  unfold txtShort at h
  obtain ⟨h1, h2⟩ := Bool.or_eq_false_iff.1 h
  obtain ⟨a1, a2, a3⟩ := tk_more y h1
  obtain ⟨b1, b2, b3⟩ := tk_more y h2
  unfold txt txtRest txtShort
  rw [a1, a2, a3, b1, b2, b3]
  exact ⟨rfl, rfl, rfl⟩
theorem addP_inv {q p : Parts} {r : List UInt8} {x : PR} (h : addP q x = some (p, r)) : ∃ p', x = some (p', r) ∧ p = q.app p' := by
  cases x with
  | none => cases h
  | some x =>
    simp only [addP, Option.map_some, Option.some.injEq, Prod.mk.injEq] at h
    exact ⟨x.1, by rw [← h.2], h.1.symm⟩
theorem pr0_more : ∀ (ls : List UInt8) (k fl : Nat) (x y : List UInt8) (p : Parts) (r : List UInt8), pr0 ls k fl x = some (p, r) → pr0 ls k fl (x ++ y) = some (p, r ++ y) := by
  intro ls
  induction ls with
  | nil =>
    intro k fl x y p r h
    simp only [pr0, Option.some.injEq, Prod.mk.injEq] at h ⊢
    exact ⟨h.1, by rw [h.2]⟩
  | cons ch ls ih =>
    intro k fl x y p r h
    rcases letter_cases ch with e | e | e | e | ⟨h1, h2, h3, h4⟩
    · subst e
      simp only [pr0, if_true] at h ⊢
      cases hs : txtShort 1 x with
      | true => rw [hs] at h; simp at h
      | false =>
        rw [hs] at h
        obtain ⟨a1, a2, a3⟩ := txt_more y hs
        rw [a1, a2, a3]
        obtain ⟨p', h5, rfl⟩ := addP_inv (by simpa using h)
        simp [ih _ _ _ y _ _ h5, addP_some]
    · subst e
      simp only [pr0, if_true, show ¬ ((108 : UInt8) = 115) by decide, if_false] at h ⊢
      cases hs : txtShort 4 x with
      | true => rw [hs] at h; simp at h
      | false =>
        rw [hs] at h
        obtain ⟨a1, a2, a3⟩ := txt_more y hs
        rw [a1, a2, a3]
        obtain ⟨p', h5, rfl⟩ := addP_inv (by simpa using h)
        simp [ih _ _ _ y _ _ h5, addP_some]
    · subst e
      simp only [pr0, if_true, show ¬ ((102 : UInt8) = 115) by decide, show ¬ ((102 : UInt8) = 108) by decide, if_false] at h ⊢
      by_cases hk : k % 8 = 0
      · simp only [hk, if_true] at h ⊢
        cases hs : short 1 x with
        | true => rw [hs] at h; simp at h
        | false =>
          rw [hs] at h
          obtain ⟨a1, a2, a3⟩ := tk_more y hs
          rw [a1, a2, a3]
          obtain ⟨p', h5, rfl⟩ := addP_inv (by simpa using h)
          simp [ih _ _ _ y _ _ h5, addP_some]
      · simp only [hk, if_false] at h ⊢
        obtain ⟨p', h5, rfl⟩ := addP_inv h
        rw [ih _ _ _ y _ _ h5, addP_some]
    · subst e
      simp only [pr0, if_true, show ¬ ((116 : UInt8) = 115) by decide, show ¬ ((116 : UInt8) = 108) by decide, show ¬ ((116 : UInt8) = 102) by decide, if_false] at h ⊢
      cases hs : txtShort 4 x with
      | true => rw [hs] at h; simp at h
      | false =>
        rw [hs] at h
        obtain ⟨a1, a2, a3⟩ := txt_more y hs
        rw [a1, a2, a3]
        cases ht : parseB (txt 4 x) with
        | none => rw [ht] at h; simp at h
        | some t =>
          rw [ht] at h
          obtain ⟨p', h5, rfl⟩ := addP_inv (by simpa using h)
          simp [ih _ _ _ y _ _ h5, addP_some]
    · simp only [pr0, h1, h2, h3, h4, if_false] at h ⊢
      cases hs : short (wd ch) x with
      | true => rw [hs] at h; simp at h
      | false =>
        rw [hs] at h
        obtain ⟨a1, a2, a3⟩ := tk_more y hs
        rw [a1, a2, a3]
        obtain ⟨p', h5, rfl⟩ := addP_inv (by simpa using h)
        simp [ih _ _ _ y _ _ h5, addP_some]

/-! ### what the writer does -/
/-- the bits of flags beside each other, from one on, within an octet -/
def octF : List UInt8 → Nat → List Bool → Nat
  | [], _, _ => 0
  | ch :: ls, j, f => if ch = 102 ∧ j < 8 then (if f.headD false then 2 ^ j else 0) + octF ls (j + 1) f.tail else 0
theorem octF_dvd : ∀ (ls : List UInt8) (j : Nat) (f : List Bool), 2 ^ j ∣ octF ls j f := by
  intro ls
  induction ls with
  | nil => intro j f; exact Nat.dvd_zero _
  | cons ch ls ih =>
    intro j f
    unfold octF
    split
    · refine Nat.dvd_add ?_ (Nat.dvd_trans (Nat.pow_dvd_pow 2 (by omega)) (ih (j + 1) f.tail))
      split
      · exact Nat.dvd_refl _
      · exact Nat.dvd_zero _
    · exact Nat.dvd_zero _
theorem octF_le : ∀ (ls : List UInt8) (j : Nat) (f : List Bool), j ≤ 8 → octF ls j f + 2 ^ j ≤ 256 := by
  intro ls
  induction ls with
  | nil =>
    intro j f h
    have : 2 ^ j ≤ 2 ^ 8 := Nat.pow_le_pow_right (by omega) h
    simp only [octF]
    omega
  | cons ch ls ih =>
    intro j f h
    have h8 : 2 ^ j ≤ 2 ^ 8 := Nat.pow_le_pow_right (by omega) h
    unfold octF
    split
    · rename_i hc
      have := ih (j + 1) f.tail (by omega)
      rw [Nat.pow_succ] at this
      split <;> omega
    · omega
theorem octF_end (ls : List UInt8) (f : List Bool) : octF ls 8 f = 0 := by
  cases ls <;> simp [octF]
theorem octF_other (ch : UInt8) (ls : List UInt8) (j : Nat) (f : List Bool) (h : ch ≠ 102) : octF (ch :: ls) j f = 0 := by simp [octF, h]
theorem octF_lt (ls : List UInt8) (f : List Bool) : octF ls 0 f < 256 := by
  have := octF_le ls 0 f (by omega)
  rw [Nat.pow_zero] at this
  omega
/-- what octets parts have by letters -/
def pw : List UInt8 → Nat → Parts → List UInt8
  | [], _, _ => []
  | ch :: ls, k, p =>
    if ch = 115 then be 1 (p.s.headD []).length ++ (p.s.headD [] ++ pw ls 0 { p with s := p.s.tail })
    else if ch = 108 then be 4 (p.s.headD []).length ++ (p.s.headD [] ++ pw ls 0 { p with s := p.s.tail })
    else if ch = 102 then (if k % 8 = 0 then [UInt8.ofNat (octF (ch :: ls) 0 p.f)] else []) ++ pw ls (k + 1) { p with f := p.f.tail }
    else if ch = 116 then be 4 (appB [] p.t).length ++ (appB [] p.t ++ pw ls 0 p)
    else be (wd ch) (p.n.headD 0) ++ pw ls 0 { p with n := p.n.tail }
/-- does a part not go in? -/
def badP : List UInt8 → Parts → Bool
  | [], _ => false
  | ch :: ls, p =>
    if ch = 115 then decide (255 < (p.s.headD []).length) || badP ls { p with s := p.s.tail }
    else if ch = 108 then badP ls { p with s := p.s.tail }
    else if ch = 102 then badP ls { p with f := p.f.tail }
    else if ch = 116 then !okB p.t || badP ls p
    else decide (256 ^ wd ch ≤ p.n.headD 0) || badP ls { p with n := p.n.tail }
/-- how many numbers, texts, flags -/
def cS (ls : List UInt8) : Nat := ls.count 115 + ls.count 108
def cF (ls : List UInt8) : Nat := ls.count 102
def cN (ls : List UInt8) : Nat := ls.countP fun c => !(c == 115) && !(c == 108) && !(c == 102) && !(c == 116)
theorem c_all (ls : List UInt8) : cN ls + cS ls + cF ls + ls.count 116 = ls.length := by
  induction ls with
  | nil => rfl
  | cons ch ls ih =>
    unfold cN cS cF at *
    rw [List.countP_cons, List.count_cons, List.count_cons, List.count_cons, List.count_cons, List.length_cons]
    rcases letter_cases ch with e | e | e | e | ⟨h1, h2, h3, h4⟩
    · subst e; simp; omega
    · subst e; simp; omega
    · subst e; simp; omega
    · subst e; simp; omega
    · simp [h1, h2, h3, h4]; omega
def askB (ls : List UInt8) (p : Parts) : Bool := decide (p.n.length = cN ls) && decide (p.s.length = cS ls) && decide (p.f.length = cF ls) && (decide (0 < ls.count 116) || p.t.isEmpty)
structure Asked (ls : List UInt8) (p : Parts) : Prop where
  n : p.n.length = cN ls
  s : p.s.length = cS ls
  f : p.f.length = cF ls
structure WS where
  b : List UInt8
  p : Parts
  bad : Bool
def orLast (b : List UInt8) (m : Nat) : List UInt8 := b.dropLast ++ [UInt8.ofNat ((b.getLastD 0).toNat ||| m)]
def wstep (ch : UInt8) (j : Nat) (st : WS) : WS :=
  if ch = 115 then
    (if (st.p.s.headD []).length ≤ 255 then { st with b := st.b ++ be 1 (st.p.s.headD []).length ++ st.p.s.headD [], p := { st.p with s := st.p.s.tail } }
    else { st with p := { st.p with s := st.p.s.tail }, bad := true })
  else if ch = 108 then { st with b := st.b ++ be 4 (st.p.s.headD []).length ++ st.p.s.headD [], p := { st.p with s := st.p.s.tail } }
  else if ch = 102 then
    (if st.p.f.headD false then { st with b := orLast (if j = 0 then st.b ++ be 1 0 else st.b) (2 ^ j), p := { st.p with f := st.p.f.tail } }
    else { st with b := if j = 0 then st.b ++ be 1 0 else st.b, p := { st.p with f := st.p.f.tail } })
  else if ch = 116 then { st with b := st.b ++ be 4 (appB [] st.p.t).length ++ appB [] st.p.t, bad := st.bad || !okB st.p.t }
  else { st with b := st.b ++ be (wd ch) (st.p.n.headD 0), p := { st.p with n := st.p.n.tail }, bad := st.bad || decide (256 ^ wd ch ≤ st.p.n.headD 0) }
/-- the last octet is still being filled -/
def openB (b : List UInt8) (k : Nat) : Prop := k % 8 ≠ 0 → ∃ b0 v, b = b0 ++ [v] ∧ v.toNat < 2 ^ (k % 8)
def closeB (b : List UInt8) (ls : List UInt8) (k : Nat) (f : List Bool) : List UInt8 :=
  if k % 8 = 0 then b else b.dropLast ++ [UInt8.ofNat ((b.getLastD 0).toNat + octF ls (k % 8) f)]
def writeG (st : WS) (ls : List UInt8) (k : Nat) : Option (List UInt8) := if st.bad || badP ls st.p then none else some (closeB st.b ls k st.p.f ++ pw ls k st.p)
theorem close_other {b : List UInt8} {k : Nat} (h : openB b k) (ch : UInt8) (ls : List UInt8) (f : List Bool) (hc : ch ≠ 102) : closeB b (ch :: ls) k f = b := by
  unfold closeB
  split
  · rfl
  · rename_i hk
    obtain ⟨b0, v, rfl, _⟩ := h hk
    rw [octF_other _ _ _ _ hc]
    simp
theorem close_end {b : List UInt8} {k : Nat} (h : openB b k) (f : List Bool) : closeB b [] k f = b := by
  unfold closeB
  split
  · rfl
  · rename_i hk
    obtain ⟨b0, v, rfl, _⟩ := h hk
    simp [octF]
theorem close_zero (b : List UInt8) (ls : List UInt8) (f : List Bool) : closeB b ls 0 f = b := rfl
theorem be_one_zero : be 1 0 = [0] := by decide
theorem or_bit (v j : Nat) (h : v < 2 ^ j) : v ||| 2 ^ j = v + 2 ^ j := by
  have := Nat.two_pow_add_eq_or_of_lt h 1
  rw [Nat.mul_one] at this
  rw [Nat.or_comm, ← this, Nat.add_comm]
theorem flag_step {b : List UInt8} {k : Nat} (h : openB b k) (ls : List UInt8) (f : List Bool) :
    openB (if f.headD false then orLast (if k % 8 = 0 then b ++ be 1 0 else b) (2 ^ (k % 8)) else (if k % 8 = 0 then b ++ be 1 0 else b)) (k + 1) ∧
    closeB (if f.headD false then orLast (if k % 8 = 0 then b ++ be 1 0 else b) (2 ^ (k % 8)) else (if k % 8 = 0 then b ++ be 1 0 else b)) ls (k + 1) f.tail =
      closeB b (102 :: ls) k f ++ (if k % 8 = 0 then [UInt8.ofNat (octF (102 :: ls) 0 f)] else []) := by
  -- the octet that is being filled, behind this flag
  obtain ⟨b0, v, hb, hv⟩ : ∃ b0 v, (if k % 8 = 0 then b ++ be 1 0 else b) = b0 ++ [v] ∧ v.toNat < 2 ^ (k % 8) := by
    by_cases hk : k % 8 = 0
    · rw [if_pos hk, hk, be_one_zero]
      exact ⟨b, 0, rfl, by decide⟩
    · rw [if_neg hk]
      exact h hk
  have hj : k % 8 < 8 := Nat.mod_lt _ (by omega)
  have hp8 : 2 ^ (k % 8) * 2 ≤ 256 := by
    have : 2 ^ (k % 8 + 1) ≤ 2 ^ 8 := Nat.pow_le_pow_right (by omega) (by omega)
    rw [Nat.pow_succ] at this
    omega
  obtain ⟨u, hu, hut⟩ : ∃ u : UInt8, (if f.headD false then orLast (if k % 8 = 0 then b ++ be 1 0 else b) (2 ^ (k % 8)) else (if k % 8 = 0 then b ++ be 1 0 else b)) = b0 ++ [u] ∧ u.toNat = v.toNat + (if f.headD false then 2 ^ (k % 8) else 0) := by
    rw [hb]
    by_cases hf : f.headD false = true
    · rw [if_pos hf, if_pos hf]
      refine ⟨UInt8.ofNat (v.toNat ||| 2 ^ (k % 8)), by simp [orLast], ?_⟩
      rw [or_bit _ _ hv, UInt8.toNat_ofNat', Nat.mod_eq_of_lt (by omega)]
    · rw [if_neg hf, if_neg hf]
      exact ⟨v, rfl, by omega⟩
  rw [hu]
  constructor
  · intro hk
    refine ⟨b0, u, rfl, ?_⟩
    have : (k + 1) % 8 = k % 8 + 1 := by omega
    rw [this, Nat.pow_succ, hut]
    split <;> omega
  · have hoct : ∀ j, j < 8 → octF (102 :: ls) j f = (if f.headD false then 2 ^ j else 0) + octF ls (j + 1) f.tail := by
      intro j hj
      simp [octF, hj]
    have hlast : closeB (b0 ++ [u]) ls (k + 1) f.tail = b0 ++ [UInt8.ofNat (v.toNat + octF (102 :: ls) (k % 8) f)] := by
      rw [hoct _ hj]
      unfold closeB
      by_cases h7 : (k + 1) % 8 = 0
      · rw [if_pos h7]
        have k7 : k % 8 = 7 := by omega
        rw [k7] at hut ⊢
        rw [octF_end, Nat.add_zero, ← hut, UInt8.ofNat_toNat]
      · rw [if_neg h7]
        have : (k + 1) % 8 = k % 8 + 1 := by omega
        rw [this]
        simp only [List.dropLast_concat, List.getLastD_concat]
        rw [hut, Nat.add_assoc]
    rw [hlast]
    unfold closeB
    by_cases hk : k % 8 = 0
    · rw [if_pos hk] at hb ⊢
      rw [if_pos hk]
      rw [be_one_zero] at hb
      have := List.append_inj' hb rfl
      obtain ⟨rfl, h2⟩ := this
      simp only [List.cons.injEq, and_true] at h2
      subst h2
      rw [hk]
      simp
    · rw [if_neg hk] at hb ⊢
      rw [if_neg hk, hb]
      simp
theorem write_step {st : WS} {k : Nat} (ho : openB st.b k) (ch : UInt8) (ls : List UInt8) : openB (wstep ch (k % 8) st).b (nextK ch k) ∧ writeG st (ch :: ls) k = writeG (wstep ch (k % 8) st) ls (nextK ch k) := by
  rcases letter_cases ch with e | e | e | e | ⟨h1, h2, h3, h4⟩
  · subst e
    refine ⟨fun h => absurd rfl h, ?_⟩
    unfold writeG wstep nextK
    rw [close_other ho _ _ _ (by decide)]
    simp only [pw, badP, if_true]
    generalize st.p.s.headD [] = x
    by_cases hl : x.length ≤ 255
    · simp [hl, show ¬ (255 < x.length) by omega, closeB]
    · simp [hl, show 255 < x.length by omega]
  · subst e
    refine ⟨fun h => absurd rfl h, ?_⟩
    unfold writeG wstep nextK
    rw [close_other ho _ _ _ (by decide)]
    simp [pw, badP, closeB]
  · subst e
    obtain ⟨g1, g2⟩ := flag_step ho ls st.p.f
    have e1 : (wstep 102 (k % 8) st).b = (if st.p.f.headD false then orLast (if k % 8 = 0 then st.b ++ be 1 0 else st.b) (2 ^ (k % 8)) else (if k % 8 = 0 then st.b ++ be 1 0 else st.b)) := by
      unfold wstep
      simp only [show ¬ ((102 : UInt8) = 115) by decide, show ¬ ((102 : UInt8) = 108) by decide, if_true, if_false]
      split <;> rfl
    have e2 : (wstep 102 (k % 8) st).p = { st.p with f := st.p.f.tail } ∧ (wstep 102 (k % 8) st).bad = st.bad := by
      unfold wstep
      simp only [show ¬ ((102 : UInt8) = 115) by decide, show ¬ ((102 : UInt8) = 108) by decide, if_true, if_false]
      split <;> exact ⟨rfl, rfl⟩
    rw [← e1] at g1 g2
    refine ⟨g1, ?_⟩
    unfold writeG
    rw [e2.1, e2.2]
    show _ = if st.bad || badP ls { st.p with f := st.p.f.tail } then none else some (closeB (wstep 102 (k % 8) st).b ls (k + 1) st.p.f.tail ++ pw ls (k + 1) { st.p with f := st.p.f.tail })
    rw [g2]
    simp only [pw, badP, show ¬ ((102 : UInt8) = 115) by decide, show ¬ ((102 : UInt8) = 108) by decide, if_true, if_false, List.append_assoc]
  · subst e
    refine ⟨fun h => absurd rfl h, ?_⟩
    unfold writeG wstep nextK
    rw [close_other ho _ _ _ (by decide)]
    simp [pw, badP, closeB, Bool.or_assoc]
  · refine ⟨?_, ?_⟩
    · unfold nextK
      rw [if_neg h3]
      exact fun h => absurd rfl h
    · unfold writeG wstep nextK
      rw [close_other ho _ _ _ h3]
      simp [pw, badP, closeB, h1, h2, h3, h4, Bool.or_assoc]
theorem write_end {st : WS} {k : Nat} (ho : openB st.b k) : writeG st [] k = if st.bad then none else some st.b := by
  unfold writeG
  rw [close_end ho]
  simp [badP, pw]
theorem write_start (p : Parts) (ls : List UInt8) : writeG ⟨[], p, false⟩ ls 0 = if badP ls p then none else some (pw ls 0 p) := by
  unfold writeG
  simp [closeB]
end
section
open Go.RowKit
set_option maxRecDepth 100000
set_option linter.unusedSimpArgs false
set_option linter.unusedVariables false

def cellsN (l : List Nat) : List Value := l.map fun (x : Nat) => Value.int .u64 (x : Int)
def cellsS (l : List (List UInt8)) : List Value := l.map St
def cellsB (l : List Bool) : List Value := l.map .bool
/-- a slice of such cells, below a block -/
def SlAt (w : World) (B : Nat) (v : Value) (n : Nat) (xs : List Value) : Prop := ∃ A c, v = .slice A n c ∧ n ≤ c ∧ c ≤ maxLen ∧ Lies w B A xs
def TbAt (w : World) (B : Nat) (v : Value) (t : List Fld) : Prop := ∃ A c d, v = .slice A t.length c ∧ TabAt d w B t A c
structure PartsAt (w : World) (B : Nat) (p : Parts) (vN vS vF vT : Value) : Prop where
  n : SlAt w B vN p.n.length (cellsN p.n)
  s : SlAt w B vS p.s.length (cellsS p.s)
  f : SlAt w B vF p.f.length (cellsB p.f)
  t : TbAt w B vT p.t
theorem SlAt.below {w w' : World} {B n : Nat} {v : Value} {xs : List Value} (h : SlAt w B v n xs) (hb : Below B w w') : SlAt w' B v n xs := by
  obtain ⟨A, c, h1, h2, h3, h4⟩ := h
  exact ⟨A, c, h1, h2, h3, h4.below hb⟩
theorem SlAt.more {w : World} {B B' n : Nat} {v : Value} {xs : List Value} (h : SlAt w B v n xs) (hb : B ≤ B') : SlAt w B' v n xs := by
  obtain ⟨A, c, h1, h2, h3, h4⟩ := h
  exact ⟨A, c, h1, h2, h3, h4.more hb⟩
theorem TbAt.below {w w' : World} {B : Nat} {v : Value} {t : List Fld} (h : TbAt w B v t) (hb : Below B w w') : TbAt w' B v t := by
  obtain ⟨A, c, d, h1, h2⟩ := h
  exact ⟨A, c, d, h1, TabH.below h2 hb⟩
theorem TbAt.more {w : World} {B B' : Nat} {v : Value} {t : List Fld} (h : TbAt w B v t) (hb : B ≤ B') : TbAt w B' v t := by
  obtain ⟨A, c, d, h1, h2⟩ := h
  exact ⟨A, c, d, h1, TabH.more hb _ _ _ _ h2⟩
theorem PartsAt.below {w w' : World} {B : Nat} {p : Parts} {vN vS vF vT : Value} (h : PartsAt w B p vN vS vF vT) (hb : Below B w w') : PartsAt w' B p vN vS vF vT := ⟨h.n.below hb, h.s.below hb, h.f.below hb, h.t.below hb⟩
theorem PartsAt.more {w : World} {B B' : Nat} {p : Parts} {vN vS vF vT : Value} (h : PartsAt w B p vN vS vF vT) (hb : B ≤ B') : PartsAt w B' p vN vS vF vT := ⟨h.n.more hb, h.s.more hb, h.f.more hb, h.t.more hb⟩
/-- one off the front -/
theorem Lies.tail {w : World} {B : Nat} {A : Option Addr} {x : Value} {xs : List Value} {c : Nat} (h : Lies w B A (x :: xs)) (hc : xs.length + 1 ≤ c) : Lies w B (if c = 1 then A else A.map (·.add 1)) xs := by
  have := h.drop 1 c (by simp) (by simpa using hc)
  simpa using this
def NextIs (g o B n : Nat) (x : Value) (xs : List Value) (w : World) (e : Ending) (w' : World) : Prop :=
  e = .returned x ∧ ∃ v, w' = w.setCell ⟨g, o, none⟩ v ∧ SlAt w B v n xs
theorem next_str (g o B c n : Nat) (A : Option Addr) (x : List UInt8) (xs : List Value) (w : World) (hn : xs.length = n) (h0 : w.cell? ⟨g, o, none⟩ = some (.slice A (n + 1) c)) (hf : w.frozen? ⟨g, o, none⟩ = false)
    (hc : n + 1 ≤ c) (hm : c ≤ maxLen) (hl : Lies w B A (St x :: xs)) :
    Calls Tryd.prog 53 #[.pointer (some ⟨g, o, none⟩)] w (NextIs g o B n (St x) xs w) := by
  have hm' := hm
  unfold maxLen at hm
  have ht := hl.tail (c := c) (by omega)
  obtain ⟨b, p, rfl, hb, hcell⟩ := hl.resolve_left (by simp)
  have c0 : w.cell? ⟨b, p, none⟩ = some (St x) := hcell 0 _ rfl
  by_cases hc1 : c = 1
  · have hn0 : n = 0 := by omega
    have D : Hid (NextIs g o B n (St x) xs w (.returned (St x)) (w.setCell ⟨g, o, none⟩ (.slice (some ⟨b, p, none⟩) 0 0))) := Lib.hid
      ⟨rfl, _, rfl, _, _, by rw [hn0], by omega, Nat.zero_le _, by rw [if_pos hc1] at ht; exact ht⟩
    clear hcell ht hl
    subst hc1 hn0
    go_enter Tryd.func53, Tryd.ntmps53
    go_wp2_with fail
    go_ret
    exact D.out
  · have D : Hid (NextIs g o B n (St x) xs w (.returned (St x)) (w.setCell ⟨g, o, none⟩ (.slice (some ⟨b, p + 1, none⟩) n (c - 1)))) := Lib.hid
      ⟨rfl, _, rfl, _, _, rfl, by omega, by unfold maxLen; omega, by rw [if_neg hc1] at ht; exact ht⟩
    clear hcell ht hl
    go_enter Tryd.func53, Tryd.ntmps53
    go_wp2_with fail
    go_ret
    exact D.out
theorem next_bool (g o B c n : Nat) (A : Option Addr) (x : Bool) (xs : List Value) (w : World) (hn : xs.length = n) (h0 : w.cell? ⟨g, o, none⟩ = some (.slice A (n + 1) c)) (hf : w.frozen? ⟨g, o, none⟩ = false)
    (hc : n + 1 ≤ c) (hm : c ≤ maxLen) (hl : Lies w B A (Value.bool x :: xs)) :
    Calls Tryd.prog 56 #[.pointer (some ⟨g, o, none⟩)] w (NextIs g o B n (Value.bool x) xs w) := by
  have hm' := hm
  unfold maxLen at hm
  have ht := hl.tail (c := c) (by omega)
  obtain ⟨b, p, rfl, hb, hcell⟩ := hl.resolve_left (by simp)
  have c0 : w.cell? ⟨b, p, none⟩ = some (Value.bool x) := hcell 0 _ rfl
  by_cases hc1 : c = 1
  · have hn0 : n = 0 := by omega
    have D : Hid (NextIs g o B n (Value.bool x) xs w (.returned (Value.bool x)) (w.setCell ⟨g, o, none⟩ (.slice (some ⟨b, p, none⟩) 0 0))) := Lib.hid
      ⟨rfl, _, rfl, _, _, by rw [hn0], by omega, Nat.zero_le _, by rw [if_pos hc1] at ht; exact ht⟩
    clear hcell ht hl
    subst hc1 hn0
    go_enter Tryd.func56, Tryd.ntmps56
    go_wp2_with fail
    go_ret
    exact D.out
  · have D : Hid (NextIs g o B n (Value.bool x) xs w (.returned (Value.bool x)) (w.setCell ⟨g, o, none⟩ (.slice (some ⟨b, p + 1, none⟩) n (c - 1)))) := Lib.hid
      ⟨rfl, _, rfl, _, _, rfl, by omega, by unfold maxLen; omega, by rw [if_neg hc1] at ht; exact ht⟩
    clear hcell ht hl
    go_enter Tryd.func56, Tryd.ntmps56
    go_wp2_with fail
    go_ret
    exact D.out
theorem next_num (g o B c n : Nat) (A : Option Addr) (x : Nat) (xs : List Value) (w : World) (hn : xs.length = n) (h0 : w.cell? ⟨g, o, none⟩ = some (.slice A (n + 1) c)) (hf : w.frozen? ⟨g, o, none⟩ = false)
    (hc : n + 1 ≤ c) (hm : c ≤ maxLen) (hl : Lies w B A (Value.int .u64 (x : Int) :: xs)) :
    Calls Tryd.prog 59 #[.pointer (some ⟨g, o, none⟩)] w (NextIs g o B n (Value.int .u64 (x : Int)) xs w) := by
  have hm' := hm
  unfold maxLen at hm
  have ht := hl.tail (c := c) (by omega)
  obtain ⟨b, p, rfl, hb, hcell⟩ := hl.resolve_left (by simp)
  have c0 : w.cell? ⟨b, p, none⟩ = some (Value.int .u64 (x : Int)) := hcell 0 _ rfl
  by_cases hc1 : c = 1
  · have hn0 : n = 0 := by omega
    have D : Hid (NextIs g o B n (Value.int .u64 (x : Int)) xs w (.returned (Value.int .u64 (x : Int))) (w.setCell ⟨g, o, none⟩ (.slice (some ⟨b, p, none⟩) 0 0))) := Lib.hid
      ⟨rfl, _, rfl, _, _, by rw [hn0], by omega, Nat.zero_le _, by rw [if_pos hc1] at ht; exact ht⟩
    clear hcell ht hl
    subst hc1 hn0
    go_enter Tryd.func59, Tryd.ntmps59
    go_wp2_with fail
    go_ret
    exact D.out
  · have D : Hid (NextIs g o B n (Value.int .u64 (x : Int)) xs w (.returned (Value.int .u64 (x : Int))) (w.setCell ⟨g, o, none⟩ (.slice (some ⟨b, p + 1, none⟩) n (c - 1)))) := Lib.hid
      ⟨rfl, _, rfl, _, _, rfl, by omega, by unfold maxLen; omega, by rw [if_neg hc1] at ht; exact ht⟩
    clear hcell ht hl
    go_enter Tryd.func59, Tryd.ntmps59
    go_wp2_with fail
    go_ret
    exact D.out
end
end Go.Proofs.YtlfppfknelddcaaDoor
