/- Tables of fields as plain data: what is read of octets. No program is imported. Tables of fields in memory: where a table's cells lie. No program is imported. -/
import Derived.Test.YtlfppfknelddcaaDoorTablS
namespace Go.Proofs.YtlfppfknelddcaaDoor
section

/-- one row of octets: a field, and what is left (strict: another kind is none) -/
def rowP (strict : Bool) (sub : List UInt8 → Option (List Fld)) (b : List UInt8) : Option (Fld × List UInt8) :=
  if txtShort 1 b then none else
  match txtRest 1 b with
  | [] => none
  | c :: r =>
    if c = 116 then if short 1 r then none else some (.mk (txt 1 b) c (s64 (nat (tk 1 r))) [] [], rst 1 r)
    else if c = 73 then if short 4 r then none else some (.mk (txt 1 b) c (s32 (nat (tk 4 r))) [] [], rst 4 r)
    else if c = 108 then if short 8 r then none else some (.mk (txt 1 b) c (s64 (nat (tk 8 r))) [] [], rst 8 r)
    else if c = 83 then if txtShort 4 r then none else some (.mk (txt 1 b) c 0 (txt 4 r) [], txtRest 4 r)
    else if c = 70 then if txtShort 4 r then none else
      match sub (txt 4 r) with
      | none => none
      | some t => some (.mk (txt 1 b) c 0 [] t, txtRest 4 r)
    else if c = 86 then some (.mk (txt 1 b) c 0 [] [], r)
    else if strict then none else some (.mk (txt 1 b) c 0 [] [], r)
/-- rows behind each other (at most n of them) -/
def parseL (p : List UInt8 → Option (Fld × List UInt8)) : Nat → List UInt8 → Option (List Fld)
  | _, [] => some []
  | 0, _ :: _ => none
  | n + 1, c :: b =>
    match p (c :: b) with
    | none => none
    | some (f, r) => (parseL p n r).map (f :: ·)
/-- the program's rows; the document's own -/
def codeP : Nat → List UInt8 → Option (List Fld)
  | 0, _ => none
  | k + 1, b => parseL (rowP false (codeP k)) b.length b
def refP : Nat → List UInt8 → Option (List Fld)
  | 0, b => if b = [] then some [] else none
  | k + 1, b => parseL (rowP true (refP k)) b.length b

theorem be_nat (l : List UInt8) : be l.length (nat l) = l := by
  apply nat_inj
  · rw [be_length]
  · rw [nat_be, Nat.mod_eq_of_lt (nat_lt l)]
theorem tk_rst {n : Nat} {l : List UInt8} (h : short n l = false) : l = tk n l ++ rst n l ∧ (tk n l).length = n := by
  have hn : n ≤ l.length := by simpa [short] using h
  rw [tk_yes hn, rst_yes hn, List.take_append_drop, List.length_take]
  exact ⟨rfl, by omega⟩
theorem txt_is {k : Nat} {l : List UInt8} (h : txtShort k l = false) : l = be k (txt k l).length ++ txt k l ++ txtRest k l ∧ (txt k l).length < 256 ^ k := by
  unfold txtShort at h
  obtain ⟨h1, h2⟩ : short k l = false ∧ short (nat (tk k l)) (rst k l) = false := by
    cases ha : short k l <;> simp_all
  obtain ⟨e1, l1⟩ := tk_rst h1
  obtain ⟨e2, l2⟩ := tk_rst h2
  have e3 : (txt k l).length = nat (tk k l) := l2
  have e4 : be k (nat (tk k l)) = tk k l := by
    have := be_nat (tk k l)
    rw [l1] at this
    exact this
  have e5 := nat_lt (tk k l)
  rw [l1] at e5
  rw [e3, e4]
  refine ⟨?_, e5⟩
  unfold txt txtRest
  rw [List.append_assoc, ← e2]
  exact e1
theorem txt_shorter {k : Nat} {l : List UInt8} (hk : 0 < k) (h : txtShort k l = false) : (txtRest k l).length < l.length := by
  have h1 := (txt_is h).1
  have h2 : l.length = k + (txt k l).length + (txtRest k l).length := by
    have h3 := congrArg List.length h1
    rw [List.length_append, List.length_append, be_length] at h3
    exact h3
  omega

theorem u64_s64 (x : Nat) (h : x < 18446744073709551616) : u64 (s64 x) = x := by unfold u64 s64; split <;> omega
theorem s64_u64 (n : Int) (h : I64 n) : s64 (u64 n) = n := by unfold I64 at h; unfold u64 s64; split <;> omega
theorem s32_u64 (n : Int) (h : I32 n) : s32 (u64 n % 4294967296) = n := by unfold I32 at h; unfold u64 s32; split <;> omega
theorem u64_s32 (x : Nat) (h : x < 4294967296) : u64 (s32 x) % 4294967296 = x := by unfold u64 s32; split <;> omega
theorem s64_range (x : Nat) (h : x < 18446744073709551616) : I64 (s64 x) := by unfold I64 s64; split <;> omega
theorem s32_range (x : Nat) (h : x < 4294967296) : I32 (s32 x) := by unfold I32 s32; split <;> omega
theorem nat_lt8 (l : List UInt8) (h : l.length ≤ 8) : nat l < 18446744073709551616 := by
  have h1 := nat_lt l
  have h2 : 256 ^ l.length ≤ 256 ^ 8 := Nat.pow_le_pow_right (by omega) h
  have h3 : (256 : Nat) ^ 8 = 18446744073709551616 := by decide
  omega
theorem nat_lt4 (l : List UInt8) (h : l.length ≤ 4) : nat l < 4294967296 := by
  have h1 := nat_lt l
  have h2 : 256 ^ l.length ≤ 256 ^ 4 := Nat.pow_le_pow_right (by omega) h
  have h3 : (256 : Nat) ^ 4 = 4294967296 := by decide
  omega
theorem be_mod (n a b : Nat) (h : a % 256 ^ n = b % 256 ^ n) : be n a = be n b := by
  apply nat_inj
  · rw [be_length, be_length]
  · rw [nat_be, nat_be, h]

/-- what a row reads as is that row, if it may be -/
theorem row_sound (strict : Bool) (sub : List UInt8 → Option (List Fld)) (k : Nat) (hs : ∀ x t, sub x = some t → formedB k t = true → rowsD k t = x)
    (b : List UInt8) (f : Fld) (r : List UInt8) (h : rowP strict sub b = some (f, r)) (hm : mayB f = true) (ht : f.kind = 70 → formedB k f.t = true) : rowOf (rowsD k) f ++ r = b := by
  unfold rowP at h
  cases h0 : txtShort 1 b with
  | true => simp [h0] at h
  | false =>
    obtain ⟨e1, _⟩ := txt_is h0
    rw [h0] at h
    simp only [Bool.false_eq_true, if_false] at h
    cases hr : txtRest 1 b with
    | nil => simp [hr] at h
    | cons c q =>
      rw [hr] at h e1
      simp only at h
      rcases kind_cases c with hc | hc | hc | hc | hc | hc | hc
      · subst hc
        simp only [if_true] at h
        cases hq : short 1 q with
        | true => simp [hq] at h
        | false =>
          obtain ⟨e2, l2⟩ := tk_rst hq
          simp [hq] at h
          obtain ⟨rfl, rfl⟩ := h
          have h8 := nat_lt8 (tk 1 q) (by omega)
          have e3 := be_nat (tk 1 q)
          rw [l2] at e3
          simp only [rowOf, tailOf, Fld.name, Fld.kind, Fld.n, if_true]
          rw [u64_s64 _ h8, e3]
          simp only [List.append_assoc, ← e2]
          refine Eq.trans ?_ e1.symm
          simp
      · subst hc
        simp [show ¬ ((73 : UInt8) = 116) by decide] at h
        obtain ⟨hq, rfl, rfl⟩ := h
        obtain ⟨e2, l2⟩ := tk_rst hq
        have h4 := nat_lt4 (tk 4 q) (by omega)
        have e3 := be_nat (tk 4 q)
        rw [l2] at e3
        have e4 : be 4 (u64 (s32 (nat (tk 4 q)))) = tk 4 q := by
          rw [← e3]
          rw [e3]
          apply (be_mod 4 _ (nat (tk 4 q)) _).trans e3
          rw [show 256 ^ 4 = 4294967296 from by decide, u64_s32 _ h4, Nat.mod_eq_of_lt h4]
        simp only [rowOf, tailOf, Fld.name, Fld.kind, Fld.n, if_true, show ¬ ((73 : UInt8) = 116) by decide, if_false]
        rw [e4]
        simp only [List.append_assoc, ← e2]
        refine Eq.trans ?_ e1.symm
        simp
      · subst hc
        simp [show ¬ ((108 : UInt8) = 116) by decide, show ¬ ((108 : UInt8) = 73) by decide] at h
        obtain ⟨hq, rfl, rfl⟩ := h
        obtain ⟨e2, l2⟩ := tk_rst hq
        have h8 := nat_lt8 (tk 8 q) (by omega)
        have e3 := be_nat (tk 8 q)
        rw [l2] at e3
        simp only [rowOf, tailOf, Fld.name, Fld.kind, Fld.n, if_true, show ¬ ((108 : UInt8) = 116) by decide, show ¬ ((108 : UInt8) = 73) by decide, if_false]
        rw [u64_s64 _ h8, e3]
        simp only [List.append_assoc, ← e2]
        refine Eq.trans ?_ e1.symm
        simp
      · subst hc
        simp [show ¬ ((83 : UInt8) = 116) by decide, show ¬ ((83 : UInt8) = 73) by decide, show ¬ ((83 : UInt8) = 108) by decide] at h
        obtain ⟨hq, rfl, rfl⟩ := h
        obtain ⟨e2, _⟩ := txt_is hq
        simp only [rowOf, tailOf, Fld.name, Fld.kind, Fld.s, if_true, show ¬ ((83 : UInt8) = 116) by decide, show ¬ ((83 : UInt8) = 73) by decide, show ¬ ((83 : UInt8) = 108) by decide, if_false]
        rw [List.append_assoc, ← e2]
        refine Eq.trans ?_ e1.symm
        simp
      · subst hc
        simp [show ¬ ((70 : UInt8) = 116) by decide, show ¬ ((70 : UInt8) = 73) by decide, show ¬ ((70 : UInt8) = 108) by decide, show ¬ ((70 : UInt8) = 83) by decide] at h
        obtain ⟨hq, h⟩ := h
        obtain ⟨e2, _⟩ := txt_is hq
        cases hsub : sub (txt 4 q) with
        | none => simp [hsub] at h
        | some t =>
          simp [hsub] at h
          obtain ⟨rfl, rfl⟩ := h
          have e3 := hs _ _ hsub (ht rfl)
          simp only [rowOf, tailOf, Fld.name, Fld.kind, Fld.t, if_true, show ¬ ((70 : UInt8) = 116) by decide, show ¬ ((70 : UInt8) = 73) by decide, show ¬ ((70 : UInt8) = 108) by decide, show ¬ ((70 : UInt8) = 83) by decide, if_false]
          rw [e3, List.append_assoc, ← e2]
          refine Eq.trans ?_ e1.symm
          simp
      · subst hc
        simp [show ¬ ((86 : UInt8) = 116) by decide, show ¬ ((86 : UInt8) = 73) by decide, show ¬ ((86 : UInt8) = 108) by decide, show ¬ ((86 : UInt8) = 83) by decide, show ¬ ((86 : UInt8) = 70) by decide] at h
        obtain ⟨rfl, rfl⟩ := h
        simp only [rowOf, tailOf, Fld.name, Fld.kind, show ¬ ((86 : UInt8) = 116) by decide, show ¬ ((86 : UInt8) = 73) by decide, show ¬ ((86 : UInt8) = 108) by decide, show ¬ ((86 : UInt8) = 83) by decide, show ¬ ((86 : UInt8) = 70) by decide, if_false]
        refine Eq.trans ?_ e1.symm
        simp
      · obtain ⟨a1, a2, a3, a4, a5, a6⟩ := hc
        simp [a1, a2, a3, a4, a5, a6] at h
        obtain ⟨_, rfl, rfl⟩ := h
        simp [mayB, kindB, Fld.kind, a1, a2, a3, a4, a5, a6] at hm

theorem mk_of_parts (f : Fld) (h : mayB f = true) : f.name.length < 256 ^ 1 := by
  simp [mayB] at h
  omega
theorem may_kind (f : Fld) (h : mayB f = true) : kindB f.kind f.n f.s.isEmpty f.t.isEmpty = true := by
  unfold mayB at h
  simp only [Bool.and_eq_true] at h
  exact h.2
/-- a row that may be is read as it was told -/
theorem row_complete (strict : Bool) (sub : List UInt8 → Option (List Fld)) (k : Nat) (f : Fld) (r : List UInt8) (hm : mayB f = true)
    (hS : f.kind = 83 → f.s.length < 256 ^ 4) (hT : f.kind = 70 → (rowsD k f.t).length < 256 ^ 4 ∧ sub (rowsD k f.t) = some f.t) : rowP strict sub (rowOf (rowsD k) f ++ r) = some (f, r) := by
  have hn := mk_of_parts f hm
  have hk := may_kind f hm
  obtain ⟨nm, kd, n, s, t⟩ := f
  simp only [Fld.name, Fld.kind, Fld.n, Fld.s, Fld.t] at hn hk hS hT
  have e0 : rowOf (rowsD k) (.mk nm kd n s t) ++ r = be 1 nm.length ++ (nm ++ (kd :: (tailOf (rowsD k) (.mk nm kd n s t) ++ r))) := by
    simp [rowOf, Fld.name, Fld.kind]
  obtain ⟨t1, t2, t3⟩ := txt_pre 1 nm (kd :: (tailOf (rowsD k) (.mk nm kd n s t) ++ r)) hn
  unfold rowP
  rw [e0, t1, t2, t3]
  simp only [Bool.false_eq_true, if_false]
  unfold kindB at hk
  rcases kind_cases kd with hc | hc | hc | hc | hc | hc | hc
  · subst hc
    simp at hk
    obtain ⟨⟨h1, rfl⟩, rfl⟩ := hk
    obtain ⟨q1, q2, q3⟩ := tk_pre r (be_length 1 (u64 n))
    simp only [tailOf, Fld.kind, Fld.n, if_true]
    rw [q1, q2, q3]
    simp only [Bool.false_eq_true, if_false, Option.some.injEq, Prod.mk.injEq, Fld.mk.injEq, true_and, and_true]
    rw [nat_be]
    rcases h1 with rfl | rfl <;> decide
  · subst hc
    simp [show ¬ ((73 : UInt8) = 116) by decide] at hk
    obtain ⟨⟨h1, rfl⟩, rfl⟩ := hk
    obtain ⟨q1, q2, q3⟩ := tk_pre r (be_length 4 (u64 n))
    simp only [tailOf, Fld.kind, Fld.n, if_true, show ¬ ((73 : UInt8) = 116) by decide, if_false]
    rw [q1, q2, q3]
    simp only [Bool.false_eq_true, if_false, Option.some.injEq, Prod.mk.injEq, Fld.mk.injEq, true_and, and_true]
    rw [nat_be]
    exact s32_u64 n h1
  · subst hc
    simp [show ¬ ((108 : UInt8) = 116) by decide, show ¬ ((108 : UInt8) = 73) by decide] at hk
    obtain ⟨⟨h1, rfl⟩, rfl⟩ := hk
    obtain ⟨q1, q2, q3⟩ := tk_pre r (be_length 8 (u64 n))
    simp only [tailOf, Fld.kind, Fld.n, if_true, show ¬ ((108 : UInt8) = 116) by decide, show ¬ ((108 : UInt8) = 73) by decide, if_false]
    rw [q1, q2, q3]
    simp only [Bool.false_eq_true, if_false, Option.some.injEq, Prod.mk.injEq, Fld.mk.injEq, true_and, and_true]
    have hu : u64 n < 18446744073709551616 := by unfold u64; omega
    rw [nat_be, show 256 ^ 8 = 18446744073709551616 from by decide, Nat.mod_eq_of_lt hu]
    exact s64_u64 n h1
  · subst hc
    simp [show ¬ ((83 : UInt8) = 116) by decide, show ¬ ((83 : UInt8) = 73) by decide, show ¬ ((83 : UInt8) = 108) by decide] at hk
    obtain ⟨rfl, rfl⟩ := hk
    obtain ⟨q1, q2, q3⟩ := txt_pre 4 s r (hS rfl)
    simp only [tailOf, Fld.kind, Fld.s, if_true, show ¬ ((83 : UInt8) = 116) by decide, show ¬ ((83 : UInt8) = 73) by decide, show ¬ ((83 : UInt8) = 108) by decide, if_false]
    rw [List.append_assoc, q1, q2, q3]
    simp
  · subst hc
    simp [show ¬ ((70 : UInt8) = 116) by decide, show ¬ ((70 : UInt8) = 73) by decide, show ¬ ((70 : UInt8) = 108) by decide, show ¬ ((70 : UInt8) = 83) by decide] at hk
    obtain ⟨rfl, rfl⟩ := hk
    obtain ⟨h1, h2⟩ := hT rfl
    obtain ⟨q1, q2, q3⟩ := txt_pre 4 (rowsD k t) r h1
    simp only [tailOf, Fld.kind, Fld.t, if_true, show ¬ ((70 : UInt8) = 116) by decide, show ¬ ((70 : UInt8) = 73) by decide, show ¬ ((70 : UInt8) = 108) by decide, show ¬ ((70 : UInt8) = 83) by decide, if_false]
    rw [List.append_assoc, q1, q2, q3, h2]
    simp
  · subst hc
    simp [show ¬ ((86 : UInt8) = 116) by decide, show ¬ ((86 : UInt8) = 73) by decide, show ¬ ((86 : UInt8) = 108) by decide, show ¬ ((86 : UInt8) = 83) by decide, show ¬ ((86 : UInt8) = 70) by decide] at hk
    obtain ⟨⟨rfl, rfl⟩, rfl⟩ := hk
    simp [tailOf, Fld.kind, show ¬ ((86 : UInt8) = 116) by decide, show ¬ ((86 : UInt8) = 73) by decide, show ¬ ((86 : UInt8) = 108) by decide, show ¬ ((86 : UInt8) = 83) by decide, show ¬ ((86 : UInt8) = 70) by decide]
  · obtain ⟨a1, a2, a3, a4, a5, a6⟩ := hc
    simp [a1, a2, a3, a4, a5, a6] at hk

theorem row_shorter (strict : Bool) (sub : List UInt8 → Option (List Fld)) (b : List UInt8) (f : Fld) (r : List UInt8) (h : rowP strict sub b = some (f, r)) : r.length < b.length := by
  unfold rowP at h
  cases h0 : txtShort 1 b with
  | true => simp [h0] at h
  | false =>
    have hl := txt_shorter (by omega) h0
    rw [h0] at h
    simp only [Bool.false_eq_true, if_false] at h
    cases hr : txtRest 1 b with
    | nil => simp [hr] at h
    | cons c q =>
      rw [hr] at h hl
      simp only [List.length_cons] at h hl
      have a1 := rst_sub 1 q
      have a4 := rst_sub 4 q
      have a8 := rst_sub 8 q
      have x4 := txtRest_sub 4 q
      rcases kind_cases c with hc | hc | hc | hc | hc | hc | hc
      · subst hc
        simp at h
        obtain ⟨_, _, rfl⟩ := h
        omega
      · subst hc
        simp [show ¬ ((73 : UInt8) = 116) by decide] at h
        obtain ⟨_, _, rfl⟩ := h
        omega
      · subst hc
        simp [show ¬ ((108 : UInt8) = 116) by decide, show ¬ ((108 : UInt8) = 73) by decide] at h
        obtain ⟨_, _, rfl⟩ := h
        omega
      · subst hc
        simp [show ¬ ((83 : UInt8) = 116) by decide, show ¬ ((83 : UInt8) = 73) by decide, show ¬ ((83 : UInt8) = 108) by decide] at h
        obtain ⟨_, _, rfl⟩ := h
        omega
      · subst hc
        simp [show ¬ ((70 : UInt8) = 116) by decide, show ¬ ((70 : UInt8) = 73) by decide, show ¬ ((70 : UInt8) = 108) by decide, show ¬ ((70 : UInt8) = 83) by decide] at h
        obtain ⟨_, h⟩ := h
        cases hsub : sub (txt 4 q) with
        | none => simp [hsub] at h
        | some t =>
          simp [hsub] at h
          obtain ⟨_, rfl⟩ := h
          omega
      · subst hc
        simp [show ¬ ((86 : UInt8) = 116) by decide, show ¬ ((86 : UInt8) = 73) by decide, show ¬ ((86 : UInt8) = 108) by decide, show ¬ ((86 : UInt8) = 83) by decide, show ¬ ((86 : UInt8) = 70) by decide] at h
        obtain ⟨_, rfl⟩ := h
        omega
      · obtain ⟨a1, a2, a3, a4, a5, a6⟩ := hc
        simp [a1, a2, a3, a4, a5, a6] at h
        obtain ⟨_, _, rfl⟩ := h
        omega

theorem allB_cons {sub : List Fld → Bool} {seen : List (List UInt8)} {f : Fld} {l : List Fld} (h : allB sub seen (f :: l) = true) : mayB f = true ∧ (f.kind = 70 → sub f.t = true) ∧ allB sub (f.name :: seen) l = true := by
  unfold allB at h
  simp only [Bool.and_eq_true] at h
  obtain ⟨⟨⟨h1, _⟩, h3⟩, h4⟩ := h
  refine ⟨h1, fun hk => ?_, h4⟩
  simpa [hk] using h3
theorem list_sound (strict : Bool) (sub : List UInt8 → Option (List Fld)) (k : Nat) (hs : ∀ x t, sub x = some t → formedB k t = true → rowsD k t = x) :
    ∀ (n : Nat) (b : List UInt8) (l : List Fld) (seen : List (List UInt8)), parseL (rowP strict sub) n b = some l → allB (formedB k) seen l = true → l.flatMap (rowOf (rowsD k)) = b := by
  intro n
  induction n with
  | zero =>
    intro b l seen h hf
    cases b with
    | nil => simp [parseL] at h; subst h; rfl
    | cons c b => simp [parseL] at h
  | succ n ih =>
    intro b l seen h hf
    cases b with
    | nil => simp [parseL] at h; subst h; rfl
    | cons c b =>
      unfold parseL at h
      cases hp : rowP strict sub (c :: b) with
      | none => simp [hp] at h
      | some x =>
        obtain ⟨f, r⟩ := x
        simp only [hp] at h
        cases hl : parseL (rowP strict sub) n r with
        | none => simp [hl] at h
        | some l' =>
          simp [hl] at h
          subst h
          obtain ⟨h1, h2, h3⟩ := allB_cons hf
          rw [List.flatMap_cons, ih r l' _ hl h3]
          exact row_sound strict sub k hs _ f r hp h1 h2
theorem list_complete (strict : Bool) (sub : List UInt8 → Option (List Fld)) (k : Nat) (hs : ∀ t, formedB k t = true → (rowsD k t).length < 256 ^ 4 → sub (rowsD k t) = some t) :
    ∀ (l : List Fld) (seen : List (List UInt8)) (n : Nat), allB (formedB k) seen l = true → (l.flatMap (rowOf (rowsD k))).length < 256 ^ 4 → (l.flatMap (rowOf (rowsD k))).length ≤ n → parseL (rowP strict sub) n (l.flatMap (rowOf (rowsD k))) = some l := by
  intro l
  induction l with
  | nil => intro seen n _ _ _; cases n <;> simp [parseL]
  | cons f l ih =>
    intro seen n hf hl hn
    obtain ⟨h1, h2, h3⟩ := allB_cons hf
    have hlen := rowOf_length (rowsD k) f
    rw [List.flatMap_cons] at hl hn ⊢
    rw [List.length_append] at hl hn
    have hpos : 2 ≤ (rowOf (rowsD k) f).length := by rw [hlen]; unfold sizeN; omega
    have hrow := row_complete strict sub k f (l.flatMap (rowOf (rowsD k))) h1
      (fun hk => by rw [hlen] at hl; unfold sizeN sizeK at hl; simp [hk] at hl; omega)
      (fun hk => by
        rw [hlen, if_pos hk] at hl
        have hlt : (rowsD k f.t).length < 256 ^ 4 := by omega
        exact ⟨hlt, hs _ (h2 hk) hlt⟩)
    cases hb : rowOf (rowsD k) f ++ l.flatMap (rowOf (rowsD k)) with
    | nil =>
      have h0 : (rowOf (rowsD k) f).length + (l.flatMap (rowOf (rowsD k))).length = 0 := by rw [← List.length_append, hb]; rfl
      omega
    | cons c b =>
      cases n with
      | zero => omega
      | succ n =>
        unfold parseL
        rw [hb] at hrow
        simp only [hrow]
        rw [ih _ n h3 (by omega) (by omega)]
        rfl

theorem code_sound : ∀ (k : Nat) (b : List UInt8) (l : List Fld), codeP k b = some l → formedB k l = true → rowsD k l = b := by
  intro k
  induction k with
  | zero => intro b l h; simp [codeP] at h
  | succ k ih => intro b l h hf; exact list_sound false (codeP k) k ih b.length b l [] h hf
theorem ref_sound : ∀ (k : Nat) (b : List UInt8) (l : List Fld), refP k b = some l → formedB k l = true → rowsD k l = b := by
  intro k
  induction k with
  | zero => intro b l _ hf; simp [formedB] at hf
  | succ k ih => intro b l h hf; exact list_sound true (refP k) k ih b.length b l [] h hf
theorem code_complete : ∀ (k : Nat) (l : List Fld), formedB k l = true → (rowsD k l).length < 256 ^ 4 → codeP k (rowsD k l) = some l := by
  intro k
  induction k with
  | zero => intro l hf; simp [formedB] at hf
  | succ k ih => intro l hf hl; exact list_complete false (codeP k) k ih l [] _ hf hl (Nat.le_refl _)
theorem ref_complete : ∀ (k : Nat) (l : List Fld), formedB k l = true → (rowsD k l).length < 256 ^ 4 → refP k (rowsD k l) = some l := by
  intro k
  induction k with
  | zero => intro l hf; simp [formedB] at hf
  | succ k ih => intro l hf hl; exact list_complete true (refP k) k ih l [] _ hf hl (Nat.le_refl _)

/-- what the program reads: fields that may be, and just their octets -/
def parsed (p : Nat → List UInt8 → Option (List Fld)) (b : List UInt8) : Option (List Fld) :=
  match p 8 b with
  | none => none
  | some l => if okB l then some l else none
theorem okB_parts {l : List Fld} (h : okB l = true) : formedB 8 l = true ∧ (rowsD 8 l).length ≤ 2000 := by
  unfold okB at h
  simpa using h
theorem parsed_of_ok (p : Nat → List UInt8 → Option (List Fld)) (hc : ∀ k l, formedB k l = true → (rowsD k l).length < 256 ^ 4 → p k (rowsD k l) = some l) (l : List Fld) (h : okB l = true) : parsed p (rowsD 8 l) = some l := by
  obtain ⟨h1, h2⟩ := okB_parts h
  unfold parsed
  rw [hc 8 l h1 (by rw [show 256 ^ 4 = 4294967296 from by decide]; omega)]
  simp [h]
theorem parsed_is (p : Nat → List UInt8 → Option (List Fld)) (hs : ∀ k b l, p k b = some l → formedB k l = true → rowsD k l = b) (b : List UInt8) (l : List Fld) (h : parsed p b = some l) : okB l = true ∧ rowsD 8 l = b := by
  unfold parsed at h
  cases hp : p 8 b with
  | none => simp [hp] at h
  | some m =>
    simp [hp] at h
    obtain ⟨h1, rfl⟩ := h
    exact ⟨h1, hs 8 b m hp (okB_parts h1).1⟩
theorem code_ref (b : List UInt8) : parsed codeP b = parsed refP b := by
  cases h1 : parsed codeP b with
  | some l =>
    obtain ⟨h2, rfl⟩ := parsed_is codeP code_sound b l h1
    rw [parsed_of_ok refP ref_complete l h2]
  | none =>
    cases h3 : parsed refP b with
    | none => rfl
    | some l =>
      obtain ⟨h2, rfl⟩ := parsed_is refP ref_sound b l h3
      rw [parsed_of_ok codeP code_complete l h2] at h1
      cases h1
end
section
open Go.RowKit

/-- a field's five cells -/
def cellsF (v : Value) (f : Fld) : List Value := [.string ⟨f.name.toArray⟩, .int .u8 (f.kind.toNat : Int), .int .i64 f.n, .string ⟨f.s.toArray⟩, v]
/-- how long a field's texts may be: what came in; what no sum of lengths breaks -/
def Raw (f : Fld) : Prop := I64 f.n ∧ f.name.length ≤ maxLen ∧ f.s.length ≤ maxLen
def Held (f : Fld) : Prop := I64 f.n ∧ f.name.length ≤ 140737488355328 ∧ f.s.length ≤ 140737488355328
/-- cells that are fields, whose tables lie as P says -/
def DescL (H : Fld → Prop) (P : List Fld → Option Addr → Nat → Prop) : List Fld → List Value → Prop
  | [], xs => xs = []
  | f :: l, xs => ∃ A c ys, xs = cellsF (.slice A f.t.length c) f ++ ys ∧ H f ∧ P f.t A c ∧ DescL H P l ys
/-- cells that lie one behind the other in a block of a kind -/
def LiesS (w : World) (S : Nat → Prop) (A : Option Addr) (xs : List Value) : Prop :=
  xs = [] ∨ ∃ b o, A = some ⟨b, o, none⟩ ∧ S b ∧ ∀ j u, xs[j]? = some u → w.cell? ⟨b, o + j, none⟩ = some u
/-- a table, d deep at most, lies at a slice's address, all of it in blocks of a kind -/
def TabS (H : Fld → Prop) : Nat → World → (Nat → Prop) → List Fld → Option Addr → Nat → Prop
  | 0, _, _, l, _, c => l = [] ∧ c ≤ maxLen
  | d + 1, w, S, l, A, c => l.length ≤ c ∧ c ≤ maxLen ∧ ∃ xs, LiesS w S A xs ∧ DescL H (TabS H d w S) l xs
/-- .. below a block; in new blocks -/
abbrev TabH (H : Fld → Prop) (d : Nat) (w : World) (B : Nat) : List Fld → Option Addr → Nat → Prop := TabS H d w (fun b => b < B)
abbrev TabAt := TabH Held
abbrev TabNew (d : Nat) (w : World) (lo : Nat) : List Fld → Option Addr → Nat → Prop := TabS Held d w (fun b => lo ≤ b ∧ b < w.heap.size)

theorem DescL.imp {H : Fld → Prop} {P Q : List Fld → Option Addr → Nat → Prop} (h : ∀ l A c, P l A c → Q l A c) : ∀ {l : List Fld} {xs : List Value}, DescL H P l xs → DescL H Q l xs := by
  intro l
  induction l with
  | nil => intro xs hx; exact hx
  | cons f l ih =>
    rintro xs ⟨A, c, ys, h1, h2, h3, h4⟩
    exact ⟨A, c, ys, h1, h2, h _ _ _ h3, ih h4⟩
theorem DescL.length {H : Fld → Prop} {P : List Fld → Option Addr → Nat → Prop} : ∀ {l : List Fld} {xs : List Value}, DescL H P l xs → xs.length = l.length * 5 := by
  intro l
  induction l with
  | nil => intro xs hx; rw [hx]; rfl
  | cons f l ih =>
    rintro xs ⟨A, c, ys, rfl, _, _, h4⟩
    rw [List.length_append, ih h4, List.length_cons]
    simp [cellsF]
    omega
theorem DescL.one {H : Fld → Prop} {P : List Fld → Option Addr → Nat → Prop} : ∀ {l : List Fld} {xs : List Value}, DescL H P l xs → ∀ u ∈ xs, u.oneCell' = true := by
  intro l
  induction l with
  | nil => intro xs hx u hu; rw [hx] at hu; cases hu
  | cons f l ih =>
    rintro xs ⟨A, c, ys, rfl, _, _, h4⟩ u hu
    rcases List.mem_append.1 hu with h | h
    · simp only [cellsF, List.mem_cons, List.not_mem_nil, or_false] at h
      rcases h with rfl | rfl | rfl | rfl | rfl <;> rfl
    · exact ih h4 u h
theorem DescL.append {H : Fld → Prop} {P : List Fld → Option Addr → Nat → Prop} : ∀ {l m : List Fld} {xs ys : List Value}, DescL H P l xs → DescL H P m ys → DescL H P (l ++ m) (xs ++ ys) := by
  intro l
  induction l with
  | nil => intro m xs ys hx hy; rw [hx]; exact hy
  | cons f l ih =>
    rintro m xs ys ⟨A, c, zs, rfl, h2, h3, h4⟩ hy
    exact ⟨A, c, zs ++ ys, by simp, h2, h3, ih h4 hy⟩
theorem DescL.snoc {H : Fld → Prop} {P : List Fld → Option Addr → Nat → Prop} {l : List Fld} {xs : List Value} (h : DescL H P l xs) (f : Fld) (A : Option Addr) (c : Nat) (hf : H f) (hp : P f.t A c) : DescL H P (l ++ [f]) (xs ++ cellsF (.slice A f.t.length c) f) :=
  h.append ⟨A, c, [], by simp, hf, hp, rfl⟩
theorem DescL.at {H : Fld → Prop} {P : List Fld → Option Addr → Nat → Prop} : ∀ {l : List Fld} {xs : List Value}, DescL H P l xs → ∀ (i : Nat) (hi : i < l.length),
    ∃ A c, H l[i] ∧ P l[i].t A c ∧ ∀ j u, (cellsF (.slice A l[i].t.length c) l[i])[j]? = some u → xs[i * 5 + j]? = some u := by
  intro l
  induction l with
  | nil => intro xs _ i hi; simp at hi
  | cons f l ih =>
    rintro xs ⟨A, c, ys, rfl, h2, h3, h4⟩ i hi
    cases i with
    | zero =>
      refine ⟨A, c, h2, h3, fun j u hu => ?_⟩
      have hu' : (cellsF (.slice A f.t.length c) f)[j]? = some u := hu
      rw [Nat.zero_mul, Nat.zero_add, List.getElem?_append_left ((List.getElem?_eq_some_iff.1 hu').1)]
      exact hu'
    | succ i =>
      obtain ⟨A', c', a1, a2, a3⟩ := ih h4 i (by simpa using hi)
      refine ⟨A', c', a1, a2, fun j u hu => ?_⟩
      have h5 : (cellsF (.slice A f.t.length c) f).length = 5 := rfl
      rw [List.getElem?_append_right (by omega), h5, show (i + 1) * 5 + j - 5 = i * 5 + j by omega]
      exact a3 j u hu
theorem DescL.take {H : Fld → Prop} {P : List Fld → Option Addr → Nat → Prop} {l : List Fld} {xs : List Value} (h : DescL H P l xs) (n : Nat) : ∃ ys, DescL H P (l.take n) ys := by
  induction l generalizing xs n with
  | nil => exact ⟨[], by rw [List.take_nil]; rfl⟩
  | cons f l ih =>
    obtain ⟨A, c, ys, rfl, h2, h3, h4⟩ := h
    cases n with
    | zero => exact ⟨[], rfl⟩
    | succ n =>
      obtain ⟨zs, hz⟩ := ih h4 n
      exact ⟨_, A, c, zs, rfl, h2, h3, hz⟩

section
variable {H : Fld → Prop} {w w' : World} {B B' : Nat} {S S' : Nat → Prop}
theorem TabS.keep (hk : ∀ b o, S b → w'.cell? ⟨b, o, none⟩ = w.cell? ⟨b, o, none⟩) : ∀ (d : Nat) (l : List Fld) (A : Option Addr) (c : Nat), TabS H d w S l A c → TabS H d w' S l A c := by
  intro d
  induction d with
  | zero => intro l A c h; exact h
  | succ d ih =>
    rintro l A c ⟨h1, h2, xs, h3, h4⟩
    refine ⟨h1, h2, xs, ?_, h4.imp ih⟩
    rcases h3 with h | ⟨b, o, e, hb, hc⟩
    · exact .inl h
    · exact .inr ⟨b, o, e, hb, fun j u hu => (hk _ _ hb).trans (hc j u hu)⟩
theorem TabS.weak (hS : ∀ b, S b → S' b) : ∀ (d : Nat) (l : List Fld) (A : Option Addr) (c : Nat), TabS H d w S l A c → TabS H d w S' l A c := by
  intro d
  induction d with
  | zero => intro l A c h; exact h
  | succ d ih =>
    rintro l A c ⟨h1, h2, xs, h3, h4⟩
    refine ⟨h1, h2, xs, ?_, h4.imp ih⟩
    rcases h3 with h | ⟨b, o, e, hb, hc⟩
    · exact .inl h
    · exact .inr ⟨b, o, e, hS _ hb, hc⟩
theorem TabS.cap {d : Nat} {l : List Fld} {A : Option Addr} {c : Nat} (h : TabS H d w S l A c) : l.length ≤ c ∧ c ≤ maxLen := by
  cases d with
  | zero => obtain ⟨rfl, h2⟩ := h; exact ⟨Nat.zero_le _, h2⟩
  | succ d => exact ⟨h.1, h.2.1⟩
theorem TabS.nil (d : Nat) (w : World) (S : Nat → Prop) (A : Option Addr) (c : Nat) (hc : c ≤ maxLen) : TabS H d w S [] A c := by
  cases d with
  | zero => exact ⟨rfl, hc⟩
  | succ d => exact ⟨Nat.zero_le _, hc, [], .inl rfl, rfl⟩
theorem TabS.succ : ∀ (d : Nat) (l : List Fld) (A : Option Addr) (c : Nat), TabS H d w S l A c → TabS H (d + 1) w S l A c := by
  intro d
  induction d with
  | zero =>
    rintro l A c ⟨rfl, h⟩
    exact TabS.nil _ _ _ _ _ h
  | succ d ih =>
    rintro l A c ⟨h1, h2, xs, h3, h4⟩
    exact ⟨h1, h2, xs, h3, h4.imp ih⟩
theorem TabS.le {d d' : Nat} (h : d ≤ d') {l : List Fld} {A : Option Addr} {c : Nat} (ht : TabS H d w S l A c) : TabS H d' w S l A c := by
  induction h with
  | refl => exact ht
  | step _ ih => exact TabS.succ _ _ _ _ ih
theorem DescL.imp2 {H H' : Fld → Prop} {P Q : List Fld → Option Addr → Nat → Prop} : ∀ {l : List Fld} {xs : List Value}, (∀ f ∈ l, H f → H' f) → (∀ f ∈ l, ∀ A c, P f.t A c → Q f.t A c) → DescL H P l xs → DescL H' Q l xs := by
  intro l
  induction l with
  | nil => intro xs _ _ hx; exact hx
  | cons f l ih =>
    rintro xs hH hP ⟨A, c, ys, h1, h2, h3, h4⟩
    exact ⟨A, c, ys, h1, hH f (by simp) h2, hP f (by simp) _ _ h3, ih (fun g hg => hH g (by simp [hg])) (fun g hg => hP g (by simp [hg])) h4⟩
theorem TabH.keep (hk : ∀ b o, b < B → w'.cell? ⟨b, o, none⟩ = w.cell? ⟨b, o, none⟩) (d : Nat) (l : List Fld) (A : Option Addr) (c : Nat) (h : TabH H d w B l A c) : TabH H d w' B l A c := TabS.keep (S := fun b => b < B) hk d l A c h
theorem TabH.more (hB : B ≤ B') (d : Nat) (l : List Fld) (A : Option Addr) (c : Nat) (h : TabH H d w B l A c) : TabH H d w B' l A c := TabS.weak (fun _ hb => Nat.lt_of_lt_of_le hb hB) d l A c h
theorem TabH.below {d : Nat} {l : List Fld} {A : Option Addr} {c : Nat} (h : TabH H d w B l A c) (hb : Below B w w') : TabH H d w' B l A c := TabH.keep (fun b o hp => hb.cell (p := ⟨b, o, none⟩) hp) d l A c h
theorem TabH.succ (d : Nat) (l : List Fld) (A : Option Addr) (c : Nat) (h : TabH H d w B l A c) : TabH H (d + 1) w B l A c := TabS.succ d l A c h
theorem TabH.cap {d : Nat} {l : List Fld} {A : Option Addr} {c : Nat} (h : TabH H d w B l A c) : l.length ≤ c ∧ c ≤ maxLen := TabS.cap h
/-- a new table stays, whatever is done to older blocks -/
theorem TabNew.grown {lo : Nat} {d : Nat} {l : List Fld} {A : Option Addr} {c : Nat} (h : TabNew d w lo l A c) {row : Option Nat} (hg : w.grownBy w' row) (hr : ∀ k, row = some k → k < lo) : TabNew d w' lo l A c := by
  have h1 := TabS.keep (w' := w') (fun b o hb => World.cell?_of_block (a := ⟨b, o, none⟩) (hg.block b hb.2 (fun e => by have := hr _ e.symm; omega))) d l A c h
  exact TabS.weak (fun b hb => ⟨hb.1, Nat.lt_of_lt_of_le hb.2 hg.size⟩) d l A c h1
theorem TabNew.low {lo lo' : Nat} {d : Nat} {l : List Fld} {A : Option Addr} {c : Nat} (h : TabNew d w lo l A c) (hl : lo' ≤ lo) : TabNew d w lo' l A c :=
  TabS.weak (fun _ hb => ⟨Nat.le_trans hl hb.1, hb.2⟩) d l A c h
theorem TabNew.at_ {lo : Nat} {d : Nat} {l : List Fld} {A : Option Addr} {c : Nat} (h : TabNew d w lo l A c) : TabAt d w w.heap.size l A c := TabS.weak (fun _ hb => hb.2) d l A c h
/-- a field of a table, its cells and its own table -/
theorem TabH.at {d : Nat} {l : List Fld} {A : Option Addr} {c : Nat} (h : TabH H (d + 1) w B l A c) (i : Nat) (hi : i < l.length) :
    ∃ b o A' c', A = some ⟨b, o, none⟩ ∧ b < B ∧ H l[i] ∧ TabH H d w B l[i].t A' c' ∧ ∀ j u, (cellsF (.slice A' l[i].t.length c') l[i])[j]? = some u → w.cell? ⟨b, o + (i * 5 + j), none⟩ = some u := by
  obtain ⟨h1, h2, xs, h3, h4⟩ := h
  obtain ⟨A', c', a1, a2, a3⟩ := h4.at i hi
  have hl := h4.length
  rcases h3 with h3 | ⟨b, o, e, hb, hc⟩
  · rw [h3] at hl
    simp at hl
    omega
  · exact ⟨b, o, A', c', e, hb, a1, a2, fun j u hu => hc _ u (a3 j u hu)⟩
/-- a table of the call's own -/
theorem TabS.own {base : Nat} {e : TypeId} {d : Nat} {l : List Fld} {A : Option Addr} {n c : Nat} {xs : List Value} (h : w.ownsRow base e 5 (.slice A n c) n xs) (hn : n = l.length) (hd : DescL H (TabS H d w S) l xs) (hS : ∀ b, base ≤ b → b < w.heap.size → S b) : TabS H (d + 1) w S l A c := by
  obtain ⟨A2, c2, hv, h1, h2⟩ := own_form h
  injection hv with e1 e2 e3
  subst e1 e3
  refine ⟨by omega, h2, xs, ?_, hd⟩
  rcases h.2 with ⟨hv, h0⟩ | ⟨g, cap, cur, hv, hgb, hg, _⟩
  · left
    apply List.eq_nil_of_length_eq_zero
    have := hd.length
    omega
  · have hA : A = some ⟨g, 0, none⟩ := by injection hv
    subst hA
    refine .inr ⟨g, 0, rfl, hS g hgb (Array.getElem?_eq_some_iff.1 hg).1, fun j u hu => ?_⟩
    have := h.cells (g := g) rfl j u hu
    have hadd : (⟨g, 0, none⟩ : Addr).add j = ⟨g, j, none⟩ := by unfold Addr.add; split <;> simp_all
    rw [hadd] at this
    simpa using this
end
end
end Go.Proofs.YtlfppfknelddcaaDoor
