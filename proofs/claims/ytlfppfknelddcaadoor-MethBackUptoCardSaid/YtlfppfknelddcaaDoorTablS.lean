/- Tables of fields as plain data: which may be, their octets, what is read of octets. No program is imported. -/
import Derived.Test.YtlfppfknelddcaaDoorWords2
namespace Go.Proofs.YtlfppfknelddcaaDoor

/-- a field: its name, kind, number, text, table -/
inductive Fld where
  | mk (name : List UInt8) (kind : UInt8) (n : Int) (s : List UInt8) (t : List Fld)
def Fld.name : Fld → List UInt8 | .mk a _ _ _ _ => a
def Fld.kind : Fld → UInt8 | .mk _ a _ _ _ => a
def Fld.n : Fld → Int | .mk _ _ a _ _ => a
def Fld.s : Fld → List UInt8 | .mk _ _ _ a _ => a
def Fld.t : Fld → List Fld | .mk _ _ _ _ a => a
theorem Fld.eta (f : Fld) : f = .mk f.name f.kind f.n f.s f.t := by cases f; rfl

/-- a number of 64 bits with a sign -/
def I64 (n : Int) : Prop := -9223372036854775808 ≤ n ∧ n ≤ 9223372036854775807
instance (n : Int) : Decidable (I64 n) := by unfold I64; exact inferInstance
def I32 (n : Int) : Prop := -2147483648 ≤ n ∧ n ≤ 2147483647
instance (n : Int) : Decidable (I32 n) := by unfold I32; exact inferInstance
/-- such a number as one without a sign, and back -/
def u64 (n : Int) : Nat := (n % 18446744073709551616).toNat
def s64 (x : Nat) : Int := if x < 9223372036854775808 then (x : Int) else (x : Int) - 18446744073709551616
def s32 (x : Nat) : Int := if x < 2147483648 then (x : Int) else (x : Int) - 4294967296

/-- which of a field's parts its kind lets be -/
def kindB (k : UInt8) (n : Int) (noS noT : Bool) : Bool :=
  if k = 116 then (decide (n = 0) || decide (n = 1)) && noS && noT
  else if k = 73 then decide (I32 n) && noS && noT
  else if k = 108 then decide (I64 n) && noS && noT
  else if k = 83 then decide (n = 0) && noT
  else if k = 70 then decide (n = 0) && noS
  else if k = 86 then decide (n = 0) && noS && noT
  else false
/-- may a field be, but for its table's fields and those beside it -/
def mayB (f : Fld) : Bool := decide (1 ≤ f.name.length ∧ f.name.length ≤ 128) && kindB f.kind f.n f.s.isEmpty f.t.isEmpty
/-- how many octets a field has behind its kind, but for its table's -/
def sizeK (k : UInt8) (s : Nat) : Nat := if k = 116 then 1 else if k = 73 then 4 else if k = 108 then 8 else if k = 83 then 4 + s else if k = 70 then 4 else 0
def sizeN (f : Fld) : Nat := 2 + f.name.length + sizeK f.kind f.s.length
/-- the octets behind a field's kind -/
def tailOf (sub : List Fld → List UInt8) (f : Fld) : List UInt8 :=
  if f.kind = 116 then be 1 (u64 f.n)
  else if f.kind = 73 then be 4 (u64 f.n)
  else if f.kind = 108 then be 8 (u64 f.n)
  else if f.kind = 83 then be 4 f.s.length ++ f.s
  else if f.kind = 70 then be 4 (sub f.t).length ++ sub f.t
  else []
def rowOf (sub : List Fld → List UInt8) (f : Fld) : List UInt8 := be 1 f.name.length ++ f.name ++ [f.kind] ++ tailOf sub f
/-- a table's octets (k deep at most) -/
def rowsD : Nat → List Fld → List UInt8
  | 0, _ => []
  | k + 1, l => l.flatMap (rowOf (rowsD k))
/-- may fields be, as deep as they are -/
def allB (sub : List Fld → Bool) : List (List UInt8) → List Fld → Bool
  | _, [] => true
  | seen, f :: l => mayB f && !decide (f.name ∈ seen) && (!decide (f.kind = 70) || sub f.t) && allB sub (f.name :: seen) l
def formedB : Nat → List Fld → Bool
  | 0, _ => false
  | k + 1, l => allB (formedB k) [] l
/-- the program's own count of the octets left -/
def fitL (sub : List Fld → Nat → Option Nat) : List (List UInt8) → List Fld → Nat → Option Nat
  | _, [], left => some left
  | seen, f :: l, left =>
    if mayB f && decide (sizeN f ≤ left) && !decide (f.name ∈ seen) then
      if f.kind = 70 then
        match sub f.t (left - sizeN f) with
        | none => none
        | some r => fitL sub (f.name :: seen) l r
      else fitL sub (f.name :: seen) l (left - sizeN f)
    else none
def fitD : Nat → List Fld → Nat → Option Nat
  | 0, _, _ => none
  | k + 1, l, left => fitL (fitD k) [] l left
def okB (l : List Fld) : Bool := formedB 8 l && decide ((rowsD 8 l).length ≤ 2000)

theorem kind_cases (k : UInt8) : k = 116 ∨ k = 73 ∨ k = 108 ∨ k = 83 ∨ k = 70 ∨ k = 86 ∨ (k ≠ 116 ∧ k ≠ 73 ∧ k ≠ 108 ∧ k ≠ 83 ∧ k ≠ 70 ∧ k ≠ 86) := by
  by_cases h1 : k = 116
  · exact .inl h1
  by_cases h2 : k = 73
  · exact .inr (.inl h2)
  by_cases h3 : k = 108
  · exact .inr (.inr (.inl h3))
  by_cases h4 : k = 83
  · exact .inr (.inr (.inr (.inl h4)))
  by_cases h5 : k = 70
  · exact .inr (.inr (.inr (.inr (.inl h5))))
  by_cases h6 : k = 86
  · exact .inr (.inr (.inr (.inr (.inr (.inl h6)))))
  exact .inr (.inr (.inr (.inr (.inr (.inr ⟨h1, h2, h3, h4, h5, h6⟩)))))

theorem tailOf_length (sub : List Fld → List UInt8) (f : Fld) : (tailOf sub f).length = sizeK f.kind f.s.length + (if f.kind = 70 then (sub f.t).length else 0) := by
  unfold tailOf sizeK
  rcases kind_cases f.kind with h | h | h | h | h | h | ⟨h1, h2, h3, h4, h5, h6⟩
  all_goals simp_all [be_length]
theorem rowOf_length (sub : List Fld → List UInt8) (f : Fld) : (rowOf sub f).length = sizeN f + (if f.kind = 70 then (sub f.t).length else 0) := by
  unfold rowOf sizeN
  simp only [List.length_append, be_length, tailOf_length, List.length_cons, List.length_nil]
  omega

theorem fitL_eq (k : Nat) (ih : ∀ l left, fitD k l left = if formedB k l && decide ((rowsD k l).length ≤ left) then some (left - (rowsD k l).length) else none) :
    ∀ (l : List Fld) (seen : List (List UInt8)) (left : Nat), fitL (fitD k) seen l left = if allB (formedB k) seen l && decide ((l.flatMap (rowOf (rowsD k))).length ≤ left) then some (left - (l.flatMap (rowOf (rowsD k))).length) else none := by
  intro l
  induction l with
  | nil => intro seen left; simp [fitL, allB]
  | cons f l ihl =>
    intro seen left
    have hlen := rowOf_length (rowsD k) f
    have hX : ((f :: l).flatMap (rowOf (rowsD k))).length = (rowOf (rowsD k) f).length + (l.flatMap (rowOf (rowsD k))).length := by simp [List.flatMap_cons]
    rw [hX, hlen]
    unfold fitL allB
    generalize (l.flatMap (rowOf (rowsD k))).length = X at *
    by_cases hm : mayB f = true
    · by_cases hs : f.name ∈ seen
      · simp [hm, hs]
      · by_cases hz : sizeN f ≤ left
        · by_cases hk : f.kind = 70
          · simp only [hm, hs, hz, hk, ih, decide_true, decide_false, Bool.not_false, Bool.and_self, if_true, Bool.not_true, Bool.false_or, Bool.true_and]
            by_cases hf : formedB k f.t = true
            · by_cases hl : (rowsD k f.t).length ≤ left - sizeN f
              · simp only [hf, hl, decide_true, Bool.and_self, if_true, Bool.true_and, ihl]
                by_cases ha : allB (formedB k) (f.name :: seen) l = true
                · by_cases hx : X ≤ left - sizeN f - (rowsD k f.t).length
                  · rw [if_pos (by simp [ha, hx]), if_pos (by simp [ha]; omega)]
                    congr 1
                    omega
                  · rw [if_neg (by simp [hx]), if_neg (by simp; intro _; omega)]
                · rw [if_neg (by simp [ha]), if_neg (by simp [ha])]
              · simp only [hf, hl, decide_false, Bool.and_false, Bool.true_and, if_neg (show ¬ (false = true) by simp)]
                rw [if_neg (by simp; intro _; omega)]
            · simp only [hf, Bool.false_and, if_neg (show ¬ (false = true) by simp)]
          · simp only [hm, hs, hz, hk, decide_true, decide_false, Bool.not_false, Bool.and_self, if_true, if_false, Bool.true_or, Bool.true_and, ihl]
            by_cases ha : allB (formedB k) (f.name :: seen) l = true
            · by_cases hx : X ≤ left - sizeN f
              · rw [if_pos (by simp [ha, hx]), if_pos (by simp [ha]; omega)]
                congr 1
                omega
              · rw [if_neg (by simp [hx]), if_neg (by simp; intro _; omega)]
            · rw [if_neg (by simp [ha]), if_neg (by simp [ha])]
        · rw [if_neg (by simp [hz]), if_neg (by simp; intros; omega)]
    · simp [hm]
theorem fitD_eq : ∀ (k : Nat) (l : List Fld) (left : Nat), fitD k l left = if formedB k l && decide ((rowsD k l).length ≤ left) then some (left - (rowsD k l).length) else none := by
  intro k
  induction k with
  | zero => intro l left; simp [fitD, formedB]
  | succ k ih => intro l left; exact fitL_eq k ih l [] left
theorem fit_ok (l : List Fld) : (fitD 8 l 2000).isSome = okB l := by
  rw [fitD_eq, okB]
  split
  · simp_all
  · simp_all
end Go.Proofs.YtlfppfknelddcaaDoor
