/- Layer 10, plain: rows and nodes, their sizes, octets, how they are read, where a key stands. -/
import Derived.Test.YtdjkkppefgppmaaWords2
namespace Go.Proofs.Ytdjkkppefgppmaa
open Go.RowKit
set_option maxRecDepth 100000

structure Rw where
  key : List UInt8
  val : List UInt8
  page : Int

def rowN (leaf : Bool) (r : Rw) : Nat := if leaf then 2 + r.key.length + r.val.length else 5 + r.key.length
def sizeN (leaf : Bool) (l : List Rw) : Nat := 3 + (l.map (rowN leaf)).sum
theorem sizeN_nil (leaf : Bool) : sizeN leaf [] = 3 := rfl
theorem sizeN_snoc (leaf : Bool) (l : List Rw) (r : Rw) : sizeN leaf (l ++ [r]) = sizeN leaf l + rowN leaf r := by
  simp [sizeN, List.sum_append]; omega
theorem sizeN_take (leaf : Bool) (l : List Rw) (j : Nat) (h : j < l.length) : sizeN leaf (l.take (j + 1)) = sizeN leaf (l.take j) + rowN leaf l[j] := by
  rw [List.take_succ_eq_append_getElem h, sizeN_snoc]
theorem rowN_ge (leaf : Bool) (r : Rw) : 2 + r.key.length ≤ rowN leaf r := by unfold rowN; split <;> omega
theorem rowN_le (leaf : Bool) (r : Rw) (M : Nat) (h : r.key.length ≤ M ∧ r.val.length ≤ M) : rowN leaf r ≤ 2 * M + 5 := by unfold rowN; split <;> omega
theorem sizeN_le (leaf : Bool) (l : List Rw) (M : Nat) (h : ∀ r ∈ l, r.key.length ≤ M ∧ r.val.length ≤ M) : sizeN leaf l ≤ 3 + l.length * (2 * M + 5) := by
  induction l with
  | nil => simp [sizeN]
  | cons r l ih =>
    have h1 := ih fun x hx => h x (by simp [hx])
    have h2 := rowN_le leaf r M (h r (by simp))
    simp only [sizeN, List.map_cons, List.sum_cons, List.length_cons] at h1 ⊢
    rw [Nat.succ_mul]; omega
theorem sizeN_count (leaf : Bool) (l : List Rw) : 3 + 2 * l.length ≤ sizeN leaf l := by
  induction l with
  | nil => simp [sizeN]
  | cons r l ih =>
    have h2 := rowN_ge leaf r
    simp only [sizeN, List.map_cons, List.sum_cons, List.length_cons] at ih ⊢
    omega
theorem sizeN_mono (leaf : Bool) (l : List Rw) (j : Nat) : sizeN leaf (l.take j) ≤ sizeN leaf l := by
  have h := List.take_append_drop j l
  have e : (l.map (rowN leaf)).sum = ((l.take j).map (rowN leaf)).sum + ((l.drop j).map (rowN leaf)).sum := by
    rw [← List.sum_append, ← List.map_append, h]
  unfold sizeN; omega

def fitR (leaf : Bool) (r : Rw) : Bool :=
  decide (r.key.length ≤ 130) && (if leaf then decide (r.val.length ≤ 20) && decide (r.page = 0) else decide (r.val = []) && (decide (2 ≤ r.page) && decide (r.page ≤ 4294967295)))
def ltL (a b : List UInt8) : Bool := decide (a < b)
/-- rows that rise from p on, each of them such as may be -/
def okR (leaf : Bool) : List UInt8 → List Rw → Bool
  | _, [] => true
  | p, r :: l => (ltL p r.key && fitR leaf r) && okR leaf r.key l
def okN (leaf : Bool) (l : List Rw) : Bool := !((!leaf && decide (l.length = 0)) || decide (512 < sizeN leaf l)) && okR leaf [] l
/-- the key of the last of them, or p -/
def lastK : List UInt8 → List Rw → List UInt8
  | p, [] => p
  | _, r :: l => lastK r.key l
theorem lastK_snoc (r : Rw) : ∀ (l : List Rw) (p : List UInt8), lastK p (l ++ [r]) = r.key
  | [], _ => rfl
  | x :: l, _ => lastK_snoc r l x.key
theorem okR_snoc (leaf : Bool) (r : Rw) : ∀ (l : List Rw) (p : List UInt8), okR leaf p (l ++ [r]) = (okR leaf p l && (ltL (lastK p l) r.key && fitR leaf r))
  | [], p => by simp [okR, lastK]
  | x :: l, p => by rw [List.cons_append, okR, okR_snoc leaf r l x.key, okR, lastK]; simp only [Bool.and_assoc]
theorem okR_fit {leaf : Bool} : ∀ {l : List Rw} {p : List UInt8}, okR leaf p l = true → ∀ r ∈ l, fitR leaf r = true
  | [], _, _, r, hr => by cases hr
  | x :: l, p, h, r, hr => by
    rw [okR, Bool.and_eq_true, Bool.and_eq_true] at h
    rcases List.mem_cons.1 hr with rfl | hr
    · exact h.1.2
    · exact okR_fit h.2 r hr
theorem ltL_nil (a : List UInt8) : ltL [] a = decide (0 < a.length) := by
  cases a <;> simp [ltL]
theorem ltL_self (a : List UInt8) : ltL a a = false := by simp [ltL, List.lt_irrefl]
theorem ltL_trans {a b c : List UInt8} (h1 : ltL a b = true) (h2 : ltL b c = true) : ltL a c = true := by
  simp only [ltL, decide_eq_true_eq] at *
  exact List.lt_trans h1 h2
theorem ltL_asymm {a b : List UInt8} (h : ltL a b = true) : ltL b a = false := by
  cases e : ltL b a
  · rfl
  · have := ltL_trans h e
    rw [ltL_self] at this
    cases this
theorem ltL_ne {a b : List UInt8} (h : ltL a b = true) : a ≠ b := by
  rintro rfl
  rw [ltL_self] at h
  cases h
theorem ltL_total {a b : List UInt8} (h1 : ltL a b = false) (h2 : ltL b a = false) : a = b := by
  simp only [ltL, decide_eq_false_iff_not, List.not_lt] at *
  exact List.le_antisymm h2 h1
/-- the order of octets as the model asks it -/
theorem less_is : ∀ (l l' : List UInt8), Op.bytesLess l l' = ltL l l' := by
  intro l
  induction l with
  | nil => intro l'; cases l' <;> simp [Op.bytesLess, ltL]
  | cons c l ih =>
    intro l'
    cases l' with
    | nil => simp [Op.bytesLess, ltL]
    | cons d l' =>
      rw [Op.bytesLess, ih, Bool.eq_iff_iff]
      simp [ltL, List.cons_lt_cons_iff]
theorem leq_is (a b : List UInt8) : (Op.bytesLess a b || a == b) = !ltL b a := by
  rw [less_is]
  by_cases h : a = b
  · subst h; simp [ltL_self]
  · have e : (a == b) = false := by simpa using h
    rw [e, Bool.or_false]
    cases h1 : ltL a b
    · cases h2 : ltL b a
      · exact absurd (ltL_total h1 h2) h
      · rfl
    · rw [ltL_asymm h1]; rfl

/-- octets of a row, of a node -/
def rowB (leaf : Bool) (r : Rw) : List UInt8 := be 1 r.key.length ++ r.key ++ (if leaf then be 1 r.val.length ++ r.val else be 4 r.page.toNat)
def rowsB (leaf : Bool) (l : List Rw) : List UInt8 := l.flatMap (rowB leaf)
def kindN (leaf : Bool) : Nat := if leaf then 1 else 2
def nodeB (leaf : Bool) (l : List Rw) : List UInt8 := be 1 (kindN leaf) ++ be 2 l.length ++ rowsB leaf l
theorem rowB_length (leaf : Bool) (r : Rw) : (rowB leaf r).length = rowN leaf r := by
  unfold rowB rowN
  cases leaf <;> simp [be_length] <;> omega
theorem rowsB_length (leaf : Bool) (l : List Rw) : (rowsB leaf l).length + 3 = sizeN leaf l := by
  induction l with
  | nil => rfl
  | cons r l ih =>
    have e : rowsB leaf (r :: l) = rowB leaf r ++ rowsB leaf l := rfl
    rw [e, List.length_append, rowB_length]
    simp only [sizeN, List.map_cons, List.sum_cons] at ih ⊢
    omega
theorem nodeB_length (leaf : Bool) (l : List Rw) : (nodeB leaf l).length = sizeN leaf l := by
  rw [← rowsB_length, nodeB, List.length_append, List.length_append, be_length, be_length]; omega
theorem rowsB_snoc (leaf : Bool) (l : List Rw) (r : Rw) : rowsB leaf (l ++ [r]) = rowsB leaf l ++ rowB leaf r := by simp [rowsB]
theorem rowsB_take (leaf : Bool) (l : List Rw) (j : Nat) (h : j < l.length) : rowsB leaf (l.take (j + 1)) = rowsB leaf (l.take j) ++ rowB leaf l[j] := by
  rw [List.take_succ_eq_append_getElem h, rowsB_snoc]

/-- how a row is read: the row, what is left, whether it was not there -/
def rowP (leaf : Bool) (b : List UInt8) : Rw :=
  if leaf then ⟨txt 1 b, txt 1 (txtRest 1 b), 0⟩ else ⟨txt 1 b, [], nat (tk 4 (txtRest 1 b))⟩
def rowRest (leaf : Bool) (b : List UInt8) : List UInt8 := if leaf then txtRest 1 (txtRest 1 b) else rst 4 (txtRest 1 b)
def rowShort (leaf : Bool) (b : List UInt8) : Bool := txtShort 1 b || (if leaf then txtShort 1 (txtRest 1 b) else short 4 (txtRest 1 b))
def rowsP (leaf : Bool) : Nat → List UInt8 → Bool → List Rw × List UInt8 × Bool
  | 0, b, bad => ([], b, bad)
  | _ + 1, b, true => ([], b, true)
  | n + 1, b, false => (rowP leaf b :: (rowsP leaf n (rowRest leaf b) (rowShort leaf b)).1, (rowsP leaf n (rowRest leaf b) (rowShort leaf b)).2)
def blankB (b : List UInt8) : Bool := b.all fun c => c == 0
def nodeP (b : List UInt8) : Option (Bool × List Rw) :=
  if nat (tk 1 b) ≠ 1 ∧ nat (tk 1 b) ≠ 2 then none else
  let leaf := decide (nat (tk 1 b) = 1)
  let x := rowsP leaf (nat (tk 2 (rst 1 b))) (rst 2 (rst 1 b)) (short 1 b || short 2 (rst 1 b))
  if (x.2.2 || !blankB x.2.1) || !okN leaf x.1 then none else some (leaf, x.1)

theorem txt_of (S R : List UInt8) (h : S.length < 256) : txt 1 (be 1 S.length ++ S ++ R) = S ∧ txtRest 1 (be 1 S.length ++ S ++ R) = R ∧ txtShort 1 (be 1 S.length ++ S ++ R) = false :=
  txt_pre 1 S R (by simpa using h)
theorem row_back (leaf : Bool) (r : Rw) (R : List UInt8) (h : fitR leaf r = true) : rowP leaf (rowB leaf r ++ R) = r ∧ rowRest leaf (rowB leaf r ++ R) = R ∧ rowShort leaf (rowB leaf r ++ R) = false := by
  obtain ⟨k, v, p⟩ := r
  unfold fitR at h
  cases leaf with
  | true =>
    simp only [if_true, Bool.and_eq_true, decide_eq_true_eq] at h
    obtain ⟨h1, h2, h3⟩ := h
    have e : rowB true ⟨k, v, p⟩ ++ R = be 1 k.length ++ k ++ (be 1 v.length ++ v ++ R) := by simp [rowB]
    obtain ⟨a1, a2, a3⟩ := txt_of k (be 1 v.length ++ v ++ R) (by omega)
    obtain ⟨b1, b2, b3⟩ := txt_of v R (by omega)
    rw [e]
    simp only [rowP, rowRest, rowShort, if_true]
    rw [a1, a2, a3, b1, b2, b3, h3]
    exact ⟨rfl, rfl, rfl⟩
  | false =>
    simp only [Bool.false_eq_true, if_false, Bool.and_eq_true, decide_eq_true_eq] at h
    obtain ⟨h1, h2, h3, h4⟩ := h
    have e : rowB false ⟨k, v, p⟩ ++ R = be 1 k.length ++ k ++ (be 4 p.toNat ++ R) := by simp [rowB]
    obtain ⟨a1, a2, a3⟩ := txt_of k (be 4 p.toNat ++ R) (by omega)
    obtain ⟨b1, b2, b3⟩ := tk_pre (n := 4) R (be_length 4 p.toNat)
    rw [e]
    simp only [rowP, rowRest, rowShort, Bool.false_eq_true, if_false]
    rw [a1, a2, a3, b1, b2, b3, nat_be, Nat.mod_eq_of_lt (by omega), h2]
    refine ⟨?_, rfl, rfl⟩
    congr 1
    omega
theorem rows_back (leaf : Bool) (R : List UInt8) : ∀ (l : List Rw), (∀ r ∈ l, fitR leaf r = true) → rowsP leaf l.length (rowsB leaf l ++ R) false = (l, R, false)
  | [], _ => rfl
  | r :: l, h => by
    have e : rowsB leaf (r :: l) ++ R = rowB leaf r ++ (rowsB leaf l ++ R) := by simp [rowsB]
    obtain ⟨a1, a2, a3⟩ := row_back leaf r (rowsB leaf l ++ R) (h r (by simp))
    rw [e, List.length_cons, rowsP, a1, a2, a3, rows_back leaf R l fun x hx => h x (by simp [hx])]
theorem node_back (leaf : Bool) (l : List Rw) (R : List UInt8) (h : okN leaf l = true) (hR : blankB R = true) : nodeP (nodeB leaf l ++ R) = some (leaf, l) := by
  have h' := h
  rw [okN, Bool.and_eq_true, Bool.not_eq_true', Bool.or_eq_false_iff] at h
  obtain ⟨⟨_, h2⟩, h3⟩ := h
  have hs : sizeN leaf l ≤ 512 := by simpa using h2
  have hc := sizeN_count leaf l
  have e : nodeB leaf l ++ R = be 1 (kindN leaf) ++ (be 2 l.length ++ (rowsB leaf l ++ R)) := by simp [nodeB]
  obtain ⟨a1, a2, a3⟩ := tk_pre (n := 1) (be 2 l.length ++ (rowsB leaf l ++ R)) (be_length 1 (kindN leaf))
  obtain ⟨b1, b2, b3⟩ := tk_pre (n := 2) (rowsB leaf l ++ R) (be_length 2 l.length)
  have hk : nat (be 1 (kindN leaf)) = kindN leaf := by rw [nat_be]; cases leaf <;> rfl
  have hn : nat (be 2 l.length) = l.length := by rw [nat_be, Nat.mod_eq_of_lt (by omega)]
  have hl : decide (kindN leaf = 1) = leaf := by cases leaf <;> rfl
  rw [e]
  unfold nodeP
  rw [a1, a2, a3, b1, b2, b3, hk, hn, hl, if_neg (by cases leaf <;> simp [kindN])]
  simp only [Bool.or_false]
  rw [rows_back leaf R l (okR_fit h3)]
  simp [hR, h']

/-- where a key stands -/
def findL (l : List Rw) (k : List UInt8) : Nat × Bool :=
  match l.findIdx? (fun r => r.key == k) with
  | some i => (i, true)
  | none => match l.findIdx? (fun r => ltL k r.key) with
    | some i => (i, false)
    | none => (l.length, false)
/-- the last row, of the first n, that is not above it -/
def lastLe (l : List Rw) (k : List UInt8) : Nat → Nat
  | 0 => 0
  | n + 1 => if h : n < l.length then (if ltL k l[n].key then lastLe l k n else n) else lastLe l k n
end Go.Proofs.Ytdjkkppefgppmaa
