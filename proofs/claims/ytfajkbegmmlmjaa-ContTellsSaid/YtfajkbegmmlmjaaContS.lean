/- Heads of contents as plain data: which may be, their octets, what any octets are. No program is imported. -/
import Derived.Test.YtfajkbegmmlmjaaWords2
namespace Go.Proofs.Ytfajkbegmmlmjaa
set_option linter.unusedSimpArgs false
set_option linter.unusedVariables false

/-- the flags of a head with the text t and the mode m -/
def hflags (t : List UInt8) (m : Int) : Nat := (if t = [] then 0 else 32768) + (if m = 0 then 0 else 4096)
theorem hflags_lt (t : List UInt8) (m : Int) : hflags t m < 65536 := by
  unfold hflags
  split <;> split <;> omega
/-- may a head be -/
def headOk (m : Int) (t : List UInt8) : Bool := decide (0 ≤ m ∧ m ≤ 2 ∧ t.length ≤ 255)
def hpartT (t : List UInt8) : List UInt8 := if t = [] then [] else be 1 t.length ++ t
def hpartM (m : Int) : List UInt8 := if m = 0 then [] else be 1 m.toNat
/-- a head's octets -/
def headB (s : Nat) (m : Int) (t : List UInt8) : List UInt8 := be 4 3932160 ++ be 8 s ++ be 2 (hflags t m) ++ hpartT t ++ hpartM m
theorem headB_length (s : Nat) (m : Int) (t : List UInt8) : (headB s m t).length = 14 + (if t = [] then 0 else t.length + 1) + (if m = 0 then 0 else 1) := by
  unfold headB hpartT hpartM
  split <;> split <;> simp [be_length] <;> omega

def hF (b : List UInt8) : Nat := nat (tk 2 (rst 8 (rst 4 b)))
def hS (b : List UInt8) : Nat := nat (tk 8 (rst 4 b))
def hR3 (b : List UInt8) : List UInt8 := rst 2 (rst 8 (rst 4 b))
def hBad3 (b : List UInt8) : Bool := short 4 b || short 8 (rst 4 b) || short 2 (rst 8 (rst 4 b))
def hT (f : Nat) (r : List UInt8) : List UInt8 := if f / 32768 % 2 = 1 then txt 1 r else []
def hR4 (f : Nat) (r : List UInt8) : List UInt8 := if f / 32768 % 2 = 1 then txtRest 1 r else r
def hBad4 (f : Nat) (r : List UInt8) (bad : Bool) : Bool := if f / 32768 % 2 = 1 then bad || txtShort 1 r else bad
def hM (f : Nat) (r : List UInt8) : Nat := if f / 4096 % 2 = 1 then nat (tk 1 r) else 0
def hR5 (f : Nat) (r : List UInt8) : List UInt8 := if f / 4096 % 2 = 1 then rst 1 r else r
def hBad5 (f : Nat) (r : List UInt8) (bad : Bool) : Bool := if f / 4096 % 2 = 1 then bad || short 1 r else bad

/-- what is behind the size and the flags -/
def headQ (c s f : Nat) (r : List UInt8) (bad : Bool) : Option (Nat × Nat × List UInt8) :=
  if hBad5 f (hR4 f r) (hBad4 f r bad) = false ∧ hR5 f (hR4 f r) = [] ∧ c = 3932160 ∧ f = hflags (hT f r) (hM f (hR4 f r) : Nat) ∧ hM f (hR4 f r) ≤ 2 then some (s, hM f (hR4 f r), hT f r) else none
/-- what octets are: a head's size, mode and text -/
def headP (b : List UInt8) : Option (Nat × Nat × List UInt8) := headQ (nat (tk 4 b)) (hS b) (hF b) (hR3 b) (hBad3 b)

theorem hF_lt (b : List UInt8) : hF b < 65536 := by
  have h1 := nat_lt (tk 2 (rst 8 (rst 4 b)))
  have h2 := tk_le 2 (rst 8 (rst 4 b))
  have h3 : 256 ^ (tk 2 (rst 8 (rst 4 b))).length ≤ 256 ^ 2 := Nat.pow_le_pow_right (by omega) h2
  have h4 : (256 : Nat) ^ 2 = 65536 := by decide
  unfold hF
  omega
theorem hS_lt (b : List UInt8) : hS b < 18446744073709551616 := by
  have h1 := nat_lt (tk 8 (rst 4 b))
  have h2 := tk_le 8 (rst 4 b)
  have h3 : 256 ^ (tk 8 (rst 4 b)).length ≤ 256 ^ 8 := Nat.pow_le_pow_right (by omega) h2
  have h4 : (256 : Nat) ^ 8 = 18446744073709551616 := by decide
  unfold hS
  omega
theorem octet_lt (r : List UInt8) : nat (tk 1 r) < 256 := by
  have h1 := nat_lt (tk 1 r)
  have h2 := tk_le 1 r
  have h3 : 256 ^ (tk 1 r).length ≤ 256 ^ 1 := Nat.pow_le_pow_right (by omega) h2
  have h4 : (256 : Nat) ^ 1 = 256 := by decide
  omega
theorem hM_lt (f : Nat) (r : List UInt8) : hM f r < 256 := by
  have := octet_lt r
  unfold hM
  split <;> omega

theorem tk_be (n v : Nat) (r : List UInt8) : tk n (be n v ++ r) = be n v := by
  rw [tk_yes (by simp [be_length]), List.take_left' (be_length n v)]
theorem rst_be (n v : Nat) (r : List UInt8) : rst n (be n v ++ r) = r := by
  rw [rst_yes (by simp [be_length]), List.drop_left' (be_length n v)]
theorem short_be (n v : Nat) (r : List UInt8) : short n (be n v ++ r) = false := short_no (by simp [be_length])
/-- the octets of a head's beginning, and what is read of them -/
theorem head_front (c s f : Nat) (r : List UInt8) (hc : c < 4294967296) (hs : s < 18446744073709551616) (hf : f < 65536) :
    headP (be 4 c ++ be 8 s ++ be 2 f ++ r) = headQ c s f r false := by
  have m4 : c % 256 ^ 4 = c := Nat.mod_eq_of_lt (by rw [show (256 : Nat) ^ 4 = 4294967296 from by decide]; exact hc)
  have m8 : s % 256 ^ 8 = s := Nat.mod_eq_of_lt (by rw [show (256 : Nat) ^ 8 = 18446744073709551616 from by decide]; exact hs)
  have m2 : f % 256 ^ 2 = f := Nat.mod_eq_of_lt (by rw [show (256 : Nat) ^ 2 = 65536 from by decide]; exact hf)
  unfold headP hS hF hR3 hBad3
  simp only [List.append_assoc, tk_be, rst_be, short_be, nat_be, m4, m8, m2, Bool.or_false]
theorem txt_be (t r : List UInt8) (h : t.length ≤ 255) : txt 1 (be 1 t.length ++ t ++ r) = t ∧ txtRest 1 (be 1 t.length ++ t ++ r) = r ∧ txtShort 1 (be 1 t.length ++ t ++ r) = false := by
  have m1 : t.length % 256 ^ 1 = t.length := Nat.mod_eq_of_lt (by omega)
  unfold txt txtRest txtShort
  rw [List.append_assoc, tk_be, rst_be, short_be, nat_be, m1]
  refine ⟨?_, ?_, ?_⟩
  · rw [tk_yes (by simp), List.take_left' rfl]
  · rw [rst_yes (by simp), List.drop_left' rfl]
  · rw [short_no (by simp)]; rfl
/-- what may be is told as it was -/
theorem head_back (s : Nat) (m : Int) (t : List UInt8) (hs : s < 18446744073709551616) (h : headOk m t = true) : headP (headB s m t) = some (s, m.toNat, t) := by
  unfold headOk at h
  simp only [decide_eq_true_eq] at h
  obtain ⟨h0, h2, hl⟩ := h
  obtain ⟨k, rfl⟩ : ∃ k : Nat, m = (k : Int) := ⟨m.toNat, by omega⟩
  have hk : k ≤ 2 := by omega
  unfold headB
  rw [List.append_assoc, head_front _ _ _ _ (by omega) hs (hflags_lt _ _)]
  have m1 : k % 256 ^ 1 = k := Nat.mod_eq_of_lt (by omega)
  have bT : hflags t (k : Int) / 32768 % 2 = if t = [] then 0 else 1 := by unfold hflags; split <;> split <;> omega
  have bM : hflags t (k : Int) / 4096 % 2 = if k = 0 then 0 else 1 := by unfold hflags; split <;> split <;> split <;> omega
  obtain ⟨f, hf⟩ : ∃ f, f = hflags t (k : Int) := ⟨_, rfl⟩
  rw [← hf] at bT bM ⊢
  have eT : hT f (hpartT t ++ hpartM k) = t ∧ hR4 f (hpartT t ++ hpartM k) = hpartM k ∧ hBad4 f (hpartT t ++ hpartM k) false = false := by
    unfold hT hR4 hBad4 hpartT
    rw [bT]
    by_cases ht : t = []
    · subst ht; simp
    · rw [if_neg ht, if_neg ht]
      obtain ⟨e1, e2, e3⟩ := txt_be t (hpartM k) hl
      rw [e1, e2, e3]
      simp
  have eM : hM f (hpartM k) = k ∧ hR5 f (hpartM k) = [] ∧ hBad5 f (hpartM k) false = false := by
    unfold hM hR5 hBad5 hpartM
    rw [bM]
    by_cases hk0 : k = 0
    · subst hk0; simp
    · have hki : ¬ ((k : Int) = 0) := by omega
      simp only [hk0, hki, if_false, if_true]
      have e1 := tk_be 1 k []
      have e2 := rst_be 1 k []
      have e3 := short_be 1 k []
      rw [List.append_nil] at e1 e2 e3
      rw [Int.toNat_natCast, e1, e2, e3, nat_be, m1]
      exact ⟨rfl, rfl, rfl⟩
  unfold headQ
  rw [eT.1, eT.2.1, eT.2.2, eM.1, eM.2.1, eM.2.2, if_pos ⟨rfl, rfl, rfl, hf, hk⟩]
  rfl
end Go.Proofs.Ytfajkbegmmlmjaa
