/- Layer 12, plain: keys and messages are read as they were told; how their texts stand. -/
import Derived.Test.YtgdlgkbckblagaaKeyN
import Derived.Test.YtgdlgkbckblagaaKeyO
namespace Go.Proofs.Ytgdlgkbckblagaa
open Go.RowKit
set_option maxRecDepth 100000
set_option linter.unusedSimpArgs false
set_option linter.unusedVariables false

theorem shortB_read (S r : List UInt8) (h : S.length < 256) : txt 1 (shortB S ++ r) = S ∧ txtRest 1 (shortB S ++ r) = r ∧ txtShort 1 (shortB S ++ r) = false := by
  unfold shortB
  rw [List.append_assoc]
  exact txt_pre 1 S r (by omega)
def gapT (a : Bool) (S : List UInt8) : List UInt8 := if a then shortB S else []
def gapI (i : Bool) (n : Nat) : List UInt8 := if i then be 8 n else []
theorem rdT_gap (a : Bool) (S r : List UInt8) (h : S.length < 256) (he : a = false → S = []) : rdT a (gapT a S ++ r) = S ∧ rdR a (gapT a S ++ r) = r ∧ rdS a (gapT a S ++ r) = false := by
  cases a
  · rw [he rfl]; exact ⟨rfl, rfl, rfl⟩
  · obtain ⟨h1, h2, h3⟩ := shortB_read S r h
    exact ⟨h1, h2, by simp [rdS, gapT, h3]⟩
theorem rdK_gaps (a b i : Bool) (A B C : List UInt8) (id : Nat) (hA : A.length < 256) (hB : B.length < 256) (hC : C.length < 256) (hi : id < 18446744073709551616) (eA : a = false → A = []) (eB : b = false → B = []) (eC : b = false → C = []) (ei : i = false → id = 0) :
    rdK a b i (gapT a A ++ (gapT b B ++ (gapT b C ++ gapI i id))) = ⟨A, B, C, id, [], false⟩ := by
  obtain ⟨a1, a2, a3⟩ := rdT_gap a A (gapT b B ++ (gapT b C ++ gapI i id)) hA eA
  obtain ⟨b1, b2, b3⟩ := rdT_gap b B (gapT b C ++ gapI i id) hB eB
  obtain ⟨c1, c2, c3⟩ := rdT_gap b C (gapI i id) hC eC
  unfold rdK
  rw [a1, a2, a3, b1, b2, b3, c1, c2, c3]
  cases i
  · rw [ei rfl]; rfl
  · obtain ⟨h1, h2, h3⟩ := tk_pre (n := 8) (a := be 8 id) [] (be_length 8 id)
    rw [List.append_nil] at h1 h2 h3
    simp [gapI, h1, h2, h3, nat_be8 id hi]
theorem txK_gaps (k : Int) (A B C : List UInt8) (id : Nat) : txK k A B C id = be 1 k.toNat ++ (gapT (pkA k) A ++ (gapT (pkB k) B ++ (gapT (pkB k) C ++ gapI (pkI k) id))) := by
  unfold txK gapT gapI
  simp
theorem okK_less {k : Int} {A B C : List UInt8} {id : Nat} (h : okK k A B C id = true) : pkOk k = true ∧ 1 ≤ k ∧ k ≤ 5 ∧ A.length ≤ 30 ∧ B.length ≤ 30 ∧ C.length ≤ 60 ∧ (pkA k = false → A = []) ∧ (pkB k = false → B = []) ∧ (pkB k = false → C = []) ∧ (pkI k = false → id = 0) := by
  unfold okK at h
  rw [Bool.and_eq_true] at h
  obtain ⟨h1, h2⟩ := h
  obtain ⟨f1, f2, f3, f4, f5, f6, f7⟩ := fits_less h2
  obtain ⟨_, u1, u2⟩ := u64_kind k h1
  refine ⟨h1, u1, u2, f1, f2, f3, fun e => ?_, fun e => ?_, f6, fun e => ?_⟩
  · rw [e] at f4; simpa using f4
  · rw [e] at f5; simpa using f5
  · rw [e] at f7; simpa using f7
theorem key_back {k : Int} {A B C : List UInt8} {id : Nat} (h : okK k A B C id = true) (hi : id < 18446744073709551616) : keyOf (txK k A B C id) = some (k, A, B, C, id) := by
  obtain ⟨h1, h2, h3, h4, h5, h6, h7, h8, h9, h10⟩ := okK_less h
  obtain ⟨kn, rfl⟩ := Int.eq_ofNat_of_zero_le (show 0 ≤ k by omega)
  rw [txK_gaps, Int.toNat_natCast]
  obtain ⟨t1, t2, t3⟩ := tk_pre (n := 1) (a := be 1 kn) (gapT (pkA kn) A ++ (gapT (pkB kn) B ++ (gapT (pkB kn) C ++ gapI (pkI kn) id))) (be_length 1 kn)
  have hk : nat (tk 1 (be 1 kn ++ (gapT (pkA kn) A ++ (gapT (pkB kn) B ++ (gapT (pkB kn) C ++ gapI (pkI kn) id))))) = kn := by
    rw [t1, nat_be]
    exact Nat.mod_eq_of_lt (by omega)
  have hr := rdK_gaps (pkA kn) (pkB kn) (pkI kn) A B C id (by omega) (by omega) (by omega) hi h7 h8 h9 h10
  rw [← t2] at hr
  rw [keyOf_rd hk h1 rfl rfl rfl hr]
  unfold rdOk
  rw [t3]
  unfold okK at h
  rw [Bool.and_eq_true] at h
  simp [h.2]
theorem tx_one {k k' : Int} {A B C A' B' C' : List UInt8} {id id' : Nat} (h : okK k A B C id = true) (h' : okK k' A' B' C' id' = true) (hi : id < 18446744073709551616) (hi' : id' < 18446744073709551616)
    (e : txK k A B C id = txK k' A' B' C' id') : k = k' ∧ A = A' ∧ B = B' ∧ C = C' ∧ id = id' := by
  have e1 := key_back h hi
  rw [e, key_back h' hi'] at e1
  injection e1 with e1
  injection e1 with e1 e2
  injection e2 with e2 e3
  injection e3 with e3 e4
  injection e4 with e4 e5
  exact ⟨e1.symm, e2.symm, e3.symm, e4.symm, e5.symm⟩
theorem gapT_length (a : Bool) (S : List UInt8) : (gapT a S).length ≤ 1 + S.length := by
  cases a
  · simp [gapT]
  · simp [gapT, shortB_length]
theorem tx_length {k : Int} {A B C : List UInt8} {id : Nat} (h : okK k A B C id = true) : (txK k A B C id).length ≤ 130 := by
  obtain ⟨h1, h2, h3, h4, h5, h6, h7, h8, h9, h10⟩ := okK_less h
  rw [txK_gaps]
  simp only [List.length_append, be_length]
  have g1 := gapT_length (pkA k) A
  have g2 := gapT_length (pkB k) B
  have g3 := gapT_length (pkB k) C
  obtain ⟨w1, w2, w3⟩ | ⟨w1, w2, w3⟩ | ⟨w1, w2, w3⟩ | ⟨w1, w2, w3⟩ := pk_ways k h1
  all_goals rw [w1, w2, w3] at *
  all_goals simp only [gapI, gapT, be_length, shortB_length, List.length_nil, if_true, if_false, Bool.false_eq_true, reduceIte]
  all_goals omega
/-- a key that may be, of one -/
theorem tame_ok (k : Int) (A B C : List UInt8) (id : Nat) : okK (tmq k + 1 : Nat) (tmA k A) (tmB k B) (tmC k C) (tmI k id) = true := by
  obtain ⟨h1, _⟩ := tmq_is k
  unfold tmA tmB tmC tmI
  generalize tmq k = q at *
  have n1 : ∀ (c : UInt8) (S : List UInt8), namedB (c :: S.take 29) true = true := by
    intro c S
    unfold namedB
    have := List.length_take_le 29 S
    rw [decide_eq_true (by simp; omega)]
    rfl
  have n0 : namedB [] false = true := by decide
  have cC : ∀ S : List UInt8, decide ((S.take 60).length ≤ 60) = true := fun S => decide_eq_true (List.length_take_le _ _)
  have cI : decide (max id 1 ≠ 0) = true := decide_eq_true (by omega)
  rcases (show q = 0 ∨ q = 1 ∨ q = 2 ∨ q = 3 ∨ q = 4 by omega) with rfl | rfl | rfl | rfl | rfl
  · simp only [okK, fitsB, show pkOk ((0 + 1 : Nat) : Int) = true from rfl, show pkA ((0 + 1 : Nat) : Int) = true from rfl, show pkB ((0 + 1 : Nat) : Int) = false from rfl, show pkI ((0 + 1 : Nat) : Int) = false from rfl]
    simp [n1, n0]
  · simp only [okK, fitsB, show pkOk ((1 + 1 : Nat) : Int) = true from rfl, show pkA ((1 + 1 : Nat) : Int) = true from rfl, show pkB ((1 + 1 : Nat) : Int) = false from rfl, show pkI ((1 + 1 : Nat) : Int) = false from rfl]
    simp [n1, n0]
  · simp only [okK, fitsB, show pkOk ((2 + 1 : Nat) : Int) = true from rfl, show pkA ((2 + 1 : Nat) : Int) = true from rfl, show pkB ((2 + 1 : Nat) : Int) = true from rfl, show pkI ((2 + 1 : Nat) : Int) = false from rfl]
    simp [n1, n0]
    omega
  · simp only [okK, fitsB, show pkOk ((3 + 1 : Nat) : Int) = true from rfl, show pkA ((3 + 1 : Nat) : Int) = false from rfl, show pkB ((3 + 1 : Nat) : Int) = false from rfl, show pkI ((3 + 1 : Nat) : Int) = true from rfl]
    simp [n1, n0]
  · simp only [okK, fitsB, show pkOk ((4 + 1 : Nat) : Int) = true from rfl, show pkA ((4 + 1 : Nat) : Int) = true from rfl, show pkB ((4 + 1 : Nat) : Int) = false from rfl, show pkI ((4 + 1 : Nat) : Int) = true from rfl]
    simp [n1, n0]
theorem tame_less (k : Int) (A B C : List UInt8) (id : Nat) (hi : id < 18446744073709551616) : tmI k id < 18446744073709551616 := by
  unfold tmI
  split <;> omega
/-- a message is read as it was told -/
theorem msg_back {E K T b : List UInt8} {m : Nat} (h : okM E.length K.length T.length (m : Int) b.length = true) : msgOf (msB E K T m b) = some (E, K, T, m, b) := by
  obtain ⟨h1, h2, h3, _, h5, h6⟩ := okM_yes h
  have e : msB E K T m b = shortB E ++ (shortB K ++ (shortB T ++ (be 1 m ++ b))) := by unfold msB; simp
  rw [e]
  obtain ⟨a1, a2, a3⟩ := shortB_read E (shortB K ++ (shortB T ++ (be 1 m ++ b))) (by omega)
  obtain ⟨b1, b2, b3⟩ := shortB_read K (shortB T ++ (be 1 m ++ b)) (by omega)
  obtain ⟨c1, c2, c3⟩ := shortB_read T (be 1 m ++ b) (by omega)
  obtain ⟨d1, d2, d3⟩ := tk_pre (n := 1) (a := be 1 m) b (be_length 1 m)
  have d4 : nat (be 1 m) = m := by
    rw [nat_be]
    exact Nat.mod_eq_of_lt (by omega)
  unfold msgOf
  rw [a1, a2, a3, b1, b2, b3, c1, c2, c3, d1, d2, d3, d4, h]
  rfl
theorem msB_length {E K T b : List UInt8} {m : Nat} (h : okM E.length K.length T.length (m : Int) b.length = true) : (msB E K T m b).length ≤ 20000 := by
  obtain ⟨h1, h2, h3, _, h5, h6⟩ := okM_yes h
  unfold msB
  simp [shortB_length, be_length]
  omega
/-! ### how texts stand -/
theorem bytesLess_cons (c d : UInt8) (l l' : List UInt8) (h : c < d) : Op.bytesLess (c :: l) (d :: l') = true := by
  rw [Op.bytesLess]
  simp [h]
end Go.Proofs.Ytgdlgkbckblagaa
