/- Frames as plain data: which may be, their octets, what any octets begin with. No program is imported. -/
import Derived.Test.YtfajkbegmmlmjaaWords2
namespace Go.Proofs.Ytfajkbegmmlmjaa

/-- a frame's kind, as a number -/
def fkind (k : Int) : Bool := decide ((1 ≤ k ∧ k ≤ 3) ∨ k = 8)
/-- what octets begin with -/
inductive Fr where
  | more | bad | ok (k ch : Nat) (b : List UInt8)
def flen (b : List UInt8) : Nat := nat ((b.drop 3).take 4)
def frameP (b : List UInt8) : Fr :=
  if b.length = 0 then .more
  else if fkind ((b.getD 0 0).toNat : Int) = false then .bad
  else if b.length < 7 then .more
  else if 4088 < flen b then .bad
  else if b.length < 8 + flen b then .more
  else if (b.getD (7 + flen b) 0).toNat = 206 then .ok (b.getD 0 0).toNat (nat ((b.drop 1).take 2)) ((b.drop 7).take (flen b))
  else .bad
/-- may a frame be -/
def frameOk (k ch : Int) (n : Nat) : Bool := fkind k && decide (0 ≤ ch ∧ ch ≤ 65535 ∧ n ≤ 4088)
/-- a frame's octets -/
def frameB (k ch : Nat) (b : List UInt8) : List UInt8 := be 1 k ++ be 2 ch ++ be 4 b.length ++ b ++ [206]
theorem frameB_length (k ch : Nat) (b : List UInt8) : (frameB k ch b).length = b.length + 8 := by
  unfold frameB
  simp only [List.length_append, be_length, List.length_cons, List.length_nil]
  omega

/-- what the head's numbers are -/
theorem head_short (b : List UInt8) (h : b.length < 7) : nat (tk 4 (rst 2 (rst 1 (b.take 7)))) = 0 ∧ short 4 (rst 2 (rst 1 (b.take 7))) = true := by
  have hl : (rst 2 (rst 1 (b.take 7))).length < 4 := by
    unfold rst
    simp only [List.length_take]
    split
    · split
      · simp only [List.length_drop, List.length_take] at *; omega
      · simp
    · simp
  obtain ⟨h1, _, h3⟩ := tk_less hl
  rw [h1, h3]
  exact ⟨rfl, rfl⟩
theorem head_kind (b : List UInt8) (h : 0 < b.length) : nat (tk 1 (b.take 7)) = (b.getD 0 0).toNat := by
  cases b with
  | nil => simp at h
  | cons c b =>
    rw [tk_yes (by simp)]
    simp [nat]
theorem head_whole (b : List UInt8) (h : 7 ≤ b.length) : nat (tk 2 (rst 1 (b.take 7))) = nat ((b.drop 1).take 2) ∧ nat (tk 4 (rst 2 (rst 1 (b.take 7)))) = flen b ∧ short 1 (b.take 7) = false ∧ short 2 (rst 1 (b.take 7)) = false ∧ short 4 (rst 2 (rst 1 (b.take 7))) = false := by
  have h7 : (b.take 7).length = 7 := by rw [List.length_take]; omega
  have r1 : rst 1 (b.take 7) = (b.drop 1).take 6 := by rw [rst_yes (by omega), List.drop_take]
  have l1 : ((b.drop 1).take 6).length = 6 := by rw [List.length_take, List.length_drop]; omega
  have r2 : rst 2 (rst 1 (b.take 7)) = (b.drop 3).take 4 := by rw [r1, rst_yes (by omega), List.drop_take, List.drop_drop]
  have l2 : ((b.drop 3).take 4).length = 4 := by rw [List.length_take, List.length_drop]; omega
  refine ⟨?_, ?_, short_no (by omega), ?_, ?_⟩
  · rw [r1, tk_yes (by omega), List.take_take]; rfl
  · rw [r2, tk_yes (by omega), List.take_take]; rfl
  · rw [r1]; exact short_no (by omega)
  · rw [r2]; exact short_no (by omega)

/-- what may be a frame is told as it was, whatever stands behind it -/
theorem frame_back (k ch : Nat) (b r : List UInt8) (h : frameOk k ch b.length = true) : frameP (frameB k ch b ++ r) = .ok k ch b := by
  unfold frameOk fkind at h
  simp only [Bool.and_eq_true, decide_eq_true_eq] at h
  obtain ⟨hk, hc0, hc, hb⟩ := h
  have m2 : ch % 256 ^ 2 = ch := Nat.mod_eq_of_lt (by rw [show (256 : Nat) ^ 2 = 65536 from by decide]; omega)
  have m4 : b.length % 256 ^ 4 = b.length := Nat.mod_eq_of_lt (by rw [show (256 : Nat) ^ 4 = 4294967296 from by decide]; omega)
  have e1 : be 1 k = [UInt8.ofNat k] := by rw [be_succ]; simp [be]
  have hl : (frameB k ch b ++ r).length = b.length + 8 + r.length := by rw [List.length_append, frameB_length]
  have g0 : (frameB k ch b ++ r).getD 0 0 = UInt8.ofNat k := by unfold frameB; rw [e1]; rfl
  have gk : (UInt8.ofNat k).toNat = k := by rw [UInt8.toNat_ofNat']; exact Nat.mod_eq_of_lt (by omega)
  have d1 : (frameB k ch b ++ r).drop 1 = be 2 ch ++ (be 4 b.length ++ (b ++ ([206] ++ r))) := by unfold frameB; rw [e1]; simp
  have d3 : (frameB k ch b ++ r).drop 3 = be 4 b.length ++ (b ++ ([206] ++ r)) := by
    rw [show (3 : Nat) = 1 + 2 from rfl, ← List.drop_drop, d1, List.drop_left' (be_length 2 ch)]
  have d7 : (frameB k ch b ++ r).drop 7 = b ++ ([206] ++ r) := by
    rw [show (7 : Nat) = 3 + 4 from rfl, ← List.drop_drop, d3, List.drop_left' (be_length 4 _)]
  have hf : flen (frameB k ch b ++ r) = b.length := by
    unfold flen
    rw [d3, List.take_left' (be_length 4 _), nat_be, m4]
  have ge : (frameB k ch b ++ r).getD (7 + b.length) 0 = 206 := by
    have : ((frameB k ch b ++ r).drop 7).getD b.length 0 = 206 := by
      rw [d7]
      simp [List.getD]
    rw [← this]
    simp [List.getD, List.getElem?_drop]
  unfold frameP
  rw [hl, hf, g0, gk, ge, d1, d7, if_neg (by omega), if_neg (by unfold fkind; simp; omega), if_neg (by omega), if_neg (by omega), if_neg (by omega), if_pos (by decide), List.take_left' (be_length 2 ch), nat_be, m2, List.take_left' rfl]
/-- each beginning of it asks for more -/
theorem frame_cut (k ch : Nat) (b : List UInt8) (i : Nat) (h : frameOk k ch b.length = true) (hi : i < b.length + 8) : frameP ((frameB k ch b).take i) = .more := by
  have h0 := h
  unfold frameOk fkind at h
  simp only [Bool.and_eq_true, decide_eq_true_eq] at h
  obtain ⟨hk, hc0, hc, hb⟩ := h
  have hl : ((frameB k ch b).take i).length = i := by rw [List.length_take, frameB_length]; omega
  have m4 : b.length % 256 ^ 4 = b.length := Nat.mod_eq_of_lt (by rw [show (256 : Nat) ^ 4 = 4294967296 from by decide]; omega)
  have e1 : be 1 k = [UInt8.ofNat k] := by rw [be_succ]; simp [be]
  have gk : (UInt8.ofNat k).toNat = k := by rw [UInt8.toNat_ofNat']; exact Nat.mod_eq_of_lt (by omega)
  unfold frameP
  rw [hl]
  by_cases hi0 : i = 0
  · rw [if_pos hi0]
  · have g0 : ((frameB k ch b).take i).getD 0 0 = UInt8.ofNat k := by
      simp only [List.getD, List.getElem?_take]
      rw [if_pos (by omega)]
      unfold frameB
      rw [e1]
      rfl
    rw [if_neg hi0, g0, gk, if_neg (by unfold fkind; simp; omega)]
    by_cases hi7 : i < 7
    · rw [if_pos hi7]
    · have d3 : (frameB k ch b).drop 3 = be 4 b.length ++ (b ++ [206]) := by
        unfold frameB
        rw [e1]
        simp only [List.append_assoc]
        rw [show (3 : Nat) = 1 + 2 from rfl, ← List.drop_drop]
        show List.drop 2 (be 2 ch ++ _) = _
        rw [List.drop_left' (be_length 2 ch)]
      have hf : flen ((frameB k ch b).take i) = b.length := by
        unfold flen
        rw [List.drop_take, List.take_take, Nat.min_eq_left (by omega), d3, List.take_left' (be_length 4 _), nat_be, m4]
      rw [if_neg hi7, hf, if_neg (by omega), if_pos (by omega)]
end Go.Proofs.Ytfajkbegmmlmjaa
