/- Layer 8, plain: names of files, heads, sectors of batches, batches of a device. -/
import Derived.Test.YtmemdkgoeldemaaGreatDoorSectF
import Derived.Test.YtmemdkgoeldemaaGreatDoorWords2
import Derived.Test.YtmemdkgoeldemaaGreatDoorSectA
namespace Go.Proofs.YtmemdkgoeldemaaGreatDoor
open Go.RowKit Go.Maps
set_option maxRecDepth 100000
set_option linter.unusedSimpArgs false
set_option linter.unusedVariables false

/-! ### heads -/
structure Hd where
  seq : Nat
  place : Nat
  count : Nat
  kind : Nat
  size : Nat
def Hd.fit (h : Hd) : Prop := h.seq < 18446744073709551616 ∧ h.place < 65536 ∧ h.count < 65536 ∧ h.kind < 256 ∧ h.size < 65536
def Hd.num (h : Hd) : Nat := h.place * 281474976710656 + h.count * 4294967296 + h.kind * 16777216 + h.size
def hdB (h : Hd) : List UInt8 := be 8 h.seq ++ be 8 h.num
theorem hdB_length (h : Hd) : (hdB h).length = 16 := by simp [hdB, be_length]
theorem num_lt {h : Hd} (f : h.fit) : h.num < 18446744073709551616 := by
  obtain ⟨_, f2, f3, f4, f5⟩ := f
  unfold Hd.num
  omega
/-- a sector of a head, and octets behind it -/
def secH (h : Hd) (b : List UInt8) : Sec := ⟨(hdB h ++ b ++ List.replicate 48 0).take 64, by simp [hdB_length]; omega⟩
/-- what a sector has where a head would be -/
def hdOf (s : List UInt8) : Hd :=
  ⟨nat (s.take 8), nat ((s.drop 8).take 8) / 281474976710656 % 65536, nat ((s.drop 8).take 8) / 4294967296 % 65536, nat ((s.drop 8).take 8) / 16777216 % 256, nat ((s.drop 8).take 8) % 65536⟩
theorem hdOf_fit (s : List UInt8) (hs : 8 ≤ s.length) : (hdOf s).fit := by
  have h1 := nat_lt (s.take 8)
  rw [List.length_take, Nat.min_eq_left hs] at h1
  refine ⟨?_, Nat.mod_lt _ (by omega), Nat.mod_lt _ (by omega), Nat.mod_lt _ (by omega), Nat.mod_lt _ (by omega)⟩
  show nat (s.take 8) < _
  omega
theorem hdOf_hdB {h : Hd} (f : h.fit) (r : List UInt8) : hdOf (hdB h ++ r) = h := by
  obtain ⟨f1, f2, f3, f4, f5⟩ := id f
  have e1 : (hdB h ++ r).take 8 = be 8 h.seq := by
    unfold hdB
    rw [List.append_assoc, List.take_append_of_le_length (by simp [be_length]), List.take_of_length_le (by simp [be_length])]
  have e2 : ((hdB h ++ r).drop 8).take 8 = be 8 h.num := by
    unfold hdB
    rw [List.append_assoc, List.drop_append_of_le_length (by simp [be_length]), List.drop_of_length_le (by simp [be_length]), List.nil_append, List.take_append_of_le_length (by simp [be_length]), List.take_of_length_le (by simp [be_length])]
  unfold hdOf
  rw [e1, e2, nat_be8 _ f1, nat_be8 _ (num_lt f)]
  cases h with
  | mk seq place count kind size =>
    simp only [Hd.num] at *
    congr 1 <;> omega
theorem secH_eq (h : Hd) (b : List UInt8) (hb : b.length ≤ 48) : (secH h b).1 = hdB h ++ (b ++ List.replicate (48 - b.length) 0) := by
  unfold secH
  simp only []
  rw [List.append_assoc, List.take_append, hdB_length, List.take_of_length_le (by rw [hdB_length]; omega), List.take_append]
  rw [List.take_of_length_le (show b.length ≤ 64 - 16 by omega), List.take_replicate]
  congr 3
  omega
theorem secH_hd {h : Hd} (f : h.fit) (b : List UInt8) (hb : b.length ≤ 48) : hdOf (secH h b).1 = h := by
  rw [secH_eq h b hb]; exact hdOf_hdB f _
theorem secH_data (h : Hd) (b : List UInt8) (hb : b.length ≤ 48) : ((secH h b).1.drop 16).take b.length = b := by
  rw [secH_eq h b hb, List.drop_append_of_le_length (by rw [hdB_length]; omega), List.drop_of_length_le (by rw [hdB_length]; omega), List.nil_append, List.take_append_of_le_length (Nat.le_refl _), List.take_of_length_le (Nat.le_refl _)]
def Hd.begins (h : Hd) : Prop := 0 < h.seq ∧ 0 < h.kind ∧ h.place = 0 ∧ 1 ≤ h.count ∧ h.count ≤ 4096
instance (h : Hd) : Decidable h.begins := by unfold Hd.begins; infer_instance
def Hd.least (h : Hd) : Nat := if h.place + 1 < h.count then 48 else if 0 < h.place then 1 else 0
def Hd.sized (h : Hd) (z : Nat) : Hd := { h with size := z }
def Hd.at (h : Hd) (k : Nat) : Hd := { h with place := k }
/-- the octets of a batch that are in a sector, if it is just such as h says -/
def dataP (h : Hd) (s : Sec) : Option (List UInt8) :=
  if (hdOf s.1).size < h.least ∨ 48 < (hdOf s.1).size then none
  else if (secH (h.sized (hdOf s.1).size) ((s.1.drop 16).take (hdOf s.1).size)).1 = s.1 then some ((s.1.drop 16).take (hdOf s.1).size) else none
theorem dataP_le {h : Hd} {s : Sec} {b : List UInt8} (e : dataP h s = some b) : b.length ≤ 48 := by
  unfold dataP at e
  split at e
  · cases e
  · split at e
    · cases e
      rw [List.length_take]
      omega
    · cases e
theorem dataP_is {h : Hd} {b : List UInt8} (f : (h.sized b.length).fit) (hb : b.length ≤ 48) (hl : h.least ≤ b.length) : dataP h (secH (h.sized b.length) b) = some b := by
  have e1 : (hdOf (secH (h.sized b.length) b).1).size = b.length := by rw [secH_hd f b hb]; rfl
  unfold dataP
  rw [e1, if_neg (by omega), secH_data _ b hb, if_pos rfl]
/-! ### batches -/
structure Bt where
  seq : Nat
  kind : Nat
  b : List UInt8
  file : Int
  pos : Int
def bt0 : Bt := ⟨0, 0, [], 0, 0⟩
def need (n : Nat) : Nat := if n < 1 then 1 else (n - 1) / 48 + 1
theorem need_pos (n : Nat) : 1 ≤ need n := by unfold need; split <;> omega
/-- the octets of a batch from place k on -/
def btPart (b : List UInt8) (k : Nat) : List UInt8 := (b.drop (48 * k)).take 48
def btHd (x : Bt) (k : Nat) : Hd := ⟨x.seq, k, need x.b.length, x.kind, (btPart x.b k).length⟩
def btSec (x : Bt) (k : Nat) : Sec := secH (btHd x k) (btPart x.b k)
/-- the sectors of a batch -/
def btSecs (x : Bt) : List Sec := (List.range (need x.b.length)).map (btSec x)
theorem btSecs_length (x : Bt) : (btSecs x).length = need x.b.length := by simp [btSecs]
theorem btPart_le (b : List UInt8) (k : Nat) : (btPart b k).length ≤ 48 := by unfold btPart; rw [List.length_take]; omega
theorem btPart_length (b : List UInt8) (k : Nat) : (btPart b k).length = min 48 (b.length - 48 * k) := by simp [btPart]
theorem need_spec (n k : Nat) (hk : k < need n) : 48 * k ≤ n ∧ (k + 1 < need n → 48 * (k + 1) < n) ∧ (k + 1 = need n → n ≤ 48 * (k + 1) ∧ (0 < k → 48 * k < n)) := by
  unfold need at hk ⊢
  split at hk <;> rename_i h <;> simp only [h, if_true, if_false] <;> omega
theorem btHd_least (x : Bt) (k : Nat) (hk : k < need x.b.length) : (btHd x k).least ≤ (btPart x.b k).length := by
  obtain ⟨h1, h2, h3⟩ := need_spec _ _ hk
  rw [btPart_length]
  unfold Hd.least btHd
  simp only []
  split
  · have := h2 (by omega); omega
  · split
    · have := (h3 (by omega)).2 (by omega); omega
    · omega
theorem btPart_drop (b : List UInt8) (k : Nat) : b.drop (48 * k) = btPart b k ++ b.drop (48 * (k + 1)) := by
  unfold btPart
  rw [show 48 * (k + 1) = 48 * k + 48 by omega, ← List.drop_drop]
  exact (List.take_append_drop 48 _).symm
theorem btPart_take (b : List UInt8) (k : Nat) : b.take (48 * (k + 1)) = b.take (48 * k) ++ btPart b k := by
  unfold btPart
  rw [show 48 * (k + 1) = 48 * k + 48 by omega, List.take_add]
theorem need_all (b : List UInt8) : b.take (48 * need b.length) = b := by
  apply List.take_of_length_le
  unfold need
  split <;> omega

/-- what is read of a batch from place k on: n sectors are left -/
def whL (S : Dv) (nm : Nm) (at0 : Int) (h : Hd) : Nat → List UInt8 → Int × List UInt8
  | 0, acc => (0, acc)
  | n + 1, acc =>
    if (pRead S nm (at0 + ((h.count - (n + 1) : Nat) : Int))).2 ≠ 0 then ((pRead S nm (at0 + ((h.count - (n + 1) : Nat) : Int))).2, [])
    else match dataP (h.at (h.count - (n + 1))) (pRead S nm (at0 + ((h.count - (n + 1) : Nat) : Int))).1 with
      | none => (1, [])
      | some b => whL S nm at0 h n (acc ++ b)
def whP (S : Dv) (nm : Nm) (file at0 : Int) : Int × Bt :=
  if (pRead S nm at0).2 ≠ 0 then ((pRead S nm at0).2, bt0)
  else if ¬ (hdOf (pRead S nm at0).1.1).begins then (1, bt0)
  else if (whL S nm at0 (hdOf (pRead S nm at0).1.1) (hdOf (pRead S nm at0).1.1).count []).1 ≠ 0 then ((whL S nm at0 (hdOf (pRead S nm at0).1.1) (hdOf (pRead S nm at0).1.1).count []).1, bt0)
  else (0, ⟨(hdOf (pRead S nm at0).1.1).seq, (hdOf (pRead S nm at0).1.1).kind, (whL S nm at0 (hdOf (pRead S nm at0).1.1) (hdOf (pRead S nm at0).1.1).count []).2, file, at0⟩)
/-- may a batch be told behind those of l? -/
def flw (l : List Bt) (x : Bt) : Bool :=
  match l.getLast? with
  | none => true
  | some y => decide (y.seq < x.seq) && (decide (x.seq - y.seq = 1) || decide (x.kind = 2))
/-- the batches of a file behind those of l -/
def scF (S : Dv) (nm : Nm) (file : Int) : Nat → Nat → List Bt → List Bt
  | 0, _, l => l
  | n + 1, p, l =>
    if (whP S nm file p).1 ≠ 0 ∨ flw l (whP S nm file p).2 = false then l
    else scF S nm file n (p + need (whP S nm file p).2.b.length) (l ++ [(whP S nm file p).2])
/-! ### names -/
def dig (n : Nat) : UInt8 := UInt8.ofNat (48 + n % 10)
def nmJ (n : Int) : Nm := if 1 ≤ n ∧ n ≤ 999999 then [106, dig (n.toNat / 100000), dig (n.toNat / 10000), dig (n.toNat / 1000), dig (n.toNat / 100), dig (n.toNat / 10), dig n.toNat] else []
theorem nmJ_le (n : Int) : (nmJ n).length ≤ 7 := by unfold nmJ; split <;> simp
theorem nmJ_in {n : Int} (h : 1 ≤ n ∧ n ≤ 999999) : nmJ n = [106, dig (n.toNat / 100000), dig (n.toNat / 10000), dig (n.toNat / 1000), dig (n.toNat / 100), dig (n.toNat / 10), dig n.toNat] := if_pos h
theorem dig_val (n : Nat) : (dig n).toNat = 48 + n % 10 := by
  unfold dig
  rw [UInt8.toNat_ofNat']
  omega
theorem dig_inj {a b : Nat} (h : dig a = dig b) : a % 10 = b % 10 := by
  have := congrArg UInt8.toNat h
  rw [dig_val, dig_val] at this
  omega
theorem nmJ_inj {a b : Int} (ha : 1 ≤ a ∧ a ≤ 999999) (h : nmJ a = nmJ b) : a = b := by
  rw [nmJ_in ha] at h
  by_cases hb : 1 ≤ b ∧ b ≤ 999999
  · rw [nmJ_in hb] at h
    simp only [List.cons.injEq, true_and, and_true] at h
    obtain ⟨h1, h2, h3, h4, h5, h6⟩ := h
    have h1 := dig_inj h1
    have h2 := dig_inj h2
    have h3 := dig_inj h3
    have h4 := dig_inj h4
    have h5 := dig_inj h5
    have h6 := dig_inj h6
    omega
  · unfold nmJ at h
    rw [if_neg hb] at h
    cases h
/-! ### what is whole -/
theorem whL_ok (S : Dv) (nm : Nm) (at0 : Int) (h : Hd) : ∀ (n : Nat) (acc b : List UInt8), n ≤ h.count → whL S nm at0 h n acc = (0, b) →
    ∃ r, b = acc ++ r ∧ r.length ≤ 48 * n ∧ 48 * (n - 1) ≤ r.length ∧ (1 < h.count → 0 < n → 48 * (n - 1) < r.length) ∧ ∀ k, h.count - n ≤ k → k < h.count → (pRead S nm (at0 + (k : Int))).2 = 0 := by
  intro n
  induction n with
  | zero =>
    intro acc b _ e
    unfold whL at e
    injection e with _ e
    exact ⟨[], by simp [e], by simp, by simp, by omega, fun k h1 h2 => by omega⟩
  | succ n ih =>
    intro acc b hn e
    unfold whL at e
    split at e
    · rename_i h0
      injection e with e _
      exact absurd e h0
    · rename_i h0
      split at e
      · injection e with e _; omega
      · rename_i c hc
        obtain ⟨r, e1, e2, e3, e4, e5⟩ := ih _ b (by omega) e
        have hl := dataP_le hc
        have hm : (h.at (h.count - (n + 1))).least ≤ c.length := by
          unfold dataP at hc
          split at hc
          · cases hc
          · split at hc
            · rename_i h1 _
              cases hc
              rw [List.length_take, List.length_drop]
              have := (pRead S nm (at0 + ((h.count - (n + 1) : Nat) : Int))).1.2
              omega
            · cases hc
        unfold Hd.least Hd.at at hm
        simp only [] at hm
        refine ⟨c ++ r, by rw [e1, List.append_assoc], by rw [List.length_append]; omega, ?_, ?_, fun k k1 k2 => ?_⟩
        · rw [List.length_append]
          split at hm
          · omega
          · have : n = 0 := by omega
            subst this
            omega
        · intro hc1 _
          rw [List.length_append]
          split at hm
          · by_cases hz : n = 0
            · subst hz; omega
            · have := e4 hc1 (by omega); omega
          · have : n = 0 := by omega
            subst this
            rw [if_pos (by omega)] at hm
            omega
        · by_cases e : k = h.count - (n + 1)
          · rw [e]
            exact Classical.not_not.1 h0
          · exact e5 k (by omega) k2
theorem read_lt {S : Dv} {nm : Nm} {k : Int} (h : (pRead S nm k).2 = 0) : 0 ≤ k ∧ k < (S.len nm : Int) := by
  unfold pRead at h
  unfold Dv.len
  cases hf : fnd S.fs nm with
  | none => rw [hf] at h; simp at h
  | some F =>
    rw [hf] at h
    simp only [] at h ⊢
    split at h
    · simp at h
    · omega
theorem read_notin {S : Dv} {nm : Nm} {k : Int} (h : ¬ (0 ≤ k ∧ k < (S.len nm : Int))) : (pRead S nm k).2 ≠ 0 := fun e => h (read_lt e)
theorem whP_ok {S : Dv} {nm : Nm} {file at0 : Int} {x : Bt} (h : whP S nm file at0 = (0, x)) :
    0 ≤ at0 ∧ at0 + (need x.b.length : Int) ≤ (S.len nm : Int) ∧ x.file = file ∧ x.pos = at0 ∧ 0 < x.seq ∧ x.seq < 18446744073709551616 ∧ 0 < x.kind ∧ x.kind < 256 ∧ need x.b.length ≤ 4096 ∧ x.b.length ≤ 196608 := by
  unfold whP at h
  split at h
  · rename_i h0
    injection h with h _
    exact absurd h h0
  · rename_i h0
    have h0' := Classical.not_not.1 h0
    split at h
    · injection h with h _; omega
    · rename_i hb
      have hb' := Classical.not_not.1 hb
      split at h
      · rename_i h1
        injection h with h _
        exact absurd h h1
      · rename_i h1
        have h1' := Classical.not_not.1 h1
        injection h with _ h
        subst h
        obtain ⟨b1, b2, b3, b4, b5⟩ := hb'
        obtain ⟨f1, f2, f3, f4, f5⟩ := hdOf_fit (pRead S nm at0).1.1 (by rw [(pRead S nm at0).1.2]; omega)
        obtain ⟨r, e1, e2, e3, e4, e5⟩ := whL_ok S nm at0 _ _ [] _ (Nat.le_refl _) (Prod.ext h1' rfl)
        rw [List.nil_append] at e1
        obtain ⟨c, hc⟩ : ∃ c, c = (hdOf (pRead S nm at0).1.1).count := ⟨_, rfl⟩
        rw [← hc] at e1 e2 e3 e4 e5 b4 b5
        have hn : need r.length = c := by
          unfold need
          split
          · by_cases h2 : 1 < c
            · have := e4 h2 (by omega); omega
            · omega
          · by_cases h2 : 1 < c
            · have := e4 h2 (by omega); omega
            · omega
        have hlast := read_lt (e5 (c - 1) (by omega) (by omega))
        simp only [e1, hn, ← hc]
        refine ⟨(read_lt h0').1, by omega, trivial, trivial, b1, f1, b2, f4, by omega, by omega⟩
end Go.Proofs.YtmemdkgoeldemaaGreatDoor
