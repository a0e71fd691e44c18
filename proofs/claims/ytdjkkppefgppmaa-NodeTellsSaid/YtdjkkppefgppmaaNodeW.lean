/- Layer 10, plain: where a key stands among rows that rise. -/
import Derived.Test.YtdjkkppefgppmaaNodeT
namespace Go.Proofs.Ytdjkkppefgppmaa
open Go.RowKit
set_option maxRecDepth 100000

def cntB (l : List Rw) (s : List UInt8) : Nat := (l.filter fun r => ltL r.key s).length
def hasB (l : List Rw) (s : List UInt8) : Bool := l.any fun r => r.key == s
def wantB (leaf : Bool) (l : List Rw) (s : List UInt8) : Nat := if !leaf && !hasB l s then cntB l s - 1 else cntB l s
def Rise (l : List Rw) : Prop := ∀ (i j : Nat) (hj : j < l.length) (hi : i < j), ltL (l[i]'(by omega)).key l[j].key = true
theorem okR_above {leaf : Bool} : ∀ {l : List Rw} {p : List UInt8}, okR leaf p l = true → ∀ r ∈ l, ltL p r.key = true
  | [], _, _, r, hr => by cases hr
  | x :: l, p, h, r, hr => by
    rw [okR, Bool.and_eq_true, Bool.and_eq_true] at h
    rcases List.mem_cons.1 hr with rfl | hr
    · exact h.1.1
    · exact ltL_trans h.1.1 (okR_above h.2 r hr)
theorem okR_rise {leaf : Bool} : ∀ {l : List Rw} {p : List UInt8}, okR leaf p l = true → Rise l
  | [], _, _, i, j, hj, _ => by simp at hj
  | x :: l, p, h, i, j, hj, hi => by
    rw [okR, Bool.and_eq_true] at h
    cases j with
    | zero => omega
    | succ j =>
      have hj' : j < l.length := by simpa using hj
      cases i with
      | zero => exact okR_above h.2 _ (List.getElem_mem hj')
      | succ i => exact okR_rise h.2 i j hj' (by omega)
/-- where rows cease to be below s -/
structure Parts (l : List Rw) (s : List UInt8) (k : Nat) : Prop where
  le : k ≤ l.length
  low : ∀ i, (h : i < l.length) → i < k → ltL l[i].key s = true
  high : ∀ i, (h : i < l.length) → k ≤ i → ltL l[i].key s = false
theorem parts (l : List Rw) (s : List UInt8) (hr : Rise l) : Parts l s (cntB l s) := by
  obtain ⟨k, hk⟩ : ∃ k, k = l.findIdx (fun r => !ltL r.key s) := ⟨_, rfl⟩
  have hle : k ≤ l.length := by rw [hk]; exact List.findIdx_le_length
  have low : ∀ i, (h : i < l.length) → i < k → ltL l[i].key s = true := by
    intro i h hi
    have := List.not_of_lt_findIdx (p := fun r : Rw => !ltL r.key s) (xs := l) (i := i) (by rw [← hk]; exact hi)
    simpa using this
  have high : ∀ i, (h : i < l.length) → k ≤ i → ltL l[i].key s = false := by
    intro i h hi
    have hkl : k < l.length := by omega
    have h1 : ltL l[k].key s = false := by
      have := List.findIdx_getElem (p := fun r : Rw => !ltL r.key s) (xs := l) (w := by rw [← hk]; exact hkl)
      simp only [← hk] at this
      simpa using this
    rcases Nat.lt_or_ge k i with h2 | h2
    · cases e : ltL l[i].key s
      · rfl
      · have := ltL_trans (hr k i h h2) e
        rw [h1] at this
        cases this
    · obtain rfl : k = i := by omega
      exact h1
  have hc : cntB l s = k := by
    have e : l = l.take k ++ l.drop k := (List.take_append_drop k l).symm
    have f1 : (l.take k).filter (fun r => ltL r.key s) = l.take k := by
      rw [List.filter_eq_self]
      intro r hr
      obtain ⟨i, hi, rfl⟩ := List.mem_iff_getElem.1 hr
      rw [List.length_take] at hi
      rw [List.getElem_take]
      exact low i (by omega) (by omega)
    have f2 : (l.drop k).filter (fun r => ltL r.key s) = [] := by
      rw [List.filter_eq_nil_iff]
      intro r hr
      obtain ⟨i, hi, rfl⟩ := List.mem_iff_getElem.1 hr
      rw [List.length_drop] at hi
      rw [List.getElem_drop, high (k + i) (by omega) (by omega)]
      simp
    have : cntB l s = ((l.take k ++ l.drop k).filter fun r => ltL r.key s).length := by rw [← e]; rfl
    rw [this, List.filter_append, f1, f2, List.append_nil, List.length_take]
    omega
  rw [hc]
  exact ⟨hle, low, high⟩
theorem has_at {l : List Rw} {s : List UInt8} (hr : Rise l) (h : hasB l s = true) : ∃ hk : cntB l s < l.length, l[cntB l s].key = s := by
  have P := parts l s hr
  unfold hasB at h
  rw [List.any_eq_true] at h
  obtain ⟨r, hm, he⟩ := h
  obtain ⟨i, hi, rfl⟩ := List.mem_iff_getElem.1 hm
  have he' : l[i].key = s := by simpa using he
  have h1 : cntB l s ≤ i := by
    rcases Nat.lt_or_ge i (cntB l s) with h | h
    · have := P.low i hi h
      rw [he', ltL_self] at this
      cases this
    · exact h
  rcases Nat.lt_or_ge (cntB l s) i with h2 | h2
  · have h3 := hr (cntB l s) i hi h2
    rw [he', P.high (cntB l s) (by omega) (Nat.le_refl _)] at h3
    cases h3
  · obtain rfl : cntB l s = i := by omega
    exact ⟨hi, he'⟩
theorem has_not {l : List Rw} {s : List UInt8} (h : hasB l s = false) (i : Nat) (hi : i < l.length) : l[i].key ≠ s := by
  unfold hasB at h
  rw [List.any_eq_false] at h
  have := h _ (List.getElem_mem hi)
  simpa using this
theorem findR_is (l : List Rw) (s : List UInt8) (hr : Rise l) : findR l s = ((cntB l s : Int), hasB l s) := by
  have P := parts l s hr
  cases h : hasB l s with
  | true =>
    obtain ⟨hk, he⟩ := has_at hr h
    have e : idxR (fun r => r.key == s) l = (cntB l s : Int) := idxR_is _ l _ hk (fun k hkl hlt => by
      have := ltL_ne (P.low k hkl hlt)
      simpa using this) (by simpa using he)
    unfold findR
    rw [e, if_pos (by omega)]
  | false =>
    have e : idxR (fun r => r.key == s) l = -1 := idxR_none _ l fun k hk => by
      have := has_not h k hk
      simpa using this
    unfold findR
    rw [e, if_neg (by omega)]
    rcases Nat.lt_or_ge (cntB l s) l.length with hk | hk
    · have e2 : idxR (fun r => ltL s r.key) l = (cntB l s : Int) := idxR_is _ l _ hk (fun k hkl hlt => ltL_asymm (P.low k hkl hlt)) (by
        have h1 := P.high _ hk (Nat.le_refl _)
        cases e3 : ltL s l[cntB l s].key
        · exact absurd (ltL_total h1 e3) (has_not h _ hk)
        · rfl)
      rw [e2, if_pos (by omega)]
    · have e2 : idxR (fun r => ltL s r.key) l = -1 := idxR_none _ l fun k hkl => ltL_asymm (P.low k hkl (by omega))
      rw [e2, if_neg (by omega)]
      have := P.le
      rw [show cntB l s = l.length by omega]
theorem lastLe_is (l : List Rw) (s : List UInt8) (m : Nat) (low : ∀ i, (h : i < l.length) → i < m → ltL s l[i].key = false) (high : ∀ i, (h : i < l.length) → m ≤ i → ltL s l[i].key = true) :
    ∀ n, n ≤ l.length → lastLe l s n = min m n - 1
  | 0, _ => by simp [lastLe]
  | n + 1, h => by
    have hn : n < l.length := by omega
    rw [lastLe, dif_pos hn, lastLe_is l s m low high n (by omega)]
    rcases Nat.lt_or_ge n m with h1 | h1
    · rw [low n hn h1]
      simp
      omega
    · rw [high n hn h1]
      simp
      omega
theorem inner_is (l : List Rw) (s : List UInt8) (hr : Rise l) (h0 : 0 < l.length) : ((lastLe l s l.length : Nat) : Int) = (wantB false l s : Int) ∧ isAt l s (lastLe l s l.length) = hasB l s := by
  have P := parts l s hr
  cases h : hasB l s with
  | true =>
    obtain ⟨hk, he⟩ := has_at hr h
    have e : lastLe l s l.length = cntB l s := by
      rw [lastLe_is l s (cntB l s + 1) (fun i hi hlt => by
        rcases Nat.lt_or_ge i (cntB l s) with h1 | h1
        · exact ltL_asymm (P.low i hi h1)
        · obtain rfl : i = cntB l s := by omega
          rw [he]; exact ltL_self s) (fun i hi hge => by
        have := hr (cntB l s) i hi (by omega)
        rwa [he] at this) l.length (Nat.le_refl _)]
      omega
    rw [e]
    refine ⟨by simp [wantB, h], ?_⟩
    rw [isAt, dif_pos hk, he]
    simp
  | false =>
    have e : lastLe l s l.length = cntB l s - 1 := by
      rw [lastLe_is l s (cntB l s) (fun i hi hlt => ltL_asymm (P.low i hi hlt)) (fun i hi hge => by
        have h1 := P.high i hi hge
        cases e3 : ltL s l[i].key
        · exact absurd (ltL_total h1 e3) (has_not h i hi)
        · rfl) l.length (Nat.le_refl _)]
      have := P.le
      omega
    rw [e]
    refine ⟨by simp [wantB, h], ?_⟩
    have := P.le
    have hk : cntB l s - 1 < l.length := by omega
    rw [isAt, dif_pos hk]
    have := has_not h _ hk
    simpa using this
/-- what Find tells -/
def findAll (leaf : Bool) (l : List Rw) (s : List UInt8) : Int × Bool := if leaf then findR l s else ((lastLe l s l.length : Int), isAt l s (lastLe l s l.length))
theorem findAll_is (leaf : Bool) (l : List Rw) (s : List UInt8) (hr : Rise l) (h0 : 0 < l.length) : findAll leaf l s = ((wantB leaf l s : Int), hasB l s) := by
  cases leaf
  · obtain ⟨h1, h2⟩ := inner_is l s hr h0
    simp only [findAll, Bool.false_eq_true, if_false]
    rw [h1, h2]
  · simp only [findAll, if_true]
    rw [findR_is l s hr]
    simp [wantB]
theorem findAll_nil (leaf : Bool) (s : List UInt8) : findAll leaf [] s = (0, false) := by
  cases leaf
  · rfl
  · rfl
theorem cntB_take (l : List Rw) (s : List UInt8) (j : Nat) (h : j < l.length) : cntB (l.take (j + 1)) s = cntB (l.take j) s + (if ltL l[j].key s then 1 else 0) := by
  unfold cntB
  rw [List.take_succ_eq_append_getElem h, List.filter_append, List.length_append]
  congr 1
  rw [List.filter_cons]
  split <;> rfl
theorem hasB_take (l : List Rw) (s : List UInt8) (j : Nat) (h : j < l.length) : hasB (l.take (j + 1)) s = (hasB (l.take j) s || l[j].key == s) := by
  unfold hasB
  rw [List.take_succ_eq_append_getElem h, List.any_append]
  simp
theorem cntB_le (l : List Rw) (s : List UInt8) : cntB l s ≤ l.length := List.length_filter_le _ _
end Go.Proofs.Ytdjkkppefgppmaa
