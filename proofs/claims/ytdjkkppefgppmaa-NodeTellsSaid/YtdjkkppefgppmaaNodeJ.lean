/- Layer 10: small nodes; the document's Size. -/
import Derived.Test.YtdjkkppefgppmaaNodeI
namespace Go.Proofs.Ytdjkkppefgppmaa
open Go.RowKit
set_option maxRecDepth 100000
set_option linter.unusedSimpArgs false
set_option linter.unusedVariables false

def smallR (r : Rw) : Bool := decide (r.key.length ≤ 300) && decide (r.val.length ≤ 300)
def smallN (l : List Rw) : Bool := decide (l.length ≤ 200) && l.all smallR
/-- texts that the model bears -/
def Bear (l : List Rw) : Prop := l.length ≤ maxLen ∧ ∀ r ∈ l, r.key.length ≤ maxLen ∧ r.val.length ≤ maxLen
theorem small_few {l : List Rw} (h : smallN l = true) : Few l := by
  rw [smallN, Bool.and_eq_true, List.all_eq_true] at h
  refine ⟨by have := h.1; simp only [decide_eq_true_eq] at this; omega, fun r hr => ?_⟩
  have := h.2 r hr
  simp only [smallR, Bool.and_eq_true, decide_eq_true_eq] at this
  omega

set_option maxHeartbeats 1000000 in
theorem small_any (leaf : Bool) (l : List Rw) (A : Option Addr) (c B : Nat) (w : World) (ht : RowsAt w B l A c) (hB : B ≤ w.heap.size) (hf : Bear l) :
    Calls Try.prog 10 #[.agg #[.bool leaf, .slice A l.length c]] w fun e w' => OkAt w w' e (smallN l) := by
  obtain ⟨hlc, hcm, hl⟩ := ht
  have hb0 := (Below.refl w.heap.size w).alloc (Nat.le_refl _) (.cells #[.bool leaf, .slice A l.length c] 26)
  have WX := Whole.new w 26 #[.bool leaf, .slice A l.length c]
  have x1 : (w.alloc (.cells #[.bool leaf, .slice A l.length c] 26)).cell? ⟨w.heap.size, 1, none⟩ = some (.slice A l.length c) := WX.cell 1
  have BX := Lib.hid hb0
  have HL := Lib.hid (hl.below (hb0.mono hB))
  have HF := Lib.hid hf
  have hll := hf.1
  unfold maxLen at hcm hll
  by_cases h200 : l.length ≤ 200
  · have hs : smallN l = l.all smallR := by rw [smallN, decide_eq_true h200, Bool.true_and]
    have HS := Lib.hid hs
    clear hb0 WX hl hf hs x1
    go_enter Try.func10, Try.ntmps10
    go_wp2_with fail
    obtain ⟨W, hW⟩ : ∃ W, W = w.alloc (.cells #[.bool leaf, .slice A l.length c] 26) := ⟨_, rfl⟩
    have x1 : W.cell? ⟨w.heap.size, 1, none⟩ = some (.slice A l.length c) := by rw [hW]; exact (Whole.new w _ _).cell 1
    rw [← hW] at BX HL ⊢
    clear hW
    go_loop [3] (fun i => ∃ j : Nat, j ≤ l.length ∧ i = .int .i64 j ∧ l.all smallR = (l.drop j).all smallR) (fun i => l.length - (intOf i).toNat)
    case atStart => exact ⟨0, Nat.zero_le _, rfl, rfl⟩
    case round =>
      obtain ⟨j, hj, rfl, hall⟩ := hrel
      have HA := Lib.hid hall
      clear hall
      by_cases hlt : j < l.length
      · obtain ⟨b, o, rfl, hb, c0, c1, c2⟩ := lies_rw HL.out j hlt
        obtain ⟨r, hr⟩ : ∃ r, r = l[j] := ⟨_, rfl⟩
        have hst : l.all smallR = (smallR r && (l.drop (j + 1)).all smallR) := by rw [HA.out, List.drop_eq_getElem_cons hlt, ← hr]; rfl
        have hbr := HF.out.2 r (by rw [hr]; exact List.getElem_mem hlt)
        rw [← hr] at c0 c1 c2
        have HST := Lib.hid hst
        have s1 := size_arr r.key
        have s2 := size_arr r.val
        obtain ⟨k, v, p⟩ := r
        simp only at c0 c1 c2 hbr s1 s2
        unfold maxLen at hbr
        obtain ⟨hb1, hb2⟩ := hbr
        clear hr hst
        by_cases h1 : k.length ≤ 300
        · by_cases h2 : v.length ≤ 300
          · go_wp2_with fail
            go_round
            case rel => exact ⟨j + 1, by omega, by go_num, by rw [HST.out]; simp [smallR, h1, h2]⟩
            case measure => simp [intOf]; omega
          · have h2' : 300 < v.length := by omega
            go_wp2_with fail
            go_ret
            exact OkAt.of (by rw [HS.out, HST.out]; simp [smallR]; omega) BX.out
        · have h1' : 300 < k.length := by omega
          go_wp2_with fail
          go_ret
          exact OkAt.of (by rw [HS.out, HST.out]; simp [smallR]; omega) BX.out
      · obtain rfl : j = l.length := by omega
        go_wp2_with fail
        go_ret
        exact OkAt.of (by rw [HS.out, HA.out, List.drop_length]; rfl) BX.out
  · have hs : smallN l = false := by rw [smallN, decide_eq_false h200, Bool.false_and]
    have HS := Lib.hid hs
    have h200' : 200 < l.length := by omega
    clear hb0 WX hl hf hs
    go_enter Try.func10, Try.ntmps10
    go_wp2_with fail
    go_ret
    exact OkAt.of HS.out.symm BX.out

set_option maxHeartbeats 1000000 in
theorem rsize_node (leaf : Bool) (l : List Rw) (A : Option Addr) (c B : Nat) (w : World) (ht : RowsAt w B l A c) (hB : B ≤ w.heap.size) (hf : Few l) :
    Calls Try.prog 13 #[.agg #[.bool leaf, .slice A l.length c]] w fun e w' => SizeAt w w' e (sizeN leaf l) := by
  obtain ⟨hlc, hcm, hl⟩ := ht
  have hll := hf.1
  have hb0 := (Below.refl w.heap.size w).alloc (Nat.le_refl _) (.cells #[.bool leaf, .slice A l.length c] 26)
  have BX := Lib.hid hb0
  have HL := Lib.hid (hl.below (hb0.mono hB))
  have HF := Lib.hid hf
  unfold maxLen at hcm
  clear hb0 hl hf
  go_enter Try.func13, Try.ntmps13
  go_wp2_with fail
  obtain ⟨W, hW⟩ : ∃ W, W = w.alloc (.cells #[.bool leaf, .slice A l.length c] 26) := ⟨_, rfl⟩
  have x1 : W.cell? ⟨w.heap.size, 1, none⟩ = some (.slice A l.length c) := by rw [hW]; exact (Whole.new w _ _).cell 1
  have x0 : W.cell? ⟨w.heap.size, 0, none⟩ = some (.bool leaf) := by rw [hW]; exact (Whole.new w _ _).cell 0
  rw [← hW] at BX HL ⊢
  clear hW
  go_loop [3, 4] (fun s i => ∃ j n : Nat, j ≤ l.length ∧ i = .int .i64 j ∧ s = .int .i64 n ∧ 3 ≤ n ∧ n ≤ 3 + j * 2000005 ∧ sizeN leaf (l.take j) = n) (fun _ i => l.length - (intOf i).toNat)
  case atStart => exact ⟨0, 3, Nat.zero_le _, rfl, rfl, by omega, by omega, rfl⟩
  case round =>
    obtain ⟨j, n, hj, rfl, rfl, hn3, hn, hsn⟩ := hrel
    have HN := Lib.hid hsn
    clear hsn
    by_cases hlt : j < l.length
    · obtain ⟨b, o, rfl, hb, c0, c1, c2⟩ := lies_rw HL.out j hlt
      obtain ⟨r, hr⟩ : ∃ r, r = l[j] := ⟨_, rfl⟩
      have hrk := HF.out.at j hlt
      have hst := sizeN_take leaf l j hlt
      rw [← hr] at c0 c1 c2 hrk hst
      rw [HN.out] at hst
      have HST := Lib.hid hst
      have s1 := size_arr r.key
      have s2 := size_arr r.val
      obtain ⟨k, v, p⟩ := r
      simp only at c0 c1 c2 hrk s1 s2
      obtain ⟨hk, hv⟩ := hrk
      clear hr hst
      cases leaf with
      | true =>
        have HX : Hid (rowN true ⟨k, v, p⟩ = 2 + k.length + v.length) := Lib.hid rfl
        go_wp2_with fail
        go_round
        case rel => exact ⟨j + 1, n + (2 + k.length + v.length), by omega, by go_num, by go_num, by omega, by omega, by rw [HST.out, HX.out]⟩
        case measure => simp [intOf]; omega
      | false =>
        have HX : Hid (rowN false ⟨k, v, p⟩ = 5 + k.length) := Lib.hid rfl
        go_wp2_with fail
        go_round
        case rel => exact ⟨j + 1, n + (5 + k.length), by omega, by go_num, by go_num, by omega, by omega, by rw [HST.out, HX.out]⟩
        case measure => simp [intOf]; omega
    · obtain rfl : j = l.length := by omega
      go_wp2_with fail
      go_ret
      have e : sizeN leaf l = n := by have := HN.out; rwa [List.take_length] at this
      rw [e]
      exact ⟨rfl, BX.out⟩
end Go.Proofs.Ytdjkkppefgppmaa
