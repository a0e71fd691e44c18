/- Contracts of package node: sizes of rows and of nodes, what a row may be. -/
import Derived.Test.YtdjkkppefgppmaaNodeM
import Derived.WalkLawsBesides
import Derived.Outline
namespace Go.Proofs.Ytdjkkppefgppmaa
open Go.RowKit
set_option maxRecDepth 100000
set_option linter.unusedSimpArgs false
set_option linter.unusedVariables false

theorem rowSize_any (r : Rw) (leaf : Bool) (w : World) (hk : r.key.length ≤ 1000000) (hv : r.val.length ≤ 1000000) :
    Calls Try.prog 23 #[.agg #[.string ⟨r.key.toArray⟩, .string ⟨r.val.toArray⟩, .int .i64 r.page], .bool leaf] w fun e w' => e = .returned (.int .i64 (rowN leaf r)) ∧ Below w.heap.size w w' := by
  obtain ⟨k, v, p⟩ := r
  simp only at hk hv ⊢
  have s1 := size_arr k
  have s2 := size_arr v
  have D : Hid (∀ w', Below w.heap.size w w' → Ending.returned (.int .i64 (rowN leaf ⟨k, v, p⟩)) = .returned (.int .i64 (rowN leaf ⟨k, v, p⟩)) ∧ Below w.heap.size w w') := fun _ h => ⟨rfl, h⟩
  have b1 := (Below.refl w.heap.size w).alloc (Nat.le_refl _) (.cells #[.string ⟨k.toArray⟩, .string ⟨v.toArray⟩, .int .i64 p] 23)
  have BX := Lib.hid b1
  clear b1
  cases leaf with
  | true =>
    go_enter Try.func23, Try.ntmps23
    go_wp2_with fail
    go_ret
    refine ⟨?_, BX.out⟩
    simp [rowN]
    omega
  | false =>
    go_enter Try.func23, Try.ntmps23
    go_wp2_with fail
    go_ret
    refine ⟨?_, BX.out⟩
    simp [rowN]
    omega

theorem fits_any (r : Rw) (leaf : Bool) (w : World) (hk : r.key.length ≤ 1000000) (hv : r.val.length ≤ 1000000) :
    Calls Try.prog 22 #[.agg #[.string ⟨r.key.toArray⟩, .string ⟨r.val.toArray⟩, .int .i64 r.page], .bool leaf] w fun e w' => e = .returned (.bool (fitR leaf r)) ∧ Below w.heap.size w w' := by
  obtain ⟨k, v, p⟩ := r
  simp only at hk hv ⊢
  have s1 := size_arr k
  have s2 := size_arr v
  have b1 := (Below.refl w.heap.size w).alloc (Nat.le_refl _) (.cells #[.string ⟨k.toArray⟩, .string ⟨v.toArray⟩, .int .i64 p] 23)
  have BX := Lib.hid b1
  clear b1
  have D : ∀ (b : Bool), fitR leaf ⟨k, v, p⟩ = b → Ending.returned (.bool b) = .returned (.bool (fitR leaf ⟨k, v, p⟩)) := by rintro b rfl; rfl
  have DX := Lib.hid D
  clear D
  by_cases h1 : k.length ≤ 130
  · cases leaf with
    | true =>
      by_cases h2 : v.length ≤ 20
      · by_cases h3 : p = 0
        · subst h3
          go_enter Try.func22, Try.ntmps22
          go_wp2_with fail
          go_ret
          exact ⟨DX.out _ (by simp [fitR, h1, h2]), BX.out⟩
        · have h3' : (p == 0) = false := by simpa using h3
          go_enter Try.func22, Try.ntmps22
          go_wp2_with fail
          go_ret
          exact ⟨DX.out _ (by simp [fitR, h1, h2, h3]), BX.out⟩
      · go_enter Try.func22, Try.ntmps22
        go_wp2_with fail
        go_ret
        exact ⟨DX.out _ (by simp [fitR, h1, h2]), BX.out⟩
    | false =>
      rcases v with _ | ⟨c, v⟩
      · by_cases h2 : 2 ≤ p
        · by_cases h3 : p ≤ 4294967295
          · go_enter Try.func22, Try.ntmps22
            go_wp2_with fail
            go_ret
            exact ⟨DX.out _ (by simp [fitR, h1, h2, h3]), BX.out⟩
          · go_enter Try.func22, Try.ntmps22
            go_wp2_with fail
            go_ret
            exact ⟨DX.out _ (by simp [fitR, h1, h2, h3]), BX.out⟩
        · go_enter Try.func22, Try.ntmps22
          go_wp2_with fail
          go_ret
          exact ⟨DX.out _ (by have h2' : ¬ 2 ≤ p := (by omega); simp [fitR, h1, h2']), BX.out⟩
      · go_enter Try.func22, Try.ntmps22
        go_wp2_with fail
        go_ret
        exact ⟨DX.out _ (by simp [fitR, h1]), BX.out⟩
  · go_enter Try.func22, Try.ntmps22
    go_wp2_with fail
    go_ret
    exact ⟨DX.out _ (by simp [fitR, h1]), BX.out⟩

/-- the box of a node -/
def BoxN (w : World) (g : Nat) (leaf : Bool) (A : Option Addr) (n c : Nat) : Prop := Whole w g 26 #[.bool leaf, .slice A n c]
def SizeAt (w w' : World) (e : Ending) (n : Nat) : Prop := e = .returned (.int .i64 n) ∧ Below w.heap.size w w'

theorem size_any (leaf : Bool) (l : List Rw) (A : Option Addr) (c B : Nat) (w : World) (ht : RowsAt w B l A c) (hB : B ≤ w.heap.size) (hf : Few l) :
    Calls Try.prog 12 #[.agg #[.bool leaf, .slice A l.length c]] w fun e w' => SizeAt w w' e (sizeN leaf l) := by
  obtain ⟨hlc, hcm, hl⟩ := ht
  have hll := hf.1
  have hb0 := (Below.refl w.heap.size w).alloc (Nat.le_refl _) (.cells #[.bool leaf, .slice A l.length c] 26)
  have hw0 := Whole.new w 26 #[.bool leaf, .slice A l.length c]
  have BX := Lib.hid hb0
  have WX := Lib.hid hw0
  have HL := Lib.hid hl
  have HF := Lib.hid hf
  have hsz := sizeN_le leaf l 1000000 hf.2
  have HS : Hid (sizeN leaf l ≤ 3 + l.length * (2 * 1000000 + 5)) := hsz
  unfold maxLen at hcm
  clear hb0 hw0 hl hf hsz
  go_enter Try.func12, Try.ntmps12
  go_wp2_with fail
  go_loopw [3, 9] (fun s i wr => ∃ j n : Nat, j ≤ l.length ∧ i = .int .i64 j ∧ s = .int .i64 n ∧ n ≤ 3 + j * 2000005 ∧ sizeN leaf (l.take j) = n ∧ Below w.heap.size w wr ∧ w.heap.size < wr.heap.size ∧ BoxN wr w.heap.size leaf A l.length c) (fun _ i _ => l.length - (intOf i).toNat)
  case atStart => exact ⟨0, 3, Nat.zero_le _, rfl, rfl, by omega, rfl, BX.out, by simp, WX.out⟩
  case round =>
    obtain ⟨j, n, hj, rfl, rfl, hn, hsn, hbel, hz, hbox⟩ := hrel
    have HB := Lib.hid hbel
    have HN := Lib.hid hsn
    have HX := Lib.hid hbox
    have x0 : wr.cell? ⟨w.heap.size, 0, none⟩ = some (.bool leaf) := hbox.cell 0
    clear hbel hsn hbox
    by_cases hlt : j < l.length
    · obtain ⟨b, o, rfl, hb, c0, c1, c2⟩ := lies_rw (HL.out.below (HB.out.mono hB)) j hlt
      obtain ⟨r, hr⟩ : ∃ r, r = l[j] := ⟨_, rfl⟩
      have hrk := HF.out.at j hlt
      have hst := sizeN_take leaf l j hlt
      rw [← hr] at c0 c1 c2 hrk hst
      rw [HN.out] at hst
      have HST := Lib.hid hst
      obtain ⟨hk, hv⟩ := hrk
      have hle := rowN_le leaf r 1000000 ⟨hk, hv⟩
      have hb1 := (Below.refl wr.heap.size wr).alloc (Nat.le_refl _) (.cells #[.string ⟨r.key.toArray⟩, .string ⟨r.val.toArray⟩, .int .i64 r.page] 23)
      have HB1 := Lib.hid hb1
      clear hr hst hb1
      go_wp2_with fail
      refine (rowSize_any r leaf _ hk hv).mono ?_
      rintro e w1 ⟨rfl, hb2⟩
      have hb3 := HB1.out.trans (hb2.mono (by simp))
      have HB3 := Lib.hid (HB.out.trans (hb3.mono (by omega)))
      have HX3 := Lib.hid (HX.out.below hb3 hz)
      have hz3 : w.heap.size < w1.heap.size := by have := hb3.size; omega
      generalize rowN leaf r = m at *
      clear hb2 hb3 x0 c0 c1 c2
      go_wp2_with fail
      go_roundw
      case rel => exact ⟨j + 1, n + m, by omega, by go_num, by go_num, by omega, HST.out, HB3.out, hz3, HX3.out⟩
      case measure => simp [intOf]; omega
    · obtain rfl : j = l.length := by omega
      go_wp2_with fail
      go_ret
      have e : sizeN leaf l = n := by have := HN.out; rwa [List.take_length] at this
      rw [e]
      exact ⟨rfl, HB.out⟩
end Go.Proofs.Ytdjkkppefgppmaa
