/- Contracts of package node: a row's and a node's octets. -/
import Derived.Test.YtdjkkppefgppmaaNodeB
import Derived.Test.YtdjkkppefgppmaaOctsS
import Derived.IntWalk
namespace Go.Proofs.Ytdjkkppefgppmaa
open Go.RowKit
set_option maxRecDepth 100000
set_option linter.unusedSimpArgs false
set_option linter.unusedVariables false

theorem nshort_at (A : Option Addr) (c n : Nat) (l : List UInt8) (B : Nat) (t : List UInt8) (w : World) (hn : n = l.length) (hl : Lies w B A (B8 l)) (hB : B ≤ w.heap.size) (hs : l.length + 264 ≤ 140737488355328) (h255 : t.length ≤ 255) :
    Calls Try.prog 38 #[.slice A n c, .string ⟨t.toArray⟩] w (NewOctsOk w.heap.size (l ++ be 1 t.length ++ t) true w) := by
  subst hn
  have e : (⟨t.toArray⟩ : ByteArray).size = t.length := by simp [ByteArray.size]
  have h := short_any A c l B ⟨t.toArray⟩ w hl hB hs (by rw [e]; exact h255)
  rw [e] at h
  exact h
theorem nint_at (A : Option Addr) (c m : Nat) (l : List UInt8) (B : Nat) (n : Int) (k x : Nat) (xv : Int) (w : World) (hm : m = l.length) (hk : k = wid n) (hx : xv = (x : Int)) (hl : Lies w B A (B8 l)) (hB : B ≤ w.heap.size) (hs : l.length + 8 ≤ 140737488355328) :
    Calls Try.prog 20 #[.slice A m c, .int .i64 n, .int .u64 xv] w (NewOcts w.heap.size (l ++ be k x) w) := by
  subst hm
  subst hk
  subst hx
  exact int_any A c l B n x w hl hB hs
theorem nu64 (k : Nat) (h : k < 18446744073709551616) : IntKind.u64.wrap (k : Int) = (k : Int) := IntWalk.u64_in _ ⟨by omega, by omega⟩

theorem row_any (r : Rw) (leaf : Bool) (w : World) (hf : fitR leaf r = true) :
    Calls Try.prog 21 #[.agg #[.string ⟨r.key.toArray⟩, .string ⟨r.val.toArray⟩, .int .i64 r.page], .bool leaf] w (NewOcts w.heap.size (rowB leaf r) w) := by
  obtain ⟨k, v, p⟩ := r
  simp only
  have b1 := (Below.refl w.heap.size w).alloc (Nat.le_refl _) (.cells #[.string ⟨k.toArray⟩, .string ⟨v.toArray⟩, .int .i64 p] 23)
  have w1 := Whole.new w 23 #[.string ⟨k.toArray⟩, .string ⟨v.toArray⟩, .int .i64 p]
  have BX := Lib.hid b1
  have WX := Lib.hid w1
  clear b1 w1
  unfold fitR at hf
  cases leaf with
  | true =>
    simp only [if_true, Bool.and_eq_true, decide_eq_true_eq] at hf
    obtain ⟨h1, h2, h3⟩ := hf
    subst h3
    go_enter Try.func21, Try.ntmps21
    go_wp2_with fail
    refine (nshort_at none 0 0 [] 0 k _ rfl (Lies.empty _ _ _) (Nat.zero_le _) (by simp) (by omega)).mono ?_
    rintro e w2 ⟨V, rfl, hown, hb⟩
    obtain ⟨A, c, rfl, hc1, hc2⟩ := own_form hown
    have x2 := WX.out.below hb (by simp)
    have y1 : w2.cell? ⟨w.heap.size, 1, none⟩ = some (.string ⟨v.toArray⟩) := x2.cell 1
    have B2 := Lib.hid (BX.out.trans (hb.mono (by simp)))
    have z2 := hb.size
    rw [List.nil_append] at hown hc1 ⊢
    obtain ⟨L, hL⟩ : ∃ L, L = be 1 k.length ++ k := ⟨_, rfl⟩
    have hLl : L.length ≤ 131 := by rw [hL, List.length_append, be_length]; omega
    rw [← hL] at hown hc1 ⊢
    have L2 := Lib.hid (Lies.own hown (Nat.le_refl _))
    have HL := Lib.hid hL
    clear hown hb x2 hL
    go_wp2_with fail
    refine (nshort_at A c _ L _ v _ rfl L2.out (Nat.le_refl _) (by omega) (by omega)).mono ?_
    rintro e w3 ⟨V3, rfl, hown3, hb3⟩
    have D : Hid (NewOcts w.heap.size (rowB true ⟨k, v, 0⟩) w (.returned V3) w3) := by
      refine ⟨V3, rfl, ?_, B2.out.trans (hb3.mono B2.out.size)⟩
      have e : rowB true ⟨k, v, 0⟩ = L ++ be 1 v.length ++ v := by rw [HL.out]; simp [rowB]
      rw [e]
      exact own_less hown3 B2.out.size
    clear hown3 hb3
    go_wp2_with fail
    go_ret
    exact D.out
  | false =>
    simp only [Bool.false_eq_true, if_false, Bool.and_eq_true, decide_eq_true_eq] at hf
    obtain ⟨h1, h2, h3, h4⟩ := hf
    subst h2
    obtain ⟨q, rfl⟩ : ∃ q : Nat, p = (q : Int) := ⟨p.toNat, by omega⟩
    have hu := nu64 q (by omega)
    have D0 : ∀ (V : Value) (w3 : World), w3.ownsRow w.heap.size 5 1 V (be 1 k.length ++ k ++ be 4 q).length (B8 (be 1 k.length ++ k ++ be 4 q)) → Below w.heap.size w w3 → NewOcts w.heap.size (rowB false ⟨k, [], q⟩) w (.returned V) w3 := by
      intro V w3 a b
      have e : rowB false ⟨k, [], q⟩ = be 1 k.length ++ k ++ be 4 q := by simp [rowB]
      rw [e]
      exact ⟨V, rfl, a, b⟩
    have DX := Lib.hid D0
    clear D0
    go_enter Try.func21, Try.ntmps21
    go_wp2_with fail
    refine (nshort_at none 0 0 [] 0 k _ rfl (Lies.empty _ _ _) (Nat.zero_le _) (by simp) (by omega)).mono ?_
    rintro e w2 ⟨V, rfl, hown, hb⟩
    obtain ⟨A, c, rfl, hc1, hc2⟩ := own_form hown
    have x2 := WX.out.below hb (by simp)
    have y1 : w2.cell? ⟨w.heap.size, 2, none⟩ = some (.int .i64 q) := x2.cell 2
    have B2 := Lib.hid (BX.out.trans (hb.mono (by simp)))
    have z2 := hb.size
    rw [List.nil_append] at hown hc1 ⊢
    obtain ⟨L, hL⟩ : ∃ L, L = be 1 k.length ++ k := ⟨_, rfl⟩
    have hLl : L.length ≤ 131 := by rw [hL, List.length_append, be_length]; omega
    rw [← hL] at hown hc1 ⊢
    have L2 := Lib.hid (Lies.own hown (Nat.le_refl _))
    have HL := Lib.hid hL
    clear hown hb x2 hL
    go_wp2_with fail
    refine (nint_at A c _ L _ 4 4 q _ _ rfl rfl rfl L2.out (Nat.le_refl _) (by omega)).mono ?_
    rintro e w3 ⟨V3, rfl, hown3, hb3⟩
    have D := Lib.hid (DX.out V3 w3 (by have h := own_less hown3 B2.out.size; rwa [HL.out] at h) (B2.out.trans (hb3.mono B2.out.size)))
    clear hown3 hb3
    go_wp2_with fail
    go_ret
    exact D.out
end Go.Proofs.Ytdjkkppefgppmaa
