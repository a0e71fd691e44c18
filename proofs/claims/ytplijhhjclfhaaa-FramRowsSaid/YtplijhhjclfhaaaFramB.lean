/- Contracts of layer 3: what Parse tells, case by case; are two frames the same; the fixed call that every statement of layer 3 asks. -/
import Derived.Test.YtplijhhjclfhaaaFramA
namespace Go.Proofs.Ytplijhhjclfhaaa
open Go.RowKit

theorem fparse_more (A : Option Addr) (c n : Nat) (b : List UInt8) (B : Nat) (w : World) (hn : n = b.length) (hl : Lies w B A (B8 b)) (hB : B ≤ w.heap.size) (hm : b.length ≤ c) (hc : c ≤ maxLen) (h : frameP b = .more) :
    Calls Try.prog 19 #[.slice A n c] w fun e w' => e = .returned (.tuple #[.agg #[.int .i64 0, .int .i64 0, .slice none 0 0], .int .i64 0, .int .i64 2]) ∧ Below w.heap.size w w' := by
  subst hn
  refine (fparse_any A c b B w hl hB hm hc).mono ?_
  rw [h]
  rintro e w' ⟨h1, h2⟩
  exact ⟨h2, h1⟩
theorem fparse_bad (A : Option Addr) (c n : Nat) (b : List UInt8) (B : Nat) (w : World) (hn : n = b.length) (hl : Lies w B A (B8 b)) (hB : B ≤ w.heap.size) (hm : b.length ≤ c) (hc : c ≤ maxLen) (h : frameP b = .bad) :
    Calls Try.prog 19 #[.slice A n c] w fun e w' => e = .returned (.tuple #[.agg #[.int .i64 0, .int .i64 0, .slice none 0 0], .int .i64 0, .int .i64 3]) ∧ Below w.heap.size w w' := by
  subst hn
  refine (fparse_any A c b B w hl hB hm hc).mono ?_
  rw [h]
  rintro e w' ⟨h1, h2⟩
  exact ⟨h2, h1⟩
theorem fparse_ok (A : Option Addr) (c n : Nat) (b : List UInt8) (B : Nat) (w : World) (k ch : Nat) (t : List UInt8) (m : Nat) (hn : n = b.length) (hl : Lies w B A (B8 b)) (hB : B ≤ w.heap.size) (hm : b.length ≤ c) (hc : c ≤ maxLen) (h : frameP b = .ok k ch t) (ht : m = t.length) :
    Calls Try.prog 19 #[.slice A n c] w fun e w' => ∃ A1 c1, e = .returned (.tuple #[.agg #[.int .i64 k, .int .i64 ch, .slice A1 m c1], .int .i64 (m + 8), .int .i64 0]) ∧ m ≤ c1 ∧ c1 ≤ maxLen ∧ Lies w' w'.heap.size A1 (B8 t) ∧ Below w.heap.size w w' := by
  subst hn ht
  refine (fparse_any A c b B w hl hB hm hc).mono ?_
  rw [h]
  rintro e w' ⟨h1, A1, c1, h2, h3, h4, h5⟩
  exact ⟨A1, c1, h2, h3, h4, h5, h1⟩

def SameF (k k' ch ch' : Int) (b b' : List UInt8) : Bool := decide (k = k' ∧ ch = ch' ∧ b = b')
set_option maxRecDepth 100000 in
theorem fsame_any (k k' ch ch' : Int) (A A' : Option Addr) (b b' : List UInt8) (c c' B B' : Nat) (w : World) (hl : Lies w B A (B8 b)) (hl' : Lies w B' A' (B8 b')) (hB : B ≤ w.heap.size) (hB' : B' ≤ w.heap.size) :
    Calls Try.prog 20 #[.agg #[.int .i64 k, .int .i64 ch, .slice A b.length c], .agg #[.int .i64 k', .int .i64 ch', .slice A' b'.length c']] w fun e w' => e = .returned (.bool (SameF k k' ch ch' b b')) ∧ Below w.heap.size w w' := by
  obtain ⟨W, hW⟩ : ∃ W, W = (w.alloc (.cells #[.int .i64 k, .int .i64 ch, .slice A b.length c] 37)).alloc (.cells #[.int .i64 k', .int .i64 ch', .slice A' b'.length c'] 37) := ⟨_, rfl⟩
  have HB0 : Below w.heap.size w W := by rw [hW]; exact ((Below.refl _ _).alloc (Nat.le_refl _) _).alloc (by simp) _
  have cv := run_octets_string (P := Try.prog) 22 9 5 Try.underlying22 Try.underlying5 Try.underlying9 (hl.below (HB0.mono hB)) c
  have cv' := run_octets_string (P := Try.prog) 22 9 5 Try.underlying22 Try.underlying5 Try.underlying9 (hl'.below (HB0.mono hB')) c'
  have HB := Lib.hid HB0
  have HW := Lib.hid hW
  have hs : SameF k k' ch ch' b b' = (k == k' && ch == ch' && b == b') := by
    unfold SameF
    rw [Bool.eq_iff_iff]
    simp [and_assoc]
  obtain ⟨r, hr⟩ : ∃ r, r = SameF k k' ch ch' b b' := ⟨_, rfl⟩
  rw [← hr]
  have HS := Lib.hid (hr.trans hs)
  rw [hW] at cv cv'
  clear HB0 hs hr hW hl hl'
  by_cases hk : k = k'
  · subst hk
    by_cases hc : ch = ch'
    · subst hc
      have D : Hid (r = (b == b')) := Lib.hid (by rw [HS.out]; simp)
      go_enter Try.func20, Try.ntmps20
      go_wp2_with fail
      go_ret
      exact ⟨by rw [D.out]; rfl, by rw [← HW.out]; exact HB.out⟩
    · have D : Hid (r = false) := Lib.hid (by rw [HS.out]; simp [hc])
      go_enter Try.func20, Try.ntmps20
      go_wp2_with fail
      go_ret
      exact ⟨by rw [D.out]; rfl, by rw [← HW.out]; exact HB.out⟩
  · have D : Hid (r = false) := Lib.hid (by rw [HS.out]; simp [hk])
    go_enter Try.func20, Try.ntmps20
    go_wp2_with fail
    go_ret
    exact ⟨by rw [D.out]; rfl, by rw [← HW.out]; exact HB.out⟩
end Go.Proofs.Ytplijhhjclfhaaa
