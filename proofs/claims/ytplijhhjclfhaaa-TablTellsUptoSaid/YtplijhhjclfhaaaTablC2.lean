/- Contracts of package tabl: a field that may be or not. -/
import Derived.Test.YtplijhhjclfhaaaTablC
import Derived.Test.YtplijhhjclfhaaaTablM
namespace Go.Proofs.Ytplijhhjclfhaaa
open Go.RowKit

theorem size_none (nm s : List UInt8) (k : UInt8) (n : Int) (t : List Fld) (A : Option Addr) (c : Nat) (w : World) (hn : ¬ (1 ≤ nm.length ∧ nm.length ≤ 128)) (hm : nm.length ≤ 9223372036854775807) :
    Calls Try.prog 45 #[.agg #[.string ⟨nm.toArray⟩, .int .u8 (k.toNat : Int), .int .i64 n, .string ⟨s.toArray⟩, .slice A t.length c]] w (SizeIs (.mk nm k n s t) w) := by
  have hno : false = mayB (.mk nm k n s t) := by
    unfold mayB
    rw [show decide (1 ≤ (Fld.mk nm k n s t).name.length ∧ (Fld.mk nm k n s t).name.length ≤ 128) = false from decide_eq_false hn]
    rfl
  have HN := Lib.hid hno
  clear hno
  cases nm with
  | nil =>
    go_enter Try.func45, Try.ntmps45
    go_wp2_with fail
    go_ret2
    exact SizeIs.of 0 rfl HN.out (fun h => by cases h) (Nat.zero_le _) (below_drewN ((Below.refl _ w).alloc (Nat.le_refl _) _) 0)
  | cons x nm =>
    obtain ⟨m, hM⟩ : ∃ m, m = x :: nm := ⟨_, rfl⟩
    rw [← hM] at hn HN hm ⊢
    have h0 : m.isEmpty = false := by rw [hM]; rfl
    have h1 : 128 < (m.length : Int) := by
      have : 1 ≤ m.length := by rw [hM]; simp
      omega
    clear hn hM
    go_enter Try.func45, Try.ntmps45
    go_wp2_with fail
    go_ret2
    exact SizeIs.of 0 rfl HN.out (fun h => by cases h) (Nat.zero_le _) (below_drewN ((Below.refl _ w).alloc (Nat.le_refl _) _) 0)
theorem size_any (f : Fld) (A : Option Addr) (c : Nat) (w : World) (hf : Held f) (ht : f.t.length ≤ maxLen) :
    Calls Try.prog 45 #[aggF (.slice A f.t.length c) f] w (SizeIs f w) := by
  obtain ⟨nm, k, n, s, t⟩ := f
  obtain ⟨h1, h2, hs⟩ := hf
  simp only [Fld.name, Fld.n, Fld.s, Fld.t] at h1 h2 hs ht
  unfold maxLen at ht
  by_cases hn : 1 ≤ nm.length ∧ nm.length ≤ 128
  · exact size_some nm s k n t A c w (by cases nm <;> simp_all) (by omega) hs (by omega) (Lib.hid h1)
  · exact size_none nm s k n t A c w hn (by omega)
end Go.Proofs.Ytplijhhjclfhaaa
