/- KeysBack: a key is read as it was told, and no other key has its text; a message, too; for any two keys that may be, any message. -/
import Derived.Test.YtgdlgkbckblagaaRows
import Derived.Test.YtgdlgkbckblagaaLawKBack
import Derived.Test.YtgdlgkbckblagaaKeyU
import Derived.WalkKit
import Derived.ProofKit
import Derived.OpenShut
import Derived.ShutString
import Derived.ChangeOld
import Derived.Below
namespace Go.Proofs.Ytgdlgkbckblagaa.keysBack
open Go.ChangeShapes Go.WideShapes Go.ChangeAt Go.RowKit
open Go.ChangeMaps (open_string shut_string)
set_option linter.unusedVariables false

theorem own : ownKnob Try.prog.godebug = none := by kernel_rfl
theorem laidOut : laidOutB Try.prog = true := by kernel_rfl

set_option maxRecDepth 100000 in
theorem lifted (os : Os) (started : os.Started) (H : Type) (enc : TypeId × Value → H) :
    ReturnsInHanded {} Try.checked os 5 .any (Rows.keysBackSpec.pre6 enc Try.prog Try.f5 Rows.keysBackRow.domain false) (Rows.keysBackSpec.post enc Try.prog Try.f5 false true false false) := by
  refine returnsInHanded_of_change (C := Try.checked) own started (by kernel_rfl) Try.func5
    (ChangeSpec.witness6 (enc := enc) (C := Try.checked) false ⟨#[], #[.agg #[.int .i64 0, .string ⟨#[]⟩, .string ⟨#[]⟩, .string ⟨#[]⟩, .int .u64 0], .agg #[.int .i64 0, .string ⟨#[]⟩, .string ⟨#[]⟩, .string ⟨#[]⟩, .int .u64 0], .agg #[.string ⟨#[]⟩, .string ⟨#[]⟩, .string ⟨#[]⟩, .int .i64 0, .slice none 0 0]], []⟩ 8 (by kernel_rfl) (by kernel_rfl) (by kernel_rfl) (by kernel_rfl)) ?_
  intro W base args ds gs before hval0 hW hcnd _
  have hval : ∀ (j : Nat) t v, Try.f5.params[j]? = some t → args[j]? = some v → Value.okWide Try.prog W .any base t v := hval0
  have hW' := hW
  obtain ⟨p, q, hA0, hV, rfl, hfz, hnd⟩ := hW
  have hA : DataW.TrodAll enc Try.prog W 0 (fun _ => true) true Try.f5.params.toList args.toList ds p := hA0
  rw [Try.params5] at hA hval
  obtain ⟨v0, vs0, d0, ds0, p0, q0, hargs, rfl, rfl, h0, r0⟩ := trodAll_cons hA
  obtain ⟨v1, vs1, d1, ds1, p1, q1, rfl, rfl, rfl, h1, r1⟩ := trodAll_cons r0
  obtain ⟨v2, vs2, d2, ds2, p2, q2, rfl, rfl, rfl, h2, r2⟩ := trodAll_cons r1
  obtain ⟨rfl, rfl, rfl⟩ := trodAll_nil r2
  obtain rfl : args = #[v0, v1, v2] := by cases args; simp_all
  obtain ⟨rfl, rfl⟩ := trodVars_none hV
  have k0 := h0
  have lt0 : ∀ x ∈ p0, x.block < W.heap.size := by obtain ⟨m, hm⟩ := k0; exact DataW.trod_lt m _ _ _ hm
  obtain ⟨cs0, rfl, sz0⟩ := okWide_struct Try.underlying28 (hval 0 28 v0 rfl rfl)
  obtain ⟨k_0, A0, B0, C0, id0, e0, hA0, hB0, hC0, hi0⟩ : ∃ (k : Int) (A B C : List UInt8) (id : Nat), cs0 = #[.int .i64 k, .string ⟨A.toArray⟩, .string ⟨B.toArray⟩, .string ⟨C.toArray⟩, .int .u64 id] ∧ A.length ≤ maxLen ∧ B.length ≤ maxLen ∧ C.length ≤ maxLen ∧ id < 18446744073709551616 := by
    obtain ⟨fuel, hf⟩ := h0
    obtain ⟨k, A, B, C, id, hcs, g1, g2, g3, g4⟩ := open_key hf
    refine ⟨k, A, B, C, id, ?_, g1, g2, g3, g4⟩
    simp [Value.cells] at hcs
    cases cs0; simp_all
  subst e0
  have k1 := h1
  have lt1 : ∀ x ∈ p1, x.block < W.heap.size := by obtain ⟨m, hm⟩ := k1; exact DataW.trod_lt m _ _ _ hm
  obtain ⟨cs1, rfl, sz1⟩ := okWide_struct Try.underlying28 (hval 1 28 v1 rfl rfl)
  obtain ⟨k_1, A1, B1, C1, id1, e1, hA1, hB1, hC1, hi1⟩ : ∃ (k : Int) (A B C : List UInt8) (id : Nat), cs1 = #[.int .i64 k, .string ⟨A.toArray⟩, .string ⟨B.toArray⟩, .string ⟨C.toArray⟩, .int .u64 id] ∧ A.length ≤ maxLen ∧ B.length ≤ maxLen ∧ C.length ≤ maxLen ∧ id < 18446744073709551616 := by
    obtain ⟨fuel, hf⟩ := h1
    obtain ⟨k, A, B, C, id, hcs, g1, g2, g3, g4⟩ := open_key hf
    refine ⟨k, A, B, C, id, ?_, g1, g2, g3, g4⟩
    simp [Value.cells] at hcs
    cases cs1; simp_all
  subst e1
  have k2 := h2
  have lt2 : ∀ x ∈ p2, x.block < W.heap.size := by obtain ⟨m, hm⟩ := k2; exact DataW.trod_lt m _ _ _ hm
  obtain ⟨cs2, rfl, sz2⟩ := okWide_struct Try.underlying32 (hval 2 32 v2 rfl rfl)
  obtain ⟨E2, K2, T2, md2, a2, l2, cap2, e2, hE2, hK2, hT2, c2, m2, w2⟩ : ∃ (E K T : List UInt8) (m : Int) (a : Option Addr) (l : List UInt8) (cap : Nat), cs2 = #[.string ⟨E.toArray⟩, .string ⟨K.toArray⟩, .string ⟨T.toArray⟩, .int .i64 m, .slice a l.length cap] ∧ E.length ≤ maxLen ∧ K.length ≤ maxLen ∧ T.length ≤ maxLen ∧ l.length ≤ cap ∧ cap ≤ maxLen ∧ Lies W W.heap.size a (B8 l) := by
    obtain ⟨fuel, hf⟩ := h2
    obtain ⟨E, K, T, m, a, l, cap, hcs, g1, g2, g3, g4, g5, g6⟩ := open_msg hf
    refine ⟨E, K, T, m, a, l, cap, ?_, g1, g2, g3, g4, g5, g6⟩
    simp [Value.cells] at hcs
    cases cs2; simp_all
  subst e2
  clear hA0 hval0
  refine (kback_law k_0 A0 B0 C0 id0 k_1 A1 B1 C1 id1 E2 K2 T2 md2 a2 cap2 l2 W hA0 hB0 hC0 hA1 hB1 hC1 hi0 hi1 hE2 hK2 hT2 c2 m2 w2).mono fun e W' ⟨he, bel⟩ => ?_
  subst he
  exact ⟨_, rfl, _, _, _, [], _, [], hW', trodAll_mk1 (shut_bool Try.underlying4 _), (trodAll_cons_mk (Below.trod laidOut (by kernel_rfl) (of_decide_eq_true (by kernel_rfl)) k0 bel lt0) (trodAll_cons_mk (Below.trod laidOut (by kernel_rfl) (of_decide_eq_true (by kernel_rfl)) k1 bel lt1) (trodAll_cons_mk (Below.trod laidOut (by kernel_rfl) (of_decide_eq_true (by kernel_rfl)) k2 bel lt2) trodAll_mk0))), rfl, bel.frame _, fun h => by cases h⟩

theorem over : Rows.keysBackRow.holds Try.pinned (OpenSpec.ofChange Rows.keysBackSpec) :=
  OpenClaim.holds_of_wide 5 Try.f5 rfl rfl rfl rfl rfl rfl rfl ⟨rfl, rfl, rfl, rfl, rfl⟩ rfl rfl rfl rfl rfl (by kernel_rfl) Try.func5 (by kernel_rfl)
    (of_decide_eq_true (by kernel_rfl)) (by unfold Func.isWrapper; first | (rw [if_pos (by decide +kernel)]; kernel_rfl) | (rw [if_neg (by decide +kernel)]; exact ⟨rfl, rfl⟩))
    (fun os started H enc _ => lifted os started H enc)

theorem proved : Rows.KeysBackSaid := over
#print axioms proved
end Go.Proofs.Ytgdlgkbckblagaa.keysBack
