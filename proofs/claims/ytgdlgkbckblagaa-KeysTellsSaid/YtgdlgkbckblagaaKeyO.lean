/- Layer 12: a key that may be, of one. -/
import Derived.Test.YtgdlgkbckblagaaKeyN
import Derived.Deep.DeepCutAuto
namespace Go.Proofs.Ytgdlgkbckblagaa
open Go.RowKit
set_option maxRecDepth 100000
set_option linter.unusedSimpArgs false
set_option linter.unusedVariables false

theorem cut_list12 (l : List UInt8) (k : Nat) : (⟨l.toArray⟩ : ByteArray).extract 0 k = ⟨(l.take k).toArray⟩ := by
  apply ByteArray.ext
  simp [ByteArray.data_extract]
theorem put_front (c : UInt8) (l : List UInt8) : (⟨#[c]⟩ : ByteArray) ++ ⟨l.toArray⟩ = ⟨(c :: l).toArray⟩ := by
  apply ByteArray.ext
  simp [ByteArray.data_append]
def tmq (k : Int) : Nat := ((k.tmod 5 + 5).tmod 5).toNat
def tmA (k : Int) (A : List UInt8) : List UInt8 := if tmq k = 3 then [] else 97 :: A.take 29
def tmB (k : Int) (B : List UInt8) : List UInt8 := if tmq k = 2 then 98 :: B.take 29 else []
def tmC (k : Int) (C : List UInt8) : List UInt8 := if tmq k = 2 then C.take 60 else []
def tmI (k : Int) (id : Nat) : Nat := if 3 ≤ tmq k then max id 1 else 0
theorem tmq_is (k : Int) : tmq k < 5 ∧ (k.tmod 5 + 5).tmod 5 = (tmq k : Int) ∧ -5 < k.tmod 5 ∧ k.tmod 5 < 5 := by
  have h1 : -5 < k.tmod 5 := by
    have := Int.lt_tmod_of_pos k (show (0 : Int) < 5 by decide)
    omega
  have h2 : k.tmod 5 < 5 := Int.tmod_lt_of_pos k (by decide)
  have h3 : 0 ≤ (k.tmod 5 + 5).tmod 5 := Int.tmod_nonneg 5 (by omega)
  have h4 : (k.tmod 5 + 5).tmod 5 < 5 := Int.tmod_lt_of_pos _ (by decide)
  unfold tmq
  omega
theorem ktame_end (w W : World) (R : Array Value) (hg : Whole W (w.heap.size + 1) 28 R) (hb : Below w.heap.size w W) (hs : R.size = 5) (tmps : Array Value) (ds) (h2 : tmps.getD 2 undef = .pointer (some ⟨w.heap.size + 1, 0, none⟩)) (V : Value) (hV : .agg R = V) (hd : ds = []) :
    bodyPost Try.prog Try.f14 (fun e w' => e = .returned V ∧ Below w.heap.size w w') .ret { tmps := tmps, defers := ds } W := by
  refine bodyPost_ret (v := .agg R) ?_ hd ⟨by rw [hV], hb⟩
  have hres : Try.f14.results = #[.cell 2 28] := rfl
  simp only [results, hres]
  have h2' : tmps[2]?.getD undef = .pointer (some ⟨w.heap.size + 1, 0, none⟩) := by simpa using h2
  simp [Sem.run_bind, Result.andThen, h2', asAddr, load_key _ _ R hg hs]
theorem three_alloc (w : World) (K0 R K3 : Array Value) : Whole (((w.alloc (.cells K0 28)).alloc (.cells R 28)).alloc (.cells K3 28)) (w.heap.size + 1) 28 R ∧ Below w.heap.size w (((w.alloc (.cells K0 28)).alloc (.cells R 28)).alloc (.cells K3 28)) := by
  have h := Whole.new (w.alloc (.cells K0 28)) 28 R
  rw [show (w.alloc (.cells K0 28)).heap.size = w.heap.size + 1 by simp] at h
  exact ⟨h.alloc _, (((Below.refl _ w).alloc (Nat.le_refl _) _).alloc (by simp) _).alloc (by simp; omega) _⟩
theorem three_drew (w : World) (K0 R K3 : Array Value) : Whole (((w.alloc (.cells K0 28)).alloc (.cells R 28)).alloc (.cells K3 28)).drew (w.heap.size + 1) 28 R ∧ Below w.heap.size w (((w.alloc (.cells K0 28)).alloc (.cells R 28)).alloc (.cells K3 28)).drew :=
  ⟨(three_alloc w K0 R K3).1, (three_alloc w K0 R K3).2.drew⟩
set_option maxHeartbeats 4000000 in
theorem ktame_any (k : Int) (A B C : List UInt8) (id : Nat) (w : World) (hA : A.length ≤ maxLen) (hB : B.length ≤ maxLen) (hC : C.length ≤ maxLen) :
    Calls Try.prog 14 #[kyV k A B C id] w fun e w' => e = .returned (kyV (tmq k + 1 : Nat) (tmA k A) (tmB k B) (tmC k C) (tmI k id)) ∧ Below w.heap.size w w' := by
  obtain ⟨h1, h2, h3, h4⟩ := tmq_is k
  obtain ⟨q, hq⟩ : ∃ q, q = tmq k := ⟨_, rfl⟩
  have sA := key_size A
  have sB := key_size B
  have sC := key_size C
  obtain ⟨TA, eA⟩ : ∃ T, T = A.take 29 := ⟨_, rfl⟩
  obtain ⟨TB, eB⟩ : ∃ T, T = B.take 29 := ⟨_, rfl⟩
  obtain ⟨TC, eC⟩ : ∃ T, T = C.take 60 := ⟨_, rfl⟩
  have xA : (⟨A.toArray⟩ : ByteArray).extract 0 29 = ⟨TA.toArray⟩ := by rw [eA]; exact cut_list12 _ _
  have xB : (⟨B.toArray⟩ : ByteArray).extract 0 29 = ⟨TB.toArray⟩ := by rw [eB]; exact cut_list12 _ _
  have xC : (⟨C.toArray⟩ : ByteArray).extract 0 60 = ⟨TC.toArray⟩ := by rw [eC]; exact cut_list12 _ _
  have yA : (⟨A.toArray⟩ : ByteArray).extract 0 A.length = ⟨A.toArray⟩ := by rw [cut_list12, List.take_length]
  have yB : (⟨B.toArray⟩ : ByteArray).extract 0 B.length = ⟨B.toArray⟩ := by rw [cut_list12, List.take_length]
  have yC : (⟨C.toArray⟩ : ByteArray).extract 0 C.length = ⟨C.toArray⟩ := by rw [cut_list12, List.take_length]
  have pA := put_front 97 TA
  have pB := put_front 98 TB
  have pA' := put_front 97 A
  have pB' := put_front 98 B
  have tA : Hid (A.length ≤ 29 → TA = A) := Lib.hid (fun h => by rw [eA, List.take_of_length_le h])
  have tB : Hid (B.length ≤ 29 → TB = B) := Lib.hid (fun h => by rw [eB, List.take_of_length_le h])
  have tC : Hid (C.length ≤ 60 → TC = C) := Lib.hid (fun h => by rw [eC, List.take_of_length_le h])
  have EB : Hid ((⟨B.toArray⟩ : ByteArray).extract 0 (if (29 : Int) < (B.length : Int) then 29 else (B.length : Int)).toNat = ⟨TB.toArray⟩) := Lib.hid (by
    by_cases h : (29 : Int) < (B.length : Int)
    · rw [if_pos h]; exact xB
    · rw [if_neg h, Int.toNat_natCast, yB, tB.out (by omega)])
  have EC : Hid ((⟨C.toArray⟩ : ByteArray).extract 0 (if (60 : Int) < (C.length : Int) then 60 else (C.length : Int)).toNat = ⟨TC.toArray⟩) := Lib.hid (by
    by_cases h : (60 : Int) < (C.length : Int)
    · rw [if_pos h]; exact xC
    · rw [if_neg h, Int.toNat_natCast, yC, tC.out (by omega)])
  have zA : TA.length ≤ 29 := by rw [eA]; exact List.length_take_le _ _
  have zB : TB.length ≤ 29 := by rw [eB]; exact List.length_take_le _ _
  have szA := key_size TA
  have szB := key_size TB
  have FIN : Hid (kyV (tmq k + 1 : Nat) (tmA k A) (tmB k B) (tmC k C) (tmI k id) = kyV (q + 1 : Nat) (if q = 3 then [] else 97 :: TA) (if q = 2 then 98 :: TB else []) (if q = 2 then TC else []) (if 3 ≤ q then max id 1 else 0)) := Lib.hid (by rw [eA, eB, eC, hq]; rfl)
  rw [← hq] at h1 h2
  rw [FIN.out]
  unfold maxLen at hA hB hC
  clear hq eA eB eC FIN
  have wr1 : IntKind.i64.wrap (k.tmod 5 + 5) = k.tmod 5 + 5 := IntWalk.i64_in _ (by omega)
  obtain ⟨V, hV⟩ : ∃ V, V = kyV (q + 1 : Nat) (if q = 3 then [] else 97 :: TA) (if q = 2 then 98 :: TB else []) (if q = 2 then TC else []) (if 3 ≤ q then max id 1 else 0) := ⟨_, rfl⟩
  rw [← hV]
  have HV := Lib.hid hV
  clear hV
  unfold kyV
  rcases (show q = 0 ∨ q = 1 ∨ q = 2 ∨ q = 3 ∨ q = 4 by omega) with rfl | rfl | rfl | rfl | rfl
  · go_enter Try.func14, Try.ntmps14
    go_wp2_with fail
    all_goals refine ktame_end w _ _ (three_alloc w _ _ _).1 (three_alloc w _ _ _).2 rfl _ _ rfl V ?_ rfl
    all_goals rw [HV.out]
    · rfl
    · rw [tA.out (by omega)]; rfl
  · go_enter Try.func14, Try.ntmps14
    go_wp2_with fail
    all_goals refine ktame_end w _ _ (three_alloc w _ _ _).1 (three_alloc w _ _ _).2 rfl _ _ rfl V ?_ rfl
    all_goals rw [HV.out]
    · rfl
    · rw [tA.out (by omega)]; rfl
  · go_enter Try.func14, Try.ntmps14
    go_wp2_with fail
    all_goals go_region
    all_goals rw [EB.out, EC.out, pB]
    all_goals go_wp2_with fail
    all_goals refine ktame_end w _ _ (three_drew w _ _ _).1 (three_drew w _ _ _).2 rfl _ _ rfl V ?_ rfl
    all_goals rw [HV.out]
    all_goals first | rfl | (rw [tA.out (by omega)]; rfl)
  · go_enter Try.func14, Try.ntmps14
    go_wp2_with fail
    all_goals refine ktame_end w _ _ (three_alloc w _ _ _).1 (three_alloc w _ _ _).2 rfl _ _ rfl V ?_ rfl
    all_goals rw [HV.out]
    · rw [show max id 1 = 1 by omega]; rfl
    · rw [show max id 1 = id by omega]; rfl
  · go_enter Try.func14, Try.ntmps14
    go_wp2_with fail
    all_goals refine ktame_end w _ _ (three_alloc w _ _ _).1 (three_alloc w _ _ _).2 rfl _ _ rfl V ?_ rfl
    all_goals rw [HV.out]
    all_goals (try rw [tA.out (by omega)])
    all_goals first | (rw [show max id 1 = 1 by omega]; rfl) | (rw [show max id 1 = id by omega]; rfl)
end Go.Proofs.Ytgdlgkbckblagaa
