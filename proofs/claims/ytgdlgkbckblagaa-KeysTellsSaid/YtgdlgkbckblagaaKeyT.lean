/- Contracts of package keys: the text of a key. -/
import Derived.Test.YtgdlgkbckblagaaKeyA
namespace Go.Proofs.Ytgdlgkbckblagaa
open Go.RowKit
set_option maxRecDepth 100000
set_option linter.unusedSimpArgs false
set_option linter.unusedVariables false

/-- a key, as a value -/
def kyV (k : Int) (A B C : List UInt8) (id : Nat) : Value := .agg #[.int .i64 k, .string ⟨A.toArray⟩, .string ⟨B.toArray⟩, .string ⟨C.toArray⟩, .int .u64 id]
def okK (k : Int) (A B C : List UInt8) (id : Nat) : Bool := pkOk k && fitsB A B C id (pkA k) (pkB k) (pkB k) (pkI k)
def txK (k : Int) (A B C : List UInt8) (id : Nat) : List UInt8 :=
  be 1 k.toNat ++ (if pkA k then shortB A else []) ++ (if pkB k then shortB B else []) ++ (if pkB k then shortB C else []) ++ (if pkI k then be 8 id else [])
theorem fits_less {A B C : List UInt8} {id : Nat} {a b c i : Bool} (h : fitsB A B C id a b c i = true) : A.length ≤ 30 ∧ B.length ≤ 30 ∧ C.length ≤ 60 ∧ (A.isEmpty = !a) ∧ (B.isEmpty = !b) ∧ (c = false → C = []) ∧ (decide (id ≠ 0) = i) := by
  unfold fitsB namedB at h
  simp only [Bool.and_eq_true, decide_eq_true_eq, beq_iff_eq, Bool.or_eq_true] at h
  obtain ⟨⟨⟨⟨⟨h1, h2⟩, h3, h4⟩, h5⟩, h6⟩, h7⟩ := h
  refine ⟨h1, h3, h5, by rw [← h2]; simp, by rw [← h4]; simp, fun hc => ?_, h7⟩
  rcases h6 with h6 | h6
  · rw [hc] at h6; cases h6
  · simpa using h6
theorem kint1 (A : Option Addr) (c n : Nat) (l : List UInt8) (B : Nat) (x : Nat) (w : World) (hn : n = l.length) (hl : Lies w B A (B8 l)) (hB : B ≤ w.heap.size) (hs : l.length + 8 ≤ 140737488355328) :
    Calls Try.prog 21 #[.slice A n c, .int .i64 1, .int .u64 x] w (NewOcts w.heap.size (l ++ be 1 x) w) := by
  subst hn
  have h := int_any A c l B 1 x w hl hB hs
  rwa [show wid 1 = 1 from rfl] at h
theorem kint8 (A : Option Addr) (c n : Nat) (l : List UInt8) (B : Nat) (x : Nat) (w : World) (hn : n = l.length) (hl : Lies w B A (B8 l)) (hB : B ≤ w.heap.size) (hs : l.length + 8 ≤ 140737488355328) :
    Calls Try.prog 21 #[.slice A n c, .int .i64 8, .int .u64 x] w (NewOcts w.heap.size (l ++ be 8 x) w) := by
  subst hn
  have h := int_any A c l B 8 x w hl hB hs
  rwa [show wid 8 = 8 from rfl] at h
theorem five12 {w : World} {g : Nat} {t : TypeId} {a0 a1 a2 a3 a4 : Value} (h : Whole w g t #[a0, a1, a2, a3, a4]) : w.cell? ⟨g, 0, none⟩ = some a0 ∧ w.cell? ⟨g, 1, none⟩ = some a1 ∧ w.cell? ⟨g, 2, none⟩ = some a2 ∧ w.cell? ⟨g, 3, none⟩ = some a3 ∧ w.cell? ⟨g, 4, none⟩ = some a4 :=
  ⟨(Whole.cell h 0).trans rfl, (Whole.cell h 1).trans rfl, (Whole.cell h 2).trans rfl, (Whole.cell h 3).trans rfl, (Whole.cell h 4).trans rfl⟩
theorem four12 {w : World} {g : Nat} {t : TypeId} {a0 a1 a2 a3 : Value} (h : Whole w g t #[a0, a1, a2, a3]) : w.cell? ⟨g, 0, none⟩ = some a0 ∧ w.cell? ⟨g, 1, none⟩ = some a1 ∧ w.cell? ⟨g, 2, none⟩ = some a2 ∧ w.cell? ⟨g, 3, none⟩ = some a3 :=
  ⟨(Whole.cell h 0).trans rfl, (Whole.cell h 1).trans rfl, (Whole.cell h 2).trans rfl, (Whole.cell h 3).trans rfl⟩
/-- what Text tells -/
def tellsT (k : Int) (A B C : List UInt8) (id : Nat) (w : World) (e : Ending) (w' : World) : Prop :=
  e = .returned (.tuple #[.string ⟨(if okK k A B C id then txK k A B C id else []).toArray⟩, .bool (okK k A B C id)]) ∧ Below w.heap.size w w'
theorem u64_kind (k : Int) (h : pkOk k = true) : IntKind.u64.wrap k = (k.toNat : Int) ∧ 1 ≤ k ∧ k ≤ 5 := by
  unfold pkOk at h
  simp only [Bool.and_eq_true, decide_eq_true_eq] at h
  exact ⟨by rw [IntWalk.u64_in _ ⟨by omega, by omega⟩]; omega, h.1, h.2⟩
set_option maxHeartbeats 4000000 in
theorem text_any (k : Int) (A B C : List UInt8) (id : Nat) (w : World) (hA : A.length ≤ maxLen) (hB : B.length ≤ maxLen) (hC : C.length ≤ maxLen) :
    Calls Try.prog 8 #[kyV k A B C id] w (tellsT k A B C id w) := by
  have hp := fun w => parts_any k w
  obtain ⟨a, ha⟩ : ∃ a, a = pkA k := ⟨_, rfl⟩
  obtain ⟨b, hb⟩ : ∃ b, b = pkB k := ⟨_, rfl⟩
  obtain ⟨i, hi⟩ : ∃ i, i = pkI k := ⟨_, rfl⟩
  obtain ⟨o, ho⟩ : ∃ o, o = pkOk k := ⟨_, rfl⟩
  have hf := fun w => fits_any k A B C id a b b i w hA hB hC
  obtain ⟨f, hf'⟩ : ∃ f, f = fitsB A B C id a b b i := ⟨_, rfl⟩
  have hK : okK k A B C id = (o && f) := by unfold okK; rw [ho, hf', ha, hb, hi]
  have hT : txK k A B C id = be 1 k.toNat ++ (if a then shortB A else []) ++ (if b then shortB B else []) ++ (if b then shortB C else []) ++ (if i then be 8 id else []) := by unfold txK; rw [ha, hb, hi]
  obtain ⟨T, hT'⟩ : ∃ T, T = txK k A B C id := ⟨_, rfl⟩
  have hu : o = true → _ := fun h => u64_kind k (by rw [← ho]; exact h)
  have hl : f = true → _ := fun h => fits_less (by rw [← hf']; exact h)
  have habi : o = true → (a = true ∧ b = false ∧ i = false) ∨ (a = true ∧ b = true ∧ i = false) ∨ (a = false ∧ b = false ∧ i = true) ∨ (a = true ∧ b = false ∧ i = true) := by
    intro h
    rw [ho] at h
    rw [ha, hb, hi]
    rcases pk_cases k with rfl | rfl | rfl | rfl | rfl | ⟨_, _, _, _, _, e1, _⟩
    · exact .inl ⟨rfl, rfl, rfl⟩
    · exact .inl ⟨rfl, rfl, rfl⟩
    · exact .inr (.inl ⟨rfl, rfl, rfl⟩)
    · exact .inr (.inr (.inl ⟨rfl, rfl, rfl⟩))
    · exact .inr (.inr (.inr ⟨rfl, rfl, rfl⟩))
    · rw [e1] at h; cases h
  have HABI := Lib.hid habi
  clear habi
  unfold tellsT
  rw [← ha, ← hb, ← hi, ← ho] at hp
  rw [hK, ← hT']
  rw [← hT'] at hT
  rw [← hf'] at hf
  have HP := Lib.hid hp
  have HF := Lib.hid hf
  have HT := Lib.hid hT
  have HU := Lib.hid hu
  have HL := Lib.hid hl
  clear hp hf hT hK hT' ha hb hi ho hf' hu hl
  cases o with
  | false =>
    unfold kyV
    go_enter Try.func8, Try.ntmps8
    go_wp2_with fail
    refine (HP.out _).mono ?_
    rintro e w1 ⟨rfl, hb1⟩
    have hb2 : Below w.heap.size w w1 := ((Below.refl _ w).alloc (Nat.le_refl _) _).trans (hb1.mono (by simp))
    have hb3 : ∀ cs, Below w.heap.size w (w1.alloc (.cells cs 48)) := fun cs => hb2.alloc hb2.size _
    have HB3 := Lib.hid hb3
    clear hb1 hb2 hb3
    unfold prV
    go_wp2_with fail
    go_ret2
    exact ⟨rfl, HB3.out _⟩
  | true =>
    obtain ⟨e0, h1, h5⟩ := HU.out rfl
    obtain ⟨kn, rfl⟩ := Int.eq_ofNat_of_zero_le (show 0 ≤ k by omega)
    have ht := HT.out
    clear HT
    rw [Int.toNat_natCast] at e0 ht
    have HT := Lib.hid ht
    clear ht
    obtain ⟨W0, hW0⟩ : ∃ W, W = w.alloc (.cells #[.int .i64 (kn : Int), .string ⟨A.toArray⟩, .string ⟨B.toArray⟩, .string ⟨C.toArray⟩, .int .u64 id] 28) := ⟨_, rfl⟩
    have K0 : Hid (Whole W0 w.heap.size 28 #[.int .i64 (kn : Int), .string ⟨A.toArray⟩, .string ⟨B.toArray⟩, .string ⟨C.toArray⟩, .int .u64 id]) := Lib.hid (by rw [hW0]; exact Whole.new _ _ _)
    have B0 : Hid (Below w.heap.size w W0) := Lib.hid (by rw [hW0]; exact (Below.refl _ _).alloc (Nat.le_refl _) _)
    have z0 := B0.out.size
    have HW0 := Lib.hid hW0
    clear hW0
    unfold kyV
    go_enter Try.func8, Try.ntmps8
    go_wp2_with fail
    rw [← HW0.out]
    refine (HP.out _).mono ?_
    rintro e w1 ⟨rfl, hb1⟩
    unfold prV
    have B1 := Lib.hid (B0.out.trans (hb1.mono z0))
    have K1 := Lib.hid (K0.out.below hb1 K0.out.lt)
    have z1 := B1.out.size
    obtain ⟨W1, hW1⟩ : ∃ W, W = w1.alloc (.cells #[.bool a, .bool b, .bool b, .bool i] 48) := ⟨_, rfl⟩
    have P1 : Hid (Whole W1 w1.heap.size 48 #[.bool a, .bool b, .bool b, .bool i]) := Lib.hid (by rw [hW1]; exact Whole.new _ _ _)
    have K1' : Hid (Whole W1 w.heap.size 28 #[.int .i64 (kn : Int), .string ⟨A.toArray⟩, .string ⟨B.toArray⟩, .string ⟨C.toArray⟩, .int .u64 id]) := Lib.hid (by rw [hW1]; exact K1.out.alloc _)
    have B1' : Hid (Below w.heap.size w W1) := Lib.hid (by rw [hW1]; exact B1.out.alloc z1 _)
    have z1' := B1'.out.size
    have HW1 := Lib.hid hW1
    obtain ⟨c10, c11, c12, c13, c14⟩ := five12 K1'.out
    obtain ⟨p10, p11, p12, p13⟩ := four12 P1.out
    rw [hW1] at c10 c11 c12 c13 c14 p10 p11 p12 p13
    obtain ⟨q10, q11, q12, q13, q14⟩ := five12 K1.out
    clear hb1 hW1
    go_wp2_with fail
    rw [← HW1.out]
    refine (HF.out _).mono ?_
    rintro e w2 ⟨rfl, hb2⟩
    have B2 := Lib.hid (B1'.out.trans (hb2.mono z1'))
    have K2 := Lib.hid (K1'.out.below hb2 K1'.out.lt)
    have P2 := Lib.hid (P1.out.below hb2 P1.out.lt)
    obtain ⟨c20, c21, c22, c23, c24⟩ := five12 K2.out
    obtain ⟨p20, p21, p22, p23⟩ := four12 P2.out
    have z2 := B2.out.size
    clear hb2
    cases f with
    | false =>
      go_wp2_with fail
      go_ret2
      exact ⟨rfl, B2.out⟩
    | true =>
      obtain ⟨hA30, hB30, hC60, _⟩ := HL.out rfl
      rcases HABI.out trivial with ⟨rfl, rfl, rfl⟩ | ⟨rfl, rfl, rfl⟩ | ⟨rfl, rfl, rfl⟩ | ⟨rfl, rfl, rfl⟩
      · go_wp2_with fail
        refine (kint1 none 0 0 [] 0 kn _ rfl (Lies.empty _ _ _) (Nat.zero_le _) (by simp)).mono ?_
        rintro e w3 ⟨v3, rfl, ho3, hb3⟩
        obtain ⟨X3, hX3⟩ : ∃ X, X = [] ++ be 1 kn := ⟨_, rfl⟩
        rw [← hX3] at ho3
        have HX3 := Lib.hid hX3
        have hl3 : X3.length ≤ 600 := by rw [hX3]; simp only [List.length_append, be_length, shortB_length, List.length_nil]; omega
        obtain ⟨A3, c3, rfl, _, _⟩ := own_form ho3
        have M3 := Lib.hid (Lies.own ho3 (Nat.le_refl _))
        have B3 := Lib.hid (B2.out.trans (hb3.mono z2))
        have K3 := Lib.hid (K2.out.below hb3 K2.out.lt)
        have P3 := Lib.hid (P2.out.below hb3 P2.out.lt)
        obtain ⟨c30, c31, c32, c33, c34⟩ := five12 K3.out
        obtain ⟨p30, p31, p32, p33⟩ := four12 P3.out
        have z3 := B3.out.size
        clear ho3 hb3 hX3
        go_wp2_with fail
        refine (kshort_any A3 c3 _ X3 _ A _ rfl M3.out (Nat.le_refl _) (by omega) (by omega)).mono ?_
        rintro e w4 ⟨v4, rfl, ho4, hb4⟩
        obtain ⟨X4, hX4⟩ : ∃ X, X = X3 ++ shortB A := ⟨_, rfl⟩
        rw [← hX4] at ho4
        have HX4 := Lib.hid hX4
        have hl4 : X4.length ≤ 800 := by rw [hX4]; simp only [List.length_append, be_length, shortB_length, List.length_nil]; omega
        obtain ⟨A4, c4, rfl, _, _⟩ := own_form ho4
        have M4 := Lib.hid (Lies.own ho4 (Nat.le_refl _))
        have B4 := Lib.hid (B3.out.trans (hb4.mono z3))
        have K4 := Lib.hid (K3.out.below hb4 K3.out.lt)
        have P4 := Lib.hid (P3.out.below hb4 P3.out.lt)
        obtain ⟨c40, c41, c42, c43, c44⟩ := five12 K4.out
        obtain ⟨p40, p41, p42, p43⟩ := four12 P4.out
        have z4 := B4.out.size
        clear ho4 hb4 hX4
        have cv4 := run_octets_string (P := Try.prog) 23 9 5 Try.underlying23 Try.underlying5 Try.underlying9 M4.out c4
        have R : Hid (X4 = T) := Lib.hid (by rw [HT.out, HX4.out, HX3.out]; simp)
        go_wp2_with fail
        go_ret2
        refine ⟨?_, B4.out⟩
        rw [R.out]
        rfl
      · go_wp2_with fail
        refine (kint1 none 0 0 [] 0 kn _ rfl (Lies.empty _ _ _) (Nat.zero_le _) (by simp)).mono ?_
        rintro e w3 ⟨v3, rfl, ho3, hb3⟩
        obtain ⟨X3, hX3⟩ : ∃ X, X = [] ++ be 1 kn := ⟨_, rfl⟩
        rw [← hX3] at ho3
        have HX3 := Lib.hid hX3
        have hl3 : X3.length ≤ 600 := by rw [hX3]; simp only [List.length_append, be_length, shortB_length, List.length_nil]; omega
        obtain ⟨A3, c3, rfl, _, _⟩ := own_form ho3
        have M3 := Lib.hid (Lies.own ho3 (Nat.le_refl _))
        have B3 := Lib.hid (B2.out.trans (hb3.mono z2))
        have K3 := Lib.hid (K2.out.below hb3 K2.out.lt)
        have P3 := Lib.hid (P2.out.below hb3 P2.out.lt)
        obtain ⟨c30, c31, c32, c33, c34⟩ := five12 K3.out
        obtain ⟨p30, p31, p32, p33⟩ := four12 P3.out
        have z3 := B3.out.size
        clear ho3 hb3 hX3
        go_wp2_with fail
        refine (kshort_any A3 c3 _ X3 _ A _ rfl M3.out (Nat.le_refl _) (by omega) (by omega)).mono ?_
        rintro e w4 ⟨v4, rfl, ho4, hb4⟩
        obtain ⟨X4, hX4⟩ : ∃ X, X = X3 ++ shortB A := ⟨_, rfl⟩
        rw [← hX4] at ho4
        have HX4 := Lib.hid hX4
        have hl4 : X4.length ≤ 800 := by rw [hX4]; simp only [List.length_append, be_length, shortB_length, List.length_nil]; omega
        obtain ⟨A4, c4, rfl, _, _⟩ := own_form ho4
        have M4 := Lib.hid (Lies.own ho4 (Nat.le_refl _))
        have B4 := Lib.hid (B3.out.trans (hb4.mono z3))
        have K4 := Lib.hid (K3.out.below hb4 K3.out.lt)
        have P4 := Lib.hid (P3.out.below hb4 P3.out.lt)
        obtain ⟨c40, c41, c42, c43, c44⟩ := five12 K4.out
        obtain ⟨p40, p41, p42, p43⟩ := four12 P4.out
        have z4 := B4.out.size
        clear ho4 hb4 hX4
        go_wp2_with fail
        refine (kshort_any A4 c4 _ X4 _ B _ rfl M4.out (Nat.le_refl _) (by omega) (by omega)).mono ?_
        rintro e w5 ⟨v5, rfl, ho5, hb5⟩
        obtain ⟨X5, hX5⟩ : ∃ X, X = X4 ++ shortB B := ⟨_, rfl⟩
        rw [← hX5] at ho5
        have HX5 := Lib.hid hX5
        have hl5 : X5.length ≤ 1000 := by rw [hX5]; simp only [List.length_append, be_length, shortB_length, List.length_nil]; omega
        obtain ⟨A5, c5, rfl, _, _⟩ := own_form ho5
        have M5 := Lib.hid (Lies.own ho5 (Nat.le_refl _))
        have B5 := Lib.hid (B4.out.trans (hb5.mono z4))
        have K5 := Lib.hid (K4.out.below hb5 K4.out.lt)
        have P5 := Lib.hid (P4.out.below hb5 P4.out.lt)
        obtain ⟨c50, c51, c52, c53, c54⟩ := five12 K5.out
        obtain ⟨p50, p51, p52, p53⟩ := four12 P5.out
        have z5 := B5.out.size
        clear ho5 hb5 hX5
        go_wp2_with fail
        refine (kshort_any A5 c5 _ X5 _ C _ rfl M5.out (Nat.le_refl _) (by omega) (by omega)).mono ?_
        rintro e w6 ⟨v6, rfl, ho6, hb6⟩
        obtain ⟨X6, hX6⟩ : ∃ X, X = X5 ++ shortB C := ⟨_, rfl⟩
        rw [← hX6] at ho6
        have HX6 := Lib.hid hX6
        have hl6 : X6.length ≤ 1200 := by rw [hX6]; simp only [List.length_append, be_length, shortB_length, List.length_nil]; omega
        obtain ⟨A6, c6, rfl, _, _⟩ := own_form ho6
        have M6 := Lib.hid (Lies.own ho6 (Nat.le_refl _))
        have B6 := Lib.hid (B5.out.trans (hb6.mono z5))
        have K6 := Lib.hid (K5.out.below hb6 K5.out.lt)
        have P6 := Lib.hid (P5.out.below hb6 P5.out.lt)
        obtain ⟨c60, c61, c62, c63, c64⟩ := five12 K6.out
        obtain ⟨p60, p61, p62, p63⟩ := four12 P6.out
        have z6 := B6.out.size
        clear ho6 hb6 hX6
        have cv6 := run_octets_string (P := Try.prog) 23 9 5 Try.underlying23 Try.underlying5 Try.underlying9 M6.out c6
        have R : Hid (X6 = T) := Lib.hid (by rw [HT.out, HX6.out, HX5.out, HX4.out, HX3.out]; simp)
        go_wp2_with fail
        go_ret2
        refine ⟨?_, B6.out⟩
        rw [R.out]
        rfl
      · go_wp2_with fail
        refine (kint1 none 0 0 [] 0 kn _ rfl (Lies.empty _ _ _) (Nat.zero_le _) (by simp)).mono ?_
        rintro e w3 ⟨v3, rfl, ho3, hb3⟩
        obtain ⟨X3, hX3⟩ : ∃ X, X = [] ++ be 1 kn := ⟨_, rfl⟩
        rw [← hX3] at ho3
        have HX3 := Lib.hid hX3
        have hl3 : X3.length ≤ 600 := by rw [hX3]; simp only [List.length_append, be_length, shortB_length, List.length_nil]; omega
        obtain ⟨A3, c3, rfl, _, _⟩ := own_form ho3
        have M3 := Lib.hid (Lies.own ho3 (Nat.le_refl _))
        have B3 := Lib.hid (B2.out.trans (hb3.mono z2))
        have K3 := Lib.hid (K2.out.below hb3 K2.out.lt)
        have P3 := Lib.hid (P2.out.below hb3 P2.out.lt)
        obtain ⟨c30, c31, c32, c33, c34⟩ := five12 K3.out
        obtain ⟨p30, p31, p32, p33⟩ := four12 P3.out
        have z3 := B3.out.size
        clear ho3 hb3 hX3
        go_wp2_with fail
        refine (kint8 A3 c3 _ X3 _ id _ rfl M3.out (Nat.le_refl _) (by omega)).mono ?_
        rintro e w4 ⟨v4, rfl, ho4, hb4⟩
        obtain ⟨X4, hX4⟩ : ∃ X, X = X3 ++ be 8 id := ⟨_, rfl⟩
        rw [← hX4] at ho4
        have HX4 := Lib.hid hX4
        have hl4 : X4.length ≤ 800 := by rw [hX4]; simp only [List.length_append, be_length, shortB_length, List.length_nil]; omega
        obtain ⟨A4, c4, rfl, _, _⟩ := own_form ho4
        have M4 := Lib.hid (Lies.own ho4 (Nat.le_refl _))
        have B4 := Lib.hid (B3.out.trans (hb4.mono z3))
        have K4 := Lib.hid (K3.out.below hb4 K3.out.lt)
        have P4 := Lib.hid (P3.out.below hb4 P3.out.lt)
        obtain ⟨c40, c41, c42, c43, c44⟩ := five12 K4.out
        obtain ⟨p40, p41, p42, p43⟩ := four12 P4.out
        have z4 := B4.out.size
        clear ho4 hb4 hX4
        have cv4 := run_octets_string (P := Try.prog) 23 9 5 Try.underlying23 Try.underlying5 Try.underlying9 M4.out c4
        have R : Hid (X4 = T) := Lib.hid (by rw [HT.out, HX4.out, HX3.out]; simp)
        go_wp2_with fail
        go_ret2
        refine ⟨?_, B4.out⟩
        rw [R.out]
        rfl
      · go_wp2_with fail
        refine (kint1 none 0 0 [] 0 kn _ rfl (Lies.empty _ _ _) (Nat.zero_le _) (by simp)).mono ?_
        rintro e w3 ⟨v3, rfl, ho3, hb3⟩
        obtain ⟨X3, hX3⟩ : ∃ X, X = [] ++ be 1 kn := ⟨_, rfl⟩
        rw [← hX3] at ho3
        have HX3 := Lib.hid hX3
        have hl3 : X3.length ≤ 600 := by rw [hX3]; simp only [List.length_append, be_length, shortB_length, List.length_nil]; omega
        obtain ⟨A3, c3, rfl, _, _⟩ := own_form ho3
        have M3 := Lib.hid (Lies.own ho3 (Nat.le_refl _))
        have B3 := Lib.hid (B2.out.trans (hb3.mono z2))
        have K3 := Lib.hid (K2.out.below hb3 K2.out.lt)
        have P3 := Lib.hid (P2.out.below hb3 P2.out.lt)
        obtain ⟨c30, c31, c32, c33, c34⟩ := five12 K3.out
        obtain ⟨p30, p31, p32, p33⟩ := four12 P3.out
        have z3 := B3.out.size
        clear ho3 hb3 hX3
        go_wp2_with fail
        refine (kshort_any A3 c3 _ X3 _ A _ rfl M3.out (Nat.le_refl _) (by omega) (by omega)).mono ?_
        rintro e w4 ⟨v4, rfl, ho4, hb4⟩
        obtain ⟨X4, hX4⟩ : ∃ X, X = X3 ++ shortB A := ⟨_, rfl⟩
        rw [← hX4] at ho4
        have HX4 := Lib.hid hX4
        have hl4 : X4.length ≤ 800 := by rw [hX4]; simp only [List.length_append, be_length, shortB_length, List.length_nil]; omega
        obtain ⟨A4, c4, rfl, _, _⟩ := own_form ho4
        have M4 := Lib.hid (Lies.own ho4 (Nat.le_refl _))
        have B4 := Lib.hid (B3.out.trans (hb4.mono z3))
        have K4 := Lib.hid (K3.out.below hb4 K3.out.lt)
        have P4 := Lib.hid (P3.out.below hb4 P3.out.lt)
        obtain ⟨c40, c41, c42, c43, c44⟩ := five12 K4.out
        obtain ⟨p40, p41, p42, p43⟩ := four12 P4.out
        have z4 := B4.out.size
        clear ho4 hb4 hX4
        go_wp2_with fail
        refine (kint8 A4 c4 _ X4 _ id _ rfl M4.out (Nat.le_refl _) (by omega)).mono ?_
        rintro e w5 ⟨v5, rfl, ho5, hb5⟩
        obtain ⟨X5, hX5⟩ : ∃ X, X = X4 ++ be 8 id := ⟨_, rfl⟩
        rw [← hX5] at ho5
        have HX5 := Lib.hid hX5
        have hl5 : X5.length ≤ 1000 := by rw [hX5]; simp only [List.length_append, be_length, shortB_length, List.length_nil]; omega
        obtain ⟨A5, c5, rfl, _, _⟩ := own_form ho5
        have M5 := Lib.hid (Lies.own ho5 (Nat.le_refl _))
        have B5 := Lib.hid (B4.out.trans (hb5.mono z4))
        have K5 := Lib.hid (K4.out.below hb5 K4.out.lt)
        have P5 := Lib.hid (P4.out.below hb5 P4.out.lt)
        obtain ⟨c50, c51, c52, c53, c54⟩ := five12 K5.out
        obtain ⟨p50, p51, p52, p53⟩ := four12 P5.out
        have z5 := B5.out.size
        clear ho5 hb5 hX5
        have cv5 := run_octets_string (P := Try.prog) 23 9 5 Try.underlying23 Try.underlying5 Try.underlying9 M5.out c5
        have R : Hid (X5 = T) := Lib.hid (by rw [HT.out, HX5.out, HX4.out, HX3.out]; simp)
        go_wp2_with fail
        go_ret2
        refine ⟨?_, B5.out⟩
        rw [R.out]
        rfl
end Go.Proofs.Ytgdlgkbckblagaa
