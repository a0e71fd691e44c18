/- Contracts of package keys: which parts a key has, and its bounds. -/
import Derived.Test.YtgdlgkbckblagaaOctsRr
import Derived.Test.YtgdlgkbckblagaaWords2
namespace Go.Proofs.Ytgdlgkbckblagaa
open Go.RowKit
set_option maxRecDepth 100000
set_option linter.unusedSimpArgs false
set_option linter.unusedVariables false

def pkA (k : Int) : Bool := decide (k = 1) || decide (k = 2) || decide (k = 3) || decide (k = 5)
def pkB (k : Int) : Bool := decide (k = 3)
def pkI (k : Int) : Bool := decide (k = 4) || decide (k = 5)
def pkOk (k : Int) : Bool := decide (1 ≤ k) && decide (k ≤ 5)
/-- the parts, as a value -/
def prV (a b c i : Bool) : Value := .agg #[.bool a, .bool b, .bool c, .bool i]
theorem pk_cases (k : Int) : k = 1 ∨ k = 2 ∨ k = 3 ∨ k = 4 ∨ k = 5 ∨ (¬ k = 1 ∧ ¬ k = 2 ∧ ¬ k = 3 ∧ ¬ k = 4 ∧ ¬ k = 5 ∧ pkOk k = false ∧ pkA k = false ∧ pkB k = false ∧ pkI k = false) := by
  by_cases h1 : k = 1
  · exact .inl h1
  by_cases h2 : k = 2
  · exact .inr (.inl h2)
  by_cases h3 : k = 3
  · exact .inr (.inr (.inl h3))
  by_cases h4 : k = 4
  · exact .inr (.inr (.inr (.inl h4)))
  by_cases h5 : k = 5
  · exact .inr (.inr (.inr (.inr (.inl h5))))
  refine .inr (.inr (.inr (.inr (.inr ⟨h1, h2, h3, h4, h5, ?_, ?_, ?_, ?_⟩))))
  · unfold pkOk
    rw [← Bool.decide_and, decide_eq_false_iff_not]
    omega
  · simp [pkA, h1, h2, h3, h5]
  · simp [pkB, h3]
  · simp [pkI, h4, h5]
theorem key_size (l : List UInt8) : (⟨l.toArray⟩ : ByteArray).size = l.length := by simp [ByteArray.size]
theorem empty_is (l : List UInt8) : (⟨l.toArray⟩ : ByteArray).toList.isEmpty = l.isEmpty := by rw [ByteArray.toList_eq]
theorem load_parts (w : World) (g : Nat) (cs : Array Value) (hg : Whole w g 48 cs) (hs : cs.size = 4) : (loadVar 48 ⟨g, 0, none⟩).run Try.prog w = .ok (.agg cs) w :=
  run_loadVar_row (P := Try.prog) w g _ _ cs (0, 0) _ hg Try.underlying48 rfl (by rw [hs]; kernel_rfl)
theorem parts_end {w : World} {b : Nat} {cs : Array Value} (hg : Whole w b 48 cs) (hs : cs.size = 4) (tmps : Array Value) (ds) (c : Bool) (h6 : tmps.getD 2 undef = .pointer (some ⟨b, 0, none⟩)) (h7 : tmps.getD 3 undef = .bool c)
    (R : Ending → World → Prop) (hR : R (.returned (.tuple #[.agg cs, .bool c])) w) (hd : ds = []) : bodyPost Try.prog Try.f19 R .ret { tmps := tmps, defers := ds } w := by
  refine bodyPost_ret (v := .tuple #[.agg cs, .bool c]) ?_ hd hR
  rw [results_cell_tmp (p := 2) (u := 3) (ty := 48) rfl]
  rw [h6, h7]
  simp [asAddr, load_parts w b cs hg hs, Result.andThen]
theorem parts_any (k : Int) (w : World) :
    Calls Try.prog 19 #[.int .i64 k] w fun e w' => e = .returned (.tuple #[prV (pkA k) (pkB k) (pkB k) (pkI k), .bool (pkOk k)]) ∧ Below w.heap.size w w' := by
  have hb : ∀ cs, Below w.heap.size w ((w.alloc (.cells cs 48))) := fun cs => (Below.refl _ _).alloc (Nat.le_refl _) _
  rcases pk_cases k with rfl | rfl | rfl | rfl | rfl | ⟨h1, h2, h3, h4, h5, e1, e2, e3, e4⟩
  iterate 5 (
    · go_enter Try.func19, Try.ntmps19
      go_wp2_with fail
      exact parts_end (Whole.new _ _ _) rfl _ _ true rfl rfl _ ⟨rfl, hb _⟩ rfl)
  · rw [e1, e2, e3, e4]
    clear e1 e2 e3 e4
    go_enter Try.func19, Try.ntmps19
    go_wp2_with fail
    exact parts_end (Whole.new _ _ _) rfl _ _ false rfl rfl _ ⟨rfl, hb _⟩ rfl

def namedB (s : List UInt8) (t : Bool) : Bool := decide (s.length ≤ 30) && ((!s.isEmpty) == t)
theorem named_any (s : List UInt8) (t : Bool) (w : World) (hs : s.length ≤ maxLen) :
    Calls Try.prog 35 #[.string ⟨s.toArray⟩, .bool t] w fun e w' => e = .returned (.bool (namedB s t)) ∧ w = w' := by
  unfold maxLen at hs
  have hz : (⟨s.toArray⟩ : ByteArray).size = s.length := by simp [ByteArray.size]
  by_cases h : s.length ≤ 30
  · rcases s with _ | ⟨x, s⟩
    · cases t
      all_goals (
        go_enter Try.func35, Try.ntmps35
        go_wp2_with fail
        go_ret
        exact ⟨rfl, rfl⟩)
    · have hne : ¬ ((⟨(x :: s).toArray⟩ : ByteArray) = ⟨#[]⟩) := by simp
      have he := empty_is (x :: s)
      have he : (⟨(x :: s).toArray⟩ : ByteArray).toList.isEmpty = false := he
      have hN : Hid (namedB (x :: s) t = (true == t)) := Lib.hid (by unfold namedB; rw [decide_eq_true h]; rfl)
      have h30 : (s.length : Int) + 1 ≤ 30 := by simp at h; omega
      generalize (⟨(x :: s).toArray⟩ : ByteArray) = S at *
      cases t
      all_goals (
        go_enter Try.func35, Try.ntmps35
        go_wp2_with fail
        go_ret
        exact ⟨by rw [hN.out]; rfl, rfl⟩)
  · have hN : Hid (namedB s t = false) := Lib.hid (by unfold namedB; rw [decide_eq_false h]; rfl)
    generalize (⟨s.toArray⟩ : ByteArray) = S at *
    go_enter Try.func35, Try.ntmps35
    go_wp2_with fail
    go_ret
    rw [hN.out]
    exact ⟨rfl, rfl⟩

/-- the parts and bounds of a key: what fits says -/
def fitsB (A B C : List UInt8) (id : Nat) (a b c i : Bool) : Bool := namedB A a && namedB B b && decide (C.length ≤ 60) && (c || C.isEmpty) && (decide (id ≠ 0) == i)
theorem fits_any (k : Int) (A B C : List UInt8) (id : Nat) (a b c i : Bool) (w : World) (hA : A.length ≤ maxLen) (hB : B.length ≤ maxLen) (hC : C.length ≤ maxLen) :
    Calls Try.prog 20 #[.agg #[.int .i64 k, .string ⟨A.toArray⟩, .string ⟨B.toArray⟩, .string ⟨C.toArray⟩, .int .u64 id], prV a b c i] w
      fun e w' => e = .returned (.bool (fitsB A B C id a b c i)) ∧ Below w.heap.size w w' := by
  have h1 := fun w => named_any A a w hA
  have h2 := fun w => named_any B b w hB
  obtain ⟨x, hx⟩ : ∃ x, x = namedB A a := ⟨_, rfl⟩
  obtain ⟨y, hy⟩ : ∃ y, y = namedB B b := ⟨_, rfl⟩
  have hz := key_size C
  unfold maxLen at hC
  have hF : Hid (fitsB A B C id a b c i = (x && y && decide (C.length ≤ 60) && (c || C.isEmpty) && (decide (id ≠ 0) == i))) := Lib.hid (by unfold fitsB; rw [hx, hy])
  rw [← hx] at h1
  rw [← hy] at h2
  have H1 := Lib.hid h1
  have H2 := Lib.hid h2
  have D : Hid (∀ r : Bool, r = fitsB A B C id a b c i → ∀ cs ct, (Ending.returned (.bool r) = .returned (.bool (fitsB A B C id a b c i))) ∧ Below w.heap.size w ((w.alloc (.cells cs 28)).alloc (.cells ct 48))) := Lib.hid fun r hr cs ct => ⟨by rw [hr], ((Below.refl _ _).alloc (Nat.le_refl _) _).alloc (by simp) _⟩
  clear h1 h2 hx hy
  have hE : C = [] ∨ ¬ ((⟨C.toArray⟩ : ByteArray) = ⟨#[]⟩) := by
    rcases C with _ | ⟨u, C⟩
    · exact .inl rfl
    · exact .inr (by simp)
  unfold prV
  cases x with
  | false =>
    go_enter Try.func20, Try.ntmps20
    go_wp2_with fail
    refine (H1.out _).mono ?_
    rintro e w1 ⟨rfl, rfl⟩
    go_wp2_with fail
    go_ret
    exact D.out _ (by rw [hF.out]; rfl) _ _
  | true =>
    cases y with
    | false =>
      go_enter Try.func20, Try.ntmps20
      go_wp2_with fail
      refine (H1.out _).mono ?_
      rintro e w1 ⟨rfl, rfl⟩
      go_wp2_with fail
      refine (H2.out _).mono ?_
      rintro e w1 ⟨rfl, rfl⟩
      go_wp2_with fail
      go_ret
      exact D.out _ (by rw [hF.out]; rfl) _ _
    | true =>
      have go : ∀ (cs ct : Array Value) (r : Bool), (decide (C.length ≤ 60) && (c || C.isEmpty) && (decide (id ≠ 0) == i)) = r → (Ending.returned (.bool r) = .returned (.bool (fitsB A B C id a b c i))) ∧ Below w.heap.size w ((w.alloc (.cells cs 28)).alloc (.cells ct 48)) := fun cs ct r hr => D.out _ (by rw [hF.out, ← hr]; simp) cs ct
      have GO := Lib.hid go
      clear D hF go
      by_cases h60 : C.length ≤ 60
      · have t60 : Hid (decide (C.length ≤ 60) = true) := Lib.hid (decide_eq_true h60)
        have h60' : (C.length : Int) ≤ 60 := by omega
        have hcE : c = true ∨ (c = false ∧ C = []) ∨ (c = false ∧ C.isEmpty = false) := by
          cases c
          · rcases C with _ | ⟨u, C⟩
            · exact .inr (.inl ⟨rfl, rfl⟩)
            · exact .inr (.inr ⟨rfl, rfl⟩)
          · exact .inl rfl
        have IDN : Hid (decide (id ≠ 0) = ((id : Int) != 0)) := Lib.hid (by by_cases h : id = 0 <;> simp [h])
        rcases hcE with rfl | ⟨rfl, rfl⟩ | ⟨rfl, hce⟩
        · go_enter Try.func20, Try.ntmps20
          go_wp2_with fail
          refine (H1.out _).mono ?_
          rintro e w1 ⟨rfl, rfl⟩
          go_wp2_with fail
          refine (H2.out _).mono ?_
          rintro e w1 ⟨rfl, rfl⟩
          go_wp2_with fail
          go_ret
          exact GO.out _ _ _ (by rw [t60.out, IDN.out]; rfl)
        · go_enter Try.func20, Try.ntmps20
          go_wp2_with fail
          refine (H1.out _).mono ?_
          rintro e w1 ⟨rfl, rfl⟩
          go_wp2_with fail
          refine (H2.out _).mono ?_
          rintro e w1 ⟨rfl, rfl⟩
          go_wp2_with fail
          go_ret
          exact GO.out _ _ _ (by rw [IDN.out]; rfl)
        · have hce' : (⟨C.toArray⟩ : ByteArray).toList.isEmpty = false := (empty_is C).trans hce
          have hc0 : ¬ C = [] := by intro h; rw [h] at hce; cases hce
          have HCE := Lib.hid hce
          clear hce
          go_enter Try.func20, Try.ntmps20
          go_wp2_with fail
          refine (H1.out _).mono ?_
          rintro e w1 ⟨rfl, rfl⟩
          go_wp2_with fail
          refine (H2.out _).mono ?_
          rintro e w1 ⟨rfl, rfl⟩
          go_wp2_with fail
          go_ret
          exact GO.out _ _ _ (by rw [t60.out, HCE.out]; rfl)
      · have t60 : Hid (decide (C.length ≤ 60) = false) := Lib.hid (decide_eq_false h60)
        have h60' : 60 < (C.length : Int) := by omega
        go_enter Try.func20, Try.ntmps20
        go_wp2_with fail
        refine (H1.out _).mono ?_
        rintro e w1 ⟨rfl, rfl⟩
        go_wp2_with fail
        refine (H2.out _).mono ?_
        rintro e w1 ⟨rfl, rfl⟩
        go_wp2_with fail
        go_ret
        exact GO.out _ _ _ (by rw [t60.out]; rfl)

/-- short: a text that fits, behind its length -/
def shortB (t : List UInt8) : List UInt8 := be 1 t.length ++ t
theorem shortB_length (t : List UInt8) : (shortB t).length = 1 + t.length := by simp [shortB, be_length]
theorem kshort_any (A : Option Addr) (c n : Nat) (l : List UInt8) (B : Nat) (t : List UInt8) (w : World) (hn : n = l.length) (hl : Lies w B A (B8 l)) (hB : B ≤ w.heap.size) (hs : l.length + 264 ≤ 140737488355328) (h255 : t.length ≤ 255) :
    Calls Try.prog 22 #[.slice A n c, .string ⟨t.toArray⟩] w (NewOcts w.heap.size (l ++ shortB t) w) := by
  subst hn
  have h := fun w' (hl : Lies w' B A (B8 l)) (hB : B ≤ w'.heap.size) => short_any A c l B ⟨t.toArray⟩ w' hl hB hs (by rw [key_size]; exact h255)
  have H := Lib.hid h
  have HL := Lib.hid hl
  clear h hl
  go_enter Try.func22, Try.ntmps22
  go_wp2_with fail
  refine (H.out _ HL.out hB).mono ?_
  rintro e w1 ⟨v, rfl, ho, hb⟩
  rw [key_size, List.append_assoc] at ho
  have HO := Lib.hid ho
  clear ho
  go_wp2_with fail
  go_ret
  exact ⟨_, rfl, HO.out, hb⟩
end Go.Proofs.Ytgdlgkbckblagaa
