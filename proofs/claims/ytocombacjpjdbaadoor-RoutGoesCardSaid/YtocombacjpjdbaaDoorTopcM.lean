/- Contracts of package topc: Match. -/
import Derived.Test.YtocombacjpjdbaaDoorTopcW
import Derived.Deep.DeepCutAuto
import Derived.Deep.DeepMust
import Derived.BigQuiet
import Derived.Lib.Hide
import Derived.WalkLawsBesides
import Derived.Outline
namespace Go.Proofs.YtocombacjpjdbaaDoor
open Go.RowKit
set_option maxRecDepth 100000
set_option linter.unusedSimpArgs false
set_option linter.unusedVariables false

theorem fits_any (p x : List UInt8) (w : World) : Calls Tryd.prog 23 #[.string ⟨p.toArray⟩, .string ⟨x.toArray⟩] w fun e w' => e = .returned (.bool (fitW p x)) ∧ w' = w := by
  go_enter Tryd.func23, Tryd.ntmps23
  go_wp2_with fail
  · go_ret
    refine ⟨?_, rfl⟩
    simp_all [fitW]
  · go_ret
    have e : (p == [42] || p == x) = fitW p x := by
      rw [Bool.eq_iff_iff]
      simp [fitW]
    exact ⟨congrArg (fun b => Ending.returned (.bool b)) e, rfl⟩
theorem Lies.texts {w : World} {B : Nat} {A : Option Addr} {l : List (List UInt8)} (h : Lies w B A (S8 l)) :
    l = [] ∨ ∃ b o, A = some ⟨b, o, none⟩ ∧ b < B ∧ ∀ (j : Nat) (hj : j < l.length), w.cell? ⟨b, o + j, none⟩ = some (.string ⟨l[j].toArray⟩) := by
  rcases h with h | ⟨b, o, e, hb, hc⟩
  · left
    apply List.eq_nil_of_length_eq_zero
    rw [← S8_length, h]; rfl
  · exact .inr ⟨b, o, e, hb, fun j hj => hc j _ (S8_get l j hj)⟩
theorem Lies.texts_at {w : World} {B : Nat} {b o j : Nat} {l : List (List UInt8)} (h : Lies w B (some ⟨b, o, none⟩) (S8 l)) (hj : j < l.length) : w.cell? ⟨b, o + j, none⟩ = some (.string ⟨l[j].toArray⟩) := by
  rcases h.texts with h | ⟨b', o', e, _, hc⟩
  · rw [h] at hj; simp at hj
  · injection e with e
    injection e with e1 e2 _
    subst e1 e2
    exact hc j hj
theorem Lies.texts_some {w : World} {B : Nat} {A : Option Addr} {l : List (List UInt8)} (h : Lies w B A (S8 l)) (hl : 0 < l.length) : ∃ b o, A = some ⟨b, o, none⟩ ∧ b < B := by
  rcases h.texts with h | ⟨b, o, e, hb, _⟩
  · rw [h] at hl; simp at hl
  · exact ⟨b, o, e, hb⟩

theorem only_any (A : Option Addr) (c : Nat) (l : List (List UInt8)) (B n : Nat) (w : World) (hn : n = l.length) (hl : Lies w B A (S8 l)) (hs : l.length ≤ maxLen) :
    Calls Tryd.prog 24 #[.slice A n c] w fun e w' => e = .returned (.bool (l.all (· == [35]))) ∧ w' = w := by
  subst hn
  unfold maxLen at hs
  have HL := Lib.hid hl
  clear hl
  obtain ⟨Z, hZ⟩ : ∃ Z, Z = l.all (· == [35]) := ⟨_, rfl⟩
  have HZ := Lib.hid hZ
  rw [← hZ]
  clear hZ
  go_enter Tryd.func24, Tryd.ntmps24
  go_wp2_with fail
  go_loop [7] (fun i => ∃ j : Nat, j ≤ l.length ∧ i = .int .i64 j ∧ Hid (Z = (l.drop j).all (· == [35]))) (fun i => l.length - (intOf i).toNat)
  case atStart => exact ⟨0, by omega, rfl, Lib.hid (by rw [HZ.out, List.drop_zero])⟩
  case round =>
    obtain ⟨j, hj, rfl, hz⟩ := hrel
    by_cases hlt : j < l.length
    · obtain ⟨b, o, rfl, _⟩ := HL.out.texts_some (by omega)
      have hc := HL.out.texts_at hlt
      obtain ⟨x, hx⟩ : ∃ x, x = l[j] := ⟨_, rfl⟩
      rw [← hx] at hc
      have HN : Hid (Z = ((x == [35]) && (l.drop (j + 1)).all (· == [35]))) := Lib.hid (by
        rw [hz.out, List.drop_eq_getElem_cons hlt, List.all_cons, ← hx])
      have q1 : (j : Int) < (l.length : Int) := by omega
      clear hx hz
      by_cases hx35 : x = [35]
      · have D : Hid (Z = (l.drop (j + 1)).all (· == [35])) := Lib.hid (by rw [HN.out, hx35]; simp)
        have e35 : (x == [35]) = true := by simp [hx35]
        clear hx35
        go_wp2_with fail
        go_round
        · exact ⟨j + 1, by omega, by go_num, D.out⟩
        · simp [intOf]; omega
      · have D : Z = false := by rw [HN.out]; simp [hx35]
        have e35 : (x == [35]) = false := by simp [hx35]
        clear HN HZ hx35
        subst D
        go_wp2_with fail
        go_ret
        exact ⟨rfl, rfl⟩
    · have hz2 : Z = true := by rw [hz.out, List.drop_of_length_le (by omega)]; rfl
      clear HZ hz
      subst hz2
      have q1 : ¬ (j : Int) < (l.length : Int) := by omega
      go_wp2_with fail
      go_ret
      exact ⟨rfl, rfl⟩
theorem words_lies (s : List UInt8) (P : List (List UInt8)) (w : World) (hs : s.length < 4294967281) (hP : P = wsL s) :
    Calls Tryd.prog 22 #[.string ⟨s.toArray⟩] w fun e w' => ∃ g, e = .returned (.slice (some ⟨g, 0, none⟩) P.length P.length) ∧ g < w'.heap.size ∧ Lies w' w'.heap.size (some ⟨g, 0, none⟩) (S8 P) ∧ Below w.heap.size w w' := by
  subst hP
  refine (words_any s w hs).mono ?_
  rintro e w' ⟨rfl, rfl⟩
  exact ⟨_, rfl, by simp, (Lies.lit w 9 (S8 (wsL s))).more (by simp), (Below.refl _ _).alloc (Nat.le_refl _) _⟩
theorem wsL_len_le (s : List UInt8) : (wsL s).length ≤ s.length + 1 := by
  rw [wsL_length]
  have := List.count_le_length (a := (46 : UInt8)) (l := s)
  omega
theorem fit_quiet (p x : List UInt8) (w : World) : Calls Tryd.prog 23 #[.string ⟨p.toArray⟩, .string ⟨x.toArray⟩] w fun e w' => e = .returned (.bool (fitW p x)) ∧ w' = w := fits_any p x w

/-- what a round makes less -/
def msV (p k : Nat) (s7 s8 s10 : Value) : Nat := (k + 1 - (intOf s10).toNat) * (p + k + 2) + (p - (intOf s7).toNat) + (k - (intOf s8).toNat)
theorem ms_hash {p k i j u : Nat} (hi : i < p) (hu : u ≤ j) (hj : j ≤ k) : msV p k (.int .i64 ((i : Int) + 1)) (.int .i64 j) (.int .i64 j) < msV p k (.int .i64 i) (.int .i64 j) (.int .i64 u) := by
  unfold msV
  have e : (intOf (.int .i64 ((i : Int) + 1))).toNat = i + 1 := by simp [intOf]
  have e1 : (intOf (.int .i64 (i : Int))).toNat = i := by simp [intOf]
  have e2 : (intOf (.int .i64 (j : Int))).toNat = j := by simp [intOf]
  have e3 : (intOf (.int .i64 (u : Int))).toNat = u := by simp [intOf]
  rw [e, e1, e2, e3]
  have h : (k + 1 - j) * (p + k + 2) ≤ (k + 1 - u) * (p + k + 2) := Nat.mul_le_mul_right _ (by omega)
  omega
theorem ms_fits {p k i j u : Nat} (hi : i < p) (hj : j < k) : msV p k (.int .i64 ((i : Int) + 1)) (.int .i64 ((j : Int) + 1)) (.int .i64 u) < msV p k (.int .i64 i) (.int .i64 j) (.int .i64 u) := by
  unfold msV
  have e : (intOf (.int .i64 ((i : Int) + 1))).toNat = i + 1 := by simp [intOf]
  have e0 : (intOf (.int .i64 ((j : Int) + 1))).toNat = j + 1 := by simp [intOf]
  have e1 : (intOf (.int .i64 (i : Int))).toNat = i := by simp [intOf]
  have e2 : (intOf (.int .i64 (j : Int))).toNat = j := by simp [intOf]
  rw [e, e0, e1, e2]
  omega
theorem ms_more {p k i j b u : Nat} (hu : u < k) (hb : b ≤ p) : msV p k (.int .i64 b) (.int .i64 ((u : Int) + 1)) (.int .i64 ((u : Int) + 1)) < msV p k (.int .i64 i) (.int .i64 j) (.int .i64 u) := by
  unfold msV
  have e : (intOf (.int .i64 ((u : Int) + 1))).toNat = u + 1 := by simp [intOf]
  have e1 : (intOf (.int .i64 (u : Int))).toNat = u := by simp [intOf]
  have e2 : (intOf (.int .i64 (b : Int))).toNat = b := by simp [intOf]
  rw [e, e1, e2]
  have h : (k + 1 - u) * (p + k + 2) = (k + 1 - (u + 1)) * (p + k + 2) + (p + k + 2) := by
    rw [show k + 1 - u = (k + 1 - (u + 1)) + 1 from by omega, Nat.succ_mul]
  omega

set_option maxHeartbeats 4000000 in
theorem match_any (P0 K0 : List UInt8) (w : World) (hp : P0.length ≤ 1000000) (hk : K0.length ≤ 1000000) :
    Calls Tryd.prog 12 #[.string ⟨P0.toArray⟩, .string ⟨K0.toArray⟩] w fun e w' => e = .returned (.bool (mtT P0 K0)) ∧ Below w.heap.size w w' := by
  obtain ⟨P, hP⟩ : ∃ P, P = wsL P0 := ⟨_, rfl⟩
  obtain ⟨K, hK⟩ : ∃ K, K = wsL K0 := ⟨_, rfl⟩
  obtain ⟨Z, hZ⟩ : ∃ Z, Z = mtT P0 K0 := ⟨_, rfl⟩
  have hpl := wsL_len_le P0
  have hkl := wsL_len_le K0
  rw [← hZ]
  unfold mtT at hZ
  rw [← hP] at hpl hZ
  rw [← hK] at hkl hZ
  have HP := Lib.hid hP
  have HK := Lib.hid hK
  have HZ := Lib.hid hZ
  clear hP hK hZ
  go_enter Tryd.func12, Tryd.ntmps12
  go_wp2_with fail
  refine (words_lies P0 P _ (by omega) HP.out).mono ?_
  rintro e w1 ⟨gp, rfl, hg1, hl1, hb1⟩
  have L1 := Lib.hid hl1
  have B1 := Lib.hid hb1
  have z1 := hb1.size
  clear hl1 hb1
  go_wp2_with fail
  refine (words_lies K0 K _ (by omega) HK.out).mono ?_
  rintro e w2 ⟨gk, rfl, hg2, hl2, hb2⟩
  have L2 := Lib.hid ((L1.out.below hb2).more hb2.size)
  have K2 := Lib.hid hl2
  have B2 := Lib.hid (B1.out.trans (hb2.mono z1))
  have z2 := B2.out.size
  have zgp : gp < w2.heap.size := Nat.lt_of_lt_of_le hg1 hb2.size
  clear hl2 hb2 L1 B1 z1 hg1
  go_wp2_with fail
  go_loopw [7, 8, 9, 10] (fun s7 s8 s9 s10 wr => ∃ i j b u : Nat, s7 = .int .i64 i ∧ s8 = .int .i64 j ∧ s9 = .int .i64 b ∧ s10 = .int .i64 u ∧ GI P K i j b u ∧ Below w2.heap.size w2 wr) (fun s7 s8 _ s10 _ => msV P.length K.length s7 s8 s10)
  case atStart => exact ⟨0, 0, 0, 0, rfl, rfl, rfl, rfl, GI.start P K, Below.refl _ _⟩
  case round =>
    obtain ⟨i, j, b, u, rfl, rfl, rfl, rfl, hg, hbr⟩ := hrel
    have hi := hg.hi
    have hj := hg.hj
    have hu := hg.hu
    have hbi := hg.hb
    have G := Lib.hid hg
    have BR := Lib.hid hbr
    clear hg hbr
    have z3 := BR.out.size
    have LR := Lib.hid (L2.out.below BR.out)
    have KR := Lib.hid (K2.out.below BR.out)
    by_cases hjk : j < K.length
    · have hcx := KR.out.texts_at hjk
      rw [Nat.zero_add] at hcx
      obtain ⟨x, hx⟩ : ∃ x, x = K[j] := ⟨_, rfl⟩
      rw [← hx] at hcx
      have HX := Lib.hid hx
      have q1 : (j : Int) < (K.length : Int) := by omega
      have q0 : (0 : Int) ≤ (j : Int) := by omega
      clear hx
      by_cases hip : i < P.length
      · have hcy := LR.out.texts_at hip
        rw [Nat.zero_add] at hcy
        obtain ⟨y, hy⟩ : ∃ y, y = P[i] := ⟨_, rfl⟩
        rw [← hy] at hcy
        have HY := Lib.hid hy
        have q2 : (i : Int) < (P.length : Int) := by omega
        have q3 : (0 : Int) ≤ (i : Int) := by omega
        clear hy
        by_cases h35 : y = [35]
        · have e35 : (y == [35]) = true := by simp [h35]
          have D : Hid (GI P K (i + 1) j (i + 1) j) := Lib.hid (G.out.hash hip (by rw [← HY.out]; exact h35))
          clear h35
          go_wp2_with fail
          go_roundw
          case rel => exact ⟨i + 1, j, i + 1, j, by go_num, rfl, by go_num, rfl, D.out, BR.out⟩
          case measure => exact ms_hash hip hu hj
        · have e35 : (y == [35]) = false := by simp [h35]
          have N35 : Hid (P[i] ≠ [35]) := Lib.hid (by rw [← HY.out]; exact h35)
          clear h35
          cases hf : fitW y x with
          | true =>
            have D : Hid (GI P K (i + 1) (j + 1) b u) := Lib.hid (G.out.fits hip hjk N35.out (by rw [← HY.out, ← HX.out]; exact hf))
            have HF : Hid (∀ w, Calls Tryd.prog 23 #[.string ⟨y.toArray⟩, .string ⟨x.toArray⟩] w fun e w' => e = .returned (.bool true) ∧ w' = w) := Lib.hid (fun w => by rw [← hf]; exact fits_any y x w)
            clear hf
            go_wp2_with fail
            go_quiet (first | (go_at_call 23; refine Calls.quiet_of_same (HF.out _)))
            go_wp2_with fail
            go_roundw
            case rel => exact ⟨i + 1, j + 1, b, u, by go_num, by go_num, rfl, rfl, D.out, below_drewN BR.out _⟩
            case measure => exact ms_fits hip hjk
          | false =>
            have HF : Hid (∀ w, Calls Tryd.prog 23 #[.string ⟨y.toArray⟩, .string ⟨x.toArray⟩] w fun e w' => e = .returned (.bool false) ∧ w' = w) := Lib.hid (fun w => by rw [← hf]; exact fits_any y x w)
            have NF : Hid (∀ hi : i < P.length, P[i] ≠ [35] ∧ fitW P[i] K[j] = false) := Lib.hid (fun _ => ⟨N35.out, by rw [← HY.out, ← HX.out]; exact hf⟩)
            clear hf
            by_cases hb0 : b = 0
            · have D : Z = false := by rw [HZ.out]; exact G.out.no hjk NF.out hb0
              subst hb0
              clear HZ
              subst D
              have BE : Hid (∀ nq, Below w.heap.size w (wr.drewN nq)) := Lib.hid (fun nq => B2.out.trans ((below_drewN BR.out nq).mono z2))
              go_wp2_with fail
              go_quiet (first | (go_at_call 23; refine Calls.quiet_of_same (HF.out _)))
              go_wp2_with fail
              go_ret
              exact ⟨rfl, BE.out _⟩
            · have D : Hid (GI P K b (u + 1) b (u + 1)) := Lib.hid (G.out.more hjk NF.out (by omega))
              have q4 : (0 : Int) < (b : Int) := by omega
              have q5 : b ≤ P.length := by omega
              go_wp2_with fail
              go_quiet (first | (go_at_call 23; refine Calls.quiet_of_same (HF.out _)))
              go_wp2_with fail
              go_roundw
              case rel => exact ⟨b, u + 1, b, u + 1, rfl, by go_num, rfl, by go_num, D.out, below_drewN BR.out _⟩
              case measure => exact ms_more (by omega) q5
      · have NF : Hid (∀ hi : i < P.length, P[i] ≠ [35] ∧ fitW P[i] K[j] = false) := Lib.hid (fun h => absurd h hip)
        have q2 : decide ((i : Int) < (P.length : Int)) = false := decide_eq_false (by omega)
        by_cases hb0 : b = 0
        · have D : Z = false := by rw [HZ.out]; exact G.out.no hjk NF.out hb0
          subst hb0
          clear HZ
          subst D
          have BE : Hid (∀ nq, Below w.heap.size w (wr.drewN nq)) := Lib.hid (fun nq => B2.out.trans ((below_drewN BR.out nq).mono z2))
          go_wp2_with fail
          go_quiet (fail)
          go_wp2_with fail
          go_ret
          exact ⟨rfl, BE.out _⟩
        · have D : Hid (GI P K b (u + 1) b (u + 1)) := Lib.hid (G.out.more hjk NF.out (by omega))
          have q4 : (0 : Int) < (b : Int) := by omega
          have q5 : b ≤ P.length := by omega
          go_wp2_with fail
          go_quiet (fail)
          go_wp2_with fail
          go_roundw
          case rel => exact ⟨b, u + 1, b, u + 1, rfl, by go_num, rfl, by go_num, D.out, below_drewN BR.out _⟩
          case measure => exact ms_more (by omega) q5
    · have q1 : ¬ (j : Int) < (K.length : Int) := by omega
      have HV : Hid (Z = (P.drop i).all (· == [35])) := Lib.hid (by rw [HZ.out]; exact G.out.done (by omega))
      have BE : Hid (Below w.heap.size w wr) := Lib.hid (B2.out.trans (BR.out.mono z2))
      obtain ⟨n, hn⟩ : ∃ n, n = P.length := ⟨_, rfl⟩
      have LD := (LR.out.more z3).drop i P.length (by rw [S8_length]; exact hi) (by rw [S8_length]; exact Nat.le_refl _)
      rw [S8, ← List.map_drop, ← S8, ← hn] at LD
      rw [← hn] at hi hpl ⊢
      have NL : Hid (n - i = (P.drop i).length) := Lib.hid (by rw [List.length_drop, hn])
      have NM : Hid ((P.drop i).length ≤ maxLen) := Lib.hid (by rw [List.length_drop, ← hn]; unfold maxLen; omega)
      have hn6 : n ≤ 1000001 := by omega
      have q6 : (i : Int) ≤ (n : Int) := by omega
      clear hn LR KR L2 K2 G HZ HP HK hpl hkl hp hk hbi hu
      by_cases hcn : n = i
      · rw [if_pos hcn] at LD
        have HD := Lib.hid LD
        clear LD
        subst hcn
        go_wp2_with fail
        refine (only_any _ _ (P.drop n) wr.heap.size _ _ (by have := NL.out; omega) HD.out NM.out).mono ?_
        rw [← HV.out]
        rintro e w' ⟨rfl, rfl⟩
        go_wp2_with fail
        go_ret
        exact ⟨rfl, BE.out⟩
      · rw [if_neg hcn, show ((some ⟨gp, 0, none⟩ : Option Addr).map (·.add i)) = some ⟨gp, i, none⟩ from by by_cases h0 : i = 0 <;> simp [Addr.add, h0]] at LD
        have HD := Lib.hid LD
        clear LD
        go_wp2_with fail
        refine (only_any _ _ (P.drop i) wr.heap.size _ _ NL.out HD.out NM.out).mono ?_
        rw [← HV.out]
        rintro e w' ⟨rfl, rfl⟩
        go_wp2_with fail
        go_ret
        exact ⟨rfl, BE.out⟩
end Go.Proofs.YtocombacjpjdbaaDoor
