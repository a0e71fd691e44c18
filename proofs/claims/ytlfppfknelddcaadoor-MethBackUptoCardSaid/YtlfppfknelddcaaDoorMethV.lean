/- Contracts of package meth: Parse. -/
import Derived.Test.YtlfppfknelddcaaDoorMethU
import Derived.Test.YtlfppfknelddcaaDoorMethD
namespace Go.Proofs.YtlfppfknelddcaaDoor
open Go.RowKit
set_option maxRecDepth 100000
set_option linter.unusedSimpArgs false
set_option linter.unusedVariables false

/-- what Parse tells -/
inductive PM
  | syn
  | no
  | ok (c i : Int) (p : Parts)
def parseM (b : List UInt8) : PM :=
  if b.length < 4 then .syn
  else match formB (nat (b.take 2)) (nat ((b.drop 2).take 2)) with
    | none => .no
    | some ls => match pr0 ls 0 0 (b.drop 4) with
      | some (p, []) => .ok (nat (b.take 2)) (nat ((b.drop 2).take 2)) p
      | _ => .syn
def zeroM : Value := .agg #[.int .i64 0, .int .i64 0, .slice none 0 0, .slice none 0 0, .slice none 0 0, .slice none 0 0]
def MIs (r : PM) (w : World) (e : Ending) (w' : World) : Prop :=
  Below w.heap.size w w' ∧ match r with
  | .syn => e = .returned (.tuple #[zeroM, .int .i64 4])
  | .no => e = .returned (.tuple #[zeroM, .int .i64 5])
  | .ok c i p => ∃ vN vS vF vT, e = .returned (.tuple #[.agg #[.int .i64 c, .int .i64 i, vN, vS, vF, vT], .int .i64 0]) ∧ PartsAt w' w'.heap.size p vN vS vF vT
def six (w : World) (g : Nat) (v0 v1 v2 v3 v4 v5 : Value) : World := (((((w.setCell ⟨g, 0, none⟩ v0).setCell ⟨g, 1, none⟩ v1).setCell ⟨g, 2, none⟩ v2).setCell ⟨g, 3, none⟩ v3).setCell ⟨g, 4, none⟩ v4).setCell ⟨g, 5, none⟩ v5
theorem six_is {w w0 : World} {g : Nat} {t : TypeId} {u0 u1 u2 u3 u4 u5 : Value} (h : Whole w g t #[u0, u1, u2, u3, u4, u5]) (hb : Below g w0 w) (v0 v1 v2 v3 v4 v5 : Value) : Whole (six w g v0 v1 v2 v3 v4 v5) g t #[v0, v1, v2, v3, v4, v5] ∧ Below g w0 (six w g v0 v1 v2 v3 v4 v5) := by
  refine ⟨(((((h.set8 0 v0 rfl).set8 1 v1 rfl).set8 2 v2 rfl).set8 3 v3 rfl).set8 4 v4 rfl).set8 5 v5 rfl, ?_⟩
  exact (((((hb.setCell (p := ⟨g, 0, none⟩) (Nat.le_refl _) v0).setCell (p := ⟨g, 1, none⟩) (Nat.le_refl _) v1).setCell (p := ⟨g, 2, none⟩) (Nat.le_refl _) v2).setCell (p := ⟨g, 3, none⟩) (Nat.le_refl _) v3).setCell (p := ⟨g, 4, none⟩) (Nat.le_refl _) v4).setCell (p := ⟨g, 5, none⟩) (Nat.le_refl _) v5
theorem RAt.parts {w : World} {g gi gm : Nat} {c i : Int} {st : RS} {vN vS vF vT : Value} {lo hi : Nat} (h : RAt w g gi gm c i st vN vS vF vT lo hi) : PartsAt w w.heap.size st.p vN vS vF vT := by
  obtain ⟨A, cp, e, ht⟩ := h.t
  have sl : ∀ {e : TypeId} {v : Value} {n : Nat} {xs : List Value}, w.ownsRow (g + 1) e 1 v n xs → SlAt w w.heap.size v n xs := fun ho => by
    obtain ⟨A, c, rfl, h1, h2⟩ := own_form ho
    exact ⟨A, c, rfl, h1, h2, Lies.own ho (Nat.le_refl _)⟩
  exact ⟨sl h.n, sl h.s, sl h.f, ⟨A, cp, 8, e, TabS.weak (fun b hb => Nat.lt_of_lt_of_le hb.2 h.l4) 8 _ _ _ ht⟩⟩
/-- the reader's blocks ahead of block r are as they were -/
theorem RAt.set_low {w w' : World} {g gi gm r : Nat} {c i : Int} {st : RS} {vN vS vF vT : Value} {lo hi : Nat} (h : RAt w g gi gm c i st vN vS vF vT lo hi) (hr : r < gi) (hk : ∀ k, k ≠ r → w'.heap[k]? = w.heap[k]?) (hz : w'.heap.size = w.heap.size) : PartsAt w' w'.heap.size st.p vN vS vF vT := by
  have l1 := h.l1
  have l2 := h.l2
  have l3 := h.l3
  obtain ⟨A, cp, e, ht⟩ := h.t
  have sl : ∀ {e : TypeId} {v : Value} {n : Nat} {xs : List Value}, w.ownsRow (g + 1) e 1 v n xs → SlAt w' w'.heap.size v n xs := fun ho => by
    have ho' := own_same ho (w' := w') (fun k hk' => hk k (by have := (ho.lt k hk').1; omega))
    obtain ⟨A, c, rfl, h1, h2⟩ := own_form ho'
    exact ⟨A, c, rfl, h1, h2, Lies.own ho' (Nat.le_refl _)⟩
  refine ⟨sl h.n, sl h.s, sl h.f, ⟨A, cp, 8, e, ?_⟩⟩
  have h5 := TabS.keep (w' := w') (fun b o hb => World.cell?_of_block (a := ⟨b, o, none⟩) (hk b (by omega))) 8 _ _ _ ht
  exact TabS.weak (fun b hb => by rw [hz]; exact Nat.lt_of_lt_of_le hb.2 h.l4) 8 _ _ _ h5
theorem six_keep (w : World) (g : Nat) (v0 v1 v2 v3 v4 v5 : Value) : (∀ k, k ≠ g → (six w g v0 v1 v2 v3 v4 v5).heap[k]? = w.heap[k]?) ∧ (six w g v0 v1 v2 v3 v4 v5).heap.size = w.heap.size := by
  constructor
  · intro k hk
    unfold six
    rw [Below.heap_setCell _ ⟨g, 5, none⟩ _ k hk, Below.heap_setCell _ ⟨g, 4, none⟩ _ k hk, Below.heap_setCell _ ⟨g, 3, none⟩ _ k hk, Below.heap_setCell _ ⟨g, 2, none⟩ _ k hk, Below.heap_setCell _ ⟨g, 1, none⟩ _ k hk, Below.heap_setCell _ ⟨g, 0, none⟩ _ k hk]
  · simp [six, World.setCell]
theorem head4 (b : List UInt8) : (short 2 b || short 2 (rst 2 b)) = decide (b.length < 4) ∧ (4 ≤ b.length → tk 2 b = b.take 2 ∧ tk 2 (rst 2 b) = (b.drop 2).take 2 ∧ rst 2 (rst 2 b) = b.drop 4) := by
  by_cases h : 4 ≤ b.length
  · have h1 : 2 ≤ b.length := by omega
    have h2 : 2 ≤ (b.drop 2).length := by rw [List.length_drop]; omega
    rw [rst_yes h1, short_no h1, short_no h2]
    refine ⟨by simp; omega, fun _ => ⟨tk_yes h1, tk_yes h2, ?_⟩⟩
    rw [rst_yes h2, List.drop_drop]
  · refine ⟨?_, fun h' => absurd h' h⟩
    by_cases h1 : 2 ≤ b.length
    · have h2 : (b.drop 2).length < 2 := by rw [List.length_drop]; omega
      rw [rst_yes h1, short_no h1, short_yes h2]
      simp; omega
    · rw [short_yes (by omega)]
      simp; omega
theorem nat_two (l : List UInt8) : nat (tk 2 l) < 65536 := by
  have h := nat_lt (tk 2 l)
  have h1 := tk_le 2 l
  have h2 : 256 ^ (tk 2 l).length ≤ 256 ^ 2 := Nat.pow_le_pow_right (by omega) h1
  omega

set_option maxHeartbeats 2000000 in
theorem mparse_any (A : Option Addr) (cap : Nat) (b : List UInt8) (B : Nat) (w : World) (hl : Lies w B A (B8 b)) (hB : B ≤ w.heap.size) (hs : b.length ≤ 140737488355328) :
    Calls Tryd.prog 8 #[.slice A b.length cap] w (MIs (parseM b) w) := by
  obtain ⟨P, hP⟩ : ∃ P, P = parseM b := ⟨_, rfl⟩
  rw [← hP]
  obtain ⟨cn, hcn⟩ : ∃ n, n = nat (tk 2 b) := ⟨_, rfl⟩
  obtain ⟨im, him⟩ : ∃ n, n = nat (tk 2 (rst 2 b)) := ⟨_, rfl⟩
  obtain ⟨R, hR⟩ : ∃ R, R = rst 2 (rst 2 b) := ⟨_, rfl⟩
  obtain ⟨bd, hbd⟩ : ∃ bd, bd = (short 2 b || short 2 (rst 2 b)) := ⟨_, rfl⟩
  have hc5 : cn < 65536 := by rw [hcn]; exact nat_two b
  have hi5 : im < 65536 := by rw [him]; exact nat_two _
  have hrl : R.length ≤ b.length := by rw [hR]; exact Nat.le_trans (rst_sub _ _) (rst_sub _ _)
  obtain ⟨q1, q2⟩ := head4 b
  have hPs : bd = true → P = .syn := by
    intro h
    rw [hbd, q1] at h
    rw [hP]
    unfold parseM
    rw [if_pos (of_decide_eq_true h)]
  have hPn : bd = false → formB (cn : Int) (im : Int) = none → P = .no := by
    intro h hf
    rw [hbd, q1] at h
    have h4 := of_decide_eq_false h
    obtain ⟨a1, a2, a3⟩ := q2 (by omega)
    rw [hP]
    unfold parseM
    rw [if_neg h4, ← a1, ← a2, ← hcn, ← him, hf]
  have hPo : ∀ ls, bd = false → formB (cn : Int) (im : Int) = some ls → P = (match pr0 ls 0 0 R with
      | some (p, []) => .ok cn im p
      | _ => .syn) := by
    intro ls h hf
    rw [hbd, q1] at h
    have h4 := of_decide_eq_false h
    obtain ⟨a1, a2, a3⟩ := q2 (by omega)
    rw [hP]
    unfold parseM
    rw [if_neg h4, ← a1, ← a2, ← hcn, ← him, hf, hR, a3]
  have HPS := Lib.hid hPs
  have HPN := Lib.hid hPn
  have HPO := Lib.hid hPo
  have HCN := Lib.hid hcn
  have HIM := Lib.hid him
  have HR := Lib.hid hR
  have HBD := Lib.hid hbd
  have HL := Lib.hid hl
  obtain ⟨w0, hw0⟩ : ∃ w0, w0 = w.alloc (.cells #[.int .i64 0, .int .i64 0, .slice none 0 0, .slice none 0 0, .slice none 0 0, .slice none 0 0] 32) := ⟨_, rfl⟩
  have hb0 : Below w.heap.size w w0 := by rw [hw0]; exact (Below.refl _ _).alloc (Nat.le_refl _) _
  have hs0 : w0.heap.size = w.heap.size + 1 := by rw [hw0]; simp
  have hk0 : Whole w0 w.heap.size 32 #[.int .i64 0, .int .i64 0, .slice none 0 0, .slice none 0 0, .slice none 0 0, .slice none 0 0] := by rw [hw0]; exact Whole.new _ _ _
  have HW0 := Lib.hid hw0
  have HB0 := Lib.hid hb0
  have HS0 := Lib.hid hs0
  have HK0 := Lib.hid hk0
  clear hP hcn him hR hbd q1 q2 hPs hPn hPo hl hw0 hb0 hs0 hk0
  go_enter Tryd.func8, Tryd.ntmps8
  go_wp2_with fail
  rw [← HW0.out]
  refine (from_any A cap b B w0 (HL.out.below (HB0.out.mono hB)) (by have := HS0.out; omega) hs).mono ?_
  rintro e w1 ⟨gi, hgi, rfl, hin1, hb1⟩
  have hgl := hin1.lt
  have HIN1 := Lib.hid hin1
  have HB1 := Lib.hid (HB0.out.trans (hb1.mono (by have := HS0.out; omega)))
  have HK1 := Lib.hid (HK0.out.below hb1 HK0.out.lt)
  have hrg : w.heap.size < gi := by have := HS0.out; omega
  clear hin1 hb1
  go_wp2_with fail
  refine (in_int gi 2 b false w1 HIN1.out).mono ?_
  rw [show wid 2 = 2 from rfl]
  rintro e w2 ⟨rfl, hin2, hg2⟩
  rw [← HCN.out]
  have HB2 := Lib.hid (HB1.out.trans (below_only hg2 (Nat.le_of_lt hrg) (Nat.le_of_lt (Nat.lt_trans hrg hgl))))
  have HK2 : Hid (Whole w2 w.heap.size 32 _) := Lib.hid ((hg2.block w.heap.size HK1.out.lt (by intro e; injection e; omega)).trans HK1.out)
  have HIN2 := Lib.hid hin2
  clear hin2 hg2
  go_wp2_with fail
  refine (in_int gi 2 (rst 2 b) (false || short 2 b) w2 HIN2.out).mono ?_
  rw [show wid 2 = 2 from rfl]
  rintro e w3 ⟨rfl, hin3, hg3⟩
  rw [← HIM.out]
  rw [Bool.false_or, ← HR.out, ← HBD.out] at hin3
  have hl2 := HIN2.out.lt
  have HB3 := Lib.hid (HB2.out.trans (below_only hg3 (Nat.le_of_lt hrg) (Nat.le_of_lt (Nat.lt_trans hrg hl2))))
  have HK3 : Hid (Whole w3 w.heap.size 32 _) := Lib.hid ((hg3.block w.heap.size HK2.out.lt (by intro e; injection e; omega)).trans HK2.out)
  have HIN3 := Lib.hid hin3
  have a0 : IntKind.i64.wrap (cn : Int) = cn := IntWalk.i64_in _ (by omega)
  have a1 : IntKind.i64.wrap (im : Int) = im := IntWalk.i64_in _ (by omega)
  obtain ⟨w4, hw4⟩ : ∃ w4, w4 = w3.alloc (.cells #[.int .i64 cn, .int .i64 im, .slice none 0 0, .slice none 0 0, .slice none 0 0, .slice none 0 0] 32) := ⟨_, rfl⟩
  have hl3 := HIN3.out.lt
  have hb4 : Below w3.heap.size w3 w4 := by rw [hw4]; exact (Below.refl _ _).alloc (Nat.le_refl _) _
  have hs4 : w4.heap.size = w3.heap.size + 1 := by rw [hw4]; simp
  have hm4 : Whole w4 w3.heap.size 32 #[.int .i64 cn, .int .i64 im, .slice none 0 0, .slice none 0 0, .slice none 0 0, .slice none 0 0] := by rw [hw4]; exact Whole.new _ _ _
  have HB4 := Lib.hid (HB3.out.trans (hb4.mono (Nat.le_of_lt (Nat.lt_trans hrg hl3))))
  have HK4 := Lib.hid (HK3.out.below hb4 (Nat.lt_trans hrg hl3))
  have HIN4 := Lib.hid (HIN3.out.below hb4 hl3)
  have HM4 := Lib.hid hm4
  have HS4 := Lib.hid hs4
  have HW4 := Lib.hid hw4
  have m0 : w4.cell? ⟨w3.heap.size, 0, none⟩ = some (.int .i64 cn) := hm4.cell 0
  have m1 : w4.cell? ⟨w3.heap.size, 1, none⟩ = some (.int .i64 im) := hm4.cell 1
  have rk : ∀ w', Below gi w4 w' → ∀ (r : Nat) , r = w.heap.size → Whole w' r 32 #[.int .i64 0, .int .i64 0, .slice none 0 0, .slice none 0 0, .slice none 0 0, .slice none 0 0] := fun w' hb' r hr => by subst hr; exact HK4.out.below hb' hrg
  have RK := Lib.hid rk
  -- the ends
  have hend : ∀ w', Below gi w4 w' → ∀ (e : Int) (r : PM), (P = r) → (r = .syn ∧ e = 4 ∨ r = .no ∧ e = 5) → MIs P w (.returned (.tuple #[zeroM, .int .i64 e])) (six w' w.heap.size (.int .i64 0) (.int .i64 0) (.slice none 0 0) (.slice none 0 0) (.slice none 0 0) (.slice none 0 0)) := by
    intro w' hb' e r hr he
    have hk' := RK.out w' hb' _ rfl
    obtain ⟨_, k2⟩ := six_is hk' (HB4.out.trans (hb'.mono (Nat.le_of_lt hrg))) (.int .i64 0) (.int .i64 0) (.slice none 0 0) (.slice none 0 0) (.slice none 0 0) (.slice none 0 0)
    refine ⟨k2, ?_⟩
    rw [hr]
    rcases he with ⟨rfl, rfl⟩ | ⟨rfl, rfl⟩ <;> rfl
  have HEND := Lib.hid hend
  clear hin3 hg3 hw4 hb4 hs4 hm4 rk hend
  go_wp2_with fail
  rw [← HW4.out]
  refine (in_ok gi R bd w4 HIN4.out).mono ?_
  rintro e w5 ⟨rfl, rfl⟩
  cases bd with
  | true =>
    have D := HEND.out w4 (Below.refl _ _) 4 .syn (HPS.out rfl) (.inl ⟨rfl, rfl⟩)
    have hk5 := RK.out w4 (Below.refl _ _) _ rfl
    have s0 : w4.cell? ⟨w.heap.size, 0, none⟩ = some (.int .i64 0) := hk5.cell 0
    have s1 : w4.cell? ⟨w.heap.size, 1, none⟩ = some (.int .i64 0) := hk5.cell 1
    have s2 : w4.cell? ⟨w.heap.size, 2, none⟩ = some (.slice none 0 0) := hk5.cell 2
    have s3 : w4.cell? ⟨w.heap.size, 3, none⟩ = some (.slice none 0 0) := hk5.cell 3
    have s4 : w4.cell? ⟨w.heap.size, 4, none⟩ = some (.slice none 0 0) := hk5.cell 4
    have s5 : w4.cell? ⟨w.heap.size, 5, none⟩ = some (.slice none 0 0) := hk5.cell 5
    have g0 := hk5.frozen 0
    have g1 := hk5.frozen 1
    have g2 := hk5.frozen 2
    have g3 := hk5.frozen 3
    have g4 := hk5.frozen 4
    have g5 := hk5.frozen 5
    obtain ⟨wf, hwf⟩ : ∃ wf, wf = six w4 w.heap.size (.int .i64 0) (.int .i64 0) (.slice none 0 0) (.slice none 0 0) (.slice none 0 0) (.slice none 0 0) := ⟨_, rfl⟩
    have hf6 := (six_is hk5 (Below.refl _ w4) (.int .i64 0) (.int .i64 0) (.slice none 0 0) (.slice none 0 0) (.slice none 0 0) (.slice none 0 0)).1
    rw [← hwf] at hf6 D
    have e0 : wf.cell? ⟨w.heap.size, 0, none⟩ = some (.int .i64 0) := hf6.cell 0
    have e1 : wf.cell? ⟨w.heap.size, 1, none⟩ = some (.int .i64 0) := hf6.cell 1
    have e2 : wf.cell? ⟨w.heap.size, 2, none⟩ = some (.slice none 0 0) := hf6.cell 2
    have e3 : wf.cell? ⟨w.heap.size, 3, none⟩ = some (.slice none 0 0) := hf6.cell 3
    have e4 : wf.cell? ⟨w.heap.size, 4, none⟩ = some (.slice none 0 0) := hf6.cell 4
    have e5 : wf.cell? ⟨w.heap.size, 5, none⟩ = some (.slice none 0 0) := hf6.cell 5
    clear hk5 hf6
    go_wp2_with fail
    have hwf2 := hwf
    unfold six at hwf2
    rw [← hwf2]
    exact bodyPost_ret (v := .tuple #[zeroM, .int .i64 4]) (by simp [results, Tryd.results8, go_sem, zeroM, e0, e1, e2, e3, e4, e5]) rfl D
  | false =>
    go_wp2_with fail
    refine (form_any cn im w4 (wf64 (by omega) (by omega)) (wf64 (by omega) (by omega))).mono ?_
    rintro e w5 ⟨rfl, hb5⟩
    have hz5 := hb5.size
    have HB5 : Hid (Below gi w4 w5) := Lib.hid (hb5.mono (Nat.le_of_lt HIN4.out.lt))
    have HIN5 := Lib.hid (HIN4.out.below hb5 HIN4.out.lt)
    have HM5 := Lib.hid (HM4.out.below hb5 HM4.out.lt)
    clear hb5
    cases hform : formB (cn : Int) (im : Int) with
    | none =>
      have hfv : formV (cn : Int) (im : Int) = .tuple #[.string ⟨#[]⟩, .bool false] := by unfold formV; rw [hform]
      rw [hfv]
      have D := HEND.out w5 HB5.out 5 .no (HPN.out (by trivial) hform) (.inr ⟨rfl, rfl⟩)
      clear hform hfv
      have hk5 := RK.out w5 HB5.out _ rfl
      have s0 : w5.cell? ⟨w.heap.size, 0, none⟩ = some (.int .i64 0) := hk5.cell 0
      have s1 : w5.cell? ⟨w.heap.size, 1, none⟩ = some (.int .i64 0) := hk5.cell 1
      have s2 : w5.cell? ⟨w.heap.size, 2, none⟩ = some (.slice none 0 0) := hk5.cell 2
      have s3 : w5.cell? ⟨w.heap.size, 3, none⟩ = some (.slice none 0 0) := hk5.cell 3
      have s4 : w5.cell? ⟨w.heap.size, 4, none⟩ = some (.slice none 0 0) := hk5.cell 4
      have s5 : w5.cell? ⟨w.heap.size, 5, none⟩ = some (.slice none 0 0) := hk5.cell 5
      have g0 := hk5.frozen 0
      have g1 := hk5.frozen 1
      have g2 := hk5.frozen 2
      have g3 := hk5.frozen 3
      have g4 := hk5.frozen 4
      have g5 := hk5.frozen 5
      obtain ⟨wf, hwf⟩ : ∃ wf, wf = six w5 w.heap.size (.int .i64 0) (.int .i64 0) (.slice none 0 0) (.slice none 0 0) (.slice none 0 0) (.slice none 0 0) := ⟨_, rfl⟩
      have hf6 := (six_is hk5 (Below.refl _ w5) (.int .i64 0) (.int .i64 0) (.slice none 0 0) (.slice none 0 0) (.slice none 0 0) (.slice none 0 0)).1
      rw [← hwf] at hf6 D
      have e0 : wf.cell? ⟨w.heap.size, 0, none⟩ = some (.int .i64 0) := hf6.cell 0
      have e1 : wf.cell? ⟨w.heap.size, 1, none⟩ = some (.int .i64 0) := hf6.cell 1
      have e2 : wf.cell? ⟨w.heap.size, 2, none⟩ = some (.slice none 0 0) := hf6.cell 2
      have e3 : wf.cell? ⟨w.heap.size, 3, none⟩ = some (.slice none 0 0) := hf6.cell 3
      have e4 : wf.cell? ⟨w.heap.size, 4, none⟩ = some (.slice none 0 0) := hf6.cell 4
      have e5 : wf.cell? ⟨w.heap.size, 5, none⟩ = some (.slice none 0 0) := hf6.cell 5
      clear hk5 hf6
      go_wp2_with fail
      have hwf2 := hwf
      unfold six at hwf2
      rw [← hwf2]
      exact bodyPost_ret (v := .tuple #[zeroM, .int .i64 5]) (by simp [results, Tryd.results8, go_sem, zeroM, e0, e1, e2, e3, e4, e5]) rfl D
    | some ls =>
      have hfv : formV (cn : Int) (im : Int) = .tuple #[.string ⟨ls.toArray⟩, .bool true] := by unfold formV; rw [hform]
      have HPL := Lib.hid (HPO.out ls (by trivial) hform)
      have HFI := Lib.hid (form_is hform)
      rw [hfv]
      clear hform hfv
      go_wp2_with fail
      refine (rparts_any ls R gi w3.heap.size cn im w5 HIN5.out HM5.out hl3 HFI.out.len HFI.out.good HFI.out.once (by omega)).mono ?_
      rintro e w6 ⟨hb6, hq⟩
      have HB6 : Hid (Below gi w4 w6) := Lib.hid (HB5.out.trans hb6)
      rcases hq with ⟨rfl, hno⟩ | ⟨rfl, st, vN, vS, vF, vT, lo, hi, hyes, hat⟩
      · have hsyn : P = .syn := by
          rw [HPL.out]
          cases hp : pr0 ls 0 0 R with
          | none => rfl
          | some x =>
            obtain ⟨p, r⟩ := x
            cases r with
            | nil => exact absurd hp (hno p)
            | cons _ _ => rfl
        have D := HEND.out w6 HB6.out 4 .syn hsyn (.inl ⟨rfl, rfl⟩)
        clear hno hsyn hb6
        have hk5 := RK.out w6 HB6.out _ rfl
        have s0 : w6.cell? ⟨w.heap.size, 0, none⟩ = some (.int .i64 0) := hk5.cell 0
        have s1 : w6.cell? ⟨w.heap.size, 1, none⟩ = some (.int .i64 0) := hk5.cell 1
        have s2 : w6.cell? ⟨w.heap.size, 2, none⟩ = some (.slice none 0 0) := hk5.cell 2
        have s3 : w6.cell? ⟨w.heap.size, 3, none⟩ = some (.slice none 0 0) := hk5.cell 3
        have s4 : w6.cell? ⟨w.heap.size, 4, none⟩ = some (.slice none 0 0) := hk5.cell 4
        have s5 : w6.cell? ⟨w.heap.size, 5, none⟩ = some (.slice none 0 0) := hk5.cell 5
        have g0 := hk5.frozen 0
        have g1 := hk5.frozen 1
        have g2 := hk5.frozen 2
        have g3 := hk5.frozen 3
        have g4 := hk5.frozen 4
        have g5 := hk5.frozen 5
        obtain ⟨wf, hwf⟩ : ∃ wf, wf = six w6 w.heap.size (.int .i64 0) (.int .i64 0) (.slice none 0 0) (.slice none 0 0) (.slice none 0 0) (.slice none 0 0) := ⟨_, rfl⟩
        have hf6 := (six_is hk5 (Below.refl _ w6) (.int .i64 0) (.int .i64 0) (.slice none 0 0) (.slice none 0 0) (.slice none 0 0) (.slice none 0 0)).1
        rw [← hwf] at hf6 D
        have e0 : wf.cell? ⟨w.heap.size, 0, none⟩ = some (.int .i64 0) := hf6.cell 0
        have e1 : wf.cell? ⟨w.heap.size, 1, none⟩ = some (.int .i64 0) := hf6.cell 1
        have e2 : wf.cell? ⟨w.heap.size, 2, none⟩ = some (.slice none 0 0) := hf6.cell 2
        have e3 : wf.cell? ⟨w.heap.size, 3, none⟩ = some (.slice none 0 0) := hf6.cell 3
        have e4 : wf.cell? ⟨w.heap.size, 4, none⟩ = some (.slice none 0 0) := hf6.cell 4
        have e5 : wf.cell? ⟨w.heap.size, 5, none⟩ = some (.slice none 0 0) := hf6.cell 5
        clear hk5 hf6
        go_wp2_with fail
        have hwf2 := hwf
        unfold six at hwf2
        rw [← hwf2]
        exact bodyPost_ret (v := .tuple #[zeroM, .int .i64 4]) (by simp [results, Tryd.results8, go_sem, zeroM, e0, e1, e2, e3, e4, e5]) rfl D
      · have hok : P = .ok cn im st.p := by rw [HPL.out, hyes]
        obtain ⟨AN, cN_, rfl, _, _⟩ := own_form hat.n
        obtain ⟨AS, cS_, rfl, _, _⟩ := own_form hat.s
        obtain ⟨AF, cF_, rfl, _, _⟩ := own_form hat.f
        obtain ⟨AT, cT_, rfl, _⟩ := hat.t
        obtain ⟨nn, hnn⟩ : ∃ n, n = st.p.n.length := ⟨_, rfl⟩
        obtain ⟨ns, hns⟩ : ∃ n, n = st.p.s.length := ⟨_, rfl⟩
        obtain ⟨nf, hnf⟩ : ∃ n, n = st.p.f.length := ⟨_, rfl⟩
        obtain ⟨nt, hnt⟩ : ∃ n, n = st.p.t.length := ⟨_, rfl⟩
        rw [← hnn, ← hns, ← hnf, ← hnt] at hat
        have n0 : w6.cell? ⟨w3.heap.size, 0, none⟩ = some (.int .i64 cn) := hat.m.cell 0
        have n1 : w6.cell? ⟨w3.heap.size, 1, none⟩ = some (.int .i64 im) := hat.m.cell 1
        have n2 : w6.cell? ⟨w3.heap.size, 2, none⟩ = some (.slice AN nn cN_) := hat.m.cell 2
        have n3 : w6.cell? ⟨w3.heap.size, 3, none⟩ = some (.slice AS ns cS_) := hat.m.cell 3
        have n4 : w6.cell? ⟨w3.heap.size, 4, none⟩ = some (.slice AF nf cF_) := hat.m.cell 4
        have n5 : w6.cell? ⟨w3.heap.size, 5, none⟩ = some (.slice AT nt cT_) := hat.m.cell 5
        have D : MIs P w (.returned (.tuple #[.agg #[.int .i64 cn, .int .i64 im, .slice AN nn cN_, .slice AS ns cS_, .slice AF nf cF_, .slice AT nt cT_], .int .i64 0])) (six w6 w.heap.size (.int .i64 cn) (.int .i64 im) (.slice AN nn cN_) (.slice AS ns cS_) (.slice AF nf cF_) (.slice AT nt cT_)) := by
          obtain ⟨_, k2⟩ := six_is (RK.out w6 HB6.out _ rfl) (HB4.out.trans (HB6.out.mono (Nat.le_of_lt hrg))) (.int .i64 cn) (.int .i64 im) (.slice AN nn cN_) (.slice AS ns cS_) (.slice AF nf cF_) (.slice AT nt cT_)
          obtain ⟨k3, k4⟩ := six_keep w6 w.heap.size (.int .i64 cn) (.int .i64 im) (.slice AN nn cN_) (.slice AS ns cS_) (.slice AF nf cF_) (.slice AT nt cT_)
          refine ⟨k2, ?_⟩
          rw [hok]
          exact ⟨_, _, _, _, rfl, hat.set_low hrg k3 k4⟩
        clear hok hyes hat hb6 hnn hns hnf hnt
        have hk5 := RK.out w6 HB6.out _ rfl
        have s0 : w6.cell? ⟨w.heap.size, 0, none⟩ = some (.int .i64 0) := hk5.cell 0
        have s1 : w6.cell? ⟨w.heap.size, 1, none⟩ = some (.int .i64 0) := hk5.cell 1
        have s2 : w6.cell? ⟨w.heap.size, 2, none⟩ = some (.slice none 0 0) := hk5.cell 2
        have s3 : w6.cell? ⟨w.heap.size, 3, none⟩ = some (.slice none 0 0) := hk5.cell 3
        have s4 : w6.cell? ⟨w.heap.size, 4, none⟩ = some (.slice none 0 0) := hk5.cell 4
        have s5 : w6.cell? ⟨w.heap.size, 5, none⟩ = some (.slice none 0 0) := hk5.cell 5
        have g0 := hk5.frozen 0
        have g1 := hk5.frozen 1
        have g2 := hk5.frozen 2
        have g3 := hk5.frozen 3
        have g4 := hk5.frozen 4
        have g5 := hk5.frozen 5
        obtain ⟨wf, hwf⟩ : ∃ wf, wf = six w6 w.heap.size (.int .i64 cn) (.int .i64 im) (.slice AN nn cN_) (.slice AS ns cS_) (.slice AF nf cF_) (.slice AT nt cT_) := ⟨_, rfl⟩
        have hf6 := (six_is hk5 (Below.refl _ w6) (.int .i64 cn) (.int .i64 im) (.slice AN nn cN_) (.slice AS ns cS_) (.slice AF nf cF_) (.slice AT nt cT_)).1
        rw [← hwf] at hf6 D
        have e0 : wf.cell? ⟨w.heap.size, 0, none⟩ = some (.int .i64 cn) := hf6.cell 0
        have e1 : wf.cell? ⟨w.heap.size, 1, none⟩ = some (.int .i64 im) := hf6.cell 1
        have e2 : wf.cell? ⟨w.heap.size, 2, none⟩ = some (.slice AN nn cN_) := hf6.cell 2
        have e3 : wf.cell? ⟨w.heap.size, 3, none⟩ = some (.slice AS ns cS_) := hf6.cell 3
        have e4 : wf.cell? ⟨w.heap.size, 4, none⟩ = some (.slice AF nf cF_) := hf6.cell 4
        have e5 : wf.cell? ⟨w.heap.size, 5, none⟩ = some (.slice AT nt cT_) := hf6.cell 5
        clear hk5 hf6
        go_wp2_with fail
        have hwf2 := hwf
        unfold six at hwf2
        rw [← hwf2]
        exact bodyPost_ret (v := .tuple #[.agg #[.int .i64 cn, .int .i64 im, .slice AN nn cN_, .slice AS ns cS_, .slice AF nf cF_, .slice AT nt cT_], .int .i64 0]) (by simp [results, Tryd.results8, go_sem, zeroM, e0, e1, e2, e3, e4, e5]) rfl D
end Go.Proofs.YtlfppfknelddcaaDoor
