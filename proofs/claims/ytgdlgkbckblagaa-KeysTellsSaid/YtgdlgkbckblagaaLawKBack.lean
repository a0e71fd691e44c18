/- Layer 12: the law on keys and messages that are read as they were told. -/
import Derived.Test.YtgdlgkbckblagaaLawKOrder
import Derived.Test.YtgdlgkbckblagaaKeyU
namespace Go.Proofs.Ytgdlgkbckblagaa
open Go.RowKit
set_option maxRecDepth 100000
set_option linter.unusedSimpArgs false
set_option linter.unusedVariables false

def msC (E K T : List UInt8) (m : Int) (v : Value) : Array Value := #[.string ⟨E.toArray⟩, .string ⟨K.toArray⟩, .string ⟨T.toArray⟩, .int .i64 m, v]
/-- two keys and a message in their boxes -/
structure BackK (w W : World) (k : Int) (A B C : List UInt8) (id : Nat) (k' : Int) (A' B' C' : List UInt8) (id' : Nat) (E K T : List UInt8) (m : Int) (X : Option Addr) (cp : Nat) (l : List UInt8) : Prop where
  t : TwoK w W k A B C id k' A' B' C' id'
  m : Whole W (w.heap.size + 2) 32 (msC E K T m (.slice X l.length cp))
  l : Lies W w.heap.size X (B8 l)
section
variable {w W W' : World} {k : Int} {A B C : List UInt8} {id : Nat} {k' : Int} {A' B' C' : List UInt8} {id' : Nat} {E K T : List UInt8} {m : Int} {X : Option Addr} {cp : Nat} {l : List UInt8}
theorem BackK.below (h : BackK w W k A B C id k' A' B' C' id' E K T m X cp l) (hb : Below W.heap.size W W') : BackK w W' k A B C id k' A' B' C' id' E K T m X cp l :=
  ⟨h.t.below hb, h.m.below hb h.m.lt, h.l.below (hb.mono h.t.bel.size)⟩
theorem BackK.drew (h : BackK w W k A B C id k' A' B' C' id' E K T m X cp l) : BackK w W.drew k A B C id k' A' B' C' id' E K T m X cp l := ⟨h.t.drew, h.m, h.l⟩
theorem BackK.new (w : World) (k : Int) (A B C : List UInt8) (id : Nat) (k' : Int) (A' B' C' : List UInt8) (id' : Nat) (E K T : List UInt8) (m : Int) (X : Option Addr) (cp : Nat) (l : List UInt8) (hl : Lies w w.heap.size X (B8 l)) :
    BackK w (((w.alloc (.cells (kyC k A B C id) 28)).alloc (.cells (kyC k' A' B' C' id') 28)).alloc (.cells (msC E K T m (.slice X l.length cp)) 32)) k A B C id k' A' B' C' id' E K T m X cp l := by
  have t := TwoK.new w k A B C id k' A' B' C' id'
  have hb : ∀ o, Below ((w.alloc (.cells (kyC k A B C id) 28)).alloc (.cells (kyC k' A' B' C' id') 28)).heap.size ((w.alloc (.cells (kyC k A B C id) 28)).alloc (.cells (kyC k' A' B' C' id') 28)) (((w.alloc (.cells (kyC k A B C id) 28)).alloc (.cells (kyC k' A' B' C' id') 28)).alloc o) := fun o => (Below.refl _ _).alloc (Nat.le_refl _) _
  have h := Whole.new ((w.alloc (.cells (kyC k A B C id) 28)).alloc (.cells (kyC k' A' B' C' id') 28)) 32 (msC E K T m (.slice X l.length cp))
  rw [show ((w.alloc (.cells (kyC k A B C id) 28)).alloc (.cells (kyC k' A' B' C' id') 28)).heap.size = w.heap.size + 2 by simp] at h
  have t' := t.below (hb (.cells (msC E K T m (.slice X l.length cp)) 32))
  exact ⟨t', h, hl.below t'.bel⟩
theorem Lies.aside5 {W : World} {g B : Nat} {X : Option Addr} {xs : List Value} (h : Lies W B X xs) (hg : B ≤ g) (u0 u1 u2 u3 u4 : Value) : Lies (((((W.setCell ⟨g, 0, none⟩ u0).setCell ⟨g, 1, none⟩ u1).setCell ⟨g, 2, none⟩ u2).setCell ⟨g, 3, none⟩ u3).setCell ⟨g, 4, none⟩ u4) B X xs :=
  h.below (below_put12 (Below.refl B W) hg u0 u1 u2 u3 u4)
theorem BackK.put (h : BackK w W k A B C id k' A' B' C' id' E K T m X cp l) (q : Int) (Y Z U : List UInt8) (j : Nat) (q' : Int) (Y' Z' U' : List UInt8) (j' : Nat) :
    BackK w ((((((((((W.setCell ⟨w.heap.size, 0, none⟩ (.int .i64 q)).setCell ⟨w.heap.size, 1, none⟩ (.string ⟨Y.toArray⟩)).setCell ⟨w.heap.size, 2, none⟩ (.string ⟨Z.toArray⟩)).setCell ⟨w.heap.size, 3, none⟩ (.string ⟨U.toArray⟩)).setCell ⟨w.heap.size, 4, none⟩ (.int .u64 j)).setCell
      ⟨w.heap.size + 1, 0, none⟩ (.int .i64 q')).setCell ⟨w.heap.size + 1, 1, none⟩ (.string ⟨Y'.toArray⟩)).setCell ⟨w.heap.size + 1, 2, none⟩ (.string ⟨Z'.toArray⟩)).setCell ⟨w.heap.size + 1, 3, none⟩ (.string ⟨U'.toArray⟩)).setCell ⟨w.heap.size + 1, 4, none⟩ (.int .u64 j')) q Y Z U j q' Y' Z' U' j' E K T m X cp l :=
  ⟨h.t.put _ _ _ _ _ _ _ _ _ _, (h.m.aside5 (by omega) _ _ _ _ _).aside5 (by omega) _ _ _ _ _, (h.l.aside5 (Nat.le_refl _) _ _ _ _ _).aside5 (by omega) _ _ _ _ _⟩
end
theorem msg_no (E K T : List UInt8) (m : Int) (A : Option Addr) (n c : Nat) (b : List UInt8) (B : Nat) (w : World) (hn : n = b.length) (hl : Lies w B A (B8 b)) (hB : B ≤ w.heap.size) (hE : E.length ≤ maxLen) (hK : K.length ≤ maxLen) (hT : T.length ≤ maxLen) (hb : b.length ≤ maxLen)
    (h : okM E.length K.length T.length m b.length = false) :
    Calls Try.prog 9 #[msV E K T m (.slice A n c)] w fun e w' => e = .returned (.tuple #[.slice none 0 0, .bool false]) ∧ Below w.heap.size w w' := by
  refine (msg_any E K T m A n c b B w hn hl hB hE hK hT hb).mono ?_
  rintro e w' (⟨_, h1, h2⟩ | ⟨h1, _⟩)
  · exact ⟨h1, h2⟩
  · rw [h] at h1; cases h1
theorem pmsg_no (A : Option Addr) (n c : Nat) (s : List UInt8) (B : Nat) (w : World) (hn : n = s.length) (hl : Lies w B A (B8 s)) (hB : B ≤ w.heap.size) (hs : s.length ≤ 140737488355328) (h : msgOf s = none) :
    Calls Try.prog 16 #[.slice A n c] w fun e w' => e = .returned (.tuple #[msV [] [] [] 0 (.slice none 0 0), .bool false]) ∧ Below w.heap.size w w' := by
  refine (pmsg_any A n c s B w hn hl hB hs).mono ?_
  rw [h]
  exact fun e w' h => h
theorem none_msg : msgOf [] = none := by kernel_rfl
set_option maxHeartbeats 8000000 in
theorem kback_law (k : Int) (A B C : List UInt8) (id : Nat) (k' : Int) (A' B' C' : List UInt8) (id' : Nat) (E K T : List UInt8) (m : Int) (X : Option Addr) (cp : Nat) (l : List UInt8) (w : World) (hA : A.length ≤ maxLen) (hB : B.length ≤ maxLen) (hC : C.length ≤ maxLen) (hA' : A'.length ≤ maxLen) (hB' : B'.length ≤ maxLen) (hC' : C'.length ≤ maxLen)
    (hi : id < 18446744073709551616) (hi' : id' < 18446744073709551616) (hE : E.length ≤ maxLen) (hK : K.length ≤ maxLen) (hT : T.length ≤ maxLen) (hlc : l.length ≤ cp) (hcm : cp ≤ maxLen) (hl : Lies w w.heap.size X (B8 l)) :
    Calls Try.prog 5 #[kyV k A B C id, kyV k' A' B' C' id', msV E K T m (.slice X l.length cp)] w fun e w' => e = .returned (.bool true) ∧ Below w.heap.size w w' := by
  have hlm : l.length ≤ maxLen := Nat.le_trans hlc hcm
  have N0 := Lib.hid (BackK.new w k A B C id k' A' B' C' id' E K T m X cp l hl)
  by_cases h11 : (11000 : Int) < (l.length : Int)
  · obtain ⟨c0, c1, c2, c3, c4⟩ := five12 N0.out.m
    unfold kyC msC at c0 c1 c2 c3 c4 N0
    unfold kyV msV
    go_enter Try.func5, Try.ntmps5
    go_wp2_with fail
    refine (awake12_any _).mono ?_
    rintro e w1 ⟨rfl, hb1⟩
    have N1 := Lib.hid (N0.out.below hb1)
    clear hb1
    go_wp2_with fail
    go_ret
    exact ⟨rfl, N1.out.t.bel⟩
  have h11' : (l.length : Int) ≤ 11000 := by omega
  have ta := fun w => ktame_any k A B C id w hA hB hC
  have tb := fun w => ktame_any k' A' B' C' id' w hA' hB' hC'
  have oa := tame_ok k A B C id
  have ob := tame_ok k' A' B' C' id'
  have ia := tame_less k A B C id hi
  have ib := tame_less k' A' B' C' id' hi'
  have la := okK_less oa
  have lb := okK_less ob
  obtain ⟨q, hq⟩ : ∃ q, q = tmq k := ⟨_, rfl⟩
  obtain ⟨q', hq'⟩ : ∃ q, q = tmq k' := ⟨_, rfl⟩
  rw [← hq] at ta oa la
  rw [← hq'] at tb ob lb
  obtain ⟨n, hn⟩ : ∃ n, n = q + 1 := ⟨_, rfl⟩
  obtain ⟨n', hn'⟩ : ∃ n, n = q' + 1 := ⟨_, rfl⟩
  rw [← hn] at ta oa la
  rw [← hn'] at tb ob lb
  clear hq hq' hn hn'
  obtain ⟨A1, hA1⟩ : ∃ X, X = tmA k A := ⟨_, rfl⟩
  obtain ⟨B1, hB1⟩ : ∃ X, X = tmB k B := ⟨_, rfl⟩
  obtain ⟨C1, hC1⟩ : ∃ X, X = tmC k C := ⟨_, rfl⟩
  obtain ⟨i1, hi1⟩ : ∃ X, X = tmI k id := ⟨_, rfl⟩
  obtain ⟨A2, hA2⟩ : ∃ X, X = tmA k' A' := ⟨_, rfl⟩
  obtain ⟨B2, hB2⟩ : ∃ X, X = tmB k' B' := ⟨_, rfl⟩
  obtain ⟨C2, hC2⟩ : ∃ X, X = tmC k' C' := ⟨_, rfl⟩
  obtain ⟨i2, hi2⟩ : ∃ X, X = tmI k' id' := ⟨_, rfl⟩
  rw [← hA1, ← hB1, ← hC1, ← hi1] at ta oa la
  rw [← hA2, ← hB2, ← hC2, ← hi2] at tb ob lb
  rw [← hi1] at ia
  rw [← hi2] at ib
  obtain ⟨_, _, _, zA1, zB1, zC1, _⟩ := la
  obtain ⟨_, _, _, zA2, zB2, zC2, _⟩ := lb
  obtain ⟨S, hS⟩ : ∃ X, X = txK n A1 B1 C1 i1 := ⟨_, rfl⟩
  obtain ⟨U, hU⟩ : ∃ X, X = txK n' A2 B2 C2 i2 := ⟨_, rfl⟩
  have sl := tx_length oa
  have sb := key_back oa ia
  have su : S = U → n = n' ∧ A1 = A2 ∧ B1 = B2 ∧ C1 = C2 ∧ i1 = i2 := fun e => by
    rw [hS, hU] at e
    obtain ⟨e1, e2⟩ := tx_one oa ob ia ib e
    exact ⟨by omega, e2⟩
  rw [← hS] at sl sb
  have sz := key_size S
  have zl : (S.length : Int) ≤ 130 := by omega
  have zs : S.length ≤ 140737488355328 := by omega
  have TA := Lib.hid ta
  have TB := Lib.hid tb
  have OA := Lib.hid oa
  have OB := Lib.hid ob
  have HS := Lib.hid hS
  have HU := Lib.hid hU
  have SB := Lib.hid sb
  have SU := Lib.hid su
  have T0 := Lib.hid N0.out.drew
  have TP := Lib.hid (fun (W : World) (h : BackK w W k A B C id k' A' B' C' id' E K T m X cp l) => h.put (n : Int) A1 B1 C1 i1 (n' : Int) A2 B2 C2 i2)
  obtain ⟨e0, e1, e2, e3, e4⟩ := five12 N0.out.m
  clear ta tb oa ob hS hU sb su sl hA1 hB1 hC1 hi1 hA2 hB2 hC2 hi2 hA hB hC hA' hB' hC' hl N0 ia ib
  unfold kyV msV
  go_enter Try.func5, Try.ntmps5
  go_upto_region 3 with fail
  clear e0 e1 e2 e3 e4
  go_cut [] (fun wx => BackK w wx (n : Int) A1 B1 C1 i1 (n' : Int) A2 B2 C2 i2 E K T m X cp l)
  case first =>
    have TT := T0
    obtain ⟨c0, c1, c2, c3, c4⟩ := five12 TT.out.t.a
    obtain ⟨d0, d1, d2, d3, d4⟩ := five12 TT.out.t.b
    unfold kyV at TA TB
    unfold kyC msC at c0 c1 c2 c3 c4 d0 d1 d2 d3 d4 T0 TT
    go_region_with (first
      | (go_at_call 14; with_reducible refine (TA.out _).mono ?_; rintro e w1 ⟨rfl, hb1⟩; have TT := Lib.hid (TT.out.below hb1); clear c0 c1 c2 c3 c4 d0 d1 d2 d3 d4 hb1; obtain ⟨c0, c1, c2, c3, c4⟩ := five12 TT.out.t.a; obtain ⟨d0, d1, d2, d3, d4⟩ := five12 TT.out.t.b; have f0 := TT.out.t.a.frozen; have f1 := TT.out.t.b.frozen)
      | (go_at_call 14; go_must (with_reducible refine (TB.out _).mono ?_); rintro e w1 ⟨rfl, hb1⟩; have TT := Lib.hid (TT.out.below hb1); clear c0 c1 c2 c3 c4 d0 d1 d2 d3 d4 hb1; obtain ⟨c0, c1, c2, c3, c4⟩ := five12 TT.out.t.a; obtain ⟨d0, d1, d2, d3, d4⟩ := five12 TT.out.t.b; have f0 := TT.out.t.a.frozen; have f1 := TT.out.t.b.frozen))
    all_goals (go_wp2_with fail; go_meet; exact TP.out _ TT.out)
  case rest =>
  obtain ⟨w0, hw0⟩ : ∃ w0, w0 = wc := ⟨_, rfl⟩
  rw [← hw0] at hcut
  rw [← hw0]
  have T1 := Lib.hid hcut
  clear hcut hw0 T0 TP TA TB
  obtain ⟨c0, c1, c2, c3, c4⟩ := five12 T1.out.t.a
  go_wp2_with fail
  refine (text_at n A1 B1 C1 i1 _ true S (room63 (by omega)) (room63 (by omega)) (room63 (by omega)) OA.out HS.out.symm).mono ?_
  rintro e w2 ⟨rfl, hb2⟩
  have T2 := Lib.hid (T1.out.below hb2)
  clear c0 c1 c2 c3 c4 hb2
  obtain ⟨d0, d1, d2, d3, d4⟩ := five12 T2.out.t.b
  go_wp2_with fail
  refine (text_at n' A2 B2 C2 i2 _ true U (room63 (by omega)) (room63 (by omega)) (room63 (by omega)) OB.out HU.out.symm).mono ?_
  rintro e w3 ⟨rfl, hb3⟩
  have T3 := Lib.hid (T2.out.below hb3)
  clear d0 d1 d2 d3 d4 hb3
  go_wp2_with fail
  refine (kparse_yes S _ zs n A1 B1 C1 i1 SB.out).mono ?_
  rintro e w4 ⟨rfl, hb4⟩
  have T4 := Lib.hid (T3.out.below hb4)
  clear hb4
  obtain ⟨W5, hW5⟩ : ∃ W, W = w4.alloc (.cells (kyC n A1 B1 C1 i1) 28) := ⟨_, rfl⟩
  have K5 : Hid (Whole W5 w4.heap.size 28 (kyC n A1 B1 C1 i1)) := Lib.hid (by rw [hW5]; exact Whole.new _ _ _)
  have T5 : Hid (BackK w W5 (n : Int) A1 B1 C1 i1 (n' : Int) A2 B2 C2 i2 E K T m X cp l) := Lib.hid (by rw [hW5]; exact T4.out.below ((Below.refl _ _).alloc (Nat.le_refl _) _))
  unfold kyV
  go_upto_region 7 with fail
  unfold kyC at hW5
  rw [← hW5]
  clear hW5
  go_cut [69] (fun t wx => t = .bool false ∧ wx = W5)
  case first =>
    obtain ⟨c0, c1, c2, c3, c4⟩ := five12 T5.out.t.a
    obtain ⟨d0, d1, d2, d3, d4⟩ := five12 T5.out.t.b
    obtain ⟨e0, e1, e2, e3, e4⟩ := five12 K5.out
    clear T4 T3 T2 T1
    by_cases hSU : S = U
    · obtain ⟨rfl, rfl, rfl, rfl, rfl⟩ := SU.out hSU
      subst hSU
      go_wp2_with fail
      go_meet
      exact ⟨by first | rfl | (simp; omega), rfl⟩
    · have hb : (S == U) = false := beq_false_of_ne hSU
      have hne : Hid (¬ (n = n' ∧ A1 = A2 ∧ B1 = B2 ∧ C1 = C2 ∧ i1 = i2)) := Lib.hid (by
        rintro ⟨rfl, rfl, rfl, rfl, rfl⟩
        exact hSU (HS.out.trans HU.out.symm))
      go_wp2_with fail
      all_goals go_meet
      all_goals first | exact ⟨by first | rfl | (simp; omega), rfl⟩ | exact (hne.out ⟨by omega, by assumption, by assumption, by assumption, by omega⟩).elim
  case rest =>
  obtain ⟨rfl, e5⟩ := hcut
  rw [e5]
  clear e5 K5 T1 T2 T3 T4
  obtain ⟨e0, e1, e2, e3, e4⟩ := five12 T5.out.m
  have zw : w.heap.size ≤ W5.heap.size := T5.out.t.bel.size
  have hl5 := Lib.hid T5.out.l
  have s1 := key_size E
  have s2 := key_size K
  have s3 := key_size T
  cases hok : okM E.length K.length T.length m l.length with
  | true =>
    obtain ⟨g1, g2, g3, g4, g5, g6⟩ := okM_yes hok
    obtain ⟨mn, rfl⟩ := Int.eq_ofNat_of_zero_le g4
    obtain ⟨Z, hZ⟩ : ∃ Z, Z = msB E K T mn l := ⟨_, rfl⟩
    have hZb := msg_back hok
    have hZl := msB_length hok
    rw [← hZ] at hZb hZl
    have HZ := Lib.hid hZ
    have HZB := Lib.hid hZb
    have HOK := Lib.hid hok
    clear hZ hZb hok
    go_wp2_with fail
    refine (msg_yes E K T mn mn X l.length cp l _ _ rfl rfl hl5.out zw hE hK hT hlm HOK.out Z HZ.out.symm).mono ?_
    rintro e w6 ⟨v6, rfl, ho6, hb6⟩
    obtain ⟨A6, c6, rfl, _, _⟩ := own_form ho6
    have L6 := Lib.hid (Lies.own ho6 (Nat.le_refl _))
    have T6 := Lib.hid (T5.out.below hb6)
    clear e0 e1 e2 e3 e4 ho6 hb6 hl5
    go_wp2_with fail
    refine (pmsg_yes A6 _ c6 Z _ _ rfl L6.out (Nat.le_refl _) (by omega) E K T mn l HZB.out).mono ?_
    rintro e w7 ⟨A7, c7, rfl, hl7, hb7⟩
    have T7 := Lib.hid (T6.out.below hb7)
    obtain ⟨W8, hW8⟩ : ∃ W, W = w7.alloc (.cells (msC E K T (mn : Int) (.slice A7 l.length c7)) 32) := ⟨_, rfl⟩
    have K8 : Hid (Whole W8 w7.heap.size 32 (msC E K T (mn : Int) (.slice A7 l.length c7))) := Lib.hid (by rw [hW8]; exact Whole.new _ _ _)
    have L8 : Hid (Lies W8 w7.heap.size A7 (B8 l)) := Lib.hid (by rw [hW8]; exact hl7.alloc (Nat.le_refl _) _)
    have T8 : Hid (BackK w W8 (n : Int) A1 B1 C1 i1 (n' : Int) A2 B2 C2 i2 E K T mn X cp l) := Lib.hid (by rw [hW8]; exact T7.out.below ((Below.refl _ _).alloc (Nat.le_refl _) _))
    have z8 : w7.heap.size ≤ W8.heap.size := Nat.le_of_lt K8.out.lt
    unfold msV
    go_upto_region 11 with fail
    unfold msC at hW8
    rw [← hW8]
    clear hW8 hl7 hb7
    obtain ⟨e0, e1, e2, e3, e4⟩ := five12 T8.out.m
    obtain ⟨d0, d1, d2, d3, d4⟩ := five12 K8.out
    have i1' : (E.length : Int) ≤ 30 := by omega
    have i2' : (K.length : Int) ≤ 60 := by omega
    have i3' : (T.length : Int) ≤ 60 := by omega
    have i5' : (mn : Int) ≤ 2 := by omega
    have i6' : (l.length : Int) ≤ 10000 := by omega
    have zz : w.heap.size ≤ W8.heap.size := T8.out.t.bel.size
    unfold maxLen at hE hK hT hlm
    go_wp2_with fail
    refine (same_any12 E K T mn A7 l.length c7 l E K T mn X l.length cp l _ _ _ rfl rfl L8.out T8.out.l z8 zz).mono ?_
    rintro e w9 ⟨rfl, hb9⟩
    rw [show sameM E K T mn l E K T mn l = true by simp [sameM]]
    have T9 := Lib.hid (T8.out.below hb9)
    clear hb9 e0 e1 e2 e3 e4 d0 d1 d2 d3 d4
    go_wp2_with fail
    refine (awake12_any _).mono ?_
    rintro e w10 ⟨rfl, hb10⟩
    have T10 := Lib.hid (T9.out.below hb10)
    clear hb10
    go_wp2_with fail
    go_ret
    exact ⟨rfl, T10.out.t.bel⟩
  | false =>
    have HOK := Lib.hid hok
    clear hok
    go_wp2_with fail
    refine (msg_no E K T m X l.length cp l _ _ rfl hl5.out zw hE hK hT hlm HOK.out).mono ?_
    rintro e w6 ⟨rfl, hb6⟩
    have T6 := Lib.hid (T5.out.below hb6)
    clear e0 e1 e2 e3 e4 hb6 hl5
    go_wp2_with fail
    refine (pmsg_no none 0 0 [] 0 _ rfl (Lies.empty _ _ _) (Nat.zero_le _) (by decide) none_msg).mono ?_
    rintro e w7 ⟨rfl, hb7⟩
    have T7 := Lib.hid (T6.out.below hb7)
    obtain ⟨W8, hW8⟩ : ∃ W, W = w7.alloc (.cells (msC [] [] [] 0 (.slice none 0 0)) 32) := ⟨_, rfl⟩
    have T8 : Hid (BackK w W8 (n : Int) A1 B1 C1 i1 (n' : Int) A2 B2 C2 i2 E K T m X cp l) := Lib.hid (by rw [hW8]; exact T7.out.below ((Below.refl _ _).alloc (Nat.le_refl _) _))
    unfold msV
    go_upto_region 11 with fail
    unfold msC at hW8
    rw [← hW8]
    clear hW8 hb7
    obtain ⟨e0, e1, e2, e3, e4⟩ := five12 T8.out.m
    have hno : ¬ ((E.length : Int) ≤ 30 ∧ (K.length : Int) ≤ 60 ∧ (T.length : Int) ≤ 60 ∧ 0 ≤ m ∧ m ≤ 2 ∧ (l.length : Int) ≤ 10000) := by
      intro h
      have := okM_is (e := E.length) (k := K.length) (t := T.length) (m := m) (n := l.length) (by omega)
      rw [HOK.out] at this
      cases this
    have HNO := Lib.hid hno
    unfold maxLen at hE hK hT hlm
    clear hno T5 T6 T7
    by_cases y0 : (E.length : Int) ≤ 30
    rotate_left
    · go_wp2_with fail
      refine (awake12_any _).mono ?_
      rintro e w10 ⟨rfl, hb10⟩
      have T10 := Lib.hid (T8.out.below hb10)
      clear hb10
      go_wp2_with fail
      go_ret
      exact ⟨rfl, T10.out.t.bel⟩
    by_cases y1 : (K.length : Int) ≤ 60
    rotate_left
    · go_wp2_with fail
      refine (awake12_any _).mono ?_
      rintro e w10 ⟨rfl, hb10⟩
      have T10 := Lib.hid (T8.out.below hb10)
      clear hb10
      go_wp2_with fail
      go_ret
      exact ⟨rfl, T10.out.t.bel⟩
    by_cases y2 : (T.length : Int) ≤ 60
    rotate_left
    · go_wp2_with fail
      refine (awake12_any _).mono ?_
      rintro e w10 ⟨rfl, hb10⟩
      have T10 := Lib.hid (T8.out.below hb10)
      clear hb10
      go_wp2_with fail
      go_ret
      exact ⟨rfl, T10.out.t.bel⟩
    by_cases y3 : 0 ≤ m
    rotate_left
    · go_wp2_with fail
      refine (awake12_any _).mono ?_
      rintro e w10 ⟨rfl, hb10⟩
      have T10 := Lib.hid (T8.out.below hb10)
      clear hb10
      go_wp2_with fail
      go_ret
      exact ⟨rfl, T10.out.t.bel⟩
    by_cases y4 : m ≤ 2
    rotate_left
    · go_wp2_with fail
      refine (awake12_any _).mono ?_
      rintro e w10 ⟨rfl, hb10⟩
      have T10 := Lib.hid (T8.out.below hb10)
      clear hb10
      go_wp2_with fail
      go_ret
      exact ⟨rfl, T10.out.t.bel⟩
    by_cases y5 : (l.length : Int) ≤ 10000
    rotate_left
    · go_wp2_with fail
      refine (awake12_any _).mono ?_
      rintro e w10 ⟨rfl, hb10⟩
      have T10 := Lib.hid (T8.out.below hb10)
      clear hb10
      go_wp2_with fail
      go_ret
      exact ⟨rfl, T10.out.t.bel⟩
    exact (HNO.out ⟨y0, y1, y2, y3, y4, y5⟩).elim
end Go.Proofs.Ytgdlgkbckblagaa
