/- Contracts of package keys: a message is read. -/
import Derived.Test.YtgdlgkbckblagaaKeyM
namespace Go.Proofs.Ytgdlgkbckblagaa
open Go.RowKit
set_option maxRecDepth 100000
set_option linter.unusedSimpArgs false
set_option linter.unusedVariables false

/-- the message that octets are, or none -/
def msgOf (l : List UInt8) : Option (List UInt8 × List UInt8 × List UInt8 × Nat × List UInt8) :=
  if !(((txtShort 1 l || txtShort 1 (txtRest 1 l)) || txtShort 1 (txtRest 1 (txtRest 1 l))) || short 1 (txtRest 1 (txtRest 1 (txtRest 1 l)))) &&
    okM (txt 1 l).length (txt 1 (txtRest 1 l)).length (txt 1 (txtRest 1 (txtRest 1 l))).length (nat (tk 1 (txtRest 1 (txtRest 1 (txtRest 1 l)))) : Int) (rst 1 (txtRest 1 (txtRest 1 (txtRest 1 l)))).length
  then some (txt 1 l, txt 1 (txtRest 1 l), txt 1 (txtRest 1 (txtRest 1 l)), nat (tk 1 (txtRest 1 (txtRest 1 (txtRest 1 l)))), rst 1 (txtRest 1 (txtRest 1 (txtRest 1 l))))
  else none
/-- a message as a value, of its octets in memory -/
def tellsN (r : Option (List UInt8 × List UInt8 × List UInt8 × Nat × List UInt8)) (w : World) (e : Ending) (w' : World) : Prop :=
  (match r with
    | some (E, K, T, m, b) => ∃ A c, e = .returned (.tuple #[msV E K T (m : Int) (.slice A b.length c), .bool true]) ∧ b.length ≤ c ∧ c ≤ maxLen ∧ Lies w' w'.heap.size A (B8 b)
    | none => e = .returned (.tuple #[msV [] [] [] 0 (.slice none 0 0), .bool false])) ∧ Below w.heap.size w w'
theorem load_msg (w : World) (g : Nat) (cs : Array Value) (hg : Whole w g 32 cs) (hs : cs.size = 5) : (loadVar 32 ⟨g, 0, none⟩).run Try.prog w = .ok (.agg cs) w :=
  run_loadVar_row (P := Try.prog) w g _ _ cs (0, 0) _ hg Try.underlying32 rfl (by rw [hs]; kernel_rfl)
theorem pmsg_end {w : World} {b : Nat} {cs : Array Value} (hg : Whole w b 32 cs) (hs : cs.size = 5) (tmps : Array Value) (ds) (c : Bool) (h6 : tmps.getD 2 undef = .pointer (some ⟨b, 0, none⟩)) (h7 : tmps.getD 3 undef = .bool c)
    (R : Ending → World → Prop) (hR : R (.returned (.tuple #[.agg cs, .bool c])) w) (hd : ds = []) : bodyPost Try.prog Try.f16 R .ret { tmps := tmps, defers := ds } w := by
  refine bodyPost_ret (v := .tuple #[.agg cs, .bool c]) ?_ hd hR
  rw [results_cell_tmp (p := 2) (u := 3) (ty := 32) rfl]
  rw [h6, h7]
  simp [asAddr, load_msg w b cs hg hs, Result.andThen]
theorem Lies.put_aside {w : World} {B g : Nat} {A : Option Addr} {xs : List Value} (h : Lies w B A xs) (hg : B ≤ g) (i : Nat) (u : Value) : Lies (w.setCell ⟨g, i, none⟩ u) B A xs :=
  h.below ((Below.refl B w).setCell (p := ⟨g, i, none⟩) hg u)
/-- a new row lies where it lies, whatever is stored in an older block -/
theorem own_news {w8 w7 : World} {z : Nat} {A : Option Addr} {n c : Nat} {xs : List Value} (h : w8.ownsRow w7.heap.size 5 1 (.slice A n c) n xs) (hz : z < w7.heap.size) :
    ∀ (W9 : World), Lies W9 w8.heap.size A xs → ∀ {W : World}, Below W9.heap.size W9 W → w8.heap.size < W9.heap.size → ∀ u0 u1 u2 u3 u4, Lies (((((W.setCell ⟨z, 0, none⟩ u0).setCell ⟨z, 1, none⟩ u1).setCell ⟨z, 2, none⟩ u2).setCell ⟨z, 3, none⟩ u3).setCell ⟨z, 4, none⟩ u4) (((((W.setCell ⟨z, 0, none⟩ u0).setCell ⟨z, 1, none⟩ u1).setCell ⟨z, 2, none⟩ u2).setCell ⟨z, 3, none⟩ u3).setCell ⟨z, 4, none⟩ u4).heap.size A xs := by
  intro W9 hl W hb hlt u0 u1 u2 u3 u4
  have h1 := hl.below (hb.mono (Nat.le_of_lt hlt))
  have hs := hb.size
  have hA : ∀ b o, A = some ⟨b, o, none⟩ → xs ≠ [] → b ≠ z := by
    intro b o e hx
    rcases h.2 with ⟨hv, hn⟩ | ⟨g, cap, cur, hv, hg, _⟩
    · exact absurd (List.eq_nil_of_length_eq_zero (by rw [h.1, hn])) hx
    · injection hv with hv
      rw [e] at hv
      injection hv with hv
      injection hv with hv
      omega
  rcases h1 with h1 | ⟨b, o, e, hlt', hc⟩
  · exact .inl h1
  · by_cases hx : xs = []
    · exact .inl hx
    have hne := hA b o e hx
    refine .inr ⟨b, o, e, by simp; omega, fun j u hu => ?_⟩
    rw [World.cell?_setCell_other _ _ _ _ (by intro h; injection h; omega), World.cell?_setCell_other _ _ _ _ (by intro h; injection h; omega), World.cell?_setCell_other _ _ _ _ (by intro h; injection h; omega), World.cell?_setCell_other _ _ _ _ (by intro h; injection h; omega), World.cell?_setCell_other _ _ _ _ (by intro h; injection h; omega)]
    exact hc j u hu
set_option maxHeartbeats 4000000 in
theorem pmsg_any (A : Option Addr) (n c : Nat) (s : List UInt8) (B : Nat) (w : World) (hn : n = s.length) (hl : Lies w B A (B8 s)) (hB : B ≤ w.heap.size) (hs : s.length ≤ 140737488355328) :
    Calls Try.prog 16 #[.slice A n c] w (tellsN (msgOf s) w) := by
  subst hn
  obtain ⟨W1, hW1⟩ : ∃ W, W = w.alloc (.cells #[.string ⟨#[]⟩, .string ⟨#[]⟩, .string ⟨#[]⟩, .int .i64 0, .slice none 0 0] 32) := ⟨_, rfl⟩
  have Z1 : Hid (Whole W1 w.heap.size 32 #[.string ⟨#[]⟩, .string ⟨#[]⟩, .string ⟨#[]⟩, .int .i64 0, .slice none 0 0]) := Lib.hid (by rw [hW1]; exact Whole.new _ _ _)
  have B1 : Hid (Below w.heap.size w W1) := Lib.hid (by rw [hW1]; exact (Below.refl _ _).alloc (Nat.le_refl _) _)
  have y1 : W1.heap.size = w.heap.size + 1 := by rw [hW1]; simp
  have Y1 := Lib.hid y1
  have L1 := Lib.hid (hl.below (B1.out.mono hB))
  have HW1 := Lib.hid hW1
  have hB1 : B ≤ W1.heap.size := by omega
  clear hl hW1 y1
  go_enter Try.func16, Try.ntmps16
  go_wp2_with fail
  rw [← HW1.out]
  refine (kfrom_any A c _ s B _ rfl L1.out hB1 hs).mono ?_
  rintro e w3 ⟨g, hg0, rfl, hi, hb⟩
  have Z3 := Lib.hid (Z1.out.below hb Z1.out.lt)
  have B3 := Lib.hid (B1.out.trans (hb.mono B1.out.size))
  have hg1 : w.heap.size < g := by have := Y1.out; omega
  have I3 := Lib.hid hi
  clear hb hi hg0
  go_wp2_with fail
  refine (in_short g s false _ I3.out).mono ?_
  rintro e w4 ⟨rfl, hi, hg⟩
  obtain ⟨E, hE⟩ : ∃ E, E = txt 1 s := ⟨_, rfl⟩
  obtain ⟨l1, hl1⟩ : ∃ l, l = txtRest 1 s := ⟨_, rfl⟩
  obtain ⟨b1, hb1⟩ : ∃ b, b = (false || txtShort 1 s) := ⟨_, rfl⟩
  have r1 : l1.length ≤ 140737488355328 := by have := txtRest_sub 1 s; rw [hl1]; omega
  have e1 : E.length ≤ 140737488355328 := by have := txt_sub 1 s; rw [hE]; omega
  rw [← hl1, ← hb1] at hi
  rw [← hE]
  have Z4 := Lib.hid (Z3.out.grown hg (fun e => by injection e with e; omega))
  have B4 := Lib.hid (B3.out.trans (below_only hg (Nat.le_of_lt hg1) B3.out.size))
  have I4 := Lib.hid hi
  have HE := Lib.hid hE
  have HL1 := Lib.hid hl1
  have HB1 := Lib.hid hb1
  clear hi hg hE hl1 hb1
  go_wp2_with fail
  refine (in_short g l1 b1 _ I4.out).mono ?_
  rintro e w5 ⟨rfl, hi, hg⟩
  obtain ⟨K, hK⟩ : ∃ K, K = txt 1 l1 := ⟨_, rfl⟩
  obtain ⟨l2, hl2⟩ : ∃ l, l = txtRest 1 l1 := ⟨_, rfl⟩
  obtain ⟨b2, hb2⟩ : ∃ b, b = (b1 || txtShort 1 l1) := ⟨_, rfl⟩
  have r2 : l2.length ≤ 140737488355328 := by have := txtRest_sub 1 l1; rw [hl2]; omega
  have e2 : K.length ≤ 140737488355328 := by have := txt_sub 1 l1; rw [hK]; omega
  rw [← hl2, ← hb2] at hi
  rw [← hK]
  have Z5 := Lib.hid (Z4.out.grown hg (fun e => by injection e with e; omega))
  have B5 := Lib.hid (B4.out.trans (below_only hg (Nat.le_of_lt hg1) B4.out.size))
  have I5 := Lib.hid hi
  have HK := Lib.hid hK
  have HL2 := Lib.hid hl2
  have HB2 := Lib.hid hb2
  clear hi hg hK hl2 hb2
  go_wp2_with fail
  refine (in_short g l2 b2 _ I5.out).mono ?_
  rintro e w6 ⟨rfl, hi, hg⟩
  obtain ⟨T, hT⟩ : ∃ T, T = txt 1 l2 := ⟨_, rfl⟩
  obtain ⟨l3, hl3⟩ : ∃ l, l = txtRest 1 l2 := ⟨_, rfl⟩
  obtain ⟨b3, hb3⟩ : ∃ b, b = (b2 || txtShort 1 l2) := ⟨_, rfl⟩
  have r3 : l3.length ≤ 140737488355328 := by have := txtRest_sub 1 l2; rw [hl3]; omega
  have e3 : T.length ≤ 140737488355328 := by have := txt_sub 1 l2; rw [hT]; omega
  rw [← hl3, ← hb3] at hi
  rw [← hT]
  have Z6 := Lib.hid (Z5.out.grown hg (fun e => by injection e with e; omega))
  have B6 := Lib.hid (B5.out.trans (below_only hg (Nat.le_of_lt hg1) B5.out.size))
  have I6 := Lib.hid hi
  have HT := Lib.hid hT
  have HL3 := Lib.hid hl3
  have HB3 := Lib.hid hb3
  clear hi hg hT hl3 hb3
  go_wp2_with fail
  refine (kin1 g l3 b3 _ I6.out).mono ?_
  rintro e w7 ⟨rfl, hi, hg⟩
  obtain ⟨m, hm⟩ : ∃ m, m = nat (tk 1 l3) := ⟨_, rfl⟩
  obtain ⟨l4, hl4⟩ : ∃ l, l = rst 1 l3 := ⟨_, rfl⟩
  obtain ⟨b4, hb4⟩ : ∃ b, b = (b3 || short 1 l3) := ⟨_, rfl⟩
  have r4 : l4.length ≤ 140737488355328 := by have := rst_sub 1 l3; rw [hl4]; omega
  have kl : m < 256 := by rw [hm]; exact nat1 l3
  have kw : IntKind.i64.wrap (m : Int) = (m : Int) := IntWalk.i64_in _ (by omega)
  rw [← hl4, ← hb4] at hi
  rw [← hm]
  have Z7 := Lib.hid (Z6.out.grown hg (fun e => by injection e with e; omega))
  have B7 := Lib.hid (B6.out.trans (below_only hg (Nat.le_of_lt hg1) B6.out.size))
  have I7 := Lib.hid hi
  have HM := Lib.hid hm
  have HL4 := Lib.hid hl4
  have HB4 := Lib.hid hb4
  clear hi hg hm hl4 hb4
  go_wp2_with fail
  refine (in_rest g l4 b4 _ I7.out r4).mono ?_
  rintro e w8 ⟨v, rfl, ho, hi, hg⟩
  obtain ⟨A8, c8, rfl, q1, q2⟩ := own_form ho
  have L8 := Lib.hid (Lies.own ho (Nat.le_refl _))
  have Z8 := Lib.hid (Z7.out.grown hg (fun e => by injection e with e; omega))
  have B8' := Lib.hid (B7.out.trans (below_only hg (Nat.le_of_lt hg1) B7.out.size))
  have g8 : g < w8.heap.size := hi.lt
  have FIN : Hid (msgOf s = if !b4 && okM E.length K.length T.length (m : Int) l4.length then some (E, K, T, m, l4) else none) := Lib.hid (by
    rw [HB4.out, HB3.out, HB2.out, HB1.out, HM.out, HL4.out, HT.out, HL3.out, HK.out, HL2.out, HE.out, HL1.out]
    unfold msgOf
    rw [Bool.false_or])
  obtain ⟨W9, hW9⟩ : ∃ W, W = w8.alloc (.cells #[.string ⟨E.toArray⟩, .string ⟨K.toArray⟩, .string ⟨T.toArray⟩, .int .i64 m, .slice A8 l4.length c8] 32) := ⟨_, rfl⟩
  have K9 : Hid (Whole W9 w8.heap.size 32 #[.string ⟨E.toArray⟩, .string ⟨K.toArray⟩, .string ⟨T.toArray⟩, .int .i64 m, .slice A8 l4.length c8]) := Lib.hid (by rw [hW9]; exact Whole.new _ _ _)
  have Z9 : Hid (Whole W9 w.heap.size 32 #[.string ⟨#[]⟩, .string ⟨#[]⟩, .string ⟨#[]⟩, .int .i64 0, .slice none 0 0]) := Lib.hid (by rw [hW9]; exact Z8.out.alloc _)
  have B9 : Hid (Below w.heap.size w W9) := Lib.hid (by rw [hW9]; exact B8'.out.alloc B8'.out.size _)
  have I9 : Hid (InAt W9 g [] b4) := Lib.hid (by rw [hW9]; exact hi.below (B := w8.heap.size) ((Below.refl _ _).alloc (Nat.le_refl _) _) g8)
  have L9 : Hid (Lies W9 w8.heap.size A8 (B8 l4)) := Lib.hid (by rw [hW9]; exact L8.out.alloc (Nat.le_refl _) _)
  have HW9 := Lib.hid hW9
  have LW := Lib.hid (own_news ho Z7.out.lt)
  clear ho hi hg hW9
  go_wp2_with fail
  rw [← HW9.out]
  refine (in_ok g [] b4 _ I9.out).mono ?_
  rintro e w10 ⟨rfl, rfl⟩
  cases b4 with
  | true =>
    obtain ⟨z0, z1, z2, z3, z4⟩ := five12 Z9.out
    have fz := Z9.out.frozen
    go_wp2_with fail
    refine pmsg_end (zero_put Z9.out) rfl _ _ false rfl rfl _ ?_ rfl
    unfold tellsN
    rw [FIN.out, if_neg (by simp)]
    exact ⟨rfl, below_put12 B9.out (Nat.le_refl _) _ _ _ _ _⟩
  | false =>
    have hf := fun w => fitsM_any E K T (m : Int) A8 l4.length c8 w (room63 e1) (room63 e2) (room63 e3) (room63 r4)
    obtain ⟨f, hf'⟩ : ∃ f, f = okM E.length K.length T.length (m : Int) l4.length := ⟨_, rfl⟩
    rw [← hf'] at hf
    have HF := Lib.hid hf
    have HF' := Lib.hid hf'
    obtain ⟨c90, c91, c92, c93, c94⟩ := five12 K9.out
    clear hf hf'
    go_wp2_with fail
    refine (HF.out _).mono ?_
    rintro e w11 ⟨rfl, hb11⟩
    have K11 := Lib.hid (K9.out.below hb11 K9.out.lt)
    have Z11 := Lib.hid (Z9.out.below hb11 Z9.out.lt)
    have B11 := Lib.hid (B9.out.trans (hb11.mono B9.out.size))
    have L11 := Lib.hid (LW.out _ L9.out hb11 K9.out.lt)
    clear c90 c91 c92 c93 c94 hb11
    obtain ⟨c0, c1, c2, c3, c4⟩ := five12 K11.out
    obtain ⟨z0, z1, z2, z3, z4⟩ := five12 Z11.out
    have fz := Z11.out.frozen
    cases f with
    | false =>
      go_wp2_with fail
      refine pmsg_end (zero_put Z11.out) rfl _ _ false rfl rfl _ ?_ rfl
      unfold tellsN
      rw [FIN.out, if_neg (by rw [← HF'.out]; simp)]
      exact ⟨rfl, below_put12 B11.out (Nat.le_refl _) _ _ _ _ _⟩
    | true =>
      go_wp2_with fail
      refine pmsg_end (zero_put Z11.out) rfl _ _ true rfl rfl _ ?_ rfl
      unfold tellsN
      rw [FIN.out, if_pos (by rw [← HF'.out]; simp)]
      refine ⟨⟨A8, c8, rfl, q1, q2, ?_⟩, below_put12 B11.out (Nat.le_refl _) _ _ _ _ _⟩
      exact L11.out _ _ _ _ _
end Go.Proofs.Ytgdlgkbckblagaa
