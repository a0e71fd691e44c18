/- Layer 12: contracts of the document's own answer: messages that are read. -/
import Derived.Test.YtgdlgkbckblagaaKeyY
import Derived.Test.YtgdlgkbckblagaaKeyQ
import Derived.RegionTactic
namespace Go.Proofs.Ytgdlgkbckblagaa
open Go.RowKit
set_option maxRecDepth 100000
set_option linter.unusedSimpArgs false
set_option linter.unusedVariables false

theorem txt_short12 (k : Nat) (l : List UInt8) (h : txtShort k l = true) : txt k l = [] ∧ txtRest k l = [] := by
  unfold txtShort at h
  rw [Bool.or_eq_true] at h
  unfold txt txtRest
  rcases h with h | h
  · have h' : l.length < k := by simpa [short] using h
    rw [tk_no h', rst_no h', nat_nil]
    exact ⟨rfl, rfl⟩
  · have h' : (rst k l).length < nat (tk k l) := by simpa [short] using h
    rw [tk_no h', rst_no h']
    exact ⟨rfl, rfl⟩
/-- a text of the document's answer, there or not -/
def RText (B : Nat) (l : List UInt8) (p : Nat) (w : World) (e : Ending) (w' : World) : Prop :=
  ∃ A' c' p', e = .returned (.tuple #[.slice A' (txt 1 (l.drop p)).length c', .int .i64 (p' : Nat), .bool (!txtShort 1 (l.drop p))]) ∧ w = w' ∧ Lies w B A' (B8 (txt 1 (l.drop p))) ∧ p' ≤ l.length ∧
    (txtShort 1 (l.drop p) = false → txtRest 1 (l.drop p) = l.drop p')
theorem rtext_any (A : Option Addr) (c n B : Nat) (l : List UInt8) (p : Nat) (w : World) (hn : n = l.length) (hl : Lies w B A (B8 l)) (hp : p ≤ l.length) (hs : l.length ≤ 140737488355328) (hc : l.length ≤ c) (hcm : c ≤ maxLen) :
    Calls Try.prog 32 #[.slice A n c, .int .i64 p, .int .i64 1] w (RText B l p w) := by
  subst hn
  cases h : txtShort 1 (l.drop p) with
  | false =>
    refine (text_yes A c B l p 1 w hl hp (by decide) (by decide) hs hc hcm h).mono ?_
    rintro e w' ⟨A', c', rfl, h1, h2, h3, rfl⟩
    refine ⟨A', c', _, ?_, rfl, h1, h2, fun _ => h3⟩
    rw [h]; rfl
  | true =>
    refine (text_no A c B l p 1 w hl hp (by decide) (by decide) hs h).mono ?_
    rintro e w' ⟨rfl, rfl⟩
    obtain ⟨e1, _⟩ := txt_short12 1 _ h
    refine ⟨none, 0, 0, ?_, rfl, ?_, Nat.zero_le _, fun h' => ?_⟩
    · rw [h, e1]; rfl
    · rw [e1]; exact Lies.empty _ _ _
    · rw [h] at h'; cases h'
theorem rnum_at (A : Option Addr) (c n B : Nat) (l : List UInt8) (p k : Nat) (w : World) (hn : n = l.length) (hl : Lies w B A (B8 l)) (hp : p ≤ l.length) (hk : k ≤ 8) (hs : l.length ≤ 140737488355328) :
    Calls Try.prog 10 #[.slice A n c, .int .i64 p, .int .i64 k] w fun e w' => e = .returned (.tuple #[.int .u64 (nat (tk k (l.drop p))), .bool (!short k (l.drop p))]) ∧ w = w' := by
  subst hn
  exact num_any A c B l p k w hl hp hk hs
theorem rmsgof_end {w : World} {b : Nat} {cs : Array Value} (hg : Whole w b 32 cs) (hs : cs.size = 5) (tmps : Array Value) (ds) (c : Bool) (h6 : tmps.getD 2 undef = .pointer (some ⟨b, 0, none⟩)) (h7 : tmps.getD 3 undef = .bool c)
    (R : Ending → World → Prop) (hR : R (.returned (.tuple #[.agg cs, .bool c])) w) (hd : ds = []) : bodyPost Try.prog Try.f17 R .ret { tmps := tmps, defers := ds } w := by
  refine bodyPost_ret (v := .tuple #[.agg cs, .bool c]) ?_ hd hR
  rw [results_cell_tmp (p := 2) (u := 3) (ty := 32) rfl]
  rw [h6, h7]
  simp [asAddr, load_msg w b cs hg hs, Result.andThen]
/-- a message as a value, of octets that lie in the given ones -/
theorem Lies.put5_aside {W : World} {g B : Nat} {X : Option Addr} {xs : List Value} (h : Lies W B X xs) (hg : B ≤ g) (u0 u1 u2 u3 u4 : Value) : Lies (((((W.setCell ⟨g, 0, none⟩ u0).setCell ⟨g, 1, none⟩ u1).setCell ⟨g, 2, none⟩ u2).setCell ⟨g, 3, none⟩ u3).setCell ⟨g, 4, none⟩ u4) B X xs :=
  h.below (below_put12 (Below.refl B W) hg u0 u1 u2 u3 u4)
def tellsR (B : Nat) (r : Option (List UInt8 × List UInt8 × List UInt8 × Nat × List UInt8)) (w : World) (e : Ending) (w' : World) : Prop :=
  (match r with
    | some (E, K, T, m, b) => ∃ A c, e = .returned (.tuple #[msV E K T (m : Int) (.slice A b.length c), .bool true]) ∧ b.length ≤ c ∧ c ≤ maxLen ∧ Lies w' B A (B8 b)
    | none => e = .returned (.tuple #[msV [] [] [] 0 (.slice none 0 0), .bool false])) ∧ Below w.heap.size w w'
set_option maxHeartbeats 1000000 in
theorem rmsgof_any (A : Option Addr) (n c : Nat) (s : List UInt8) (B : Nat) (w : World) (hn : n = s.length) (hl : Lies w B A (B8 s)) (hB : B ≤ w.heap.size) (hs : s.length ≤ 140737488355328) (hc : s.length ≤ c) (hcm : c ≤ maxLen) :
    Calls Try.prog 17 #[.slice A n c] w (tellsR B (msgOf s) w) := by
  subst hn
  obtain ⟨W1, hW1⟩ : ∃ W, W = w.alloc (.cells #[.string ⟨#[]⟩, .string ⟨#[]⟩, .string ⟨#[]⟩, .int .i64 0, .slice none 0 0] 32) := ⟨_, rfl⟩
  have Z1 : Hid (Whole W1 w.heap.size 32 #[.string ⟨#[]⟩, .string ⟨#[]⟩, .string ⟨#[]⟩, .int .i64 0, .slice none 0 0]) := Lib.hid (by rw [hW1]; exact Whole.new _ _ _)
  have B1 : Hid (Below w.heap.size w W1) := Lib.hid (by rw [hW1]; exact (Below.refl _ _).alloc (Nat.le_refl _) _)
  have y1 : W1.heap.size = w.heap.size + 1 := by rw [hW1]; simp
  have Y1 := Lib.hid y1
  have L1 := Lib.hid (hl.below (B1.out.mono hB))
  have HW1 := Lib.hid hW1
  have HCM := Lib.hid hcm
  unfold maxLen at hcm
  clear hl hW1 y1
  go_enter Try.func17, Try.ntmps17
  go_wp2_with fail
  rw [← HW1.out]
  refine (rtext_any A c _ B s 0 _ rfl L1.out (Nat.zero_le _) hs hc HCM.out).mono ?_
  rintro e w1 ⟨A1, c1, p1, rfl, rfl, l1, g1, r1⟩
  rw [List.drop_zero] at l1 r1 ⊢
  obtain ⟨E, hE⟩ : ∃ E, E = txt 1 s := ⟨_, rfl⟩
  obtain ⟨s1, hs1⟩ : ∃ b, b = txtShort 1 s := ⟨_, rfl⟩
  rw [← hE] at l1
  rw [← hs1] at r1
  rw [← hE, ← hs1]
  have e1 : E.length ≤ 140737488355328 := by have := txt_sub 1 s; rw [hE]; omega
  have LE := Lib.hid l1
  have R1 := Lib.hid r1
  have HE := Lib.hid hE
  have HS1 := Lib.hid hs1
  clear l1 r1 hE hs1
  go_wp2_with fail
  refine (rtext_any A c _ B s p1 _ rfl L1.out g1 hs hc HCM.out).mono ?_
  rintro e w1 ⟨A2, c2, p2, rfl, rfl, l2, g2, r2⟩
  obtain ⟨K, hK⟩ : ∃ E, E = txt 1 (s.drop p1) := ⟨_, rfl⟩
  obtain ⟨s2, hs2⟩ : ∃ b, b = txtShort 1 (s.drop p1) := ⟨_, rfl⟩
  rw [← hK] at l2
  rw [← hs2] at r2
  rw [← hK, ← hs2]
  have e2 : K.length ≤ 140737488355328 := by have := txt_sub 1 (s.drop p1); rw [List.length_drop] at this; rw [hK]; omega
  have LK := Lib.hid l2
  have R2 := Lib.hid r2
  have HK := Lib.hid hK
  have HS2 := Lib.hid hs2
  clear l2 r2 hK hs2
  go_wp2_with fail
  refine (rtext_any A c _ B s p2 _ rfl L1.out g2 hs hc HCM.out).mono ?_
  rintro e w1 ⟨A3, c3, p3, rfl, rfl, l3, g3, r3⟩
  obtain ⟨T, hT⟩ : ∃ E, E = txt 1 (s.drop p2) := ⟨_, rfl⟩
  obtain ⟨s3, hs3⟩ : ∃ b, b = txtShort 1 (s.drop p2) := ⟨_, rfl⟩
  rw [← hT] at l3
  rw [← hs3] at r3
  rw [← hT, ← hs3]
  have e3 : T.length ≤ 140737488355328 := by have := txt_sub 1 (s.drop p2); rw [List.length_drop] at this; rw [hT]; omega
  have LT := Lib.hid l3
  have R3 := Lib.hid r3
  have HT := Lib.hid hT
  have HS3 := Lib.hid hs3
  clear l3 r3 hT hs3
  go_wp2_with fail
  refine (rnum_at A c _ B s p3 1 _ rfl L1.out g3 (by decide) hs).mono ?_
  rintro e w1 ⟨rfl, rfl⟩
  obtain ⟨m, hm⟩ : ∃ m, m = nat (tk 1 (s.drop p3)) := ⟨_, rfl⟩
  obtain ⟨s4, hs4⟩ : ∃ b, b = short 1 (s.drop p3) := ⟨_, rfl⟩
  have kl : m < 256 := by rw [hm]; exact nat1 _
  have kw : IntKind.i64.wrap (m : Int) = (m : Int) := IntWalk.i64_in _ (by omega)
  rw [← hm, ← hs4]
  have HM := Lib.hid hm
  have HS4 := Lib.hid hs4
  clear hm hs4
  have no : ∀ x : Bool, (s1 || s2 || s3 || s4) = true → msgOf s = none := by
    intro _ h
    have hr : (((txtShort 1 s || txtShort 1 (txtRest 1 s)) || txtShort 1 (txtRest 1 (txtRest 1 s))) || short 1 (txtRest 1 (txtRest 1 (txtRest 1 s)))) = true := by
      cases q1 : s1 with
      | true => rw [← HS1.out, q1]; rfl
      | false =>
        have t1 := R1.out q1
        rw [t1]
        cases q2 : s2 with
        | true => rw [← HS2.out, q2]; simp
        | false =>
          have t2 := R2.out q2
          rw [t2]
          cases q3 : s3 with
          | true => rw [← HS3.out, q3]; simp
          | false =>
            have t3 := R3.out q3
            rw [t3]
            rw [q1, q2, q3] at h
            rw [← HS4.out]
            simp at h
            simp [h]
    unfold msgOf
    rw [hr]
    rfl
  have NO := Lib.hid (no true)
  clear no
  have fz := Z1.out.frozen
  obtain ⟨z0, z1, z2, z3, z4⟩ := five12 Z1.out
  cases s1 with
  | true =>
    go_wp2_with fail
    refine rmsgof_end (zero_put Z1.out) rfl _ _ false rfl rfl _ ?_ rfl
    unfold tellsR
    rw [NO.out rfl]
    exact ⟨rfl, below_put12 B1.out (Nat.le_refl _) _ _ _ _ _⟩
  | false =>
  cases s2 with
  | true =>
    go_wp2_with fail
    refine rmsgof_end (zero_put Z1.out) rfl _ _ false rfl rfl _ ?_ rfl
    unfold tellsR
    rw [NO.out rfl]
    exact ⟨rfl, below_put12 B1.out (Nat.le_refl _) _ _ _ _ _⟩
  | false =>
  cases s3 with
  | true =>
    go_wp2_with fail
    refine rmsgof_end (zero_put Z1.out) rfl _ _ false rfl rfl _ ?_ rfl
    unfold tellsR
    rw [NO.out rfl]
    exact ⟨rfl, below_put12 B1.out (Nat.le_refl _) _ _ _ _ _⟩
  | false =>
  cases s4 with
  | true =>
    go_wp2_with fail
    refine rmsgof_end (zero_put Z1.out) rfl _ _ false rfl rfl _ ?_ rfl
    unfold tellsR
    rw [NO.out rfl]
    exact ⟨rfl, below_put12 B1.out (Nat.le_refl _) _ _ _ _ _⟩
  | false =>
  have t1 := R1.out rfl
  have t2 := R2.out rfl
  have t3 := R3.out rfl
  obtain ⟨b, hb⟩ : ∃ b, b = s.drop (p3 + 1) := ⟨_, rfl⟩
  have h31 : p3 + 1 ≤ s.length := by
    have h := HS4.out
    have h2 : ¬ (s.drop p3).length < 1 := by
      intro h'
      rw [show short 1 (s.drop p3) = true by simpa [short] using h'] at h
      cases h
    rw [List.length_drop] at h2
    omega
  have hr : rst 1 (s.drop p3) = b := by rw [rst_yes (by rw [List.length_drop]; omega), List.drop_drop, hb]
  have hbl : b.length = s.length - (p3 + 1) := by rw [hb, List.length_drop]
  have fin : msgOf s = if okM E.length K.length T.length (m : Int) b.length then some (E, K, T, m, b) else none := by
    have k1 := HK.out
    have k2 := HT.out
    have k3 := HM.out
    rw [← t1] at k1
    rw [← t2, ← t1] at k2
    rw [← t3, ← t2, ← t1] at k3
    rw [← t3, ← t2, ← t1] at hr
    have q1 := HS1.out
    have q2 := HS2.out
    have q3 := HS3.out
    have q4 := HS4.out
    rw [← t1] at q2
    rw [← t2, ← t1] at q3
    rw [← t3, ← t2, ← t1] at q4
    unfold msgOf
    rw [← HE.out, ← k1, ← k2, ← k3, hr, ← q1, ← q2, ← q3, ← q4]
    rfl
  have FIN := Lib.hid fin
  have hf := fun A n c w => rmsgok_any E K T (m : Int) A n c w (room63 e1) (room63 e2) (room63 e3)
  have HF := Lib.hid hf
  have DL := fun {X : Option Addr} {t : List UInt8} (h : Lies W1 B X (B8 t)) => (show Lies W1.drew B X (B8 t) from h)
  have cv1 := run_octets_string (P := Try.prog) 23 9 5 Try.underlying23 Try.underlying5 Try.underlying9 (DL LE.out) c1
  have cv2 := run_octets_string (P := Try.prog) 23 9 5 Try.underlying23 Try.underlying5 Try.underlying9 (DL LK.out) c2
  have cv3 := run_octets_string (P := Try.prog) 23 9 5 Try.underlying23 Try.underlying5 Try.underlying9 (DL LT.out) c3
  have DM := fun {X : Option Addr} {t : List UInt8} (h : Lies W1 B X (B8 t)) => (show Lies (W1.alloc (.cells #[.string ⟨#[]⟩, .string ⟨#[]⟩, .string ⟨#[]⟩, .int .i64 0, .slice none 0 0] 32)).drew B X (B8 t) from h.alloc (by have := Y1.out; omega) _)
  have cw1 := run_octets_string (P := Try.prog) 23 9 5 Try.underlying23 Try.underlying5 Try.underlying9 (DM LE.out) c1
  have cw2 := run_octets_string (P := Try.prog) 23 9 5 Try.underlying23 Try.underlying5 Try.underlying9 (DM LK.out) c2
  have cw3 := run_octets_string (P := Try.prog) 23 9 5 Try.underlying23 Try.underlying5 Try.underlying9 (DM LT.out) c3
  have hq : ∃ Ab, Lies W1 B Ab (B8 b) ∧ ((c = p3 + 1 ∧ Ab = A) ∨ (¬ c = p3 + 1 ∧ Ab = A.map (·.add (p3 + 1)))) := by
    have h := L1.out.drop (p3 + 1) c (by rw [B8_length]; exact h31) (by rw [B8_length]; exact hc)
    rw [B8, ← List.map_drop, ← hb] at h
    by_cases hcp : c = p3 + 1
    · rw [if_pos hcp] at h; exact ⟨A, h, .inl ⟨hcp, rfl⟩⟩
    · rw [if_neg hcp] at h; exact ⟨_, h, .inr ⟨hcp, rfl⟩⟩
  obtain ⟨q, hqe⟩ : ∃ q, q = p3 + 1 := ⟨_, rfl⟩
  have qe : (p3 : Int) + 1 = (q : Int) := by omega
  have qw : IntKind.i64.wrap (q : Int) = (q : Int) := IntWalk.i64_in _ (by omega)
  have qa : (q : Int) ≤ (s.length : Int) := by omega
  have qa' : q ≤ s.length := by omega
  have qb : (q : Int) ≤ (c : Int) := by omega
  have qb' : q ≤ c := by omega
  have sc : (s.length : Int) ≤ (c : Int) := by omega
  rw [← hqe] at hq hbl
  obtain ⟨Ab, hLb, hAb⟩ := hq
  have LB := Lib.hid hLb
  have BL := Lib.hid hbl
  have fz := Z1.out.frozen
  obtain ⟨z0, z1, z2, z3, z4⟩ := five12 Z1.out
  clear t1 t2 t3 hb hr fin hf DL DM hLb hqe h31 hbl
  go_upto_region 7 with fail
  rcases hAb with ⟨hcq, rfl⟩ | ⟨hcq, rfl⟩
  · subst hcq
    have hb0 : b.length = 0 := by rw [BL.out]; omega
    obtain rfl : b = [] := List.eq_nil_of_length_eq_zero hb0
    go_region
    all_goals (
      obtain ⟨W9, hW9⟩ : ∃ W, W = (W1.alloc (.cells #[.string ⟨E.toArray⟩, .string ⟨K.toArray⟩, .string ⟨T.toArray⟩, .int .i64 (m : Int), (.slice Ab 0 0)] 32)).drew := ⟨_, rfl⟩
      have b9 : Below W1.heap.size W1 W9 := by rw [hW9]; exact ((Below.refl _ _).alloc (Nat.le_refl _) _).drew
      have K9 : Hid (Whole W9 W1.heap.size 32 #[.string ⟨E.toArray⟩, .string ⟨K.toArray⟩, .string ⟨T.toArray⟩, .int .i64 (m : Int), (.slice Ab 0 0)]) := Lib.hid (by rw [hW9]; exact Whole.new W1 _ _)
      have Z9 := Lib.hid (Z1.out.below b9 Z1.out.lt)
      have B9 := Lib.hid (B1.out.trans (b9.mono B1.out.size))
      have L9 := Lib.hid (LB.out.below (b9.mono (by have := Y1.out; omega)))
      obtain ⟨c90, c91, c92, c93, c94⟩ := five12 K9.out
      rw [hW9] at c90 c91 c92 c93 c94
      have HW9 := Lib.hid hW9
      clear b9 hW9
      unfold msV at HF
      go_wp2_with fail
      rw [← HW9.out]
      refine (HF.out Ab 0 0 _ (room63 (by omega))).mono ?_
      rintro e w11 ⟨rfl, hb11⟩
      obtain ⟨f, hf'⟩ : ∃ f, f = okM E.length K.length T.length (m : Int) 0 := ⟨_, rfl⟩
      rw [← hf']
      have HF' := Lib.hid hf'
      have K11 := Lib.hid (K9.out.below hb11 K9.out.lt)
      have Z11 := Lib.hid (Z9.out.below hb11 Z9.out.lt)
      have B11 := Lib.hid (B9.out.trans (hb11.mono B9.out.size))
      have L11 := Lib.hid (L9.out.below (hb11.mono (by have := B9.out.size; omega)))
      clear c90 c91 c92 c93 c94 hb11 hf'
      obtain ⟨c0, c1, c2, c3, c4⟩ := five12 K11.out
      obtain ⟨z0, z1, z2, z3, z4⟩ := five12 Z11.out
      have fz := Z11.out.frozen
      cases f with
      | false =>
        go_wp2_with fail
        refine rmsgof_end (zero_put Z11.out) rfl _ _ false rfl rfl _ ?_ rfl
        unfold tellsR
        rw [FIN.out, if_neg (by rw [List.length_nil, ← HF'.out]; simp)]
        exact ⟨rfl, below_put12 B11.out (Nat.le_refl _) _ _ _ _ _⟩
      | true =>
        go_wp2_with fail
        refine rmsgof_end (zero_put Z11.out) rfl _ _ true rfl rfl _ ?_ rfl
        unfold tellsR
        rw [FIN.out, if_pos (by rw [List.length_nil, ← HF'.out])]
        exact ⟨⟨_, _, rfl, by simp, by exact Nat.zero_le _, Lies.empty _ _ _⟩, below_put12 B11.out (Nat.le_refl _) _ _ _ _ _⟩)
  · have hbc : b.length ≤ c - q := by rw [BL.out]; omega
    have hbs : b.length ≤ 140737488355328 := by rw [BL.out]; omega
    go_region
    all_goals rw [← BL.out]
    all_goals (
      obtain ⟨W9, hW9⟩ : ∃ W, W = (W1.alloc (.cells #[.string ⟨E.toArray⟩, .string ⟨K.toArray⟩, .string ⟨T.toArray⟩, .int .i64 (m : Int), (.slice (A.map (·.add q)) b.length (c - q))] 32)).drew := ⟨_, rfl⟩
      have b9 : Below W1.heap.size W1 W9 := by rw [hW9]; exact ((Below.refl _ _).alloc (Nat.le_refl _) _).drew
      have K9 : Hid (Whole W9 W1.heap.size 32 #[.string ⟨E.toArray⟩, .string ⟨K.toArray⟩, .string ⟨T.toArray⟩, .int .i64 (m : Int), (.slice (A.map (·.add q)) b.length (c - q))]) := Lib.hid (by rw [hW9]; exact Whole.new W1 _ _)
      have Z9 := Lib.hid (Z1.out.below b9 Z1.out.lt)
      have B9 := Lib.hid (B1.out.trans (b9.mono B1.out.size))
      have L9 := Lib.hid (LB.out.below (b9.mono (by have := Y1.out; omega)))
      obtain ⟨c90, c91, c92, c93, c94⟩ := five12 K9.out
      rw [hW9] at c90 c91 c92 c93 c94
      have HW9 := Lib.hid hW9
      clear b9 hW9
      unfold msV at HF
      go_wp2_with fail
      rw [← HW9.out]
      refine (HF.out (A.map (·.add q)) b.length (c - q) _ (room63 (by omega))).mono ?_
      rintro e w11 ⟨rfl, hb11⟩
      obtain ⟨f, hf'⟩ : ∃ f, f = okM E.length K.length T.length (m : Int) b.length := ⟨_, rfl⟩
      rw [← hf']
      have HF' := Lib.hid hf'
      have K11 := Lib.hid (K9.out.below hb11 K9.out.lt)
      have Z11 := Lib.hid (Z9.out.below hb11 Z9.out.lt)
      have B11 := Lib.hid (B9.out.trans (hb11.mono B9.out.size))
      have L11 := Lib.hid (L9.out.below (hb11.mono (by have := B9.out.size; omega)))
      clear c90 c91 c92 c93 c94 hb11 hf'
      obtain ⟨c0, c1, c2, c3, c4⟩ := five12 K11.out
      obtain ⟨z0, z1, z2, z3, z4⟩ := five12 Z11.out
      have fz := Z11.out.frozen
      cases f with
      | false =>
        go_wp2_with fail
        refine rmsgof_end (zero_put Z11.out) rfl _ _ false rfl rfl _ ?_ rfl
        unfold tellsR
        rw [FIN.out, if_neg (by rw [← HF'.out]; simp)]
        exact ⟨rfl, below_put12 B11.out (Nat.le_refl _) _ _ _ _ _⟩
      | true =>
        go_wp2_with fail
        refine rmsgof_end (zero_put Z11.out) rfl _ _ true rfl rfl _ ?_ rfl
        unfold tellsR
        rw [FIN.out, if_pos (by rw [← HF'.out])]
        exact ⟨⟨_, _, rfl, by omega, by unfold maxLen; omega, Lies.put5_aside L11.out hB _ _ _ _ _⟩, below_put12 B11.out (Nat.le_refl _) _ _ _ _ _⟩)
end Go.Proofs.Ytgdlgkbckblagaa
