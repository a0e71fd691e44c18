/- Layer 12: contracts of the document's own answer: keys that are read. -/
import Derived.Test.YtgdlgkbckblagaaKeyZ
import Derived.Test.YtgdlgkbckblagaaKeyX
import Derived.Test.YtgdlgkbckblagaaKeyQ2
import Derived.Test.YtgdlgkbckblagaaKeyW
import Derived.Laws.AppendOwn
namespace Go.Proofs.Ytgdlgkbckblagaa
open Go.RowKit
set_option maxRecDepth 100000
set_option linter.unusedSimpArgs false
set_option linter.unusedVariables false

theorem rnum_off (A : Option Addr) (c : Nat) (w : World) : Calls Try.prog 10 #[.slice A 0 c, .int .i64 1, .int .i64 1] w fun e w' => e = .returned (.tuple #[.int .u64 0, .bool false]) ∧ w = w' := by
  go_enter Try.func10, Try.ntmps10
  go_wp2_with fail
  go_ret2
  exact ⟨rfl, rfl⟩
theorem rtext_off (A : Option Addr) (c : Nat) (w : World) : Calls Try.prog 32 #[.slice A 0 c, .int .i64 1, .int .i64 1] w fun e w' => e = .returned (.tuple #[.slice none 0 0, .int .i64 0, .bool false]) ∧ w = w' := by
  go_enter Try.func32, Try.ntmps32
  go_wp2_with fail
  refine (rnum_off A c _).mono ?_
  rintro e w' ⟨rfl, rfl⟩
  go_wp2_with fail
  go_ret3
  exact ⟨rfl, rfl⟩
theorem rkeyof_end {w : World} {b : Nat} {cs : Array Value} (hg : Whole w b 28 cs) (hs : cs.size = 5) (tmps : Array Value) (ds) (c : Bool) (h6 : tmps.getD 2 undef = .pointer (some ⟨b, 0, none⟩)) (h7 : tmps.getD 3 undef = .bool c)
    (R : Ending → World → Prop) (hR : R (.returned (.tuple #[.agg cs, .bool c])) w) (hd : ds = []) : bodyPost Try.prog Try.f13 R .ret { tmps := tmps, defers := ds } w := by
  refine bodyPost_ret (v := .tuple #[.agg cs, .bool c]) ?_ hd hR
  rw [results_cell_tmp (p := 2) (u := 3) (ty := 28) rfl]
  rw [h6, h7]
  simp [asAddr, load_key w b cs hg hs, Result.andThen]
theorem hcap12 (W : World) (s : List UInt8) (hs : s.length ≤ maxLen) : s.length ≤ grownCap W (ByteArray.size ⟨s.toArray⟩) 0 5 ∧ grownCap W (ByteArray.size ⟨s.toArray⟩) 0 5 ≤ maxLen :=
  ⟨grownCap_ge W s.length 0 5, grownCap_le_maxLen W s.length 0 5 hs⟩
/-- KeyOf under way: the result's box, the text's octets, the key's box -/
structure KO (w W : World) (s : List UInt8) (k : Int) (A B C : List UInt8) (id : Nat) : Prop where
  z : Whole W w.heap.size 28 (kyC 0 [] [] [] 0)
  l : Lies W (w.heap.size + 2) (some ⟨w.heap.size + 1, 0, none⟩) (B8 s)
  k : Whole W (w.heap.size + 2) 28 (kyC k A B C id)
  bel : Below w.heap.size w W
section
variable {w W W' : World} {s : List UInt8} {k : Int} {A B C : List UInt8} {id : Nat}
theorem KO.below (h : KO w W s k A B C id) (hb : Below W.heap.size W W') : KO w W' s k A B C id :=
  ⟨h.z.below hb h.z.lt, h.l.below (hb.mono (Nat.le_of_lt h.k.lt)), h.k.below hb h.k.lt, h.bel.trans (hb.mono h.bel.size)⟩
theorem KO.set (h : KO w W s k A B C id) (j : Nat) (u : Value) {A' B' C' : List UInt8} {id' : Nat} (e : (kyC k A B C id).setIfInBounds j u = kyC k A' B' C' id') : KO w (W.setCell ⟨w.heap.size + 2, j, none⟩ u) s k A' B' C' id' :=
  ⟨h.z.aside (by omega) _ _, h.l.put_aside (Nat.le_refl _) _ _, by rw [← e]; exact h.k.put j u, h.bel.setCell (p := ⟨w.heap.size + 2, j, none⟩) (by show w.heap.size ≤ w.heap.size + 2; omega) u⟩
end
set_option maxHeartbeats 8000000 in
theorem rkeyof_any (s : List UInt8) (w : World) (hs : s.length ≤ 1000000) :
    Calls Try.prog 13 #[.string ⟨s.toArray⟩] w (tellsP (keyOf s) w) := by
  obtain ⟨W1, hW1⟩ : ∃ W, W = w.alloc (.cells (kyC 0 [] [] [] 0) 28) := ⟨_, rfl⟩
  have Z1 : Hid (Whole W1 w.heap.size 28 (kyC 0 [] [] [] 0)) := Lib.hid (by rw [hW1]; exact Whole.new _ _ _)
  have B1 : Hid (Below w.heap.size w W1) := Lib.hid (by rw [hW1]; exact (Below.refl _ _).alloc (Nat.le_refl _) _)
  have y1 : W1.heap.size = w.heap.size + 1 := by rw [hW1]; simp
  have cv := Lib.run_convert_string_bytes (P := Try.prog) W1 9 23 5 ⟨s.toArray⟩ Try.underlying9 Try.underlying23 Try.underlying5
  have ls := bytes_lie W1 5 s
  have BS := bytes_below W1 5 ⟨s.toArray⟩
  have Z2 := Lib.hid (Z1.out.below BS Z1.out.lt)
  have B2 := Lib.hid (B1.out.trans (BS.mono B1.out.size))
  have y2 : (Lib.bytesWorld W1 5 ⟨s.toArray⟩).heap.size = W1.heap.size + 1 := Lib.bytesWorld_size _ _ _
  have SZ := key_size s
  have hcap := hcap12 W1 s (room63 (by omega))
  have HCW := Lib.hid hcap
  generalize Lib.bytesWorld W1 5 ⟨s.toArray⟩ = w2 at *
  generalize hgc : grownCap W1 (ByteArray.size ⟨s.toArray⟩) 0 5 = cc at *
  have HCM : Hid (cc ≤ maxLen) := Lib.hid hcap.2
  have hc0 : s.length ≤ cc := hcap.1
  have hs' : s.length ≤ 140737488355328 := by omega
  rw [y1] at y2 ls cv
  have LS := Lib.hid ls
  have Y2 := Lib.hid y2
  clear BS y1 y2 ls hcap HCW hgc
  rw [hW1] at cv
  unfold kyC at cv
  rw [show ((0 : Nat) : Int) = 0 from rfl] at cv
  clear hW1
  go_enter Try.func13, Try.ntmps13
  go_wp2_with fail
  refine (rnum_at (some ⟨w.heap.size + 1, 0, none⟩) cc _ (w.heap.size + 2) s 0 1 _ rfl LS.out (Nat.zero_le _) (by decide) hs').mono ?_
  rintro e w3 ⟨rfl, rfl⟩
  rw [List.drop_zero]
  obtain ⟨kn, hkn⟩ : ∃ k, k = nat (tk 1 s) := ⟨_, rfl⟩
  have kl : kn < 256 := by rw [hkn]; exact nat1 s
  have kw : IntKind.i64.wrap (kn : Int) = (kn : Int) := IntWalk.i64_in _ (by omega)
  rw [← hkn]
  generalize (!short 1 s) = sb
  have HKN := Lib.hid hkn
  clear hkn cv
  obtain ⟨W5, hW5⟩ : ∃ W, W = w2.alloc (.cells (kyC (kn : Int) [] [] [] 0) 28) := ⟨_, rfl⟩
  have K0 : Hid (KO w W5 s kn [] [] [] 0) := Lib.hid (by
    have h := Whole.new w2 28 (kyC (kn : Int) [] [] [] 0)
    rw [Y2.out, ← hW5] at h
    exact ⟨by rw [hW5]; exact Z2.out.alloc _, by rw [hW5]; exact LS.out.alloc (by rw [Y2.out]; exact Nat.le_refl _) _, h, by rw [hW5]; exact B2.out.alloc B2.out.size _⟩)
  obtain ⟨c0, c1, c2, c3, c4⟩ := kyC_cells K0.out.k
  have fr := K0.out.k.frozen
  have HW5 := Lib.hid hW5
  clear hW5
  go_upto_region 4 with fail
  have e5 := HW5.out
  unfold kyC at e5
  rw [show ((0 : Nat) : Int) = 0 from rfl] at e5
  rw [← e5, Y2.out]
  clear e5
  rcases Nat.eq_zero_or_pos s.length with h0 | hs1
  · obtain rfl := List.eq_nil_of_length_eq_zero h0
    have hk0 : kn = 0 := HKN.out
    subst hk0
    go_wp2_with fail
    refine wp_loop_rounds 1 ?_
    rw [rounds_succ]
    go_wp2_with fail
    refine (rtext_off _ _ _).mono ?_
    rintro e w4 ⟨rfl, rfl⟩
    have fz := K0.out.z.frozen
    obtain ⟨z0, z1, z2, z3, z4⟩ := kyC_cells K0.out.z
    go_wp2_with fail
    refine rkeyof_end (zero_put K0.out.z) rfl _ _ false rfl rfl _ ?_ rfl
    unfold tellsP
    rw [none_key]
    exact ⟨rfl, below_put12 K0.out.bel (Nat.le_refl _) _ _ _ _ _⟩
  have g0 : 1 ≤ s.length := hs1
  have hr0 : Hid (rst 1 s = s.drop 1) := Lib.hid (rst_yes hs1)
  by_cases k4 : kn = 4
  · have KN4 := Lib.hid k4
    have k4b : ((kn : Int) == 4) = true := by rw [k4]; rfl
    clear k4
    go_wp2_with fail
    refine wp_loop_rounds 1 ?_
    rw [rounds_succ]
    go_wp2_with fail
    refine (rnum_at _ _ _ (w.heap.size + 2) s 1 8 _ rfl K0.out.l (by omega) (by decide) hs').mono ?_
    rintro e wz ⟨rfl, rfl⟩
    obtain ⟨id, hid⟩ : ∃ k, k = nat (tk 8 (s.drop 1)) := ⟨_, rfl⟩
    have idl : id < 18446744073709551616 := by rw [hid]; exact nat8 _ 8 (by decide)
    rw [← hid]
    generalize (!short 8 (s.drop 1)) = sb2
    have HID := Lib.hid hid
    clear hid
    have K1 := Lib.hid (K0.out.set 4 (.int .u64 (id : Int)) (A' := []) (B' := []) (C' := []) (id' := id) rfl)
    clear c0 c1 c2 c3
    have c0 := (kyC_cells K1.out.k).1
    obtain ⟨_, c1, c2, c3, _⟩ := kyC_cells K0.out.k
    obtain ⟨d0, d1, d2, d3, d4⟩ := kyC_cells K1.out.k
    have hno : ¬ (okK kn [] [] [] id = true ∧ txK kn [] [] [] id = s) → keyOf s = none := keyOf_none HKN.out.symm (fun ho => by
      have k4 := KN4.out
      subst k4
      rw [hr0.out]
      refine ⟨rfl, rfl, rfl, ?_⟩
      rw [HID.out]
      rfl
      )
    have hyes : okK kn [] [] [] id = true → txK kn [] [] [] id = s → keyOf s = some ((kn : Int), [], [], [], id) := fun h1 h2 => by rw [← h2]; exact key_back h1 idl
    obtain ⟨f, hf⟩ : ∃ f, f = okK kn [] [] [] id := ⟨_, rfl⟩
    obtain ⟨X, hX⟩ : ∃ X, X = txK kn [] [] [] id := ⟨_, rfl⟩
    have hk := fun w => rkey_any (kn : Int) [] [] [] id w (Nat.zero_le _) (Nat.zero_le _) (Nat.zero_le _)
    unfold tellsT at hk
    rw [← hf, ← hX] at hk
    rw [← hf, ← hX] at hno hyes
    have HNO := Lib.hid hno
    have HYES := Lib.hid hyes
    have HK := Lib.hid hk
    clear hno hyes hk hf hX
    go_wp2_with fail
    refine (HK.out _).mono ?_
    rintro e w9 ⟨rfl, hb9⟩
    have K9 := Lib.hid (K1.out.below hb9)
    clear c0 c1 c2 c3 c4 d0 d1 d2 d3 d4 fr hb9
    obtain ⟨c0, c1, c2, c3, c4⟩ := kyC_cells K9.out.k
    cases f with
    | false =>
      have NO := Lib.hid (HNO.out (by rintro ⟨h, _⟩; cases h))
      have fz := K9.out.z.frozen
      obtain ⟨z0, z1, z2, z3, z4⟩ := kyC_cells K9.out.z
      go_wp2_with fail
      refine rkeyof_end (zero_put K9.out.z) rfl _ _ false rfl rfl _ ?_ rfl
      unfold tellsP
      rw [NO.out]
      exact ⟨rfl, below_put12 K9.out.bel (Nat.le_refl _) _ _ _ _ _⟩
    | true =>
      by_cases hXs : X = s
      · have YES := Lib.hid (HYES.out rfl hXs)
        subst hXs
        have fz := K9.out.z.frozen
        obtain ⟨z0, z1, z2, z3, z4⟩ := kyC_cells K9.out.z
        go_wp2_with fail
        refine rkeyof_end (zero_put K9.out.z) rfl _ _ true rfl rfl _ ?_ rfl
        unfold tellsP
        rw [YES.out]
        exact ⟨rfl, below_put12 K9.out.bel (Nat.le_refl _) _ _ _ _ _⟩
      · have NO := Lib.hid (HNO.out (by rintro ⟨_, h⟩; exact hXs h))
        have hXb : (X == s) = false := beq_false_of_ne hXs
        have hXc : ¬ ((⟨X.toArray⟩ : ByteArray) = ⟨s.toArray⟩) := by intro e; injection e with e; exact hXs (by simpa using e)
        have fz := K9.out.z.frozen
        obtain ⟨z0, z1, z2, z3, z4⟩ := kyC_cells K9.out.z
        go_wp2_with fail
        refine rkeyof_end (zero_put K9.out.z) rfl _ _ false rfl rfl _ ?_ rfl
        unfold tellsP
        rw [NO.out]
        exact ⟨rfl, below_put12 K9.out.bel (Nat.le_refl _) _ _ _ _ _⟩
  by_cases k3 : kn = 3
  · have KN3 := Lib.hid k3
    have k4b : ((kn : Int) == 4) = false := beq_false_of_ne (by omega)
    have k3b : ((kn : Int) != 3) = false := by rw [k3]; rfl
    have k5b : ((kn : Int) == 5) = false := beq_false_of_ne (by omega)
    clear k3 k4
    go_wp2_with fail
    refine wp_loop_rounds 4 ?_
    rw [rounds_succ]
    go_wp2_with fail
    refine (rtext_any _ _ _ (w.heap.size + 2) s 1 _ rfl K0.out.l g0 hs' hc0 HCM.out).mono ?_
    rintro e wz ⟨A1, d1, p1, rfl, rfl, l1, g1, r1⟩
    obtain ⟨T1, hT1⟩ : ∃ E, E = txt 1 (s.drop 1) := ⟨_, rfl⟩
    obtain ⟨s1, hs1⟩ : ∃ b, b = txtShort 1 (s.drop 1) := ⟨_, rfl⟩
    rw [← hT1] at l1
    rw [← hs1] at r1
    rw [← hT1, ← hs1]
    have y1 : T1.length ≤ 1000000 := by have := txt_sub 1 (s.drop 1); rw [List.length_drop] at this; rw [hT1]; omega
    have L1 := Lib.hid l1
    have R1 := Lib.hid r1
    have HT1 := Lib.hid hT1
    have HS1 := Lib.hid hs1
    clear l1 r1 hT1 hs1
    cases s1 with
    | true =>
      have NO : Hid (keyOf s = none) := Lib.hid (keyOf_bad HKN.out.symm (fun ho => by
        have k3 := KN3.out
        subst k3
        rw [hr0.out]
        unfold rdK rdS rdT rdR
        rw [show pkA ((3 : Nat) : Int) = true from rfl, show pkB ((3 : Nat) : Int) = true from rfl]
        simp only [if_true, Bool.true_and]
        rw [← HS1.out]
        simp
        ))
      have fz := K0.out.z.frozen
      obtain ⟨z0, z1, z2, z3, z4⟩ := kyC_cells K0.out.z
      go_wp2_with fail
      refine rkeyof_end (zero_put K0.out.z) rfl _ _ false rfl rfl _ ?_ rfl
      unfold tellsP
      rw [NO.out]
      exact ⟨rfl, below_put12 K0.out.bel (Nat.le_refl _) _ _ _ _ _⟩
    | false =>
    have t1 := Lib.hid (R1.out rfl)
    clear R1
    have cv1 := run_octets_string (P := Try.prog) 23 9 5 Try.underlying23 Try.underlying5 Try.underlying9 L1.out d1
    have K1 := Lib.hid (K0.out.set 1 (.string ⟨T1.toArray⟩) (A' := T1) (B' := []) (C' := []) (id' := 0) rfl)
    go_wp2_with fail
    clear c0 c1 c2 c3 c4 fr cv1
    obtain ⟨c0, c1, c2, c3, c4⟩ := kyC_cells K1.out.k
    have fr := K1.out.k.frozen
    rw [rounds_succ]
    go_wp2_with fail
    refine (rtext_any _ _ _ (w.heap.size + 2) s p1 _ rfl K1.out.l g1 hs' hc0 HCM.out).mono ?_
    rintro e wz ⟨A2, d2, p2, rfl, rfl, l2, g2, r2⟩
    obtain ⟨T2, hT2⟩ : ∃ E, E = txt 1 (s.drop p1) := ⟨_, rfl⟩
    obtain ⟨s2, hs2⟩ : ∃ b, b = txtShort 1 (s.drop p1) := ⟨_, rfl⟩
    rw [← hT2] at l2
    rw [← hs2] at r2
    rw [← hT2, ← hs2]
    have y2 : T2.length ≤ 1000000 := by have := txt_sub 1 (s.drop p1); rw [List.length_drop] at this; rw [hT2]; omega
    have L2 := Lib.hid l2
    have R2 := Lib.hid r2
    have HT2 := Lib.hid hT2
    have HS2 := Lib.hid hs2
    clear l2 r2 hT2 hs2
    cases s2 with
    | true =>
      have NO : Hid (keyOf s = none) := Lib.hid (keyOf_bad HKN.out.symm (fun ho => by
        have k3 := KN3.out
        subst k3
        rw [hr0.out]
        unfold rdK rdS rdT rdR
        rw [show pkA ((3 : Nat) : Int) = true from rfl, show pkB ((3 : Nat) : Int) = true from rfl]
        simp only [if_true, Bool.true_and]
        rw [t1.out, ← HS2.out]
        simp
        ))
      have fz := K1.out.z.frozen
      obtain ⟨z0, z1, z2, z3, z4⟩ := kyC_cells K1.out.z
      go_wp2_with fail
      refine rkeyof_end (zero_put K1.out.z) rfl _ _ false rfl rfl _ ?_ rfl
      unfold tellsP
      rw [NO.out]
      exact ⟨rfl, below_put12 K1.out.bel (Nat.le_refl _) _ _ _ _ _⟩
    | false =>
    have t2 := Lib.hid (R2.out rfl)
    clear R2
    have cv2 := run_octets_string (P := Try.prog) 23 9 5 Try.underlying23 Try.underlying5 Try.underlying9 L2.out d2
    have K2 := Lib.hid (K1.out.set 2 (.string ⟨T2.toArray⟩) (A' := T1) (B' := T2) (C' := []) (id' := 0) rfl)
    go_wp2_with fail
    clear c0 c1 c2 c3 c4 fr cv2
    obtain ⟨c0, c1, c2, c3, c4⟩ := kyC_cells K2.out.k
    have fr := K2.out.k.frozen
    rw [rounds_succ]
    go_wp2_with fail
    refine (rtext_any _ _ _ (w.heap.size + 2) s p2 _ rfl K2.out.l g2 hs' hc0 HCM.out).mono ?_
    rintro e wz ⟨A3, d3, p3, rfl, rfl, l3, g3, r3⟩
    obtain ⟨T3, hT3⟩ : ∃ E, E = txt 1 (s.drop p2) := ⟨_, rfl⟩
    obtain ⟨s3, hs3⟩ : ∃ b, b = txtShort 1 (s.drop p2) := ⟨_, rfl⟩
    rw [← hT3] at l3
    rw [← hs3] at r3
    rw [← hT3, ← hs3]
    have y3 : T3.length ≤ 1000000 := by have := txt_sub 1 (s.drop p2); rw [List.length_drop] at this; rw [hT3]; omega
    have L3 := Lib.hid l3
    have R3 := Lib.hid r3
    have HT3 := Lib.hid hT3
    have HS3 := Lib.hid hs3
    clear l3 r3 hT3 hs3
    cases s3 with
    | true =>
      have NO : Hid (keyOf s = none) := Lib.hid (keyOf_bad HKN.out.symm (fun ho => by
        have k3 := KN3.out
        subst k3
        rw [hr0.out]
        unfold rdK rdS rdT rdR
        rw [show pkA ((3 : Nat) : Int) = true from rfl, show pkB ((3 : Nat) : Int) = true from rfl]
        simp only [if_true, Bool.true_and]
        rw [t1.out, t2.out, ← HS3.out]
        simp
        ))
      have fz := K2.out.z.frozen
      obtain ⟨z0, z1, z2, z3, z4⟩ := kyC_cells K2.out.z
      go_wp2_with fail
      refine rkeyof_end (zero_put K2.out.z) rfl _ _ false rfl rfl _ ?_ rfl
      unfold tellsP
      rw [NO.out]
      exact ⟨rfl, below_put12 K2.out.bel (Nat.le_refl _) _ _ _ _ _⟩
    | false =>
    have t3 := Lib.hid (R3.out rfl)
    clear R3
    have cv3 := run_octets_string (P := Try.prog) 23 9 5 Try.underlying23 Try.underlying5 Try.underlying9 L3.out d3
    have K3 := Lib.hid (K2.out.set 3 (.string ⟨T3.toArray⟩) (A' := T1) (B' := T2) (C' := T3) (id' := 0) rfl)
    go_wp2_with fail
    clear c0 c1 c2 c3 c4 fr cv3
    obtain ⟨c0, c1, c2, c3, c4⟩ := kyC_cells K3.out.k
    have fr := K3.out.k.frozen
    rw [rounds_succ]
    have idl : (0 : Nat) < 18446744073709551616 := by decide
    have hno : ¬ (okK kn T1 T2 T3 0 = true ∧ txK kn T1 T2 T3 0 = s) → keyOf s = none := keyOf_none HKN.out.symm (fun ho => by
      have k3 := KN3.out
      subst k3
      rw [hr0.out]
      unfold rdK
      rw [show pkA ((3 : Nat) : Int) = true from rfl, show pkB ((3 : Nat) : Int) = true from rfl, show pkI ((3 : Nat) : Int) = false from rfl]
      simp only [rdT, rdR, if_true, t1.out, t2.out, HT1.out, HT2.out, HT3.out]
      exact ⟨(by first | exact rfl | trivial), (by first | exact rfl | trivial), (by first | exact rfl | trivial), (by first | exact rfl | trivial)⟩
      )
    have hyes : okK kn T1 T2 T3 0 = true → txK kn T1 T2 T3 0 = s → keyOf s = some ((kn : Int), T1, T2, T3, 0) := fun h1 h2 => by rw [← h2]; exact key_back h1 idl
    obtain ⟨f, hf⟩ : ∃ f, f = okK kn T1 T2 T3 0 := ⟨_, rfl⟩
    obtain ⟨X, hX⟩ : ∃ X, X = txK kn T1 T2 T3 0 := ⟨_, rfl⟩
    have hk := fun w => rkey_any (kn : Int) T1 T2 T3 0 w (room63 (by omega)) (room63 (by omega)) (room63 (by omega))
    unfold tellsT at hk
    rw [← hf, ← hX] at hk
    rw [← hf, ← hX] at hno hyes
    have HNO := Lib.hid hno
    have HYES := Lib.hid hyes
    have HK := Lib.hid hk
    clear hno hyes hk hf hX
    go_wp2_with fail
    refine (HK.out _).mono ?_
    rintro e w9 ⟨rfl, hb9⟩
    have K9 := Lib.hid (K3.out.below hb9)
    clear c0 c1 c2 c3 c4 fr hb9
    obtain ⟨c0, c1, c2, c3, c4⟩ := kyC_cells K9.out.k
    cases f with
    | false =>
      have NO := Lib.hid (HNO.out (by rintro ⟨h, _⟩; cases h))
      have fz := K9.out.z.frozen
      obtain ⟨z0, z1, z2, z3, z4⟩ := kyC_cells K9.out.z
      go_wp2_with fail
      refine rkeyof_end (zero_put K9.out.z) rfl _ _ false rfl rfl _ ?_ rfl
      unfold tellsP
      rw [NO.out]
      exact ⟨rfl, below_put12 K9.out.bel (Nat.le_refl _) _ _ _ _ _⟩
    | true =>
      by_cases hXs : X = s
      · have YES := Lib.hid (HYES.out rfl hXs)
        subst hXs
        have fz := K9.out.z.frozen
        obtain ⟨z0, z1, z2, z3, z4⟩ := kyC_cells K9.out.z
        go_wp2_with fail
        refine rkeyof_end (zero_put K9.out.z) rfl _ _ true rfl rfl _ ?_ rfl
        unfold tellsP
        rw [YES.out]
        exact ⟨rfl, below_put12 K9.out.bel (Nat.le_refl _) _ _ _ _ _⟩
      · have NO := Lib.hid (HNO.out (by rintro ⟨_, h⟩; exact hXs h))
        have hXb : (X == s) = false := beq_false_of_ne hXs
        have hXc : ¬ ((⟨X.toArray⟩ : ByteArray) = ⟨s.toArray⟩) := by intro e; injection e with e; exact hXs (by simpa using e)
        have fz := K9.out.z.frozen
        obtain ⟨z0, z1, z2, z3, z4⟩ := kyC_cells K9.out.z
        go_wp2_with fail
        refine rkeyof_end (zero_put K9.out.z) rfl _ _ false rfl rfl _ ?_ rfl
        unfold tellsP
        rw [NO.out]
        exact ⟨rfl, below_put12 K9.out.bel (Nat.le_refl _) _ _ _ _ _⟩
  have k4b : ((kn : Int) == 4) = false := beq_false_of_ne (by omega)
  have k3b : ((kn : Int) == 3) = false := beq_false_of_ne (by omega)
  have k3c : ((kn : Int) != 3) = true := by simp; omega
  have KN4 := Lib.hid k4
  have KN3 := Lib.hid k3
  clear k4 k3
  go_wp2_with fail
  refine wp_loop_rounds 2 ?_
  rw [rounds_succ]
  go_wp2_with fail
  refine (rtext_any _ _ _ (w.heap.size + 2) s 1 _ rfl K0.out.l g0 hs' hc0 HCM.out).mono ?_
  rintro e wz ⟨A1, d1, p1, rfl, rfl, l1, g1, r1⟩
  obtain ⟨T1, hT1⟩ : ∃ E, E = txt 1 (s.drop 1) := ⟨_, rfl⟩
  obtain ⟨s1, hs1⟩ : ∃ b, b = txtShort 1 (s.drop 1) := ⟨_, rfl⟩
  rw [← hT1] at l1
  rw [← hs1] at r1
  rw [← hT1, ← hs1]
  have y1 : T1.length ≤ 1000000 := by have := txt_sub 1 (s.drop 1); rw [List.length_drop] at this; rw [hT1]; omega
  have L1 := Lib.hid l1
  have R1 := Lib.hid r1
  have HT1 := Lib.hid hT1
  have HS1 := Lib.hid hs1
  clear l1 r1 hT1 hs1
  cases s1 with
  | true =>
    have NO : Hid (keyOf s = none) := Lib.hid (keyOf_bad HKN.out.symm (fun ho => by
      have ha : pkA (kn : Int) = true ∧ pkB (kn : Int) = false := by
        have k4 := KN4.out
        have k3 := KN3.out
        rcases pk_cases (kn : Int) with w | w | w | w | w | ⟨_, _, _, _, _, w, _⟩
        · rw [w]; exact ⟨rfl, rfl⟩
        · rw [w]; exact ⟨rfl, rfl⟩
        · exact absurd w (by omega)
        · exact absurd w (by omega)
        · rw [w]; exact ⟨rfl, rfl⟩
        · rw [w] at ho; cases ho
      rw [hr0.out]
      unfold rdK rdS rdT rdR
      rw [ha.1, ha.2]
      simp only [if_true, Bool.true_and]
      rw [← HS1.out]
      simp
      ))
    have fz := K0.out.z.frozen
    obtain ⟨z0, z1, z2, z3, z4⟩ := kyC_cells K0.out.z
    go_wp2_with fail
    refine rkeyof_end (zero_put K0.out.z) rfl _ _ false rfl rfl _ ?_ rfl
    unfold tellsP
    rw [NO.out]
    exact ⟨rfl, below_put12 K0.out.bel (Nat.le_refl _) _ _ _ _ _⟩
  | false =>
  have t1 := Lib.hid (R1.out rfl)
  clear R1
  have cv1 := run_octets_string (P := Try.prog) 23 9 5 Try.underlying23 Try.underlying5 Try.underlying9 L1.out d1
  have K1 := Lib.hid (K0.out.set 1 (.string ⟨T1.toArray⟩) (A' := T1) (B' := []) (C' := []) (id' := 0) rfl)
  go_wp2_with fail
  clear c0 c1 c2 c3 c4 fr cv1
  obtain ⟨c0, c1, c2, c3, c4⟩ := kyC_cells K1.out.k
  have fr := K1.out.k.frozen
  rw [rounds_succ]
  by_cases k5 : kn = 5
  · have KN5 := Lib.hid k5
    have k5b : ((kn : Int) == 5) = true := by rw [k5]; rfl
    clear k5
    go_wp2_with fail
    refine (rnum_at _ _ _ (w.heap.size + 2) s p1 8 _ rfl K1.out.l (by omega) (by decide) hs').mono ?_
    rintro e wz ⟨rfl, rfl⟩
    obtain ⟨id, hid⟩ : ∃ k, k = nat (tk 8 (s.drop p1)) := ⟨_, rfl⟩
    have idl : id < 18446744073709551616 := by rw [hid]; exact nat8 _ 8 (by decide)
    rw [← hid]
    generalize (!short 8 (s.drop p1)) = sb2
    have HID := Lib.hid hid
    clear hid
    have K2 := Lib.hid (K1.out.set 4 (.int .u64 (id : Int)) (A' := T1) (B' := []) (C' := []) (id' := id) rfl)
    obtain ⟨d0, d1, d2, d3, d4⟩ := kyC_cells K2.out.k
    have hno : ¬ (okK kn T1 [] [] id = true ∧ txK kn T1 [] [] id = s) → keyOf s = none := keyOf_none HKN.out.symm (fun ho => by
      have ha : pkA (kn : Int) = true ∧ pkB (kn : Int) = false := by
        have k4 := KN4.out
        have k3 := KN3.out
        rcases pk_cases (kn : Int) with w | w | w | w | w | ⟨_, _, _, _, _, w, _⟩
        · rw [w]; exact ⟨rfl, rfl⟩
        · rw [w]; exact ⟨rfl, rfl⟩
        · exact absurd w (by omega)
        · exact absurd w (by omega)
        · rw [w]; exact ⟨rfl, rfl⟩
        · rw [w] at ho; cases ho
      rw [hr0.out]
      have k5 := KN5.out
      have hp : pkI (kn : Int) = true := by rw [k5]; rfl
      unfold rdK
      rw [ha.1, ha.2, hp]
      simp only [rdT, rdR, if_true, t1.out, Bool.false_eq_true, if_false]
      exact ⟨HT1.out.symm, (by first | exact rfl | trivial), (by first | exact rfl | trivial), HID.out.symm⟩
      )
    have hyes : okK kn T1 [] [] id = true → txK kn T1 [] [] id = s → keyOf s = some ((kn : Int), T1, [], [], id) := fun h1 h2 => by rw [← h2]; exact key_back h1 idl
    obtain ⟨f, hf⟩ : ∃ f, f = okK kn T1 [] [] id := ⟨_, rfl⟩
    obtain ⟨X, hX⟩ : ∃ X, X = txK kn T1 [] [] id := ⟨_, rfl⟩
    have hk := fun w => rkey_any (kn : Int) T1 [] [] id w (room63 (by omega)) (Nat.zero_le _) (Nat.zero_le _)
    unfold tellsT at hk
    rw [← hf, ← hX] at hk
    rw [← hf, ← hX] at hno hyes
    have HNO := Lib.hid hno
    have HYES := Lib.hid hyes
    have HK := Lib.hid hk
    clear hno hyes hk hf hX
    go_wp2_with fail
    refine (HK.out _).mono ?_
    rintro e w9 ⟨rfl, hb9⟩
    have K9 := Lib.hid (K2.out.below hb9)
    clear c0 c1 c2 c3 c4 d0 d1 d2 d3 d4 fr hb9
    obtain ⟨c0, c1, c2, c3, c4⟩ := kyC_cells K9.out.k
    cases f with
    | false =>
      have NO := Lib.hid (HNO.out (by rintro ⟨h, _⟩; cases h))
      have fz := K9.out.z.frozen
      obtain ⟨z0, z1, z2, z3, z4⟩ := kyC_cells K9.out.z
      go_wp2_with fail
      refine rkeyof_end (zero_put K9.out.z) rfl _ _ false rfl rfl _ ?_ rfl
      unfold tellsP
      rw [NO.out]
      exact ⟨rfl, below_put12 K9.out.bel (Nat.le_refl _) _ _ _ _ _⟩
    | true =>
      by_cases hXs : X = s
      · have YES := Lib.hid (HYES.out rfl hXs)
        subst hXs
        have fz := K9.out.z.frozen
        obtain ⟨z0, z1, z2, z3, z4⟩ := kyC_cells K9.out.z
        go_wp2_with fail
        refine rkeyof_end (zero_put K9.out.z) rfl _ _ true rfl rfl _ ?_ rfl
        unfold tellsP
        rw [YES.out]
        exact ⟨rfl, below_put12 K9.out.bel (Nat.le_refl _) _ _ _ _ _⟩
      · have NO := Lib.hid (HNO.out (by rintro ⟨_, h⟩; exact hXs h))
        have hXb : (X == s) = false := beq_false_of_ne hXs
        have hXc : ¬ ((⟨X.toArray⟩ : ByteArray) = ⟨s.toArray⟩) := by intro e; injection e with e; exact hXs (by simpa using e)
        have fz := K9.out.z.frozen
        obtain ⟨z0, z1, z2, z3, z4⟩ := kyC_cells K9.out.z
        go_wp2_with fail
        refine rkeyof_end (zero_put K9.out.z) rfl _ _ false rfl rfl _ ?_ rfl
        unfold tellsP
        rw [NO.out]
        exact ⟨rfl, below_put12 K9.out.bel (Nat.le_refl _) _ _ _ _ _⟩
  · have KN5 := Lib.hid k5
    have k5b : ((kn : Int) == 5) = false := beq_false_of_ne (by omega)
    clear k5
    have idl : (0 : Nat) < 18446744073709551616 := by decide
    have hno : ¬ (okK kn T1 [] [] 0 = true ∧ txK kn T1 [] [] 0 = s) → keyOf s = none := keyOf_none HKN.out.symm (fun ho => by
      have ha : pkA (kn : Int) = true ∧ pkB (kn : Int) = false := by
        have k4 := KN4.out
        have k3 := KN3.out
        rcases pk_cases (kn : Int) with w | w | w | w | w | ⟨_, _, _, _, _, w, _⟩
        · rw [w]; exact ⟨rfl, rfl⟩
        · rw [w]; exact ⟨rfl, rfl⟩
        · exact absurd w (by omega)
        · exact absurd w (by omega)
        · rw [w]; exact ⟨rfl, rfl⟩
        · rw [w] at ho; cases ho
      rw [hr0.out]
      have k5 := KN5.out
      have k4 := KN4.out
      have hp : pkI (kn : Int) = false := by
        unfold pkI
        rw [decide_eq_false (by omega), decide_eq_false (by omega)]; rfl
      unfold rdK
      rw [ha.1, ha.2, hp]
      simp only [rdT, rdR, if_true, Bool.false_eq_true, if_false]
      exact ⟨HT1.out.symm, (by first | exact rfl | trivial), (by first | exact rfl | trivial), (by first | exact rfl | trivial)⟩
      )
    have hyes : okK kn T1 [] [] 0 = true → txK kn T1 [] [] 0 = s → keyOf s = some ((kn : Int), T1, [], [], 0) := fun h1 h2 => by rw [← h2]; exact key_back h1 idl
    obtain ⟨f, hf⟩ : ∃ f, f = okK kn T1 [] [] 0 := ⟨_, rfl⟩
    obtain ⟨X, hX⟩ : ∃ X, X = txK kn T1 [] [] 0 := ⟨_, rfl⟩
    have hk := fun w => rkey_any (kn : Int) T1 [] [] 0 w (room63 (by omega)) (Nat.zero_le _) (Nat.zero_le _)
    unfold tellsT at hk
    rw [← hf, ← hX] at hk
    rw [← hf, ← hX] at hno hyes
    have HNO := Lib.hid hno
    have HYES := Lib.hid hyes
    have HK := Lib.hid hk
    clear hno hyes hk hf hX
    go_wp2_with fail
    refine (HK.out _).mono ?_
    rintro e w9 ⟨rfl, hb9⟩
    have K9 := Lib.hid (K1.out.below hb9)
    clear c0 c1 c2 c3 c4 fr hb9
    obtain ⟨c0, c1, c2, c3, c4⟩ := kyC_cells K9.out.k
    cases f with
    | false =>
      have NO := Lib.hid (HNO.out (by rintro ⟨h, _⟩; cases h))
      have fz := K9.out.z.frozen
      obtain ⟨z0, z1, z2, z3, z4⟩ := kyC_cells K9.out.z
      go_wp2_with fail
      refine rkeyof_end (zero_put K9.out.z) rfl _ _ false rfl rfl _ ?_ rfl
      unfold tellsP
      rw [NO.out]
      exact ⟨rfl, below_put12 K9.out.bel (Nat.le_refl _) _ _ _ _ _⟩
    | true =>
      by_cases hXs : X = s
      · have YES := Lib.hid (HYES.out rfl hXs)
        subst hXs
        have fz := K9.out.z.frozen
        obtain ⟨z0, z1, z2, z3, z4⟩ := kyC_cells K9.out.z
        go_wp2_with fail
        refine rkeyof_end (zero_put K9.out.z) rfl _ _ true rfl rfl _ ?_ rfl
        unfold tellsP
        rw [YES.out]
        exact ⟨rfl, below_put12 K9.out.bel (Nat.le_refl _) _ _ _ _ _⟩
      · have NO := Lib.hid (HNO.out (by rintro ⟨_, h⟩; exact hXs h))
        have hXb : (X == s) = false := beq_false_of_ne hXs
        have hXc : ¬ ((⟨X.toArray⟩ : ByteArray) = ⟨s.toArray⟩) := by intro e; injection e with e; exact hXs (by simpa using e)
        have fz := K9.out.z.frozen
        obtain ⟨z0, z1, z2, z3, z4⟩ := kyC_cells K9.out.z
        go_wp2_with fail
        refine rkeyof_end (zero_put K9.out.z) rfl _ _ false rfl rfl _ ?_ rfl
        unfold tellsP
        rw [NO.out]
        exact ⟨rfl, below_put12 K9.out.bel (Nat.le_refl _) _ _ _ _ _⟩
end Go.Proofs.Ytgdlgkbckblagaa
