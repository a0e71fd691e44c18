/- The law RoutOwn, walked. -/
import Derived.Test.YtocombacjpjdbaaDoorRoW
namespace Go.Proofs.YtocombacjpjdbaaDoor
open Go.RowKit Go.Maps Go.Sort Go.Shelf
set_option maxRecDepth 100000
set_option linter.unusedSimpArgs false
set_option linter.unusedVariables false
set_option maxHeartbeats 8000000 in
theorem own_early (q k n : List UInt8) (W : World) (h : 60 < q.length ∨ 60 < k.length ∨ 60 < n.length) :
    Calls Tryd.prog 3 #[.string ⟨q.toArray⟩, .string ⟨k.toArray⟩, .string ⟨n.toArray⟩] W fun e w' => e = .returned (.bool true) ∧ Below W.heap.size W w' := by
  by_cases h1 : (60 : Int) < (q.length : Int)
  · clear h
    go_enter Tryd.func3, Tryd.ntmps3
    go_wp2_with fail
    refine (r_new _).mono ?_
    rintro e w1 ⟨g, bx, bb, rfl, hr1, hb1, _⟩
    have B1 := Lib.hid hb1
    clear hr1 hb1
    go_wp2_with fail
    refine (awake16_any _).mono ?_
    rintro e w2 ⟨rfl, hb2⟩
    have B2 := Lib.hid (B1.out.trans (hb2.mono B1.out.size))
    clear hb2
    go_wp2_with fail
    go_ret
    exact ⟨rfl, B2.out⟩
  · by_cases h2 : (60 : Int) < (k.length : Int)
    · clear h
      go_enter Tryd.func3, Tryd.ntmps3
      go_wp2_with fail
      refine (r_new _).mono ?_
      rintro e w1 ⟨g, bx, bb, rfl, hr1, hb1, _⟩
      have B1 := Lib.hid hb1
      clear hr1 hb1
      go_wp2_with fail
      refine (awake16_any _).mono ?_
      rintro e w2 ⟨rfl, hb2⟩
      have B2 := Lib.hid (B1.out.trans (hb2.mono B1.out.size))
      clear hb2
      go_wp2_with fail
      go_ret
      exact ⟨rfl, B2.out⟩
    · have h3 : (60 : Int) < (n.length : Int) := by omega
      clear h
      go_enter Tryd.func3, Tryd.ntmps3
      go_wp2_with fail
      refine (r_new _).mono ?_
      rintro e w1 ⟨g, bx, bb, rfl, hr1, hb1, _⟩
      have B1 := Lib.hid hb1
      clear hr1 hb1
      go_wp2_with fail
      refine (awake16_any _).mono ?_
      rintro e w2 ⟨rfl, hb2⟩
      have B2 := Lib.hid (B1.out.trans (hb2.mono B1.out.size))
      clear hb2
      go_wp2_with fail
      go_ret
      exact ⟨rfl, B2.out⟩
theorem own_cases (n : List UInt8) : (fndX rt0.X n).isSome = (n == [] || n == nDirect || n == nFanout || n == nTopic) := by
  show (fndX [xc0, xc1, xc2, xc3] n).isSome = _
  have q0 : (xc0.name = n) = (n = []) := propext ⟨fun h => h.symm, fun h => h.symm⟩
  have q1 : (xc1.name = n) = (n = nDirect) := propext ⟨fun h => h.symm, fun h => h.symm⟩
  have q2 : (xc2.name = n) = (n = nFanout) := propext ⟨fun h => h.symm, fun h => h.symm⟩
  have q3 : (xc3.name = n) = (n = nTopic) := propext ⟨fun h => h.symm, fun h => h.symm⟩
  simp only [fndX, q0, q1, q2, q3]
  by_cases h0 : n = []
  · rw [if_pos h0]; simp [h0]
  · rw [if_neg h0]
    by_cases h1 : n = nDirect
    · rw [if_pos h1]; simp [h1]
    · rw [if_neg h1]
      by_cases h2 : n = nFanout
      · rw [if_pos h2]; simp [h2]
      · rw [if_neg h2]
        by_cases h3 : n = nTopic
        · rw [if_pos h3]; simp [h3]
        · rw [if_neg h3]; simp [h0, h1, h2, h3]
theorem own_lasts {n : List UInt8} {x : Xc} (h : fndX rt0.X n = some x) : x.lasts = true := by
  have := (fndX_name h).2
  simp [rt0] at this
  rcases this with rfl | rfl | rfl | rfl <;> rfl
theorem route_none (S : Rt) {x : Xc} (h : fndX S.X [] = some x) (key : List UInt8) : S.route [] key = [key] := by
  unfold Rt.route
  rw [h]
  simp
theorem adds_no (S : Rt) (x : Xc) (h : x.kind < 1 ∨ 3 < x.kind) : S.adds x = false ∧ S.add x = S := by
  have : S.adds x = false := by
    unfold Rt.adds
    rcases h with h | h
    · simp [show ¬ 1 ≤ x.kind by omega]
    · simp [show ¬ x.kind ≤ 3 by omega]
  exact ⟨this, by unfold Rt.add; rw [this]; simp⟩
theorem adds_own (n : List UInt8) : rt0.adds ⟨n, 1, false⟩ = (fndX rt0.X n).isNone := by simp [Rt.adds]
theorem cat_x (n : List UInt8) : (⟨n.toArray⟩ : ByteArray) ++ ⟨#[120]⟩ = ⟨(n ++ [120]).toArray⟩ := by
  apply ByteArray.ext
  simp [ByteArray.data_append]
theorem get_own (n : List UInt8) : ∃ N K, ((fndX rt0.X n).map xcV).getD zxV = .agg #[.string N, .int .i64 K, .bool (fndX rt0.X n).isSome] := by
  cases h : fndX rt0.X n with
  | none => exact ⟨_, _, rfl⟩
  | some x => exact ⟨_, _, by simp [xcV, own_lasts h]; exact ⟨rfl, rfl⟩⟩
set_option maxHeartbeats 8000000 in
theorem own_main (q k n : List UInt8) (W : World) (h1 : q.length ≤ 60) (h2 : k.length ≤ 60) (h3 : n.length ≤ 60) :
    Calls Tryd.prog 3 #[.string ⟨q.toArray⟩, .string ⟨k.toArray⟩, .string ⟨n.toArray⟩] W fun e w' => e = .returned (.bool true) ∧ Below W.heap.size W w' := by
  have j1 : ¬ (60 : Int) < (q.length : Int) := by omega
  have j2 : ¬ (60 : Int) < (k.length : Int) := by omega
  have j3 : ¬ (60 : Int) < (n.length : Int) := by omega
  have HL := Lib.hid (And.intro h1 (And.intro h2 h3))
  obtain ⟨o, ho⟩ : ∃ o, o = fndX rt0.X n := ⟨_, rfl⟩
  obtain ⟨own, hown⟩ : ∃ b : Bool, b = o.isSome := ⟨_, rfl⟩
  have HO := Lib.hid ho
  have HW := Lib.hid hown
  clear h1 h2 h3 ho hown
  go_enter Tryd.func3, Tryd.ntmps3
  go_wp2_with fail
  refine (r_new _).mono ?_
  rintro e w1 ⟨g, bx, bb, rfl, hr1, hb1, hg1, hx1, hbb1⟩
  have R1 := Lib.hid hr1
  have B1 := Lib.hid hb1
  have GB := Lib.hid (And.intro hg1 (And.intro hx1 hbb1))
  clear hr1 hb1 hg1 hx1 hbb1
  go_upto_region 4 with fail
  go_cut [8] (fun s8 wx => s8 = .bool own ∧ wx = w1)
  case first =>
    have hc : own = (n == [] || n == nDirect || n == nFanout || n == nTopic) := by rw [HW.out, HO.out]; exact own_cases n
    have HC := Lib.hid hc
    clear hc
    have g0 : (n == []) = n.isEmpty := by cases n <;> rfl
    have hD : (n == nDirect) = (n == [97, 109, 113, 46, 100, 105, 114, 101, 99, 116]) := rfl
    have hF : (n == nFanout) = (n == [97, 109, 113, 46, 102, 97, 110, 111, 117, 116]) := rfl
    have hT : (n == nTopic) = (n == [97, 109, 113, 46, 116, 111, 112, 105, 99]) := rfl
    have HG := Lib.hid (show own = (n.isEmpty || (n == [97, 109, 113, 46, 100, 105, 114, 101, 99, 116]) || (n == [97, 109, 113, 46, 102, 97, 110, 111, 117, 116]) || (n == [97, 109, 113, 46, 116, 111, 112, 105, 99])) by rw [HC.out, g0, hD, hF, hT])
    clear g0 hD hF hT HC
    have d1 : (⟨n.toArray⟩ : ByteArray).toList.isEmpty = n.isEmpty := by simp
    cases e0 : n.isEmpty
    · cases e1 : (n == [97, 109, 113, 46, 100, 105, 114, 101, 99, 116])
      · cases e2 : (n == [97, 109, 113, 46, 102, 97, 110, 111, 117, 116])
        · go_wp2_with fail
          go_meet
          exact ⟨by rw [HG.out, e0, e1, e2]; simp, rfl⟩
        · go_wp2_with fail
          go_meet
          exact ⟨by rw [HG.out, e0, e1, e2]; simp, rfl⟩
      · go_wp2_with fail
        go_meet
        exact ⟨by rw [HG.out, e0, e1]; simp, rfl⟩
    · go_wp2_with fail
      go_meet
      exact ⟨by rw [HG.out, e0]; simp, rfl⟩
  case rest =>
    obtain ⟨rfl, hwc⟩ := hcut
    subst hwc
    have hget := r_get R1.out (n := n) (by have := HL.out; omega)
    obtain ⟨N, K, hv⟩ := get_own n
    rw [hv, ← HO.out, ← HW.out] at hget
    have HG := Lib.hid hget
    clear hget hv
    go_wp2_with fail
    refine HG.out.mono ?_
    rintro e w2 ⟨rfl, hb2⟩
    have R2 := Lib.hid (R1.out.below hb2)
    have B2 := Lib.hid (B1.out.trans (hb2.mono B1.out.size))
    clear hb2 HG
    go_upto_region 6 with fail
    obtain ⟨hB, hhB⟩ : ∃ hB, hB = w2.heap.size := ⟨_, rfl⟩
    rw [← hhB]
    refine wp_renR (fun W' => RoAt W' g bx bb rt0 ∧ Below W.heap.size W W' ∧ Whole W' hB 26 #[.string N, .int .i64 K, .bool own]) ⟨?_, ?_, ?_⟩ ?_
    · exact R2.out.below ((Below.refl _ _).alloc (Nat.le_refl _) _)
    · exact B2.out.alloc B2.out.size _
    · rw [hhB]; exact Whole.new w2 _ _
    rintro w3 ⟨hr3, hb3, hz3⟩
    have R3 := Lib.hid hr3
    have B3 := Lib.hid hb3
    have Z3 := Lib.hid hz3
    clear hr3 hb3 hhB hz3
    have ht := r_route R3.out (n := []) (key := k) (by simp) (by have := HL.out; omega)
    rw [route_none rt0 (x := xc0) rfl k] at ht
    have HT := Lib.hid ht
    clear ht
    go_wp2_with fail
    refine HT.out.mono ?_
    rintro e w4 ⟨v4, rfl, ho4, hb4⟩
    obtain ⟨A4, c4, rfl, _, _⟩ := own_form ho4
    have R4 := Lib.hid (R3.out.below hb4)
    have B4 := Lib.hid (B3.out.trans (hb4.mono B3.out.size))
    have Z4 := Lib.hid (show Whole w4 hB _ _ from (hb4.block hB (Whole.lt Z3.out)).trans Z3.out)
    have hl4 := Lies.own ho4 (Nat.le_refl _)
    rw [rsC_S8] at hl4
    obtain ⟨b4, o4, rfl, hlb4⟩ := hl4.texts_some (by simp)
    have L4 := Lib.hid hl4
    have y2 : w4.cell? ⟨hB, 2, none⟩ = some (.bool own) := (Whole.cell Z4.out 2).trans rfl
    have hb0 := (ho4.lt b4 rfl).1
    have hbn : bb ≠ b4 := by have := R3.out.lts; omega
    have HBN := Lib.hid hbn
    have p4 := L4.out.texts_at (j := 0) (by simp)
    have P4 := Lib.hid (show w4.cell? ⟨b4, o4, none⟩ = some (.string ⟨k.toArray⟩) from p4)
    have HLB := Lib.hid hlb4
    clear ho4 hb4 HT hl4 hb0 hbn p4 hlb4
    have HBI := Lib.hid (r_bind R4.out (b := ⟨[], q, k⟩) (by have := HL.out; unfold bdOk; simp; omega) (by decide))
    go_upto_region 7 with fail
    go_wp2_with fail
    refine HBI.out.mono ?_
    rintro e w5 ⟨rfl, hr5, hg5⟩
    have hbf : rt0.binds ⟨[], q, k⟩ = false := by simp [Rt.binds]
    have hbe : rt0.bind ⟨[], q, k⟩ = rt0 := by unfold Rt.bind; rw [hbf]; simp
    rw [hbf]
    rw [hbe] at hr5
    have p5 : w5.cell? ⟨b4, o4, none⟩ = some (.string ⟨k.toArray⟩) := by
      have := hg5.block b4 HLB.out (fun e => HBN.out (Option.some.inj e).symm)
      have h4 := P4.out
      unfold World.cell? at h4 ⊢
      simp only [this]
      exact h4
    have R5 := Lib.hid hr5
    have B5 := Lib.hid (B4.out.grown hg5 B4.out.size (fun k hk => by cases hk; exact GB.out.2.2))
    clear hr5 hg5 hbf hbe HBI y2
    have HA1 := Lib.hid (r_add R5.out (x := ⟨n, 1, false⟩) (by have := HL.out; show n.length ≤ _; omega) (by decide))
    go_wp2_with fail
    refine HA1.out.mono ?_
    rintro e w6 ⟨rfl, hr6, hg6⟩
    rw [adds_own, ← HO.out]
    have hnn : o.isNone = !own := by rw [HW.out]; cases o <;> rfl
    rw [hnn]
    obtain ⟨S6, hS6⟩ : ∃ S6, S6 = rt0.add ⟨n, 1, false⟩ := ⟨_, rfl⟩
    rw [← hS6] at hr6
    have HX6 : Hid (S6.X.length < 1000) := Lib.hid (by
      rw [hS6]
      unfold Rt.add
      split
      · simp only [addX_length]; decide
      · decide)
    have R6 := Lib.hid hr6
    have B6 := Lib.hid (B5.out.grown hg6 B5.out.size (fun k hk => by cases hk; exact GB.out.2.1))
    clear hr6 hg6 hnn hS6 HA1 p5
    have HA2 := Lib.hid (r_add R6.out (x := ⟨n ++ [120], 4, false⟩) (by have := HL.out; simp; omega) HX6.out)
    go_wp2_with fail
    have hcat : (⟨n.toArray⟩ : ByteArray) ++ ⟨#[120]⟩ = ⟨(n ++ [120]).toArray⟩ := cat_x n
    rw [hcat]
    refine HA2.out.mono ?_
    rintro e w7 ⟨rfl, hr7, hg7⟩
    have ha7 := adds_no S6 ⟨n ++ [120], 4, false⟩ (.inr (by show (3 : Int) < 4; decide))
    rw [ha7.1]
    rw [ha7.2] at hr7
    have R7 := Lib.hid hr7
    have B7 := Lib.hid (B6.out.grown hg7 B6.out.size (fun k hk => by cases hk; exact GB.out.2.1))
    clear hr7 hg7 ha7 HA2
    have HA3 := Lib.hid (r_add R7.out (x := ⟨n ++ [120], 0, false⟩) (by have := HL.out; simp; omega) HX6.out)
    go_wp2_with fail
    refine HA3.out.mono ?_
    rintro e w8 ⟨rfl, hr8, hg8⟩
    have ha8 := adds_no S6 ⟨n ++ [120], 0, false⟩ (.inl (by show (0 : Int) < 1; decide))
    rw [ha8.1]
    rw [ha8.2] at hr8
    have B8' := Lib.hid (B7.out.grown hg8 B7.out.size (fun k hk => by cases hk; exact GB.out.2.1))
    clear hr8 hg8 ha8 HA3 hcat
    go_wp2_with fail
    refine (awake16_any _).mono ?_
    rintro e w9 ⟨rfl, hb9⟩
    have B9 := Lib.hid (B8'.out.trans (hb9.mono B8'.out.size))
    clear hb9
    go_wp2_with fail
    go_ret
    exact ⟨rfl, B9.out⟩
theorem own_any (q k n : List UInt8) (W : World) (_ : q.length ≤ maxLen) (_ : k.length ≤ maxLen) (_ : n.length ≤ maxLen) :
    Calls Tryd.prog 3 #[.string ⟨q.toArray⟩, .string ⟨k.toArray⟩, .string ⟨n.toArray⟩] W fun e w' => e = .returned (.bool true) ∧ Below W.heap.size W w' := by
  by_cases h : 60 < q.length ∨ 60 < k.length ∨ 60 < n.length
  · exact own_early q k n W h
  · exact own_main q k n W (by omega) (by omega) (by omega)
end Go.Proofs.YtocombacjpjdbaaDoor
