/- Layer 9: the meta that holds; a device's pages are opened. -/
import Derived.Test.YtcmffifehpbjnaaPageE
import Derived.Test.YtcmffifehpbjnaaPageF
namespace Go.Proofs.Ytcmffifehpbjnaa
open Go.RowKit Go.Maps
set_option maxRecDepth 100000
set_option linter.unusedSimpArgs false
set_option linter.unusedVariables false
theorem newest_end {w : World} {b : Nat} {cs : Array Value} (hg : Whole w b 38 cs) (hs : cs.size = 4) (tmps : Array Value) (ds) (c : Bool) (h6 : tmps.getD 2 undef = ptr b) (h7 : tmps.getD 3 undef = .bool c)
    (R : Ending → World → Prop) (hR : R (.returned (.tuple #[.agg cs, .bool c])) w) (hd : ds = []) : bodyPost Try.prog Try.f33 R .ret { tmps := tmps, defers := ds } w := by
  refine bodyPost_ret (v := .tuple #[.agg cs, .bool c]) ?_ hd hR
  rw [results_cell_tmp (p := 2) (u := 3) (ty := 38) rfl]
  rw [h6, h7]
  simp [asAddr, load_mt w b cs hg hs, Result.andThen]
/-- what is found up to the k-th meta -/
def newK (S : Dv) : Nat → Mt
  | 0 => ⟨0, 0, 0, 0⟩
  | k + 1 => newP1 S (S.len nmP / 8) k (newK S k)
theorem newP_K (S : Dv) (h : 2 ≤ S.len nmP / 8) : newP S = newK S 2 := by
  unfold newP
  rw [if_neg (by omega)]
  rfl
def Mt.lo (m : Mt) : Prop := m.fit ∧ m.root < 9223372036854775808 ∧ m.count < 9223372036854775808
theorem newP1_lo (S : Dv) (pg k : Nat) (hn : pg ≤ 1000000) (best : Mt) (h : best.lo) : (newP1 S pg k best).lo := by
  unfold newP1
  split
  · rename_i h
    have hp := h.2.1
    unfold parseOk at hp
    rw [Bool.and_eq_true] at hp
    obtain ⟨_, _, g3, g4⟩ := of_decide_eq_true hp.1
    exact ⟨mtOf_fit _, by rcases g3 with g3 | g3 <;> omega, by omega⟩
  · exact h
theorem zero_lo : (⟨0, 0, 0, 0⟩ : Mt).lo := ⟨⟨by decide, by decide, by decide, by decide⟩, by decide, by decide⟩
theorem newK_lo (S : Dv) (hn : S.len nmP / 8 ≤ 1000000) : ∀ k, (newK S k).lo := by
  intro k
  induction k with
  | zero => exact zero_lo
  | succ k ih => exact newP1_lo S _ k hn _ ih
section
variable {B g : Nat} {X : Nat → Prop} {w0 W : World} {S : Dv}
theorem put4_other {w : World} {g i : Nat} (h : i ≠ g) (u0 u1 u2 u3 : Value) : ((((w.setCell ⟨g, 0, none⟩ u0).setCell ⟨g, 1, none⟩ u1).setCell ⟨g, 2, none⟩ u2).setCell ⟨g, 3, none⟩ u3).heap[i]? = w.heap[i]? := by
  rw [Below.heap_setCell _ ⟨g, 3, none⟩ _ i h, Below.heap_setCell _ ⟨g, 2, none⟩ _ i h, Below.heap_setCell _ ⟨g, 1, none⟩ _ i h, Below.heap_setCell _ ⟨g, 0, none⟩ _ i h]
def NwAt (S : Dv) (b2 b4 : Nat) (W : World) (vk : Value) (wr : World) : Prop :=
  ∃ (k : Nat) (m : Mt), vk = .int .i64 (k : Int) ∧ k ≤ 2 ∧ m = newK S k ∧ Whole wr b4 38 #[.int .u64 (m.gen : Int), .int .i64 (m.root : Int), .int .i64 (m.count : Int), .int .u64 (m.mark : Int)] ∧ (∃ cs, Whole wr b2 38 cs ∧ cs.size = 4) ∧ Below b2 W wr
theorem len_small (h : At B X w0 g S W) : S.len nmP ≤ 100000 := by
  have hO := h.dev.1
  unfold Dv.len
  cases hf : fnd S.fs nmP with
  | none => exact Nat.zero_le _
  | some F => exact (fil_le hO hf).2
/-- a read makes memory only -/
theorem at_readB (h : At B X w0 g S W) (nm : Nm) (hn : nm.length ≤ maxLen) (k : Int) (x : Sec) (c : Int) (hc : pRead S nm k = (x, c)) :
    Calls Try.prog 28 #[ptr g, .string ⟨nm.toArray⟩, .int .i64 k] W fun e w' => e = .returned (.tuple #[.agg (csF x), .int .i64 c]) ∧ Below W.heap.size W w' :=
  (read_dev h.dev nm hn k).mono fun e w' ⟨h1, h2⟩ => by rw [hc] at h1; exact ⟨h1, h2⟩
set_option maxHeartbeats 8000000 in
theorem newest_any (h : At B X w0 g S W) (n : Mt) (hn : newP S = n) :
    Calls Try.prog 33 #[ptr g] W fun e w' => e = .returned (.tuple #[.agg #[.int .u64 (n.gen : Int), .int .i64 (n.root : Int), .int .i64 (n.count : Int), .int .u64 (n.mark : Int)], .bool (decide (0 < n.gen))]) ∧ Below W.heap.size W w' := by
  have H := Lib.hid h
  have hs := len_small h
  have ml : nmP.length ≤ maxLen := by show 1 ≤ maxLen; unfold maxLen; omega
  have ML := Lib.hid ml
  obtain ⟨pg, hpg⟩ : ∃ pg, S.len nmP / 8 = pg := ⟨_, rfl⟩
  have hpl : pg ≤ 1000000 := by omega
  have HS : Hid (S.len nmP ≤ 9000000000000000000) := Lib.hid (by omega)
  have HPG := Lib.hid hpg
  have HN := Lib.hid hn
  clear h hs ml hpg hn
  go_enter Try.func33, Try.ntmps33
  go_upto_region 2 with fail
  refine wp_ren (fun W' => Below W.heap.size W W' ∧ Whole W' W.heap.size 38 #[.int .u64 0, .int .i64 0, .int .i64 0, .int .u64 0] ∧ Whole W' (W.heap.size + 1) 38 #[.int .u64 0, .int .i64 0, .int .i64 0, .int .u64 0] ∧ W'.heap.size = W.heap.size + 2) ⟨?_, ?_, ?_, ?_⟩ ?_
  · exact ((Below.refl _ _).alloc (Nat.le_refl _) _).alloc (by simp) _
  · exact (Below.heap_alloc _ _ _ (by simp)).trans (heap_alloc_new W _)
  · exact heap_at9 (by simp)
  · simp
  rintro W1 ⟨hb1, hv1, hv2, hs1⟩
  have B1 := Lib.hid hb1
  have V1 := Lib.hid hv1
  have V2 := Lib.hid hv2
  have S1 := Lib.hid hs1
  clear hb1 hv1 hv2 hs1
  go_upto_region 3 with (go_at_call 41; go_must (refine (length_any (H.out.below B1.out).1 pg HPG.out HS.out).mono ?_); rintro e w1 ⟨rfl, rfl⟩)
  by_cases hp : pg < 2
  · have hn0 : n = ⟨0, 0, 0, 0⟩ := by rw [← HN.out]; unfold newP; rw [HPG.out, if_pos hp]
    have hp1 : (pg : Int) < 2 := by omega
    obtain ⟨c0, c1, c2, c3⟩ := four9 V2.out
    obtain ⟨d0, d1, d2, d3⟩ := four9 V1.out
    have z0 := Whole.frozen V1.out 0
    have z1 := Whole.frozen V1.out 1
    have z2 := Whole.frozen V1.out 2
    have z3 := Whole.frozen V1.out 3
    go_wp2_with fail
    refine newest_end (b := W.heap.size) (cs := #[.int .u64 0, .int .i64 0, .int .i64 0, .int .u64 0]) ?_ rfl _ _ false ?_ ?_ _ ?_ rfl
    · exact put4 V1.out _ _ _ _
    · rfl
    · rfl
    · rw [hn0]
      exact ⟨rfl, below4 B1.out (Nat.le_refl _) _ _ _ _⟩
  · have hp1 : ¬ (pg : Int) < 2 := by omega
    have hnk : n = newK S 2 := by rw [← HN.out]; exact newP_K S (by rw [HPG.out]; omega)
    have HNK := Lib.hid hnk
    clear hnk
    go_wp2_with fail
    go_loopw [16] (fun vk wr => NwAt S W.heap.size (W.heap.size + 1) W1 vk wr) (fun vk _ => 2 - (intOf vk).toNat)
    case atStart => exact ⟨0, ⟨0, 0, 0, 0⟩, rfl, by omega, rfl, V2.out, ⟨_, V1.out, rfl⟩, Below.refl _ _⟩
    case round =>
      obtain ⟨k, m, rfl, hk, hm, hv, ⟨cs, hv0, hcs⟩, hb⟩ := hrel
      have BW := Lib.hid hb
      have M := Lib.hid hv
      have V0 := Lib.hid hv0
      have HM := Lib.hid hm
      have HSZ : Hid (W.heap.size + 2 ≤ wr.heap.size) := Lib.hid (by have := hb.size; have := S1.out; omega)
      have AT : Hid (At B X w0 g S wr) := Lib.hid (H.out.below (B1.out.trans hb)).1
      obtain ⟨G, hG⟩ : ∃ G, G = m.gen := ⟨_, rfl⟩
      obtain ⟨R, hR⟩ : ∃ R, R = m.root := ⟨_, rfl⟩
      obtain ⟨C, hC⟩ : ∃ C, C = m.count := ⟨_, rfl⟩
      obtain ⟨K, hK⟩ : ∃ K, K = m.mark := ⟨_, rfl⟩
      rw [← hG, ← hR, ← hC, ← hK] at M
      have hmm : m = ⟨G, R, C, K⟩ := by rw [hG, hR, hC, hK]
      subst hmm
      clear hb hv hv0 hm hG hR hC hK
      by_cases hlt : k < 2
      · have hi1 : (k : Int) < 2 := by omega
        obtain ⟨x, c, hx⟩ : ∃ x c, pRead S nmP ((k * 8 : Nat) : Int) = (x, c) := ⟨_, _, rfl⟩
        have hx2 : pRead S nmP ((k : Int) * 8) = (x, c) := by rw [← hx]; congr 1
        have HX := Lib.hid hx
        have HX2 := Lib.hid hx2
        have hwm : IntKind.i64.wrap ((k : Int) * 8) = (k : Int) * 8 := IntWalk.i64_in _ ⟨by omega, by omega⟩
        have hst : newK S (k + 1) = if c = 0 ∧ parseOk x k pg = true ∧ G < (mtOf x.1).gen then mtOf x.1 else ⟨G, R, C, K⟩ := by
          show newP1 S (S.len nmP / 8) k (newK S k) = _
          unfold newP1
          rw [← HM.out, HPG.out, hx]
        have HST := Lib.hid hst
        clear hx hx2 hst
        go_upto_region 9 with (first
          | (go_at_call 28; go_must (refine (at_readB AT.out nmP ML.out ((k : Int) * 8) x c HX2.out).mono ?_); rintro e w2 ⟨rfl, h2⟩; have B2 := Lib.hid h2; clear h2)
          | (with_reducible refine at_store36 ?_; go_must (refine wpList_store64 rfl (.tmp 7) (.tmp 24) rfl w2.heap.size x rfl rfl _ (heap_alloc_new w2 _) rfl ?_)))
        refine wp_ren (fun W' => Below wr.heap.size wr W' ∧ W'.heap[w2.heap.size]? = some (.cells (csF x) 64 (0, 0)) ∧ w2.heap.size < W'.heap.size) ⟨?_, ?_, ?_⟩ ?_
        · exact below_setRow (B2.out.alloc B2.out.size _) B2.out.size _
        · exact setRow_heap _ _ _ _ _ _ (heap_alloc_new w2 _)
        · simp [World.setRow]
        rintro W3 ⟨hb3, hr3, hl3⟩
        have B3 := Lib.hid hb3
        have R3 := Lib.hid hr3
        clear hb3 hr3
        by_cases hc : c = 0
        · subst hc
          have hpa := fun w => parse_any x k pg hlt hpl w
          unfold parseV at hpa
          obtain ⟨m', hm'⟩ : ∃ m', m' = mtOf x.1 := ⟨_, rfl⟩
          obtain ⟨ok, hok⟩ : ∃ ok, ok = parseOk x k pg := ⟨_, rfl⟩
          rw [← hm', ← hok] at HST
          have hgood : ok = true → m'.root < 9223372036854775808 ∧ m'.count < 9223372036854775808 := by
            intro h
            rw [hok] at h
            unfold parseOk at h
            rw [Bool.and_eq_true] at h
            obtain ⟨_, _, g3, g4⟩ := of_decide_eq_true h.1
            rw [← hm'] at g3 g4
            exact ⟨by rcases g3 with g3 | g3 <;> omega, by omega⟩
          simp only [← hm', ← hok] at hpa
          obtain ⟨G', R', C', K'⟩ := m'
          simp only at hpa hgood HST
          have HPA := Lib.hid hpa
          have HGD := Lib.hid hgood
          clear hpa hm' hok hgood
          go_upto_region 11 with (first
            | (with_reducible refine at_load36 ?_; go_must (refine wpList_load64 rfl (.tmp 7) rfl w2.heap.size x rfl R3.out ?_))
            | (go_at_call 53; go_must (refine (HPA.out _).mono ?_); rintro e w4 ⟨rfl, h4⟩; have B4 := Lib.hid (B3.out.trans (h4.mono B3.out.size)); clear h4))
          obtain ⟨b9, hb9⟩ : ∃ b9, b9 = w4.heap.size := ⟨_, rfl⟩
          rw [← hb9]
          have hs4 : wr.heap.size ≤ b9 := by rw [hb9]; exact B4.out.size
          refine wp_ren (fun W' => Below wr.heap.size wr W' ∧ Whole W' b9 38 #[.int .u64 (G' : Int), .int .i64 (wrap64 (R' : Int)), .int .i64 (wrap64 (C' : Int)), .int .u64 (K' : Int)]) ⟨?_, ?_⟩ ?_
          · exact B4.out.alloc B4.out.size _
          · rw [hb9]; exact Whole.new _ _ _
          rintro W5 ⟨hb5, hv5⟩
          have B5 := Lib.hid hb5
          have V5 := Lib.hid hv5
          have M5 : Hid (Whole W5 (W.heap.size + 1) 38 #[.int .u64 (G : Int), .int .i64 (R : Int), .int .i64 (C : Int), .int .u64 (K : Int)]) := Lib.hid ((hb5.block _ (by have := HSZ.out; omega)).trans M.out)
          have V05 : Hid (Whole W5 W.heap.size 38 cs) := Lib.hid ((hb5.block _ (by have := HSZ.out; omega)).trans V0.out)
          obtain ⟨p0, p1, p2, p3⟩ := four9 hv5
          obtain ⟨c0, c1, c2, c3⟩ := four9 M5.out
          clear hb5 hv5 hb9
          cases ok with
          | false =>
            have e1 : newK S (k + 1) = ⟨G, R, C, K⟩ := by rw [HST.out, if_neg (by simp)]
            have E1 := Lib.hid e1
            clear e1
            go_wp2_with fail
            go_roundw
            case rel => exact ⟨k + 1, ⟨G, R, C, K⟩, by go_num, by omega, E1.out.symm, M5.out, ⟨cs, V05.out, hcs⟩, BW.out.trans (B5.out.mono (by have := HSZ.out; omega))⟩
            case measure => simp [intOf]; omega
          | true =>
            have hg := HGD.out rfl
            have hwR : wrap64 (R' : Int) = (R' : Int) := IntWalk.wrap64_in _ ⟨by omega, by omega⟩
            have hwC : wrap64 (C' : Int) = (C' : Int) := IntWalk.wrap64_in _ ⟨by omega, by omega⟩
            rw [hwR] at p1
            rw [hwC] at p2
            by_cases hgg : G < G'
            · have hgi : (G : Int) < (G' : Int) := by omega
              have e1 : newK S (k + 1) = ⟨G', R', C', K'⟩ := by rw [HST.out]; exact if_pos (by simpa using hgg)
              have E1 := Lib.hid e1
              have z0 := Whole.frozen M5.out 0
              have z1 := Whole.frozen M5.out 1
              have z2 := Whole.frozen M5.out 2
              have z3 := Whole.frozen M5.out 3
              clear e1 hwR hwC hg
              go_wp2_with fail
              go_roundw
              case rel => exact ⟨k + 1, ⟨G', R', C', K'⟩, by go_num, by omega, E1.out.symm, put4 M5.out _ _ _ _, ⟨cs, (put4_other (by omega) _ _ _ _).trans V05.out, hcs⟩, below4 (BW.out.trans (B5.out.mono (by have := HSZ.out; omega))) (by have := S1.out; omega) _ _ _ _⟩
              case measure => simp [intOf]; omega
            · have hgi : ¬ (G : Int) < (G' : Int) := by omega
              have e1 : newK S (k + 1) = ⟨G, R, C, K⟩ := by rw [HST.out, if_neg (by simp; omega)]
              have E1 := Lib.hid e1
              clear e1 hwR hwC hg
              go_wp2_with fail
              go_roundw
              case rel => exact ⟨k + 1, ⟨G, R, C, K⟩, by go_num, by omega, E1.out.symm, M5.out, ⟨cs, V05.out, hcs⟩, BW.out.trans (B5.out.mono (by have := HSZ.out; omega))⟩
              case measure => simp [intOf]; omega
        · have e1 : newK S (k + 1) = ⟨G, R, C, K⟩ := by rw [HST.out, if_neg (fun h => hc h.1)]
          have E1 := Lib.hid e1
          have M5 : Hid (Whole W3 (W.heap.size + 1) 38 #[.int .u64 (G : Int), .int .i64 (R : Int), .int .i64 (C : Int), .int .u64 (K : Int)]) := Lib.hid ((B3.out.block _ (by have := HSZ.out; omega)).trans M.out)
          have V05 : Hid (Whole W3 W.heap.size 38 cs) := Lib.hid ((B3.out.block _ (by have := HSZ.out; omega)).trans V0.out)
          clear e1
          go_wp2_with fail
          go_roundw
          case rel => exact ⟨k + 1, ⟨G, R, C, K⟩, by go_num, by omega, E1.out.symm, M5.out, ⟨cs, V05.out, hcs⟩, BW.out.trans (B3.out.mono (by have := HSZ.out; omega))⟩
          case measure => simp [intOf]; omega
      · have hk2 : k = 2 := by omega
        subst hk2
        have hn2 : n = ⟨G, R, C, K⟩ := by rw [HNK.out, ← HM.out]
        subst hn2
        obtain ⟨c0, c1, c2, c3⟩ := four9 M.out
        obtain ⟨cs4, rfl⟩ : ∃ l : List Value, cs = l.toArray := ⟨cs.toList, by simp⟩
        match cs4, hcs with
        | [a0, a1, a2, a3], _ =>
        obtain ⟨d0, d1, d2, d3⟩ := four9 V0.out
        have z0 := Whole.frozen V0.out 0
        have z1 := Whole.frozen V0.out 1
        have z2 := Whole.frozen V0.out 2
        have z3 := Whole.frozen V0.out 3
        have hne : (W.heap.size + 1) ≠ W.heap.size := by omega
        go_upto_region 14 with fail
        go_region
        all_goals
          go_wp2_with fail
          refine newest_end (b := W.heap.size) (cs := #[.int .u64 (G : Int), .int .i64 (R : Int), .int .i64 (C : Int), .int .u64 (K : Int)]) ?_ rfl _ _ (decide (0 < G)) ?_ ?_ _ ?_ rfl
          · exact put4 V0.out _ _ _ _
          · rfl
          · rfl
          · exact ⟨rfl, below4 (B1.out.trans BW.out).drew (Nat.le_refl _) _ _ _ _⟩
end
end Go.Proofs.Ytcmffifehpbjnaa
