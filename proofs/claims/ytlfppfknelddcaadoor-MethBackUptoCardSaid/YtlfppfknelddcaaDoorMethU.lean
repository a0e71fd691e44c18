/- Contracts of the reader of package meth: any part; all parts. -/
import Derived.Test.YtlfppfknelddcaaDoorMethT6
import Derived.Test.YtlfppfknelddcaaDoorMethT7
import Derived.Test.YtlfppfknelddcaaDoorMethT8
import Derived.Test.YtlfppfknelddcaaDoorMethP
namespace Go.Proofs.YtlfppfknelddcaaDoor
open Go.RowKit
set_option maxRecDepth 100000
set_option linter.unusedSimpArgs false
set_option linter.unusedVariables false

theorem rpart_any (g gi gm : Nat) (c i : Int) (st : RS) (vN vS vF vT : Value) (lo hi k : Nat) (ch : UInt8) (w : World) (h : RAt w g gi gm c i st vN vS vF vT lo hi) (hc : okL ch) (hk : k < 8) (hn : st.p.n.length ≤ 1000) (hs : st.p.s.length ≤ 1000) (hf : st.p.f.length ≤ 1000) (hb : st.b.length ≤ 140737488355328) :
    Calls Tryd.prog 46 #[.pointer (some ⟨g, 0, none⟩), .int .u8 (ch.toNat : Int), .int .i64 k] w (ReadsE g gi gm c i (rstep ch k st) w) := by
  rcases hc with rfl | rfl | rfl | rfl | rfl | rfl | rfl | rfl
  · exact rpart_s g gi gm c i st vN vS vF vT lo hi k w h hs
  · exact rpart_l g gi gm c i st vN vS vF vT lo hi k w h hs hb
  · rw [show ((102 : UInt8).toNat : Int) = 102 from rfl]
    have hq := rflag_any g gi gm c i st vN vS vF vT lo hi k w h hf hk
    obtain ⟨T, hT⟩ : ∃ T, T = rstep 102 k st := ⟨_, rfl⟩
    rw [← hT] at hq ⊢
    have HQ := Lib.hid hq
    clear hq hT h
    go_enter Tryd.func46, Tryd.ntmps46
    go_wp2_with fail
    refine HQ.out.mono ?_
    intro e w2 hq
    have D := Lib.hid hq.ex
    obtain ⟨rfl, _⟩ := hq
    go_wp2_with fail
    go_end0
    exact D.out
  · rw [show ((116 : UInt8).toNat : Int) = 116 from rfl]
    have hq := rtable_any g gi gm c i st vN vS vF vT lo hi w h hb
    obtain ⟨T, hT⟩ : ∃ T, T = rstep 116 k st := ⟨_, rfl⟩
    have e : rstep 116 0 st = rstep 116 k st := by
      unfold rstep
      rfl
    rw [e, ← hT] at hq
    rw [← hT]
    have HQ := Lib.hid hq
    clear hq hT h e
    go_enter Tryd.func46, Tryd.ntmps46
    go_wp2_with fail
    refine HQ.out.mono ?_
    intro e w2 hq
    have D := Lib.hid hq
    obtain ⟨rfl, _⟩ := hq
    go_wp2_with fail
    go_end0
    exact D.out
  · exact rpart_n1 g gi gm c i st vN vS vF vT lo hi k w h hn
  · exact rpart_n2 g gi gm c i st vN vS vF vT lo hi k w h hn
  · exact rpart_n4 g gi gm c i st vN vS vF vT lo hi k w h hn
  · exact rpart_n8 g gi gm c i st vN vS vF vT lo hi k w h hn
theorem rstep_len (ch : UInt8) (k : Nat) (st : RS) : (rstep ch k st).p.n.length ≤ st.p.n.length + 1 ∧ (rstep ch k st).p.s.length ≤ st.p.s.length + 1 ∧ (rstep ch k st).p.f.length ≤ st.p.f.length + 1 ∧ (rstep ch k st).b.length ≤ st.b.length := by
  have a1 := txtRest_sub 1 st.b
  have a2 := txtRest_sub 4 st.b
  have a3 := rst_sub 1 st.b
  have a4 := rst_sub (wd ch) st.b
  unfold rstep
  split
  · simp [Parts.app]; exact a1
  · split
    · simp [Parts.app]; exact a2
    · split
      · split
        · simp [Parts.app]; exact a3
        · simp [Parts.app]
      · split
        · simp; exact a2
        · simp [Parts.app]; exact a4
theorem rstep_t (ch : UInt8) (k : Nat) (st : RS) (h : ch ≠ 116) : (rstep ch k st).p.t = st.p.t := by
  unfold rstep
  split
  · simp [Parts.app]
  · split
    · simp [Parts.app]
    · split
      · split <;> simp [Parts.app]
      · simp [Parts.app]
structure RLoop (ls b0 : List UInt8) (g gi gm : Nat) (c i : Int) (w wr : World) (j : Nat) (st : RS) : Prop where
  at_ : ∃ vN vS vF vT lo hi, RAt wr g gi gm c i st vN vS vF vT lo hi
  same : readG st (ls.drop j) (tr (ls.take j)) = pr0 ls 0 0 b0
  below : Below gi w wr
  n : st.p.n.length ≤ j
  s : st.p.s.length ≤ j
  f : st.p.f.length ≤ j
  b : st.b.length ≤ b0.length
  t : (ls.take j).count 116 = 0 → st.p.t = []
theorem RLoop.next {ls b0 : List UInt8} {g gi gm : Nat} {c i : Int} {w wr w2 : World} {j : Nat} {st : RS} (h : RLoop ls b0 g gi gm c i w wr j st) (hj : j < ls.length) (ho : ls.count 116 ≤ 1) (hw : ∃ vN vS vF vT lo hi, RAt w2 g gi gm c i (rstep ls[j] (tr (ls.take j) % 8) st) vN vS vF vT lo hi) (hb : Below gi wr w2) :
    RLoop ls b0 g gi gm c i w w2 (j + 1) (rstep ls[j] (tr (ls.take j) % 8) st) := by
  obtain ⟨k1, k2, k3, k4⟩ := rstep_len ls[j] (tr (ls.take j) % 8) st
  have hd := drop_cons ls j hj
  have hsp : ls.count 116 = (ls.take j).count 116 + (ls.drop j).count 116 := by rw [← List.count_append, List.take_append_drop]
  have hst : ls[j] = 116 → st.p.t = [] := by
    intro e
    apply h.t
    rw [hd, List.count_cons, e] at hsp
    simp at hsp
    omega
  have hs := h.same
  rw [hd, read_step st ls[j] (ls.drop (j + 1)) (tr (ls.take j)) hst, ← tr_next ls j hj] at hs
  refine ⟨hw, hs, h.below.trans hb, by have := h.n; omega, by have := h.s; omega, by have := h.f; omega, Nat.le_trans k4 h.b, fun hc => ?_⟩
  rw [take_one ls j hj, List.count_append] at hc
  have h1 : (ls.take j).count 116 = 0 := by omega
  have h2 : ls[j] ≠ 116 := by
    intro e
    rw [e] at hc
    simp at hc
  rw [rstep_t _ _ _ h2]
  exact h.t h1
/-- what is told of parts that are read -/
def RParts (ls b : List UInt8) (g gi gm : Nat) (c i : Int) (w : World) (e : Ending) (w' : World) : Prop :=
  Below gi w w' ∧ ((e = .returned (.bool false) ∧ ∀ p, pr0 ls 0 0 b ≠ some (p, [])) ∨ (e = .returned (.bool true) ∧ ∃ st vN vS vF vT lo hi, pr0 ls 0 0 b = some (st.p, []) ∧ RAt w' g gi gm c i st vN vS vF vT lo hi))
set_option maxHeartbeats 1000000 in
theorem rparts_any (ls b : List UInt8) (gi gm : Nat) (c i : Int) (w : World) (hin : InAt w gi b false) (hm : Whole w gm 32 #[.int .i64 c, .int .i64 i, .slice none 0 0, .slice none 0 0, .slice none 0 0, .slice none 0 0]) (hlt : gi < gm) (hl : ls.length ≤ 20) (hc : ∀ ch ∈ ls, okL ch) (h1 : ls.count 116 ≤ 1) (hb : b.length ≤ 140737488355328) :
    Calls Tryd.prog 24 #[.pointer (some ⟨gi, 0, none⟩), St ls, .pointer (some ⟨gm, 0, none⟩)] w (RParts ls b w.heap.size gi gm c i w) := by
  obtain ⟨w0, hw0⟩ : ∃ w0, w0 = w.alloc (.cells #[.pointer (some ⟨gi, 0, none⟩), .pointer (some ⟨gm, 0, none⟩), .int .u64 0, .bool false] 95) := ⟨_, rfl⟩
  have hb0 : Below w.heap.size w w0 := by rw [hw0]; exact (Below.refl _ _).alloc (Nat.le_refl _) _
  have hs0 : w0.heap.size = w.heap.size + 1 := by rw [hw0]; simp
  have hat : RAt w0 w.heap.size gi gm c i ⟨b, false, 0, Parts.none_, false⟩ (.slice none 0 0) (.slice none 0 0) (.slice none 0 0) (.slice none 0 0) (w.heap.size + 1) (w.heap.size + 1) := by
    refine ⟨?_, hin.below hb0 hin.lt, hm.below hb0 hm.lt, World.ownsRow_nil _ _ _ _, World.ownsRow_nil _ _ _ _, World.ownsRow_nil _ _ _ _, ⟨none, 0, rfl, TabS.nil 8 _ _ _ _ (Nat.zero_le _)⟩, hlt, hm.lt, by omega, by omega, ?_, ?_, ?_, by show 0 < 256; decide⟩
    · rw [hw0]; exact Whole.new _ _ _
    all_goals
      intro k hk
      cases hk
  have hL : RLoop ls b w.heap.size gi gm c i w w0 0 ⟨b, false, 0, Parts.none_, false⟩ := by
    refine ⟨⟨_, _, _, _, _, _, hat⟩, ?_, hb0.mono (Nat.le_of_lt hin.lt), by simp [Parts.none_], by simp [Parts.none_], by simp [Parts.none_], Nat.le_refl _, fun _ => rfl⟩
    unfold readG
    simp only [Bool.or_self, Bool.false_eq_true, if_false, List.drop_zero, List.take_zero]
    exact addP_nothing _
  have HL := Lib.hid hL
  have HW0 := Lib.hid hw0
  have HC := Lib.hid hc
  have H1 := Lib.hid h1
  clear hw0 hb0 hs0 hat hL hin hm hc h1
  go_enter Tryd.func24, Tryd.ntmps24
  go_wp2_with fail
  rw [← HW0.out]
  go_loopw [15] (fun k wr => ∃ j st, j ≤ ls.length ∧ k = .int .i64 (j : Nat) ∧ Hid (RLoop ls b w.heap.size gi gm c i w wr j st)) (fun k _ => ls.length - (intOf k).toNat)
  case atStart => exact ⟨0, _, Nat.zero_le _, rfl, HL⟩
  case round =>
    obtain ⟨j, st, hj, rfl, HR⟩ := hrel
    by_cases hlt : j < ls.length
    · obtain ⟨q, hq⟩ : ∃ q, q = tr (ls.take j) % 8 := ⟨_, rfl⟩
      have HQ := Lib.hid hq
      have hq8 : q < 8 := by omega
      have hsz : (⟨ls.toArray⟩ : ByteArray).size = ls.length := rfl
      have HP : Hid (Calls Tryd.prog 46 #[.pointer (some ⟨w.heap.size, 0, none⟩), .int .u8 (ls[j].toNat : Int), .int .i64 q] wr.drew (fun e w6 => e = .returned (.tuple #[]) ∧ RLoop ls b w.heap.size gi gm c i w w6 (j + 1) (rstep ls[j] q st))) := Lib.hid (by
        obtain ⟨vN, vS, vF, vT, lo, hi, hat⟩ := HR.out.at_
        refine (rpart_any w.heap.size gi gm c i st vN vS vF vT lo hi q ls[j] wr.drew hat.drew (HC.out _ (List.getElem_mem hlt)) hq8 (by have := HR.out.n; omega) (by have := HR.out.s; omega) (by have := HR.out.f; omega) (Nat.le_trans HR.out.b hb)).mono ?_
        rintro e w6 ⟨rfl, hx, hbb⟩
        refine ⟨rfl, ?_⟩
        rw [hq] at hx ⊢
        exact HR.out.next hlt H1.out hx ((Below.refl _ _).drew.trans hbb))
      clear hq
      go_wp2_with fail
      first | go_region_with (first
        | (go_at_call 41; refine (bit_any ls j _ (by omega) hj).mono ?_; rw [← HQ.out]; rintro e w5 ⟨rfl, rfl⟩)
        | (go_at_call 46; refine HP.out.mono ?_; rintro e w6 ⟨rfl, hw6⟩; have NXT := Lib.hid hw6; clear hw6)) | fail
      all_goals
        go_wp2_with fail
        go_roundw
        case rel => exact ⟨j + 1, _, hlt, by go_num, NXT⟩
        case measure => simp [intOf]; omega
    · obtain rfl : j = ls.length := by omega
      obtain ⟨vN, vS, vF, vT, lo, hi, hat⟩ := HR.out.at_
      have hsame := HR.out.same
      rw [List.drop_length, read_end] at hsame
      have HAT := Lib.hid hat
      have HS := Lib.hid hsame
      have HIN := Lib.hid hat.in_
      have p3 : wr.cell? ⟨w.heap.size, 3, none⟩ = some (.bool st.tb) := hat.rd.cell 3
      obtain ⟨tb, htb⟩ : ∃ tb, tb = st.tb := ⟨_, rfl⟩
      obtain ⟨bd, hbd⟩ : ∃ bd, bd = st.bad := ⟨_, rfl⟩
      rw [← htb] at p3
      have HTB := Lib.hid htb
      have HBD := Lib.hid hbd
      clear hat hsame htb hbd
      cases tb with
      | true =>
        have D : Hid (RParts ls b w.heap.size gi gm c i w (.returned (.bool false)) wr) := Lib.hid ⟨HR.out.below, .inl ⟨rfl, fun p hp => by
          rw [← HS.out, ← HTB.out] at hp
          simp at hp⟩⟩
        go_wp2_with fail
        go_ret
        exact D.out
      | false =>
        go_wp2_with fail
        refine (in_ok gi st.b st.bad wr HIN.out).mono ?_
        rintro e w7 ⟨rfl, rfl⟩
        rw [← HBD.out]
        cases bd with
        | true =>
          have D : Hid (RParts ls b w.heap.size gi gm c i w (.returned (.bool false)) wr) := Lib.hid ⟨HR.out.below, .inl ⟨rfl, fun p hp => by
            rw [← HS.out, ← HBD.out] at hp
            simp at hp⟩⟩
          go_wp2_with fail
          go_ret
          exact D.out
        | false =>
          have hs2 : pr0 ls 0 0 b = some (st.p, st.b) := by rw [← HS.out, ← HBD.out, ← HTB.out]; rfl
          have HS2 := Lib.hid hs2
          clear hs2
          go_wp2_with fail
          refine (in_left gi st.b st.bad wr HIN.out).mono ?_
          rintro e w7 ⟨rfl, rfl⟩
          by_cases h0 : st.b = []
          · have D : Hid (RParts ls b w.heap.size gi gm c i w (.returned (.bool true)) wr) := Lib.hid ⟨HR.out.below, .inr ⟨rfl, st, vN, vS, vF, vT, lo, hi, by rw [HS2.out, h0], HAT.out⟩⟩
            have hz : ((st.b.length : Int) == 0) = true := by rw [h0]; rfl
            clear h0
            go_wp2_with fail
            go_ret
            first | exact D.out | (rw [hz]; exact D.out)
          · have D : Hid (RParts ls b w.heap.size gi gm c i w (.returned (.bool false)) wr) := Lib.hid ⟨HR.out.below, .inl ⟨rfl, fun p hp => by
              rw [HS2.out] at hp
              simp only [Option.some.injEq, Prod.mk.injEq] at hp
              exact h0 hp.2⟩⟩
            have hz : ((st.b.length : Int) == 0) = false := by
              have : 0 < st.b.length := List.length_pos_iff.2 h0
              simp; omega
            clear h0
            go_wp2_with fail
            go_ret
            first | exact D.out | (rw [hz]; exact D.out)
end Go.Proofs.YtlfppfknelddcaaDoor
