/- Contracts of package meth: the parts that are written. -/
import Derived.Test.YtlfppfknelddcaaDoorMethW6
import Derived.Test.YtlfppfknelddcaaDoorMethA
import Derived.RegionTactic
import Derived.Deep.QuietTactic
namespace Go.Proofs.YtlfppfknelddcaaDoor
open Go.RowKit
set_option maxRecDepth 100000
set_option linter.unusedSimpArgs false
set_option linter.unusedVariables false

/-- texts and numbers that a method may hold -/
structure Fine (p : Parts) : Prop where
  s : ∀ x ∈ p.s, x.length ≤ 1000000000
  n : ∀ x ∈ p.n, x < 18446744073709551616
def okL (ch : UInt8) : Prop := ch = 115 ∨ ch = 108 ∨ ch = 102 ∨ ch = 116 ∨ ch = 49 ∨ ch = 50 ∨ ch = 52 ∨ ch = 56
theorem wpart_any (base g : Nat) (st : WS) (c i : Int) (j : Nat) (ch : UInt8) (ls : List UInt8) (w : World) (h : WAt w base g st c i) (hB : base ≤ w.heap.size) (hs : st.b.length + 1000005000 ≤ 140737488355328) (hf : Fine st.p) (ha : Asked (ch :: ls) st.p) (hc : okL ch) (h0 : j ≠ 0 → st.b ≠ []) (hj : j < 8) :
    Calls Tryd.prog 40 #[.pointer (some ⟨g, 0, none⟩), .int .u8 (ch.toNat : Int), .int .i64 j] w (Wrote base g (wstep ch j st) c i w) := by
  rcases hc with rfl | rfl | rfl | rfl | hc
  · have hn := ha.s
    cases hp : st.p.s with
    | nil => exfalso; rw [hp] at hn; simp [cS] at hn <;> omega
    | cons x xs => exact wpart_s base g st c i j w h hB (by omega) x xs hp (by have := hf.s x (by rw [hp]; simp); omega)
  · have hn := ha.s
    cases hp : st.p.s with
    | nil => exfalso; rw [hp] at hn; simp [cS] at hn <;> omega
    | cons x xs => exact wpart_l base g st c i j w h hB x xs hp (by have := hf.s x (by rw [hp]; simp); omega)
  · have hn := ha.f
    cases hp : st.p.f with
    | nil => rw [hp] at hn; simp [cF] at hn
    | cons x xs => exact wpart_f base g st c i j w h hB (by omega) x xs hp h0 hj
  · exact wpart_t base g st c i j w h hB (by omega)
  · have hn := ha.n
    have hc1 : cN (ch :: ls) = cN ls + 1 := by rcases hc with rfl | rfl | rfl | rfl <;> simp [cN]
    cases hp : st.p.n with
    | nil => rw [hp, hc1] at hn; simp at hn
    | cons x xs => exact wpart_n base g st c i j ch w h hB (by omega) x xs hp (hf.n x (by rw [hp]; simp)) hc
theorem asked_mk {ls : List UInt8} {p : Parts} (h1 : p.n.length = ls.countP fun c => !(c == 115) && !(c == 108) && !(c == 102) && !(c == 116)) (h2 : p.s.length = ls.count 115 + ls.count 108) (h3 : p.f.length = ls.count 102) : Asked ls p := ⟨h1, h2, h3⟩
theorem asked_step {ch : UInt8} {ls : List UInt8} {j : Nat} {st : WS} (ha : Asked (ch :: ls) st.p) : Asked ls (wstep ch j st).p := by
  obtain ⟨h1, h2, h3⟩ := ha
  have t1 : ∀ {α : Type} (l : List α), l.tail.length = l.length - 1 := fun l => List.length_tail
  unfold wstep
  unfold cN cS cF at *
  rw [List.countP_cons] at h1
  rw [List.count_cons, List.count_cons] at h2
  rw [List.count_cons] at h3
  rcases letter_cases ch with e | e | e | e | ⟨e1, e2, e3, e4⟩
  · subst e
    simp at h1 h2 h3
    rw [if_pos rfl]
    split <;> exact asked_mk h1 (by rw [t1]; omega) h3
  · subst e
    simp at h1 h2 h3
    rw [if_neg (by decide), if_pos rfl]
    exact asked_mk h1 (by rw [t1]; omega) h3
  · subst e
    simp at h1 h2 h3
    rw [if_neg (by decide), if_neg (by decide), if_pos rfl]
    split <;> exact asked_mk h1 h2 (by rw [t1]; omega)
  · subst e
    simp at h1 h2 h3
    rw [if_neg (by decide), if_neg (by decide), if_neg (by decide), if_pos rfl]
    exact asked_mk h1 h2 h3
  · simp [e1, e2, e3, e4] at h1 h2 h3
    rw [if_neg e1, if_neg e2, if_neg e3, if_neg e4]
    exact asked_mk (by rw [t1]; omega) h2 h3
theorem fine_step {ch : UInt8} {j : Nat} {st : WS} (hf : Fine st.p) : Fine (wstep ch j st).p := by
  have hs : ∀ x ∈ st.p.s.tail, x.length ≤ 1000000000 := fun x hx => hf.s x (List.mem_of_mem_tail hx)
  have hn : ∀ x ∈ st.p.n.tail, x < 18446744073709551616 := fun x hx => hf.n x (List.mem_of_mem_tail hx)
  unfold wstep
  split
  · split <;> exact ⟨hs, hf.n⟩
  · split
    · exact ⟨hs, hf.n⟩
    · split
      · split <;> exact ⟨hf.s, hf.n⟩
      · split
        · exact hf
        · exact ⟨hf.s, hn⟩
theorem orLast_length (b : List UInt8) (m : Nat) (h : b ≠ []) : (orLast b m).length = b.length := by
  unfold orLast
  have : 0 < b.length := List.length_pos_iff.2 h
  simp
  omega
theorem head_len {p : Parts} (hf : Fine p) : (p.s.headD []).length ≤ 1000000000 := by
  cases hp : p.s with
  | nil => simp
  | cons x xs => exact hf.s x (by rw [hp]; simp)
theorem wd_le (ch : UInt8) : wd ch ≤ 255 := by
  unfold wd
  have := ch.toNat_lt
  omega
theorem len_step {ch : UInt8} {j : Nat} {st : WS} (hf : Fine st.p) (h0 : j ≠ 0 → st.b ≠ []) : (wstep ch j st).b.length ≤ st.b.length + 1000003000 := by
  have h1 := head_len hf
  have h2 := appB_len st.p.t
  have h3 := wd_le ch
  unfold wstep
  split
  · split <;> simp [be_length] <;> simp at h1 <;> omega
  · split
    · simp [be_length]; simp at h1; omega
    · split
      · split
        · rw [orLast_length]
          · split <;> simp [be_length]
          · split
            · simp [be]
            · rename_i hj; exact h0 hj
        · split <;> simp [be_length]
      · split
        · simp [be_length]; omega
        · simp [be_length]; omega
theorem open_ne {b : List UInt8} {k : Nat} (h : openB b k) (hk : k % 8 ≠ 0) : b ≠ [] := by
  obtain ⟨b0, v, rfl, _⟩ := h hk
  simp

def okP (ls : List UInt8) (p : Parts) : Bool := askB ls p && !badP ls p
/-- what is told of parts that are written -/
def PartsIs (ls : List UInt8) (p : Parts) (w : World) (e : Ending) (w' : World) : Prop :=
  ∃ v b, e = .returned (.tuple #[v, .bool (okP ls p)]) ∧ w'.ownsRow w.heap.size 5 1 v b.length (B8 b) ∧ b.length ≤ 100000000000 ∧ (okP ls p = true → b = pw ls 0 p) ∧ Below w.heap.size w w'
structure WLoop (ls : List UInt8) (p : Parts) (c i : Int) (base g : Nat) (w wr : World) (j : Nat) (st : WS) : Prop where
  le : j ≤ ls.length
  at_ : WAt wr base g st c i
  open_ : openB st.b (tr (ls.take j))
  same : writeG st (ls.drop j) (tr (ls.take j)) = if badP ls p then none else some (pw ls 0 p)
  below : Below base w wr
  size : base ≤ wr.heap.size
  asked : Asked (ls.drop j) st.p
  fine : Fine st.p
  len : st.b.length ≤ j * 1000003000
theorem drop_cons (ls : List UInt8) (j : Nat) (h : j < ls.length) : ls.drop j = ls[j] :: ls.drop (j + 1) := List.drop_eq_getElem_cons h
theorem WLoop.next {ls : List UInt8} {p : Parts} {c i : Int} {base g j : Nat} {w wr w2 : World} {st : WS} (h : WLoop ls p c i base g w wr j st) (hj : j < ls.length) (hw : WAt w2 base g (wstep ls[j] (tr (ls.take j) % 8) st) c i) (hb : Below base wr w2) :
    WLoop ls p c i base g w w2 (j + 1) (wstep ls[j] (tr (ls.take j) % 8) st) := by
  have hd := drop_cons ls j hj
  have hst := h.same
  have has := h.asked
  rw [hd] at hst has
  obtain ⟨g1, g2⟩ := write_step h.open_ ls[j] (ls.drop (j + 1))
  rw [← tr_next ls j hj] at g1 g2
  refine ⟨hj, hw, g1, by rw [← g2]; exact hst, h.below.trans hb, Nat.le_trans h.size hb.size, asked_step has, fine_step h.fine, ?_⟩
  have h1 := len_step (ch := ls[j]) (j := tr (ls.take j) % 8) h.fine (fun hk => open_ne h.open_ hk)
  have h2 := h.len
  rw [Nat.add_mul]
  omega
theorem WLoop.done {ls : List UInt8} {p : Parts} {c i : Int} {base g : Nat} {w wr : World} {st : WS} (h : WLoop ls p c i base g w wr ls.length st) (ha : askB ls p = true) : st.bad = !okP ls p ∧ (okP ls p = true → st.b = pw ls 0 p) := by
  have hs := h.same
  rw [List.drop_length, List.take_length, write_end (by have := h.open_; rw [List.take_length] at this; exact this)] at hs
  unfold okP
  rw [ha, Bool.true_and]
  cases hb : badP ls p <;> cases hbad : st.bad <;> rw [hb, hbad] at hs <;> simp_all
theorem asked_of {ls : List UInt8} {p : Parts} (h : askB ls p = true) : Asked ls p := by
  unfold askB at h
  simp only [Bool.and_eq_true, decide_eq_true_eq] at h
  exact ⟨h.1.1.1, h.1.1.2, h.1.2⟩

theorem index_at (ls : List UInt8) (j : Nat) (h : j < ls.length) : ∀ hh, ((⟨ls.toArray⟩ : ByteArray)[j]'hh) = ls[j] := fun _ => rfl
set_option maxHeartbeats 400000 in
theorem wparts_any (ls : List UInt8) (c i : Int) (p : Parts) (vN vS vF vT : Value) (B : Nat) (w : World) (hp : PartsAt w B p vN vS vF vT) (hB : B ≤ w.heap.size) (hl : ls.length ≤ 20) (hc : ∀ ch ∈ ls, okL ch) (hf : Fine p) :
    Calls Tryd.prog 19 #[St ls, .agg #[.int .i64 c, .int .i64 i, vN, vS, vF, vT]] w (PartsIs ls p w) := by
  obtain ⟨AN, cN_, rfl, hN1, hN2, hN3⟩ := hp.n
  obtain ⟨AS, cS_, rfl, hS1, hS2, hS3⟩ := hp.s
  obtain ⟨AF, cF_, rfl, hF1, hF2, hF3⟩ := hp.f
  obtain ⟨AT, cT_, dT, rfl, ht⟩ := hp.t
  obtain ⟨w0, hw0⟩ : ∃ w0, w0 = w.alloc (.cells #[.int .i64 c, .int .i64 i, .slice AN p.n.length cN_, .slice AS p.s.length cS_, .slice AF p.f.length cF_, .slice AT p.t.length cT_] 32) := ⟨_, rfl⟩
  have hb0 : Below w.heap.size w w0 := by rw [hw0]; exact (Below.refl _ _).alloc (Nat.le_refl _) _
  have hk0 : Whole w0 w.heap.size 32 #[.int .i64 c, .int .i64 i, .slice AN p.n.length cN_, .slice AS p.s.length cS_, .slice AF p.f.length cF_, .slice AT p.t.length cT_] := by rw [hw0]; exact Whole.new _ _ _
  have hs0 : w0.heap.size = w.heap.size + 1 := by rw [hw0]; simp
  have hp0 : PartsAt w0 B p (.slice AN p.n.length cN_) (.slice AS p.s.length cS_) (.slice AF p.f.length cF_) (.slice AT p.t.length cT_) := hp.below (hb0.mono hB)
  have HW0 := Lib.hid hw0
  have HB0 := Lib.hid hb0
  have HK0 := Lib.hid hk0
  have HS0 := Lib.hid hs0
  have HP0 := Lib.hid hp0
  have HF := Lib.hid hf
  have HC := Lib.hid hc
  have cells0 : ∀ w1, Below w0.heap.size w0 w1 → w1.cell? ⟨w.heap.size, 0, none⟩ = some (.int .i64 c) ∧ w1.cell? ⟨w.heap.size, 1, none⟩ = some (.int .i64 i) ∧ w1.cell? ⟨w.heap.size, 2, none⟩ = some (.slice AN p.n.length cN_) ∧ w1.cell? ⟨w.heap.size, 3, none⟩ = some (.slice AS p.s.length cS_) ∧ w1.cell? ⟨w.heap.size, 4, none⟩ = some (.slice AF p.f.length cF_) ∧ w1.cell? ⟨w.heap.size, 5, none⟩ = some (.slice AT p.t.length cT_) := by
    intro w1 hb1
    have hk := hk0.below hb1 hk0.lt
    exact ⟨hk.cell 0, hk.cell 1, hk.cell 2, hk.cell 3, hk.cell 4, hk.cell 5⟩
  have CL := Lib.hid cells0
  obtain ⟨m0, m1, m2, m3, m4, m5⟩ := cells0 w0 (Below.refl _ _)
  rw [hw0] at m0 m1 m2 m3 m4 m5
  clear hp ht hN1 hN2 hN3 hS1 hS2 hS3 hF1 hF2 hF3 hw0 hb0 hk0 hs0 hp0 hf hc cells0
  go_enter Tryd.func19, Tryd.ntmps19
  go_wp2_with fail
  rw [← HW0.out]
  refine (asked_any ls c i p _ _ _ _ B w0 HP0.out (by have := HS0.out; omega) (by omega)).mono ?_
  rintro e w1 ⟨rfl, hb1⟩
  cases ha : askB ls p with
  | false =>
    have D : Hid (PartsIs ls p w (.returned (.tuple #[.slice none 0 0, .bool false])) w1) := Lib.hid (by
      have h : okP ls p = false := by unfold okP; rw [ha]; rfl
      refine ⟨_, [], by rw [h], World.ownsRow_nil _ _ _ _, by simp, (fun h' => by rw [h] at h'; cases h'), HB0.out.trans (hb1.mono (by have := HS0.out; omega))⟩)
    clear ha hb1
    go_wp2_with fail
    go_ret2
    exact D.out
  | true =>
    obtain ⟨n0, n1, n2, n3, n4, n5⟩ := CL.out w1 hb1
    have HB1 := Lib.hid (HB0.out.trans (hb1.mono (by have := HS0.out; omega)))
    have HP1 := Lib.hid ((HP0.out.below (hb1.mono (by have := HS0.out; omega))).more hB)
    have hz1 : w.heap.size ≤ w1.heap.size := HB1.out.size
    obtain ⟨w2, hw2⟩ : ∃ w2, w2 = w1.alloc (.cells #[.slice none 0 0, .int .i64 c, .int .i64 i, .slice AN p.n.length cN_, .slice AS p.s.length cS_, .slice AF p.f.length cF_, .slice AT p.t.length cT_, .bool false] 85) := ⟨_, rfl⟩
    have hbw : Below w.heap.size w w2 := by rw [hw2]; exact HB1.out.alloc hz1 _
    have hbx : Below w.heap.size w1 w2 := by rw [hw2]; exact (Below.refl _ _).alloc hz1 _
    have hat : WAt w2 w.heap.size w1.heap.size ⟨[], p, false⟩ c i := by
      refine ⟨_, _, _, _, _, ?_, World.ownsRow_nil _ _ _ _, HP1.out.below hbx, by omega⟩
      rw [hw2]
      exact Whole.new _ _ _
    have hL : WLoop ls p c i w.heap.size w1.heap.size w w2 0 ⟨[], p, false⟩ :=
      ⟨Nat.zero_le _, hat, fun h => absurd rfl h, write_start p ls, hbw, hbw.size, asked_of ha, HF.out, by simp⟩
    have HL := Lib.hid hL
    have HA := Lib.hid ha
    have HW2 := Lib.hid hw2
    clear ha hb1 hw2 hbw hbx hat hL
    go_wp2_with fail
    rw [← HW2.out]
    go_loopw [17] (fun k wr => ∃ j st, j ≤ ls.length ∧ k = .int .i64 (j : Nat) ∧ Hid (WLoop ls p c i w.heap.size w1.heap.size w wr j st)) (fun k _ => ls.length - (intOf k).toNat)
    case atStart => exact ⟨0, _, Nat.zero_le _, rfl, HL⟩
    case round =>
      obtain ⟨j, st, hj, rfl, HR⟩ := hrel
      by_cases hlt : j < ls.length
      · obtain ⟨q, hq⟩ : ∃ q, q = tr (ls.take j) % 8 := ⟨_, rfl⟩
        have HQ := Lib.hid hq
        have hq8 : q < 8 := by omega
        obtain ⟨wd, hwd⟩ : ∃ wd, wd = wr.drew := ⟨_, rfl⟩
        have HWD := Lib.hid hwd
        have hsz : (⟨ls.toArray⟩ : ByteArray).size = ls.length := rfl
        clear hq hwd
        go_wp2_with fail
        first | go_region_with (first
          | (go_at_call 41; refine (bit_any ls j _ (by omega) hj).mono ?_; rw [← HQ.out]; rintro e w5 ⟨rfl, rfl⟩)
          | (go_at_call 40; go_loud (rw [← HWD.out]; refine (wpart_any w.heap.size w1.heap.size st c i q ls[j] (ls.drop (j + 1)) wd (by rw [HWD.out]; exact HR.out.at_.drew) (by rw [HWD.out]; exact HR.out.size) (by have := HR.out.len; omega) HR.out.fine (by rw [← drop_cons ls j hlt]; exact HR.out.asked) (HC.out _ (List.getElem_mem hlt)) (fun hk => open_ne HR.out.open_ (by rw [← HQ.out]; exact hk)) hq8).mono ?_; intro e w6 hw6; have NXT := Lib.hid (HR.out.next hlt (w2 := w6) (by rw [← HQ.out]; exact hw6.2.1) (by have := hw6.2.2; rw [HWD.out] at this; exact ((Below.refl _ _).drew).trans this)); obtain ⟨rfl, _⟩ := hw6))) | fail
        all_goals
          go_wp2_with fail
          go_roundw
          case rel => exact ⟨j + 1, _, hlt, by go_num, NXT⟩
          case measure => simp [intOf]; omega
      · obtain rfl : j = ls.length := by omega
        obtain ⟨e1, e2⟩ := HR.out.done HA.out
        obtain ⟨vb, vN, vS, vF, vT, hw, hown, _, _⟩ := HR.out.at_
        obtain ⟨Ab, cb, rfl, _, _⟩ := own_form hown
        obtain ⟨ok, hok⟩ : ∃ ok, ok = okP ls p := ⟨_, rfl⟩
        rw [← hok] at e1 e2
        have D : Hid (PartsIs ls p w (.returned (.tuple #[.slice Ab st.b.length cb, .bool ok])) wr.drew) := Lib.hid
          ⟨_, st.b, by rw [hok], hown, by have := HR.out.len; omega, by rw [← hok]; exact e2, HR.out.below.drew⟩
        have q0 : wr.drew.cell? ⟨w1.heap.size, 0, none⟩ = some (.slice Ab st.b.length cb) := hw.cell 0
        have q7 : wr.drew.cell? ⟨w1.heap.size, 7, none⟩ = some (.bool st.bad) := hw.cell 7
        rw [e1] at q7
        clear hw hown e1 e2 hok
        go_wp2_with fail
        go_region
        all_goals
          go_wp2_with fail
          go_ret2
          first | exact D.out | (rw [Bool.not_not]; exact D.out)
end Go.Proofs.YtlfppfknelddcaaDoor
