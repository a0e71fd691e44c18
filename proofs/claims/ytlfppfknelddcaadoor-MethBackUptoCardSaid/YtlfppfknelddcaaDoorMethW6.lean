/- Contracts of the writer of package meth: a part. Contracts of the writer of package meth: a long text. -/
import Derived.Test.YtlfppfknelddcaaDoorMethW3
import Derived.Test.YtlfppfknelddcaaDoorMethW4
import Derived.Test.YtlfppfknelddcaaDoorWords2
import Derived.WalkSpells
namespace Go.Proofs.YtlfppfknelddcaaDoor
section
open Go.RowKit
set_option maxRecDepth 100000
set_option linter.unusedSimpArgs false
set_option linter.unusedVariables false

theorem PartsAt.drew {w : World} {B : Nat} {p : Parts} {vN vS vF vT : Value} (h : PartsAt w B p vN vS vF vT) : PartsAt w.drew B p vN vS vF vT := h.below (Below.refl _ _).drew
theorem WAt.drew {w : World} {base g : Nat} {st : WS} {c i : Int} (h : WAt w base g st c i) : WAt w.drew base g st c i := by
  obtain ⟨vb, vN, vS, vF, vT, hw, hown, hp, hbg⟩ := h
  exact ⟨vb, vN, vS, vF, vT, hw, hown, hp.drew, hbg⟩
theorem WAt.lt {w : World} {base g : Nat} {st : WS} {c i : Int} (h : WAt w base g st c i) : g < w.heap.size := by
  obtain ⟨vb, vN, vS, vF, vT, hw, _⟩ := h
  exact hw.lt
/-- what is done to newer blocks -/
theorem WAt.below {w w' : World} {base g : Nat} {st : WS} {c i : Int} (h : WAt w base g st c i) (hb : Below w.heap.size w w') (hB : base ≤ w.heap.size) : WAt w' base g st c i := by
  obtain ⟨vb, vN, vS, vF, vT, hw, hown, hp, hbg⟩ := h
  refine ⟨vb, vN, vS, vF, vT, hw.below hb hw.lt, ?_, hp.below (hb.mono hB), hbg⟩
  refine ⟨hown.1, ?_⟩
  rcases hown.2 with h | ⟨b, cap, cur, hv, hb2, hg, rest⟩
  · exact .inl h
  · exact .inr ⟨b, cap, cur, hv, hb2, (hb.block b ((Array.getElem?_eq_some_iff.1 hg).1)).trans hg, rest⟩
structure NextAt (w : World) (base g o n : Nat) (x : Value) (xs : List Value) (st' : WS) (c i : Int) (A : Option Addr) (cp : Nat) : Prop where
  cell : w.cell? ⟨g, o, none⟩ = some (.slice A (n + 1) cp)
  frozen : w.frozen? ⟨g, o, none⟩ = false
  room : n + 1 ≤ cp
  max : cp ≤ maxLen
  lies : Lies w base A (x :: xs)
  then_ : ∀ v, SlAt w base v n xs → WAt (w.setCell ⟨g, o, none⟩ v) base g st' c i ∧ Below base w (w.setCell ⟨g, o, none⟩ v)
theorem WAt.nextS {w : World} {base g : Nat} {st : WS} {c i : Int} (h : WAt w base g st c i) {x : List UInt8} {xs : List (List UInt8)} (hs : st.p.s = x :: xs) : ∃ A cp, NextAt w base g 4 xs.length (St x) (cellsS xs) { st with p := { st.p with s := xs } } c i A cp := by
  obtain ⟨vb, vN, vS, vF, vT, hw, hown, hp, hbg⟩ := h
  obtain ⟨A, cp, rfl, h1, h2, h3⟩ := hp.s
  rw [hs] at h1 h3 hw
  refine ⟨A, cp, hw.cell 4, hw.frozen 4, h1, h2, h3, fun v hv => ?_⟩
  have hbb := (Below.refl base w).setCell (p := ⟨g, 4, none⟩) hbg v
  exact ⟨⟨vb, vN, v, vF, vT, hw.set8 4 v rfl, ownsRow_setCell_other (a := ⟨g, 4, none⟩) hown (own_type hown hw (by decide)) v, ⟨hp.n.below hbb, hv.below hbb, hp.f.below hbb, hp.t.below hbb⟩, hbg⟩, hbb⟩
theorem WAt.nextF {w : World} {base g : Nat} {st : WS} {c i : Int} (h : WAt w base g st c i) {x : Bool} {xs : List Bool} (hs : st.p.f = x :: xs) : ∃ A cp, NextAt w base g 5 xs.length (.bool x) (cellsB xs) { st with p := { st.p with f := xs } } c i A cp := by
  obtain ⟨vb, vN, vS, vF, vT, hw, hown, hp, hbg⟩ := h
  obtain ⟨A, cp, rfl, h1, h2, h3⟩ := hp.f
  rw [hs] at h1 h3 hw
  refine ⟨A, cp, hw.cell 5, hw.frozen 5, h1, h2, h3, fun v hv => ?_⟩
  have hbb := (Below.refl base w).setCell (p := ⟨g, 5, none⟩) hbg v
  exact ⟨⟨vb, vN, vS, v, vT, hw.set8 5 v rfl, ownsRow_setCell_other (a := ⟨g, 5, none⟩) hown (own_type hown hw (by decide)) v, ⟨hp.n.below hbb, hp.s.below hbb, hv.below hbb, hp.t.below hbb⟩, hbg⟩, hbb⟩
theorem WAt.nextN {w : World} {base g : Nat} {st : WS} {c i : Int} (h : WAt w base g st c i) {x : Nat} {xs : List Nat} (hs : st.p.n = x :: xs) : ∃ A cp, NextAt w base g 3 xs.length (.int .u64 (x : Int)) (cellsN xs) { st with p := { st.p with n := xs } } c i A cp := by
  obtain ⟨vb, vN, vS, vF, vT, hw, hown, hp, hbg⟩ := h
  obtain ⟨A, cp, rfl, h1, h2, h3⟩ := hp.n
  rw [hs] at h1 h3 hw
  refine ⟨A, cp, hw.cell 3, hw.frozen 3, h1, h2, h3, fun v hv => ?_⟩
  have hbb := (Below.refl base w).setCell (p := ⟨g, 3, none⟩) hbg v
  exact ⟨⟨vb, v, vS, vF, vT, hw.set8 3 v rfl, ownsRow_setCell_other (a := ⟨g, 3, none⟩) hown (own_type hown hw (by decide)) v, ⟨hv.below hbb, hp.s.below hbb, hp.f.below hbb, hp.t.below hbb⟩, hbg⟩, hbb⟩
theorem Wrote.after {base g : Nat} {st : WS} {c i : Int} {w w1 w2 : World} {e : Ending} (h1 : Below base w w1) (h : Wrote base g st c i w1 e w2) : Wrote base g st c i w e w2 := ⟨h.1, h.2.1, h1.trans h.2.2⟩

theorem wpart_s (base g : Nat) (st : WS) (c i : Int) (j : Nat) (w : World) (h : WAt w base g st c i) (hB : base ≤ w.heap.size) (hs : st.b.length + 264 ≤ 140737488355328) (x : List UInt8) (xs : List (List UInt8)) (hp : st.p.s = x :: xs) (hx : x.length ≤ 140737488355328) :
    Calls Tryd.prog 40 #[.pointer (some ⟨g, 0, none⟩), .int .u8 115, .int .i64 j] w (Wrote base g (wstep 115 j st) c i w) := by
  obtain ⟨A, cp, hN⟩ := h.nextS hp
  have e : wstep 115 j st = (if x.length ≤ 255 then { b := st.b ++ be 1 x.length ++ x, p := { st.p with s := xs }, bad := st.bad } else { b := st.b, p := { st.p with s := xs }, bad := true }) := by
    unfold wstep
    rw [hp]
    simp only [if_true, List.headD_cons, List.tail_cons]
    rfl
  obtain ⟨R, hR⟩ : ∃ R, R = wstep 115 j st := ⟨_, rfl⟩
  rw [← hR]
  rw [← hR] at e
  have E := Lib.hid e
  have HN := Lib.hid hN
  clear e hN h hp hR
  go_enter Tryd.func40, Tryd.ntmps40
  go_wp2_with fail
  refine (next_str g 4 base cp xs.length A x (cellsS xs) _ (by simp [cellsS]) HN.out.cell HN.out.frozen HN.out.room HN.out.max HN.out.lies).mono ?_
  rintro e w1 ⟨rfl, v, hw1, hv⟩
  obtain ⟨hat, hb⟩ := HN.out.then_ v hv
  rw [← hw1] at hat hb
  have HA := Lib.hid hat
  have HB := Lib.hid hb
  have hz := hb.size
  clear hw1 hv hat hb
  go_wp2_with fail
  refine (wshort_any base g _ c i x w1 HA.out (by omega) hs hx).mono ?_
  intro e w2 hq
  have D : Hid (Wrote base g R c i w e w2) := Lib.hid (by rw [E.out]; exact hq.after HB.out)
  obtain ⟨rfl, _⟩ := hq
  go_wp2_with fail
  go_end0
  exact D.out
theorem wpart_f (base g : Nat) (st : WS) (c i : Int) (j : Nat) (w : World) (h : WAt w base g st c i) (hB : base ≤ w.heap.size) (hs : st.b.length + 264 ≤ 140737488355328) (x : Bool) (xs : List Bool) (hp : st.p.f = x :: xs) (h0 : j ≠ 0 → st.b ≠ []) (hj : j < 8) :
    Calls Tryd.prog 40 #[.pointer (some ⟨g, 0, none⟩), .int .u8 102, .int .i64 j] w (Wrote base g (wstep 102 j st) c i w) := by
  obtain ⟨A, cp, hN⟩ := h.nextF hp
  have e : wstep 102 j st = { b := flagB st.b j x, p := { st.p with f := xs }, bad := st.bad } := by
    unfold wstep flagB
    rw [hp]
    simp only [show ¬ ((102 : UInt8) = 115) by decide, show ¬ ((102 : UInt8) = 108) by decide, if_true, if_false, List.headD_cons, List.tail_cons]
    cases x <;> rfl
  obtain ⟨R, hR⟩ : ∃ R, R = wstep 102 j st := ⟨_, rfl⟩
  rw [← hR]
  rw [← hR] at e
  have E := Lib.hid e
  have HN := Lib.hid hN
  have H0 := Lib.hid h0
  clear e hN h hp h0 hR
  go_enter Tryd.func40, Tryd.ntmps40
  go_wp2_with fail
  refine (next_bool g 5 base cp xs.length A x (cellsB xs) _ (by simp [cellsB]) HN.out.cell HN.out.frozen HN.out.room HN.out.max HN.out.lies).mono ?_
  rintro e w1 ⟨rfl, v, hw1, hv⟩
  obtain ⟨hat, hb⟩ := HN.out.then_ v hv
  rw [← hw1] at hat hb
  have HA := Lib.hid hat
  have HB := Lib.hid hb
  have hz := hb.size
  clear hw1 hv hat hb
  go_wp2_with fail
  refine (wflag_any base g _ c i x j w1 HA.out (by omega) hs H0.out hj).mono ?_
  intro e w2 hq
  have D : Hid (Wrote base g R c i w e w2) := Lib.hid (by rw [E.out]; exact hq.after HB.out)
  obtain ⟨rfl, _⟩ := hq
  go_wp2_with fail
  go_end0
  exact D.out
theorem wpart_t (base g : Nat) (st : WS) (c i : Int) (j : Nat) (w : World) (h : WAt w base g st c i) (hB : base ≤ w.heap.size) (hs : st.b.length + 4096 ≤ 140737488355328) :
    Calls Tryd.prog 40 #[.pointer (some ⟨g, 0, none⟩), .int .u8 116, .int .i64 j] w (Wrote base g (wstep 116 j st) c i w) := by
  have hat := h
  obtain ⟨vb, vN, vS, vF, vT, hw, _, hp, _⟩ := h
  obtain ⟨At, ct, dt, rfl, ht⟩ := hp.t
  have c6 : w.cell? ⟨g, 6, none⟩ = some (.slice At st.p.t.length ct) := hw.cell 6
  have e : wstep 116 j st = { b := st.b ++ be 4 (appB [] st.p.t).length ++ appB [] st.p.t, p := st.p, bad := st.bad || !okB st.p.t } := by
    unfold wstep
    simp only [show ¬ ((116 : UInt8) = 115) by decide, show ¬ ((116 : UInt8) = 108) by decide, show ¬ ((116 : UInt8) = 102) by decide, if_true, if_false]
  obtain ⟨R, hR⟩ : ∃ R, R = wstep 116 j st := ⟨_, rfl⟩
  rw [← hR]
  rw [← hR] at e
  have E := Lib.hid e
  have HA := Lib.hid hat
  have HT := Lib.hid ht
  clear e hat hw hp ht hR
  go_enter Tryd.func40, Tryd.ntmps40
  go_wp2_with fail
  have hq : Calls Tryd.prog 57 #[.pointer (some ⟨g, 0, none⟩), .slice At st.p.t.length ct] w (Wrote base g { st with b := st.b ++ be 4 (appB [] st.p.t).length ++ appB [] st.p.t, bad := st.bad || !okB st.p.t } c i w) := by
    cases hok : okB st.p.t <;> cases hbad : st.bad
    · have := wtable_ff base g st c i w st.p.t At ct dt HA.out hB hs HT.out hok hbad
      rw [hok, hbad] at this
      exact this
    · have := wtable_ft base g st c i w st.p.t At ct dt HA.out hB hs HT.out hok hbad
      rw [hok, hbad] at this
      exact this
    · have := wtable_tf base g st c i w st.p.t At ct dt HA.out hB hs HT.out hok hbad
      rw [hok, hbad] at this
      exact this
    · have := wtable_tt base g st c i w st.p.t At ct dt HA.out hB hs HT.out hok hbad
      rw [hok, hbad] at this
      exact this
  refine hq.mono ?_
  intro e w2 hq
  have D : Hid (Wrote base g R c i w e w2) := Lib.hid (by rw [E.out]; exact hq)
  obtain ⟨rfl, _⟩ := hq
  go_wp2_with fail
  go_end0
  exact D.out
theorem wpart_n (base g : Nat) (st : WS) (c i : Int) (j : Nat) (ch : UInt8) (w : World) (h : WAt w base g st c i) (hB : base ≤ w.heap.size) (hs : st.b.length + 264 ≤ 140737488355328) (x : Nat) (xs : List Nat) (hp : st.p.n = x :: xs) (hx : x < 18446744073709551616) (hc : ch = 49 ∨ ch = 50 ∨ ch = 52 ∨ ch = 56) :
    Calls Tryd.prog 40 #[.pointer (some ⟨g, 0, none⟩), .int .u8 (ch.toNat : Int), .int .i64 j] w (Wrote base g (wstep ch j st) c i w) := by
  obtain ⟨A, cp, hN⟩ := h.nextN hp
  have e : wstep ch j st = { b := st.b ++ be (wd ch) x, p := { st.p with n := xs }, bad := st.bad || decide (256 ^ wd ch ≤ x) } := by
    unfold wstep
    rw [hp]
    rw [if_neg (by rcases hc with rfl | rfl | rfl | rfl <;> decide), if_neg (by rcases hc with rfl | rfl | rfl | rfl <;> decide), if_neg (by rcases hc with rfl | rfl | rfl | rfl <;> decide), if_neg (by rcases hc with rfl | rfl | rfl | rfl <;> decide)]
    simp only [List.headD_cons, List.tail_cons]
    rfl
  obtain ⟨R, hR⟩ : ∃ R, R = wstep ch j st := ⟨_, rfl⟩
  rw [← hR]
  rw [← hR] at e
  have E := Lib.hid e
  have HN := Lib.hid hN
  clear e hN h hp hR
  rcases hc with rfl | rfl | rfl | rfl
  · rw [show wd 49 = 1 from rfl] at E
    rw [show ((49 : UInt8).toNat : Int) = 49 from rfl]
    go_enter Tryd.func40, Tryd.ntmps40
    go_wp2_with fail
    refine (next_num g 3 base cp xs.length A x (cellsN xs) _ (by simp [cellsN]) HN.out.cell HN.out.frozen HN.out.room HN.out.max HN.out.lies).mono ?_
    rintro e w1 ⟨rfl, v, hw1, hv⟩
    obtain ⟨hat, hb⟩ := HN.out.then_ v hv
    rw [← hw1] at hat hb
    have HA := Lib.hid hat
    have HB := Lib.hid hb
    have hz := hb.size
    clear hw1 hv hat hb
    go_wp2_with fail
    refine (wnumber_1 base g _ c i x w1 HA.out (by omega) hs hx).mono ?_
    intro e w2 hq
    have D : Hid (Wrote base g R c i w e w2) := Lib.hid (by rw [E.out]; exact hq.after HB.out)
    obtain ⟨rfl, _⟩ := hq
    go_wp2_with fail
    go_end0
    exact D.out
  · rw [show wd 50 = 2 from rfl] at E
    rw [show ((50 : UInt8).toNat : Int) = 50 from rfl]
    go_enter Tryd.func40, Tryd.ntmps40
    go_wp2_with fail
    refine (next_num g 3 base cp xs.length A x (cellsN xs) _ (by simp [cellsN]) HN.out.cell HN.out.frozen HN.out.room HN.out.max HN.out.lies).mono ?_
    rintro e w1 ⟨rfl, v, hw1, hv⟩
    obtain ⟨hat, hb⟩ := HN.out.then_ v hv
    rw [← hw1] at hat hb
    have HA := Lib.hid hat
    have HB := Lib.hid hb
    have hz := hb.size
    clear hw1 hv hat hb
    go_wp2_with fail
    refine (wnumber_2 base g _ c i x w1 HA.out (by omega) hs hx).mono ?_
    intro e w2 hq
    have D : Hid (Wrote base g R c i w e w2) := Lib.hid (by rw [E.out]; exact hq.after HB.out)
    obtain ⟨rfl, _⟩ := hq
    go_wp2_with fail
    go_end0
    exact D.out
  · rw [show wd 52 = 4 from rfl] at E
    rw [show ((52 : UInt8).toNat : Int) = 52 from rfl]
    go_enter Tryd.func40, Tryd.ntmps40
    go_wp2_with fail
    refine (next_num g 3 base cp xs.length A x (cellsN xs) _ (by simp [cellsN]) HN.out.cell HN.out.frozen HN.out.room HN.out.max HN.out.lies).mono ?_
    rintro e w1 ⟨rfl, v, hw1, hv⟩
    obtain ⟨hat, hb⟩ := HN.out.then_ v hv
    rw [← hw1] at hat hb
    have HA := Lib.hid hat
    have HB := Lib.hid hb
    have hz := hb.size
    clear hw1 hv hat hb
    go_wp2_with fail
    refine (wnumber_4 base g _ c i x w1 HA.out (by omega) hs hx).mono ?_
    intro e w2 hq
    have D : Hid (Wrote base g R c i w e w2) := Lib.hid (by rw [E.out]; exact hq.after HB.out)
    obtain ⟨rfl, _⟩ := hq
    go_wp2_with fail
    go_end0
    exact D.out
  · rw [show wd 56 = 8 from rfl] at E
    rw [show ((56 : UInt8).toNat : Int) = 56 from rfl]
    go_enter Tryd.func40, Tryd.ntmps40
    go_wp2_with fail
    refine (next_num g 3 base cp xs.length A x (cellsN xs) _ (by simp [cellsN]) HN.out.cell HN.out.frozen HN.out.room HN.out.max HN.out.lies).mono ?_
    rintro e w1 ⟨rfl, v, hw1, hv⟩
    obtain ⟨hat, hb⟩ := HN.out.then_ v hv
    rw [← hw1] at hat hb
    have HA := Lib.hid hat
    have HB := Lib.hid hb
    have hz := hb.size
    clear hw1 hv hat hb
    go_wp2_with fail
    refine (wnumber_8 base g _ c i x w1 HA.out (by omega) hs hx).mono ?_
    intro e w2 hq
    have D : Hid (Wrote base g R c i w e w2) := Lib.hid (by rw [E.out]; exact hq.after HB.out)
    obtain ⟨rfl, _⟩ := hq
    go_wp2_with fail
    go_end0
    exact D.out
end
section
open Go.RowKit
set_option maxRecDepth 100000
set_option linter.unusedSimpArgs false
set_option linter.unusedVariables false

theorem bytes_held (w : World) (e : TypeId) (s : ByteArray) : Below w.heap.size w (Lib.bytesWorld w e s) := bytes_below w e s
set_option maxHeartbeats 1000000 in
theorem wpart_l (base g : Nat) (st : WS) (c i : Int) (j : Nat) (w : World) (h : WAt w base g st c i) (hB : base ≤ w.heap.size) (x : List UInt8) (xs : List (List UInt8)) (hp : st.p.s = x :: xs) (hs : st.b.length + x.length + 264 ≤ 140737488355328) :
    Calls Tryd.prog 40 #[.pointer (some ⟨g, 0, none⟩), .int .u8 108, .int .i64 j] w (Wrote base g (wstep 108 j st) c i w) := by
  have e : wstep 108 j st = { b := st.b ++ be 4 x.length ++ x, p := { st.p with s := xs }, bad := st.bad } := by
    unfold wstep
    rw [hp]
    simp only [show ¬ ((108 : UInt8) = 115) by decide, if_true, if_false, List.headD_cons, List.tail_cons]
  obtain ⟨R, hR⟩ : ∃ R, R = wstep 108 j st := ⟨_, rfl⟩
  rw [← hR]
  rw [← hR] at e
  have E := Lib.hid e
  obtain ⟨wd, hwd⟩ : ∃ wd, wd = w.drew := ⟨_, rfl⟩
  have hd : WAt wd base g st c i := by rw [hwd]; exact h.drew
  have hsz : wd.heap.size = w.heap.size := by rw [hwd]; rfl
  have hbd : Below base w wd := by rw [hwd]; exact (Below.refl _ _).drew
  obtain ⟨A, cp, hN⟩ := hd.nextS hp
  have hd' := hd
  obtain ⟨vb, vN, vS, vF, vT, hw, hown, hpp, hbg⟩ := hd
  obtain ⟨Ab, cb, rfl, hcb, hmb⟩ := own_form hown
  have c0 : w.drew.cell? ⟨g, 0, none⟩ = some (.slice Ab st.b.length cb) := by rw [← hwd]; exact hw.cell 0
  obtain ⟨Z, hZ⟩ : ∃ Z, Z = st.b ++ be 4 x.length ++ x := ⟨_, rfl⟩
  rw [← hZ] at E
  have HZ := Lib.hid hZ
  have HN := Lib.hid hN
  have HWD := Lib.hid hwd
  have HBD := Lib.hid hbd
  -- behind the next: what lies where
  have next1 : ∀ v w1, w1 = wd.setCell ⟨g, 4, none⟩ v → SlAt wd base v xs.length (cellsS xs) → ∃ vN' vS' vF' vT', Whole w1 g 85 #[.slice Ab st.b.length cb, .int .i64 c, .int .i64 i, vN', vS', vF', vT', .bool st.bad] ∧ Lies w1 w1.heap.size Ab (B8 st.b) ∧ PartsAt w1 base { st.p with s := xs } vN' vS' vF' vT' ∧ Below base w w1 ∧ base ≤ w1.heap.size := by
    intro v w1 hw1 hv
    have hbb := (Below.refl base wd).setCell (p := ⟨g, 4, none⟩) hbg v
    have ho1 := ownsRow_setCell_other (a := ⟨g, 4, none⟩) hown (own_type hown hw (by decide)) v
    have hk := hw.set8 4 v rfl
    rw [← hw1] at hbb ho1 hk
    exact ⟨vN, v, vF, vT, hk, Lies.own ho1 (Nat.le_refl _), ⟨hpp.n.below hbb, hv.below hbb, hpp.f.below hbb, hpp.t.below hbb⟩, hbd.trans hbb, by have := hbb.size; omega⟩
  have NX := Lib.hid next1
  have done : ∀ (w1 w2 w3 : World) (v : Value) vN' vS' vF' vT', Whole w2 g 85 #[.slice Ab st.b.length cb, .int .i64 c, .int .i64 i, vN', vS', vF', vT', .bool st.bad] → PartsAt w2 base { st.p with s := xs } vN' vS' vF' vT' → Below base w w2 → base ≤ w2.heap.size → Below w2.heap.size w2 w3 → w3.ownsRow w2.heap.size 5 1 v Z.length (B8 Z) →
      Wrote base g R c i w (.returned (.tuple #[])) (w3.setCell ⟨g, 0, none⟩ v) := by
    intro w1 w2 w3 v vN' vS' vF' vT' a1 a2 a3 a4 a5 a6
    rw [E.out]
    exact wnum_done (st := { b := Z, p := { st.p with s := xs }, bad := st.bad }) a1 a2 hbg a3 a4 a5 a6
  have DN := Lib.hid done
  clear e hR hd' hw hown hpp hN hwd hbd next1 done hcb hmb hZ h hp
  go_enter Tryd.func40, Tryd.ntmps40
  go_wp2_with fail
  first | go_region_with (first
    | (go_at_call 53; rw [← HWD.out]; refine (next_str g 4 base cp xs.length A x (cellsS xs) _ (by simp [cellsS]) HN.out.cell HN.out.frozen HN.out.room HN.out.max HN.out.lies).mono ?_; rintro e w1 ⟨rfl, v, hw1, hv⟩; obtain ⟨vN', vS', vF', vT', hk1, hl1, hp1, hb1, hz1⟩ := NX.out v w1 hw1 hv; have d0 : w1.cell? ⟨g, 0, none⟩ = some (.slice Ab st.b.length cb) := hk1.cell 0; have cv := Lib.run_convert_string_bytes (P := Tryd.prog) w1 9 24 5 ⟨x.toArray⟩ Tryd.underlying9 Tryd.underlying24 Tryd.underlying5; rw [show (⟨x.toArray⟩ : ByteArray).size = x.length from rfl] at cv; obtain ⟨w2, hw2⟩ : ∃ w2, w2 = Lib.bytesWorld w1 5 ⟨x.toArray⟩ := ⟨_, rfl⟩; have hbw := bytes_below w1 5 ⟨x.toArray⟩; have hlx := bytes_lie w1 5 x; have hsw : (Lib.bytesWorld w1 5 ⟨x.toArray⟩).heap.size = w1.heap.size + 1 := Lib.bytesWorld_size _ _ _; rw [← hw2] at cv hbw hlx hsw; have HK2 := Lib.hid (hk1.below hbw hk1.lt); have q0 : w2.cell? ⟨g, 0, none⟩ = some (.slice Ab st.b.length cb) := HK2.out.cell 0; have HL2 := Lib.hid ((hl1.below hbw).more (show w1.heap.size ≤ w2.heap.size by omega)); have HX2 := Lib.hid (hlx.more (show w1.heap.size + 1 ≤ w2.heap.size by omega)); have HP2 := Lib.hid (hp1.below (hbw.mono hz1)); have HB2 := Lib.hid (hb1.trans (hbw.mono hz1)); have HZ2 : Hid (base ≤ w2.heap.size) := Lib.hid (by omega); clear hw1 hv hk1 hl1 hp1 hb1 hz1 hw2 hbw hlx hsw)
    | (go_at_call 54; go_loud (refine (long_any Ab cb st.b _ _ _ x _ HL2.out HX2.out (Nat.le_refl _) ?_).mono ?_; (omega); rw [← HZ.out]; rintro e w3 ⟨v2, rfl, ho3, hb3⟩; obtain ⟨A2, c2, rfl, _, _⟩ := own_form ho3; have hk3 := HK2.out.below hb3 HK2.out.lt; have e0 : w3.cell? ⟨g, 0, none⟩ = some (.slice Ab st.b.length cb) := hk3.cell 0; have f0 := hk3.frozen 0; have DD := Lib.hid (DN.out w3 _ w3 _ _ _ _ _ HK2.out HP2.out HB2.out HZ2.out hb3 ho3); clear ho3 hb3 hk3))) | fail
  all_goals
    go_wp2_with fail
    go_end0
    exact DD.out
end
end Go.Proofs.YtlfppfknelddcaaDoor
