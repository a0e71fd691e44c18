/- Layer 13: the document's own Places. -/
import Derived.Test.YtflbjmpbkcjdhaaUnT
import Derived.Test.YtflbjmpbkcjdhaaUnH
namespace Go.Proofs.Ytflbjmpbkcjdhaa
open Go.RowKit
set_option maxRecDepth 100000
set_option linter.unusedSimpArgs false
set_option linter.unusedVariables false

theorem rtext_no (A : Option Addr) (c B n : Nat) (l : List UInt8) (p k : Nat) (pv kv : Int) (w : World) (hn : n = l.length) (hpv : pv = (p : Int)) (hkv : kv = (k : Int)) (hl : Lies w B A (B8 l)) (hp : p ≤ l.length) (hk1 : 1 ≤ k) (hk : k ≤ 8) (hs : l.length ≤ 140737488355328) (h : txtShort k (l.drop p) = true) :
    Calls Try.prog 26 #[.slice A n c, .int .i64 pv, .int .i64 kv] w fun e w' => e = .returned (.tuple #[.slice none 0 0, .int .i64 0, .bool false]) ∧ w = w' := by
  subst hn hpv hkv
  exact text_no A c B l p k w hl hp hk1 hk hs h
theorem rtext_yes (A : Option Addr) (c B n : Nat) (l : List UInt8) (p k : Nat) (pv kv : Int) (w : World) (hn : n = l.length) (hpv : pv = (p : Int)) (hkv : kv = (k : Int)) (hl : Lies w B A (B8 l)) (hp : p ≤ l.length) (hk1 : 1 ≤ k) (hk : k ≤ 8) (hs : l.length ≤ 140737488355328) (hc : l.length ≤ c) (hcm : c ≤ maxLen) (h : txtShort k (l.drop p) = false) :
    Calls Try.prog 26 #[.slice A n c, .int .i64 pv, .int .i64 kv] w fun e w' => ∃ (A' : Option Addr) (c' n' q : Nat), e = .returned (.tuple #[.slice A' n' c', .int .i64 (q : Int), .bool true]) ∧ n' = (txt k (l.drop p)).length ∧ Lies w B A' (B8 (txt k (l.drop p))) ∧ q = p + k + (txt k (l.drop p)).length ∧ q ≤ l.length ∧ txtRest k (l.drop p) = l.drop q ∧ w = w' := by
  subst hn hpv hkv
  refine (text_yes A c B l p k w hl hp hk1 hk hs hc hcm h).mono ?_
  rintro e w' ⟨A', c', rfl, h1, h2, h3, rfl⟩
  exact ⟨A', c', _, _, rfl, rfl, h1, rfl, h2, h3, rfl⟩
/-- the next op of what is left behind p octets -/
theorem next_at {b : List UInt8} {p : Nat} (hp : p < b.length) : nat (tk 1 (b.drop p)) = b[p].toNat ∧ rst 1 (b.drop p) = b.drop (p + 1) ∧ b.drop p ≠ [] := by
  have e : b.drop p = b[p] :: b.drop (p + 1) := List.drop_eq_getElem_cons hp
  have h1 : 1 ≤ (b.drop p).length := by rw [List.length_drop]; omega
  refine ⟨?_, ?_, ?_⟩
  · rw [tk_yes h1, e]
    show nat [b[p]] = _
    unfold nat
    simp only [List.foldl_cons, List.foldl_nil]
    omega
  · rw [rst_yes h1, List.drop_drop]
  · rw [e]; exact List.cons_ne_nil _ _
theorem next_short {b : List UInt8} {p : Nat} (hp : p < b.length) (h : txtShort 1 (b.drop (p + 1)) = true) : nextP b.length (b.drop p) = none := by
  obtain ⟨e1, e2, _⟩ := next_at hp
  unfold nextP
  rw [e1, e2]
  unfold putP delP
  simp [h]
theorem next_kind {b : List UInt8} {p : Nat} (hp : p < b.length) (h : b[p].toNat ≠ 1) (h2 : b[p].toNat ≠ 2) : nextP b.length (b.drop p) = none := by
  obtain ⟨e1, e2, _⟩ := next_at hp
  unfold nextP
  rw [e1, if_neg h, if_neg h2]
theorem next_key {b : List UInt8} {p : Nat} (hp : p < b.length) (h : ∀ d v, fitO ⟨txt 1 (b.drop (p + 1)), d, v⟩ = false) : nextP b.length (b.drop p) = none := by
  obtain ⟨e1, e2, _⟩ := next_at hp
  unfold nextP
  rw [e1, e2]
  unfold putP delP
  simp [h]
theorem next_del {b : List UInt8} {p : Nat} (hp : p < b.length) (hk : b[p].toNat = 2) (hs : txtShort 1 (b.drop (p + 1)) = false) (hf : fitO ⟨txt 1 (b.drop (p + 1)), true, []⟩ = true) : nextP b.length (b.drop p) = some (⟨⟨txt 1 (b.drop (p + 1)), true, []⟩, 0⟩, txtRest 1 (b.drop (p + 1))) := by
  obtain ⟨e1, e2, _⟩ := next_at hp
  unfold nextP
  rw [e1, e2, if_neg (by omega), if_pos hk]
  unfold delP
  simp [hs, hf]
theorem next_put_no {b : List UInt8} {p : Nat} (hp : p < b.length) (hk : b[p].toNat = 1) (h : txtShort 4 (txtRest 1 (b.drop (p + 1))) = true ∨ fitO ⟨txt 1 (b.drop (p + 1)), false, txt 4 (txtRest 1 (b.drop (p + 1)))⟩ = false) : nextP b.length (b.drop p) = none := by
  obtain ⟨e1, e2, _⟩ := next_at hp
  unfold nextP
  rw [e1, e2, if_pos hk]
  unfold putP
  rcases h with h | h <;> simp [h]
theorem next_put {b : List UInt8} {p : Nat} (hp : p < b.length) (hk : b[p].toNat = 1) (hs : txtShort 1 (b.drop (p + 1)) = false) (hs4 : txtShort 4 (txtRest 1 (b.drop (p + 1))) = false) (hf : fitO ⟨txt 1 (b.drop (p + 1)), false, txt 4 (txtRest 1 (b.drop (p + 1)))⟩ = true) :
    nextP b.length (b.drop p) = some (⟨⟨txt 1 (b.drop (p + 1)), false, txt 4 (txtRest 1 (b.drop (p + 1)))⟩, b.length - (txtRest 4 (txtRest 1 (b.drop (p + 1)))).length - (txt 4 (txtRest 1 (b.drop (p + 1)))).length⟩, txtRest 4 (txtRest 1 (b.drop (p + 1)))) := by
  obtain ⟨e1, e2, _⟩ := next_at hp
  unfold nextP
  rw [e1, e2, if_pos hk]
  unfold putP
  simp [hs, hs4, hf]
theorem txt1_le (b : List UInt8) : (txt 1 b).length ≤ 255 := by
  have h1 := nat_lt (tk 1 b)
  have h2 := tk_le 1 b
  have h3 : nat (tk 1 b) < 256 := Nat.lt_of_lt_of_le h1 (Nat.pow_le_pow_right (by omega) h2)
  have h4 := tk_le (nat (tk 1 b)) (rst 1 b)
  unfold txt
  omega
/-- where the walk stands -/
structure RpAt (w wr : World) (b : List UInt8) (ts : List Tl) (p : Nat) (v : Value) : Prop where
  own : wr.ownsRow w.heap.size 39 4 v ts.length (cellsPls ts)
  bel : Below w.heap.size w wr
  beh : Behind b.length b ts (b.drop p)
  le : p ≤ b.length
  few : ts.length ≤ p
theorem RpAt.more {w wr w7 : World} {b : List UInt8} {ts : List Tl} {p q : Nat} {v v7 : Value} {t : Tl} (h : RpAt w wr b ts p v) (hp : p < b.length) (hq : q ≤ b.length) (hpq : p < q) (hn : nextP b.length (b.drop p) = some (t, b.drop q)) (ho : w7.ownsRow w.heap.size 39 4 v7 (ts.length + 1) (cellsPls ts ++ cellsPl t)) (hb : Below w.heap.size w w7) : RpAt w w7 b (ts ++ [t]) q v7 :=
  ⟨by rw [List.length_append, cellsPls_append]; simpa [cellsPls] using ho, hb, h.beh.next (next_at hp).2.2 hn, hq, by rw [List.length_append]; have := h.few; simp; omega⟩
set_option maxHeartbeats 2000000 in
theorem rplaces_any (A : Option Addr) (n c B : Nat) (b : List UInt8) (w : World) (hn : n = b.length) (hl : Lies w B A (B8 b)) (hB : B ≤ w.heap.size) (hc : n ≤ c) (hm : c ≤ maxLen) :
    Calls Try.prog 14 #[.slice A n c] w (PlacesU (unitP b) w) := by
  subst hn
  obtain ⟨i0, hi, hz0, hz1, hz2⟩ := info_parts2 pl_info
  have HI := Lib.hid hi
  have H0 := Lib.hid hz0
  have H1 := Lib.hid hz1
  have H2 := Lib.hid hz2
  have HL := Lib.hid hl
  have HM := Lib.hid hm
  have HB := Lib.hid hB
  unfold maxLen at hm
  clear hl hi hz0 hz1 hz2
  by_cases hlen : 190000 < b.length
  · have N : Hid (unitP b = none) := Lib.hid (by unfold unitP; rw [if_pos hlen])
    have hlen' : (190000 : Int) < b.length := by omega
    go_enter Try.func14, Try.ntmps14
    go_wp2_with fail
    go_ret2
    exact PlacesU.no N.out (Below.refl _ _)
  have UP : Hid (unitP b = opsP b.length b) := Lib.hid (by unfold unitP; rw [if_neg hlen])
  have hlen' : b.length ≤ 190000 := by omega
  have hlen2 : ¬ (190000 : Int) < b.length := by omega
  go_enter Try.func14, Try.ntmps14
  go_wp2_with fail
  go_loopw [4, 5] (fun v i wr => ∃ (ts : List Tl) (p : Nat), i = .int .i64 p ∧ RpAt w wr b ts p v) (fun _ i _ => b.length - (intOf i).toNat)
  case atStart => exact ⟨[], 0, rfl, World.ownsRow_nil _ _ _ _, Below.refl _ _, by simpa using Behind.start b.length b, Nat.zero_le _, Nat.le_refl _⟩
  case round =>
    obtain ⟨ts, p, rfl, hR⟩ := hrel
    have HR := Lib.hid hR
    obtain ⟨A4, c4, rfl, hc4, hm4⟩ := own_form hR.own
    have hpl := hR.le
    have htf := hR.few
    clear hR
    by_cases hlt : p < b.length
    · have lb := HL.out.below (HR.out.bel.mono hB)
      have LB := Lib.hid lb
      rcases lb.octets with h0 | ⟨bb, oo, rfl, hbb, hcell⟩
      · rw [h0] at hlt; simp at hlt
      have k0 := hcell p hlt
      obtain ⟨q, hq⟩ : ∃ q, q = b[p].toNat := ⟨_, rfl⟩
      rw [← hq] at k0
      have HQ := Lib.hid hq
      have HLT := Lib.hid hlt
      have hpi : (p : Int) < (b.length : Int) := by omega
      have NO : Hid (nextP b.length (b.drop p) = none → PlacesU (unitP b) w (.returned (.tuple #[.slice none 0 0, .bool false])) wr) := Lib.hid (fun h => PlacesU.no (by rw [UP.out]; exact HR.out.beh.none (next_at hlt).2.2 h) HR.out.bel)
      have hqb : q < 256 := by rw [hq]; exact b[p].toNat_lt
      clear hcell hq lb
      by_cases hs1 : txtShort 1 (b.drop (p + 1)) = true
      · have D := Lib.hid (NO.out (next_short hlt hs1))
        have HS1 := Lib.hid hs1
        clear hs1
        go_wp2_with fail
        refine (rtext_no _ c B _ b (p + 1) 1 _ _ _ rfl (by push_cast; rfl) rfl LB.out (by omega) (by omega) (by omega) (by omega) HS1.out).mono ?_
        rintro e w2 ⟨rfl, rfl⟩
        go_wp2_with fail
        go_ret2
        exact D.out
      · have HS1 : Hid (txtShort 1 (b.drop (p + 1)) = false) := Lib.hid (by simpa using hs1)
        clear hs1
        go_wp2_with fail
        refine (rtext_yes _ c B _ b (p + 1) 1 _ _ _ rfl (by push_cast; rfl) rfl LB.out (by omega) (by omega) (by omega) (by omega) hc HM.out HS1.out).mono ?_
        rintro e w2 ⟨A5, c5, n5, p2, rfl, hn5, l5, hp2, hp2l, hrest, rfl⟩
        obtain ⟨K, hK⟩ : ∃ K, K = txt 1 (b.drop (p + 1)) := ⟨_, rfl⟩
        rw [← hK] at hn5 l5 hp2
        have hkn : K.length ≤ 255 := by rw [hK]; exact txt1_le _
        subst hn5
        have HK := Lib.hid hK
        have HP2 := Lib.hid hp2
        have HRS := Lib.hid hrest
        have LK := Lib.hid l5
        have hpp : p + 2 ≤ p2 := by omega
        have cv := run_octets_string (P := Try.prog) 22 9 5 Try.underlying22 Try.underlying5 Try.underlying9 l5 c5
        clear hK hp2 hrest l5
        by_cases g1 : q < 1
        · have D := Lib.hid (NO.out (next_kind hlt (by rw [← HQ.out]; omega) (by rw [← HQ.out]; omega)))
          have g1' : (q : Int) < 1 := by omega
          go_wp2_with fail
          go_ret2
          exact D.out
        have g1' : ¬ (q : Int) < 1 := by omega
        by_cases g2 : 2 < q
        · have D := Lib.hid (NO.out (next_kind hlt (by rw [← HQ.out]; omega) (by rw [← HQ.out]; omega)))
          have g2' : (2 : Int) < q := by omega
          go_wp2_with fail
          go_ret2
          exact D.out
        have g2' : ¬ (2 : Int) < q := by omega
        by_cases g3 : K.length < 1
        · have D := Lib.hid (NO.out (next_key hlt (fun d v => by rw [← HK.out]; unfold fitO; simp only; rw [decide_eq_false (show ¬ 1 ≤ K.length by omega)]; simp)))
          have g3' : (K.length : Int) < 1 := by omega
          go_wp2_with fail
          go_ret2
          exact D.out
        have g3' : ¬ (K.length : Int) < 1 := by omega
        by_cases g4 : 130 < K.length
        · have D := Lib.hid (NO.out (next_key hlt (fun d v => by rw [← HK.out]; unfold fitO; simp only; rw [decide_eq_false (show ¬ K.length ≤ 130 by omega)]; simp)))
          have g4' : (130 : Int) < K.length := by omega
          go_wp2_with fail
          go_ret2
          exact D.out
        have g4' : ¬ (130 : Int) < K.length := by omega
        have fitK : Hid (∀ d v, fitO ⟨K, d, v⟩ = (decide (v.length ≤ 11000) && (!d || decide (v.length = 0)))) := Lib.hid (fun d v => by unfold fitO; simp only; rw [decide_eq_true (show 1 ≤ K.length by omega), decide_eq_true (show K.length ≤ 130 by omega)]; simp)
        by_cases g5 : q = 2
        · subst g5
          obtain ⟨W1, hW1⟩ : ∃ W, W = wr.alloc (.cells #[.string ⟨K.toArray⟩, .bool true, .int .i64 0, .int .i64 0] 39) := ⟨_, rfl⟩
          have hx : Whole W1 wr.heap.size 39 #[.string ⟨K.toArray⟩, .bool true, .int .i64 0, .int .i64 0] := by rw [hW1]; exact Whole.new _ _ _
          have bw : Below wr.heap.size wr W1 := by rw [hW1]; exact (Below.refl _ _).alloc (Nat.le_refl _) _
          have NX : Hid (nextP b.length (b.drop p) = some (⟨⟨K, true, []⟩, 0⟩, b.drop p2)) := Lib.hid (by
            have h := next_del hlt HQ.out.symm HS1.out (by rw [← HK.out, fitK.out]; simp)
            rw [← HK.out, HRS.out] at h
            exact h)
          have QLE : Hid (p2 ≤ b.length) := Lib.hid hp2l
          have QLT : Hid (p < p2) := Lib.hid (by omega)
          clear NO
          go_upto_region 11 with fail
          clear cv
          rw [← hW1]
          clear hW1
          obtain ⟨W2, hW2⟩ : ∃ W, W = W1 := ⟨_, rfl⟩
          rw [← hW2] at hx bw
          rw [← hW2]
          clear hW2
          have z0 : W2.cell? ⟨wr.heap.size, 0, none⟩ = some (.string ⟨K.toArray⟩) := hx.cell 0
          have z1 : W2.cell? ⟨wr.heap.size, 1, none⟩ = some (.bool true) := hx.cell 1
          have z2 : W2.cell? ⟨wr.heap.size, 2, none⟩ = some (.int .i64 0) := hx.cell 2
          have z3 : W2.cell? ⟨wr.heap.size, 3, none⟩ = some (.int .i64 0) := hx.cell 3
          have BW := Lib.hid (HR.out.bel.trans (bw.mono HR.out.bel.size))
          have OW := Lib.hid (HR.out.own.kept (only_below bw none) (Classical.em _))
          have HSW := Lib.hid BW.out.size
          have HA1 : Hid (ts.length + 1 ≤ maxLen) := Lib.hid (room63 (by omega))
          have HA2 : Hid ((ts.length + 1) * 40 ≤ 140737488355328) := Lib.hid (by omega)
          clear hx bw
          go_wp2_with (at_builtin; go_must (refine wpList_append_cells rfl _ _ 34 rfl w.heap.size 39 i0 _ 4 40 Try.underlying34 HI.out H0.out H1.out H2.out rfl (by omega) (.slice A4 ts.length c4) ts.length _ rfl (OW.out.alloc _) _ _ 1 1 (cellsPl ⟨⟨K, true, []⟩, 0⟩) rfl (Lies.lit W2 39 (cellsPl ⟨⟨K, true, []⟩, 0⟩)) rfl (cellsPl_one _) HA1.out HA2.out (by have := HSW.out; simp; omega) ?_); intro v7 w7 o7 b7; have U7 := Lib.hid (HR.out.more HLT.out QLE.out QLT.out NX.out o7 ((BW.out.alloc HSW.out _).trans b7)); clear o7 b7)
          go_roundw
          case rel => exact ⟨_, _, rfl, U7.out⟩
          case measure => have := QLT.out; simp [intOf]; omega
        · obtain rfl : q = 1 := by omega
          obtain ⟨W1, hW1⟩ : ∃ W, W = wr.alloc (.cells #[.string ⟨K.toArray⟩, .bool false, .int .i64 0, .int .i64 0] 39) := ⟨_, rfl⟩
          have hx : Whole W1 wr.heap.size 39 #[.string ⟨K.toArray⟩, .bool false, .int .i64 0, .int .i64 0] := by rw [hW1]; exact Whole.new _ _ _
          have bw : Below wr.heap.size wr W1 := by rw [hW1]; exact (Below.refl _ _).alloc (Nat.le_refl _) _
          have NO2 : Hid (nextP b.length (b.drop p) = none → PlacesU (unitP b) w (.returned (.tuple #[.slice none 0 0, .bool false])) W1) := Lib.hid (fun h => PlacesU.no (by rw [UP.out]; exact HR.out.beh.none (next_at hlt).2.2 h) (HR.out.bel.trans (bw.mono HR.out.bel.size)))
          have LB1 := Lib.hid (LB.out.below (bw.mono (Nat.le_trans HB.out HR.out.bel.size)))
          clear NO
          go_upto_region 11 with fail
          clear cv
          rw [← hW1]
          clear hW1
          by_cases hs4 : txtShort 4 (b.drop p2) = true
          · have D := Lib.hid (NO2.out (next_put_no hlt HQ.out.symm (.inl (by rw [HRS.out]; exact hs4))))
            have HS4 := Lib.hid hs4
            clear hs4
            go_wp2_with fail
            refine (rtext_no _ c B _ b p2 4 _ _ _ rfl rfl rfl LB1.out hp2l (by omega) (by omega) (by omega) HS4.out).mono ?_
            rintro e w3 ⟨rfl, rfl⟩
            go_wp2_with fail
            go_ret2
            exact D.out
          · have HS4 : Hid (txtShort 4 (b.drop p2) = false) := Lib.hid (by simpa using hs4)
            clear hs4
            go_wp2_with fail
            refine (rtext_yes _ c B _ b p2 4 _ _ _ rfl rfl rfl LB1.out hp2l (by omega) (by omega) (by omega) hc HM.out HS4.out).mono ?_
            rintro e w3 ⟨A6, c6, n6, p3, rfl, hn6, l6, hp3, hp3l, hrest3, rfl⟩
            obtain ⟨V, hV⟩ : ∃ V, V = txt 4 (b.drop p2) := ⟨_, rfl⟩
            rw [← hV] at hn6 l6 hp3
            subst hn6
            have HV := Lib.hid hV
            have HRS3 := Lib.hid hrest3
            clear hV hrest3 l6
            by_cases g6 : 11000 < V.length
            · have D := Lib.hid (NO2.out (next_put_no hlt HQ.out.symm (.inr (by rw [HRS.out, ← HK.out, ← HV.out, fitK.out, decide_eq_false (by omega)]; rfl))))
              have g6' : (11000 : Int) < V.length := by omega
              go_wp2_with fail
              go_ret2
              exact D.out
            · have g6' : ¬ (11000 : Int) < V.length := by omega
              have NX : Hid (nextP b.length (b.drop p) = some (⟨⟨K, false, V⟩, p2 + 4⟩, b.drop p3)) := Lib.hid (by
                have h := next_put hlt HQ.out.symm HS1.out (by rw [HRS.out]; exact HS4.out) (by rw [HRS.out, ← HK.out, ← HV.out, fitK.out, decide_eq_true (show V.length ≤ 11000 by omega)]; simp)
                rw [HRS.out, ← HK.out, ← HV.out, HRS3.out, List.length_drop, show b.length - (b.length - p3) - V.length = p2 + 4 by omega] at h
                exact h)
              have QLE : Hid (p3 ≤ b.length) := Lib.hid hp3l
              have QLT : Hid (p < p3) := Lib.hid (by omega)
              have i2 := hx.cell 2
              have i3 := hx.cell 3
              have j2 := hx.frozen 2
              have j3 := hx.frozen 3
              have hx := (hx.put 2 (.int .i64 ((p2 + 4 : Nat) : Int))).put 3 (.int .i64 (V.length : Int))
              have bw := (bw.setCell (p := ⟨wr.heap.size, 2, none⟩) (Nat.le_refl _) (.int .i64 ((p2 + 4 : Nat) : Int))).setCell (p := ⟨wr.heap.size, 3, none⟩) (Nat.le_refl _) (.int .i64 (V.length : Int))
              go_upto_region 17 with fail
              rw [show ((p2 : Int) + 4) = ((p2 + 4 : Nat) : Int) by omega]
              obtain ⟨W2, hW2⟩ : ∃ W, W = (W1.setCell ⟨wr.heap.size, 2, none⟩ (.int .i64 ((p2 + 4 : Nat) : Int))).setCell ⟨wr.heap.size, 3, none⟩ (.int .i64 (V.length : Int)) := ⟨_, rfl⟩
              rw [← hW2] at hx bw
              rw [← hW2]
              clear hW2
              have z0 : W2.cell? ⟨wr.heap.size, 0, none⟩ = some (.string ⟨K.toArray⟩) := hx.cell 0
              have z1 : W2.cell? ⟨wr.heap.size, 1, none⟩ = some (.bool false) := hx.cell 1
              have z2 : W2.cell? ⟨wr.heap.size, 2, none⟩ = some (.int .i64 ((p2 + 4 : Nat) : Int)) := hx.cell 2
              have z3 : W2.cell? ⟨wr.heap.size, 3, none⟩ = some (.int .i64 (V.length : Int)) := hx.cell 3
              have BW := Lib.hid (HR.out.bel.trans (bw.mono HR.out.bel.size))
              have OW := Lib.hid (HR.out.own.kept (only_below bw none) (Classical.em _))
              have HSW := Lib.hid BW.out.size
              have HA1 : Hid (ts.length + 1 ≤ maxLen) := Lib.hid (room63 (by omega))
              have HA2 : Hid ((ts.length + 1) * 40 ≤ 140737488355328) := Lib.hid (by omega)
              clear hx bw
              go_wp2_with (at_builtin; go_must (refine wpList_append_cells rfl _ _ 34 rfl w.heap.size 39 i0 _ 4 40 Try.underlying34 HI.out H0.out H1.out H2.out rfl (by omega) (.slice A4 ts.length c4) ts.length _ rfl (OW.out.alloc _) _ _ 1 1 (cellsPl ⟨⟨K, false, V⟩, p2 + 4⟩) rfl (Lies.lit W2 39 (cellsPl ⟨⟨K, false, V⟩, p2 + 4⟩)) rfl (cellsPl_one _) HA1.out HA2.out (by have := HSW.out; simp; omega) ?_); intro v7 w7 o7 b7; have U7 := Lib.hid (HR.out.more HLT.out QLE.out QLT.out NX.out o7 ((BW.out.alloc HSW.out _).trans b7)); clear o7 b7)
              go_roundw
              case rel => exact ⟨_, _, rfl, by have h := U7.out; rw [hp3] at h; exact h⟩
              case measure => have := QLT.out; simp [intOf]; omega
    · obtain rfl : p = b.length := by omega
      have D : Hid (PlacesU (unitP b) w (.returned (.tuple #[.slice A4 ts.length c4, .bool true])) wr) := Lib.hid (PlacesU.yes (by rw [UP.out]; exact Behind.done (by have := HR.out.beh; rwa [List.drop_length] at this)) HR.out.bel ⟨hc4, hm4, own_lies HR.out.own (Nat.le_refl _)⟩)
      go_wp2_with fail
      go_ret2
      exact D.out
end Go.Proofs.Ytflbjmpbkcjdhaa
