/- Layer 13: the document's own answer to a unit's octets. -/
import Derived.Test.YtflbjmpbkcjdhaaUnK
import Derived.Test.YtflbjmpbkcjdhaaRefL
import Derived.Test.YtflbjmpbkcjdhaaStep
import Derived.Lib.Builder
import Derived.Deep.RegionHeld3
namespace Go.Proofs.Ytflbjmpbkcjdhaa
open Go.RowKit
set_option maxRecDepth 100000
set_option linter.unusedSimpArgs false
set_option linter.unusedVariables false

theorem nu64 (k : Nat) (h : k < 18446744073709551616) : IntKind.u64.wrap (k : Int) = (k : Int) := IntWalk.u64_in _ ⟨by omega, by omega⟩
theorem uput_at (A : Option Addr) (c m : Nat) (l : List UInt8) (B n x : Nat) (xv : Int) (w : World) (hm : m = l.length) (hx : xv = (x : Int)) (hl : Lies w B A (B8 l)) (hB : B ≤ w.heap.size) (hn1 : 1 ≤ n) (hn8 : n ≤ 8) (hs : l.length + 8 ≤ 140737488355328) :
    Calls Try.prog 30 #[.slice A m c, .int .i64 n, .int .u64 xv] w (NewOcts w.heap.size (l ++ be n x) w) := by
  subst hm
  subst hx
  exact put_any A c l B n x w hl hB hn1 hn8 hs
set_option maxHeartbeats 400000 in
theorem urshort_any (A : Option Addr) (c n : Nat) (l : List UInt8) (B : Nat) (t : List UInt8) (w : World) (hn : n = l.length) (hl : Lies w B A (B8 l)) (hB : B ≤ w.heap.size) (hs : l.length ≤ 70368744177664) (ht : t.length ≤ 255) :
    Calls Try.prog 21 #[.slice A n c, .string ⟨t.toArray⟩] w (NewOcts w.heap.size (l ++ be 1 t.length ++ t) w) := by
  subst hn
  obtain ⟨i0, hi, hz0, hz1, hz2⟩ := info_parts u8_info
  have HI := Lib.hid hi
  have H0 := Lib.hid hz0
  have H1 := Lib.hid hz1
  have H2 := Lib.hid hz2
  have HL := Lib.hid hl
  have kw := nu64 t.length (by omega)
  have e1 : (⟨t.toArray⟩ : ByteArray).size = t.length := by simp [ByteArray.size]
  have E1 := Lib.hid e1
  clear hi hz0 hz1 hz2 hl e1
  go_enter Try.func21, Try.ntmps21
  go_wp2_with fail
  refine (uput_at A c l.length l B 1 t.length _ _ rfl rfl HL.out hB (by omega) (by omega) (by omega)).mono ?_
  rintro e w2 ⟨v2, rfl, hown2, hbel2⟩
  have HO2 := Lib.hid hown2
  have HB2 := Lib.hid hbel2
  have hsz3 : w.heap.size ≤ w2.heap.size := hbel2.size
  have hlen : (l ++ be 1 t.length).length + (⟨t.toArray⟩ : ByteArray).size ≤ 140737488355328 := by rw [E1.out, List.length_append, be_length]; omega
  have HLen := Lib.hid hlen
  clear hown2 hbel2 hlen
  go_wp2_with (at_builtin; refine Lib.wpList_append_own_string _ rfl _ _ 22 9 rfl w.heap.size 5 i0 Try.underlying22 Try.underlying9 HI.out H0.out H1.out H2.out _ _ _ rfl HO2.out ⟨t.toArray⟩ rfl (room63 HLen.out) HLen.out hsz3 ?_; intro v3 w3 hown3 hg _)
  rw [strCells_B8, ← B8_append, E1.out, ← List.length_append] at hown3
  have hbel3 := HB2.out.grown hg hsz3 (fun k hk => (HO2.out.lt k hk).1)
  go_ret
  exact ⟨_, rfl, hown3, hbel3⟩
theorem rlong_at (A : Option Addr) (c n : Nat) (l : List UInt8) (B : Nat) (A' : Option Addr) (c' n' : Nat) (s : List UInt8) (w : World) (hn : n = l.length) (hn' : n' = s.length) (hl : Lies w B A (B8 l)) (hl' : Lies w B A' (B8 s)) (hB : B ≤ w.heap.size) (hs : l.length + s.length + 8 ≤ 140737488355328) :
    Calls Try.prog 22 #[.slice A n c, .slice A' n' c'] w (NewOcts w.heap.size (l ++ be 4 s.length ++ s) w) := by
  subst hn hn'
  exact rlong_any A c l B A' c' s w hl hl' hB hs
theorem box_kept {w w' : World} {n base k : Nat} {T e : TypeId} {cs : Array Value} {v : Value} {xs : List Value} (h : Whole w n T cs) (ho : w.ownsRow base e 1 v k xs) (hg : w.grownBy w' v.ownBlock) (hne : T ≠ e) : Whole w' n T cs :=
  h.grown hg (fun e1 => Lib.ownBlock_ne ho h hne e1.symm)
theorem be1_1 : be 1 1 = [1] := by decide
theorem be1_2 : be 1 2 = [2] := by decide
theorem opB_del {o : Opx} (h : o.del = true) (P : List UInt8) : P ++ opB o = P ++ [2] ++ be 1 o.key.length ++ o.key := by
  unfold opB headB
  rw [h, be1_2]
  simp
theorem opB_put {o : Opx} (h : o.del = false) (P : List UInt8) : P ++ opB o = P ++ [1] ++ be 1 o.key.length ++ o.key ++ be 4 o.val.length ++ o.val := by
  unfold opB headB
  rw [h, be1_1]
  simp
/-- where the walk stands -/
structure UrAt (w wr : World) (l : List Om) (j : Nat) (v : Value) : Prop where
  own : wr.ownsRow w.heap.size 5 1 v (opsB ((pl l).take j)).length (B8 (opsB ((pl l).take j)))
  bel : Below w.heap.size w wr
  fit : ((pl l).take j).all fitO = true
  len : (opsB ((pl l).take j)).length ≤ 201200
theorem UrAt.next {w wr w7 : World} {l : List Om} {j n : Nat} {v v7 : Value} (h : UrAt w wr l j v) (hj : j < (pl l).length) (hf : fitO (pl l)[j] = true) (hl : (opsB ((pl l).take j)).length ≤ 190000) (X : List UInt8) (hX : X = opsB ((pl l).take j) ++ opB (pl l)[j]) (hn : n = X.length) (ho : w7.ownsRow w.heap.size 5 1 v7 n (B8 X)) (hb : Below w.heap.size w w7) : UrAt w w7 l (j + 1) v7 := by
  subst hn hX
  have e := opsB_take (pl l) j hj
  have e2 : ((pl l).take (j + 1)).all fitO = true := by
    rw [List.take_succ_eq_append_getElem hj, List.all_append, h.fit]
    simp [hf]
  have e3 := opB_length (pl l)[j]
  have e4 := fitO_is hf
  refine ⟨by rw [e]; exact ho, hb, e2, ?_⟩
  rw [e, List.length_append, e3]
  unfold sizeO
  split <;> omega
set_option maxHeartbeats 2000000 in
theorem runit_any (l : List Om) (A : Option Addr) (n c B : Nat) (w : World) (hn : n = l.length) (ht : OpsAt w B l A c) (hB : B ≤ w.heap.size) (hf : Few l) :
    Calls Try.prog 10 #[.slice A n c] w (AppU (pl l) w) := by
  subst hn
  obtain ⟨i0, hi, hz0, hz1, hz2⟩ := info_parts2 u8_info
  have HT := Lib.hid ht
  have HF := Lib.hid hf
  have HI := Lib.hid hi
  have H0 := Lib.hid hz0
  have H1 := Lib.hid hz1
  have H2 := Lib.hid hz2
  have hlc := ht.1
  have hcm := ht.2.1
  have hll := hf.1
  unfold maxLen at hcm
  have HPL := Lib.hid (pl_length l)
  have HB := Lib.hid hB
  clear ht hf hi hz0 hz1 hz2
  go_enter Try.func10, Try.ntmps10
  go_wp2_with fail
  go_loopw [4, 5] (fun v i wr => ∃ j : Nat, j ≤ l.length ∧ i = .int .i64 j ∧ UrAt w wr l j v) (fun _ i _ => l.length - (intOf i).toNat)
  case atStart => exact ⟨0, Nat.zero_le _, rfl, ⟨World.ownsRow_nil _ _ _ _, Below.refl _ _, rfl, by simp [opsB]⟩⟩
  case round =>
    obtain ⟨j, hj, rfl, hU⟩ := hrel
    have HU := Lib.hid hU
    obtain ⟨A4, c4, rfl, hc4, hm4⟩ := own_form hU.own
    obtain ⟨P, hP⟩ : ∃ P, P = opsB ((pl l).take j) := ⟨_, rfl⟩
    have hPl : P.length ≤ 201200 := by rw [hP]; exact hU.len
    rw [← hP] at hc4 ⊢
    have HP := Lib.hid hP
    have HO := hU.own
    rw [← hP] at HO
    clear hU hP
    by_cases hlt : j < l.length
    · obtain ⟨b, o, rfl, hb, c0, c1, c2⟩ := lies_om ((HT.out.2.2.1).below (HU.out.bel.mono hB)) j hlt
      have hfew := HF.out.at j hlt
      have hval := HT.out.2.2.2 _ (List.getElem_mem hlt)
      obtain ⟨m, hm⟩ : ∃ m, m = l[j] := ⟨_, rfl⟩
      have hjp : j < (pl l).length := by rw [HPL.out]; exact hlt
      have hpj : (pl l)[j] = m.o := by rw [hm]; exact pl_at l j hjp
      rw [← hm] at c0 c1 c2 hfew hval
      have x1 := Whole.new wr 24 #[.string ⟨m.o.key.toArray⟩, .bool m.o.del, .slice m.A m.o.val.length m.c]
      obtain ⟨W1, hW1⟩ : ∃ W, W = wr.alloc (.cells #[.string ⟨m.o.key.toArray⟩, .bool m.o.del, .slice m.A m.o.val.length m.c] 24) := ⟨_, rfl⟩
      rw [← hW1] at x1
      have ba : Below wr.heap.size wr W1 := by rw [hW1]; exact (Below.refl _ _).alloc (Nat.le_refl _) _
      have B1 := Lib.hid (HU.out.bel.trans (ba.mono HU.out.bel.size))
      have O1 := Lib.hid (HO.kept (only_below ba none) (Classical.em _))
      have V1 := Lib.hid ((hval.1.below (HU.out.bel.mono hB)).below (ba.mono (Nat.le_trans hB HU.out.bel.size)))
      have X1 := Lib.hid x1
      have HPJ := Lib.hid hpj
      have HJP := Lib.hid hjp
      have NOF : Hid (fitO m.o = false → AppU (pl l) w (.returned (.tuple #[.slice none 0 0, .bool false])) W1) := Lib.hid (fun h => AppU.no (unitOk_fit (j := j) hjp (by rw [hpj]; exact h)) B1.out)
      have NOL : Hid (190000 < P.length → AppU (pl l) w (.returned (.tuple #[.slice none 0 0, .bool false])) W1) := Lib.hid (fun h => AppU.no (unitOk_long (l := pl l) (j := j) (by rw [← HP.out]; exact h)) B1.out)
      have ks := size_arr m.o.key
      have y0 : W1.cell? ⟨wr.heap.size, 0, none⟩ = some (.string ⟨m.o.key.toArray⟩) := x1.cell 0
      have y1 : W1.cell? ⟨wr.heap.size, 1, none⟩ = some (.bool m.o.del) := x1.cell 1
      have y2 : W1.cell? ⟨wr.heap.size, 2, none⟩ = some (.slice m.A m.o.val.length m.c) := x1.cell 2
      obtain ⟨hk9, hv9⟩ := hfew
      clear hval hm hpj ba x1 HO
      go_upto_region 6 with fail
      rw [← hW1]
      clear hW1 c0 c1 c2
      have fitI : Hid (fitO m.o = (decide (1 ≤ m.o.key.length) && decide (m.o.key.length ≤ 130) && decide (m.o.val.length ≤ 11000) && (!m.o.del || decide (m.o.val.length = 0)))) := Lib.hid rfl
      by_cases f1 : m.o.key.length < 1
      · have D := Lib.hid (NOF.out (by rw [fitI.out, decide_eq_false (by omega)]; simp))
        have f1' : (m.o.key.length : Int) < 1 := by omega
        go_wp2_with fail
        go_ret2
        exact D.out
      have f1' : ¬ (m.o.key.length : Int) < 1 := by omega
      by_cases f2 : 130 < m.o.key.length
      · have D := Lib.hid (NOF.out (by rw [fitI.out, decide_eq_false (show ¬ m.o.key.length ≤ 130 by omega)]; simp))
        have f2' : (130 : Int) < m.o.key.length := by omega
        go_wp2_with fail
        go_ret2
        exact D.out
      have f2' : ¬ (130 : Int) < m.o.key.length := by omega
      by_cases f3 : 11000 < m.o.val.length
      · have D := Lib.hid (NOF.out (by rw [fitI.out, decide_eq_false (show ¬ m.o.val.length ≤ 11000 by omega)]; simp))
        have f3' : (11000 : Int) < m.o.val.length := by omega
        go_wp2_with fail
        go_ret2
        exact D.out
      have f3' : ¬ (11000 : Int) < m.o.val.length := by omega
      have fitJ : Hid (fitO m.o = (!m.o.del || decide (m.o.val.length = 0))) := Lib.hid (by rw [fitI.out, decide_eq_true (show 1 ≤ m.o.key.length by omega), decide_eq_true (show m.o.key.length ≤ 130 by omega), decide_eq_true (show m.o.val.length ≤ 11000 by omega)]; simp)
      obtain ⟨dl, hdl⟩ : ∃ dl, dl = m.o.del := ⟨_, rfl⟩
      rw [← hdl] at y1
      have HDL := Lib.hid hdl
      clear hdl
      have HR1 : Hid (P.length + 1 ≤ maxLen) := Lib.hid (room63 (by omega))
      have HR2 : Hid ((P.length + 1) * 1 ≤ 140737488355328) := Lib.hid (by omega)
      cases dl with
      | true =>
        by_cases f4 : 0 < m.o.val.length
        · have D := Lib.hid (NOF.out (by rw [fitJ.out, ← HDL.out, decide_eq_false (by omega)]; rfl))
          have f4' : (0 : Int) < m.o.val.length := by omega
          go_wp2_with fail
          go_ret2
          exact D.out
        have f4' : ¬ (0 : Int) < m.o.val.length := by omega
        have f4z : m.o.val.length = 0 := by omega
        have HFT : Hid (fitO m.o = true) := Lib.hid (by rw [fitJ.out, decide_eq_true f4z]; simp)
        clear f4z
        by_cases f5 : 190000 < P.length
        · have D := Lib.hid (NOL.out f5)
          have f5' : (190000 : Int) < P.length := by omega
          go_wp2_with fail
          go_ret2
          exact D.out
        · have f5' : ¬ (190000 : Int) < P.length := by omega
          go_upto_region 9 with fail
          refine wp_region_held_drew (S := (fun w' => w'.cell? ⟨wr.heap.size, 0, none⟩ = some (.string ⟨m.o.key.toArray⟩) ∧ w'.cell? ⟨wr.heap.size, 2, none⟩ = some (.slice m.A m.o.val.length m.c))) (by kernel_rfl) ⟨y0, y2⟩ (fun hS0 => ?_)
          obtain ⟨WD, hWD⟩ : ∃ WD, WD = W1.drew := ⟨_, rfl⟩
          have xe := X1.out
          have oe := O1.out
          have ve := V1.out
          have XD : Hid (Whole WD wr.heap.size 24 #[.string ⟨m.o.key.toArray⟩, .bool m.o.del, .slice m.A m.o.val.length m.c]) := Lib.hid (by rw [hWD]; exact xe)
          have OD : Hid (WD.ownsRow w.heap.size 5 1 (.slice A4 P.length c4) P.length (B8 P)) := Lib.hid (by rw [hWD]; exact O1.out.kept (only_below (Below.refl _ _).drew none) (Classical.em _))
          have VD : Hid (Lies WD B m.A (B8 m.o.val)) := Lib.hid (by rw [hWD]; exact ve)
          have BD : Hid (Below w.heap.size w WD) := Lib.hid (by rw [hWD]; exact B1.out.drew)
          rw [← hWD] at hS0 ⊢
          clear hWD xe oe ve y0 y2
          have y0 := XD.out.cell 0
          have y2 := XD.out.cell 2
          refine wpAnyH_take (i := 0) (oi := ⟨some 50, _, _, _, _, _⟩) (v := ?_) rfl (by kernel_rfl) (by kernel_rfl) (by kernel_rfl) (fun _ _ _ h => h) (Or.inl ⟨by rfl, ?_⟩) hS0 ?_
          rotate_left
          · (intro wS hSw; (try dsimp only at hSw); go_simp); all_goals (with_reducible rfl)
          try simp only [Act.put, List.setIfInBounds_toArray, List.set_cons_zero, List.set_cons_succ]
          refine wpAnyH_take (i := 3) (oi := ⟨some 53, _, _, _, _, _⟩) (v := ?_) rfl (by kernel_rfl) (by kernel_rfl) (by kernel_rfl) (fun _ _ _ h => h) (Or.inl ⟨by rfl, ?_⟩) hS0 ?_
          rotate_left
          · (intro wS hSw; (try dsimp only at hSw); go_simp); all_goals (with_reducible rfl)
          try simp only [Act.put, List.setIfInBounds_toArray, List.set_cons_zero, List.set_cons_succ]
          refine wpAnyH_take (i := 4) (oi := ⟨some 54, _, _, _, _, _⟩) (v := ?_) rfl (by kernel_rfl) (by kernel_rfl) (by kernel_rfl) (fun _ _ _ h => h) (Or.inl ⟨by rfl, ?_⟩) hS0 ?_
          rotate_left
          · (intro wS hSw; (try dsimp only at hSw); go_simp); all_goals (with_reducible rfl)
          try simp only [Act.put, List.setIfInBounds_toArray, List.set_cons_zero, List.set_cons_succ]
          refine wpAnyH_ready (rs := [1]) (by kernel_rfl) (by simp) ?_
          refine AllReadyH.cons (o := ⟨some 51, _, _, _, _, _⟩) rfl (fun K hK => ?_) AllReadyH.nil
          go_simp
          have BB := Lib.hid ((Below.refl WD.heap.size WD).alloc (Nat.le_refl _) (.cells #[.int .u8 2] 5))
          have LK : Hid (Lies (WD.alloc (.cells #[.int .u8 2] 5)) (WD.heap.size + 1) (some ⟨WD.heap.size, 0, none⟩) (B8 [2])) := Lib.hid (Lies.lit WD 5 [.int .u8 2])
          have OD := Lib.hid (OD.out.alloc (.cells #[.int .u8 2] 5))
          have XD := Lib.hid (XD.out.below BB.out XD.out.lt)
          have VD := Lib.hid (VD.out.below (BB.out.mono (Nat.le_trans HB.out BD.out.size)))
          have BD := Lib.hid (BD.out.trans (BB.out.mono BD.out.size))
          clear BB y0 y2
          have y0 := XD.out.cell 0
          have y2 := XD.out.cell 2
          have HS1 := Lib.hid BD.out.size
          go_wp2_with fail
          refine hK.out _ _ ⟨y0, y2⟩ (fun hS1 => ?_)
          clear hK K
          try simp only [Act.put, List.setIfInBounds_toArray, List.set_cons_zero, List.set_cons_succ]
          refine wpAnyH_ready (rs := [2]) (by kernel_rfl) (by simp) ?_
          refine AllReadyH.cons (o := ⟨some 52, _, _, _, _, _⟩) rfl (fun K hK => ?_) AllReadyH.nil
          refine step_append_own rfl _ _ 22 rfl w.heap.size 5 i0 (.int .u8 0) 1 1 Try.underlying22 HI.out H0.out H1.out H2.out rfl (by omega) (.slice A4 P.length c4) P.length _ (by rfl) OD.out _ _ 1 1 (B8 [2]) (by rfl) LK.out rfl (B8_one _) HR1.out HR2.out HS1.out ?_
          intro v5 w5 o5 b5 g5
          rw [show (1 : Nat) = ([2] : List UInt8).length from rfl, ← B8_append, ← List.length_append] at o5
          obtain ⟨X5, hX5⟩ : ∃ X, X = P ++ [2] := ⟨_, rfl⟩
          rw [← hX5] at o5
          have HX5 := Lib.hid hX5
          have hl5 : X5.length ≤ 300000 := by rw [hX5, List.length_append]; simp; omega
          obtain ⟨A5, c5, rfl, _, _⟩ := own_form o5
          have M5 := Lib.hid (own_lies o5 (Nat.le_refl _))
          have XD := Lib.hid (box_kept XD.out OD.out g5 (by decide))
          have VD := Lib.hid (VD.out.below (b5.mono HB.out))
          have BD := Lib.hid (BD.out.trans b5)
          clear o5 b5 g5 hX5 y0 y2
          have y0 := XD.out.cell 0
          have y2 := XD.out.cell 2
          have HZ5 := Lib.hid BD.out.size
          refine hK.out _ _ ⟨y0, y2⟩ (fun hS2 => ?_)
          clear hK K
          try simp only [Act.put, List.setIfInBounds_toArray, List.set_cons_zero, List.set_cons_succ]
          refine wpAnyH_ready (rs := [5]) (by kernel_rfl) (by simp) ?_
          refine AllReadyH.cons (o := ⟨some 55, _, _, _, _, _⟩) rfl (fun K hK => ?_) AllReadyH.nil
          go_simp
          refine (urshort_any A5 c5 _ X5 _ m.o.key _ rfl M5.out (Nat.le_refl _) (by omega) (by omega)).mono ?_
          rintro e w6 ⟨v6, rfl, o6, b6⟩
          obtain ⟨X6, hX6⟩ : ∃ X, X = X5 ++ be 1 m.o.key.length ++ m.o.key := ⟨_, rfl⟩
          rw [← hX6] at o6
          have HX6 := Lib.hid hX6
          have hl6 : X6.length ≤ 300200 := by rw [hX6]; simp only [List.length_append, be_length]; omega
          obtain ⟨A6, c6, rfl, _, _⟩ := own_form o6
          have M6 := Lib.hid (own_lies o6 (Nat.le_refl _))
          have BB := Lib.hid b6
          have O6 := Lib.hid (own_less o6 BD.out.size)
          clear o6 b6 hX6
          have XD := Lib.hid (XD.out.below BB.out XD.out.lt)
          have VD := Lib.hid (VD.out.below (BB.out.mono (Nat.le_trans HB.out BD.out.size)))
          have BD := Lib.hid (BD.out.trans (BB.out.mono BD.out.size))
          clear BB y0 y2
          have y0 := XD.out.cell 0
          have y2 := XD.out.cell 2
          go_wp2_with fail
          refine hK.out _ _ ⟨y0, y2⟩ (fun hS5 => ?_)
          clear hK K
          try simp only [Act.put, List.setIfInBounds_toArray, List.set_cons_zero, List.set_cons_succ]
          refine wpAnyH_take (i := 6) (oi := ⟨some 4, _, _, _, _, _⟩) (v := ?_) rfl (by kernel_rfl) (by kernel_rfl) (by kernel_rfl) (fun _ _ _ h => h) (Or.inl ⟨by rfl, ?_⟩) hS5 ?_
          rotate_left
          · (intro wS hSw; (try dsimp only at hSw); go_simp); all_goals (with_reducible rfl)
          try simp only [Act.put, List.setIfInBounds_toArray, List.set_cons_zero, List.set_cons_succ]
          refine wpAnyH_done (by kernel_rfl) ?_ _
          have U7 := Lib.hid (HU.out.next HJP.out (by rw [HPJ.out]; exact HFT.out) (by rw [← HP.out]; omega) X6 (by rw [HX6.out, HX5.out, HPJ.out, ← HP.out]; exact (opB_del HDL.out.symm P).symm) rfl O6.out BD.out)
          go_wp2_with fail
          go_roundw
          case rel => exact ⟨j + 1, by omega, by go_num, U7.out⟩
          case measure => simp [intOf]; omega
      | false =>
        have HFT : Hid (fitO m.o = true) := Lib.hid (by rw [fitJ.out, ← HDL.out]; rfl)
        by_cases f5 : 190000 < P.length
        · have D := Lib.hid (NOL.out f5)
          have f5' : (190000 : Int) < P.length := by omega
          go_wp2_with fail
          go_ret2
          exact D.out
        · have f5' : ¬ (190000 : Int) < P.length := by omega
          go_upto_region 10 with fail
          refine wp_region_held_drew (S := (fun w' => w'.cell? ⟨wr.heap.size, 0, none⟩ = some (.string ⟨m.o.key.toArray⟩) ∧ w'.cell? ⟨wr.heap.size, 2, none⟩ = some (.slice m.A m.o.val.length m.c))) (by kernel_rfl) ⟨y0, y2⟩ (fun hS0 => ?_)
          obtain ⟨WD, hWD⟩ : ∃ WD, WD = W1.drew := ⟨_, rfl⟩
          have xe := X1.out
          have oe := O1.out
          have ve := V1.out
          have XD : Hid (Whole WD wr.heap.size 24 #[.string ⟨m.o.key.toArray⟩, .bool m.o.del, .slice m.A m.o.val.length m.c]) := Lib.hid (by rw [hWD]; exact xe)
          have OD : Hid (WD.ownsRow w.heap.size 5 1 (.slice A4 P.length c4) P.length (B8 P)) := Lib.hid (by rw [hWD]; exact O1.out.kept (only_below (Below.refl _ _).drew none) (Classical.em _))
          have VD : Hid (Lies WD B m.A (B8 m.o.val)) := Lib.hid (by rw [hWD]; exact ve)
          have BD : Hid (Below w.heap.size w WD) := Lib.hid (by rw [hWD]; exact B1.out.drew)
          rw [← hWD] at hS0 ⊢
          clear hWD xe oe ve y0 y2
          have y0 := XD.out.cell 0
          have y2 := XD.out.cell 2
          refine wpAnyH_take (i := 0) (oi := ⟨some 56, _, _, _, _, _⟩) (v := ?_) rfl (by kernel_rfl) (by kernel_rfl) (by kernel_rfl) (fun _ _ _ h => h) (Or.inl ⟨by rfl, ?_⟩) hS0 ?_
          rotate_left
          · (intro wS hSw; (try dsimp only at hSw); go_simp); all_goals (with_reducible rfl)
          try simp only [Act.put, List.setIfInBounds_toArray, List.set_cons_zero, List.set_cons_succ]
          refine wpAnyH_take (i := 3) (oi := ⟨some 59, _, _, _, _, _⟩) (v := ?_) rfl (by kernel_rfl) (by kernel_rfl) (by kernel_rfl) (fun _ _ _ h => h) (Or.inl ⟨by rfl, ?_⟩) hS0 ?_
          rotate_left
          · (intro wS hSw; (try dsimp only at hSw); go_simp); all_goals (with_reducible rfl)
          try simp only [Act.put, List.setIfInBounds_toArray, List.set_cons_zero, List.set_cons_succ]
          refine wpAnyH_take (i := 4) (oi := ⟨some 60, _, _, _, _, _⟩) (v := ?_) rfl (by kernel_rfl) (by kernel_rfl) (by kernel_rfl) (fun _ _ _ h => h) (Or.inl ⟨by rfl, ?_⟩) hS0 ?_
          rotate_left
          · (intro wS hSw; (try dsimp only at hSw); go_simp); all_goals (with_reducible rfl)
          try simp only [Act.put, List.setIfInBounds_toArray, List.set_cons_zero, List.set_cons_succ]
          refine wpAnyH_take (i := 6) (oi := ⟨some 62, _, _, _, _, _⟩) (v := ?_) rfl (by kernel_rfl) (by kernel_rfl) (by kernel_rfl) (fun _ _ _ h => h) (Or.inl ⟨by rfl, ?_⟩) hS0 ?_
          rotate_left
          · (intro wS hSw; (try dsimp only at hSw); go_simp); all_goals (with_reducible rfl)
          try simp only [Act.put, List.setIfInBounds_toArray, List.set_cons_zero, List.set_cons_succ]
          refine wpAnyH_take (i := 7) (oi := ⟨some 63, _, _, _, _, _⟩) (v := ?_) rfl (by kernel_rfl) (by kernel_rfl) (by kernel_rfl) (fun _ _ _ h => h) (Or.inl ⟨by rfl, ?_⟩) hS0 ?_
          rotate_left
          · (intro wS hSw; (try dsimp only at hSw); go_simp); all_goals (with_reducible rfl)
          try simp only [Act.put, List.setIfInBounds_toArray, List.set_cons_zero, List.set_cons_succ]
          refine wpAnyH_ready (rs := [1]) (by kernel_rfl) (by simp) ?_
          refine AllReadyH.cons (o := ⟨some 57, _, _, _, _, _⟩) rfl (fun K hK => ?_) AllReadyH.nil
          go_simp
          have BB := Lib.hid ((Below.refl WD.heap.size WD).alloc (Nat.le_refl _) (.cells #[.int .u8 1] 5))
          have LK : Hid (Lies (WD.alloc (.cells #[.int .u8 1] 5)) (WD.heap.size + 1) (some ⟨WD.heap.size, 0, none⟩) (B8 [1])) := Lib.hid (Lies.lit WD 5 [.int .u8 1])
          have OD := Lib.hid (OD.out.alloc (.cells #[.int .u8 1] 5))
          have XD := Lib.hid (XD.out.below BB.out XD.out.lt)
          have VD := Lib.hid (VD.out.below (BB.out.mono (Nat.le_trans HB.out BD.out.size)))
          have BD := Lib.hid (BD.out.trans (BB.out.mono BD.out.size))
          clear BB y0 y2
          have y0 := XD.out.cell 0
          have y2 := XD.out.cell 2
          have HS1 := Lib.hid BD.out.size
          go_wp2_with fail
          refine hK.out _ _ ⟨y0, y2⟩ (fun hS1 => ?_)
          clear hK K
          try simp only [Act.put, List.setIfInBounds_toArray, List.set_cons_zero, List.set_cons_succ]
          refine wpAnyH_ready (rs := [2]) (by kernel_rfl) (by simp) ?_
          refine AllReadyH.cons (o := ⟨some 58, _, _, _, _, _⟩) rfl (fun K hK => ?_) AllReadyH.nil
          refine step_append_own rfl _ _ 22 rfl w.heap.size 5 i0 (.int .u8 0) 1 1 Try.underlying22 HI.out H0.out H1.out H2.out rfl (by omega) (.slice A4 P.length c4) P.length _ (by rfl) OD.out _ _ 1 1 (B8 [1]) (by rfl) LK.out rfl (B8_one _) HR1.out HR2.out HS1.out ?_
          intro v5 w5 o5 b5 g5
          rw [show (1 : Nat) = ([1] : List UInt8).length from rfl, ← B8_append, ← List.length_append] at o5
          obtain ⟨X5, hX5⟩ : ∃ X, X = P ++ [1] := ⟨_, rfl⟩
          rw [← hX5] at o5
          have HX5 := Lib.hid hX5
          have hl5 : X5.length ≤ 300000 := by rw [hX5, List.length_append]; simp; omega
          obtain ⟨A5, c5, rfl, _, _⟩ := own_form o5
          have M5 := Lib.hid (own_lies o5 (Nat.le_refl _))
          have XD := Lib.hid (box_kept XD.out OD.out g5 (by decide))
          have VD := Lib.hid (VD.out.below (b5.mono HB.out))
          have BD := Lib.hid (BD.out.trans b5)
          clear o5 b5 g5 hX5 y0 y2
          have y0 := XD.out.cell 0
          have y2 := XD.out.cell 2
          have HZ5 := Lib.hid BD.out.size
          refine hK.out _ _ ⟨y0, y2⟩ (fun hS2 => ?_)
          clear hK K
          try simp only [Act.put, List.setIfInBounds_toArray, List.set_cons_zero, List.set_cons_succ]
          refine wpAnyH_ready (rs := [5]) (by kernel_rfl) (by simp) ?_
          refine AllReadyH.cons (o := ⟨some 61, _, _, _, _, _⟩) rfl (fun K hK => ?_) AllReadyH.nil
          go_simp
          refine (urshort_any A5 c5 _ X5 _ m.o.key _ rfl M5.out (Nat.le_refl _) (by omega) (by omega)).mono ?_
          rintro e w6 ⟨v6, rfl, o6, b6⟩
          obtain ⟨X6, hX6⟩ : ∃ X, X = X5 ++ be 1 m.o.key.length ++ m.o.key := ⟨_, rfl⟩
          rw [← hX6] at o6
          have HX6 := Lib.hid hX6
          have hl6 : X6.length ≤ 300200 := by rw [hX6]; simp only [List.length_append, be_length]; omega
          obtain ⟨A6, c6, rfl, _, _⟩ := own_form o6
          have M6 := Lib.hid (own_lies o6 (Nat.le_refl _))
          have BB := Lib.hid b6
          have O6 := Lib.hid (own_less o6 BD.out.size)
          clear o6 b6 hX6
          have XD := Lib.hid (XD.out.below BB.out XD.out.lt)
          have VD := Lib.hid (VD.out.below (BB.out.mono (Nat.le_trans HB.out BD.out.size)))
          have BD := Lib.hid (BD.out.trans (BB.out.mono BD.out.size))
          clear BB y0 y2
          have y0 := XD.out.cell 0
          have y2 := XD.out.cell 2
          go_wp2_with fail
          refine hK.out _ _ ⟨y0, y2⟩ (fun hS5 => ?_)
          clear hK K
          try simp only [Act.put, List.setIfInBounds_toArray, List.set_cons_zero, List.set_cons_succ]
          refine wpAnyH_ready (rs := [8]) (by kernel_rfl) (by simp) ?_
          refine AllReadyH.cons (o := ⟨some 64, _, _, _, _, _⟩) rfl (fun K hK => ?_) AllReadyH.nil
          go_simp
          refine (rlong_at A6 c6 _ X6 _ m.A m.c _ m.o.val _ rfl rfl M6.out (VD.out.more (Nat.le_trans HB.out BD.out.size)) (Nat.le_refl _) (by omega)).mono ?_
          rintro e w7 ⟨v7, rfl, o7, b7⟩
          have BB := Lib.hid b7
          have O7 := Lib.hid (own_less o7 BD.out.size)
          clear o7 b7
          have XD := Lib.hid (XD.out.below BB.out XD.out.lt)
          have VD := Lib.hid (VD.out.below (BB.out.mono (Nat.le_trans HB.out BD.out.size)))
          have BD := Lib.hid (BD.out.trans (BB.out.mono BD.out.size))
          clear BB y0 y2
          have y0 := XD.out.cell 0
          have y2 := XD.out.cell 2
          go_wp2_with fail
          refine hK.out _ _ ⟨y0, y2⟩ (fun hS8 => ?_)
          clear hK K
          try simp only [Act.put, List.setIfInBounds_toArray, List.set_cons_zero, List.set_cons_succ]
          refine wpAnyH_take (i := 9) (oi := ⟨some 4, _, _, _, _, _⟩) (v := ?_) rfl (by kernel_rfl) (by kernel_rfl) (by kernel_rfl) (fun _ _ _ h => h) (Or.inl ⟨by rfl, ?_⟩) hS8 ?_
          rotate_left
          · (intro wS hSw; (try dsimp only at hSw); go_simp); all_goals (with_reducible rfl)
          try simp only [Act.put, List.setIfInBounds_toArray, List.set_cons_zero, List.set_cons_succ]
          refine wpAnyH_done (by kernel_rfl) ?_ _
          have U7 := Lib.hid (HU.out.next HJP.out (by rw [HPJ.out]; exact HFT.out) (by rw [← HP.out]; omega) (X6 ++ be 4 m.o.val.length ++ m.o.val) (by rw [HX6.out, HX5.out, HPJ.out, ← HP.out]; exact (opB_put HDL.out.symm P).symm) rfl O7.out BD.out)
          go_wp2_with fail
          go_roundw
          case rel => exact ⟨j + 1, by omega, by go_num, U7.out⟩
          case measure => simp [intOf]; omega
    · obtain rfl : j = l.length := by omega
      have e : (pl l).take l.length = pl l := by rw [← HPL.out, List.take_length]
      have h1 := HU.out.own
      have h2 := HU.out.fit
      rw [e] at h1 h2
      have EP : Hid (P = opsB (pl l)) := Lib.hid (by rw [HP.out, e])
      by_cases f5 : 190000 < P.length
      · have D : Hid (AppU (pl l) w (.returned (.tuple #[.slice none 0 0, .bool false])) wr) := Lib.hid (AppU.no (by unfold unitOk; rw [decide_eq_false (by rw [← EP.out]; omega), Bool.and_false]) HU.out.bel)
        have f5' : (190000 : Int) < P.length := by omega
        clear e h1 h2
        go_wp2_with fail
        go_ret2
        exact D.out
      · have D : Hid (AppU (pl l) w (.returned (.tuple #[.slice A4 P.length c4, .bool true])) wr) := Lib.hid (AppU.yes (by unfold unitOk; rw [h2, decide_eq_true (by rw [← EP.out]; omega)]; rfl) HU.out.bel (by rw [EP.out]; rw [HP.out, e] at *; exact h1))
        have f5' : ¬ (190000 : Int) < P.length := by omega
        clear e h1 h2
        go_wp2_with fail
        go_ret2
        exact D.out
end Go.Proofs.Ytflbjmpbkcjdhaa
