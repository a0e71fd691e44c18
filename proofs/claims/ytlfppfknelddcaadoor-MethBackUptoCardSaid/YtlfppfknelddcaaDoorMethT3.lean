/- Contracts of the reader of package meth: a table. The reader of package meth: one more at the end, said for a region that draws its order. -/
import Derived.Test.YtlfppfknelddcaaDoorOctsL
import Derived.Test.YtlfppfknelddcaaDoorMethT2
import Derived.Test.YtlfppfknelddcaaDoorTabl
import Derived.RegionTactic
namespace Go.Proofs.YtlfppfknelddcaaDoor
section
open Go.RowKit
set_option maxRecDepth 100000
set_option linter.unusedSimpArgs false
set_option linter.unusedVariables false

theorem RAt.below {w w' : World} {g gi gm : Nat} {c i : Int} {st : RS} {vN vS vF vT : Value} {lo hi : Nat} (h : RAt w g gi gm c i st vN vS vF vT lo hi) (hb : Below w.heap.size w w') : RAt w' g gi gm c i st vN vS vF vT lo hi := by
  obtain ⟨a1, a2, a3, a4, a5, a6, ⟨A, cp, e, ht⟩, b1, b2, b3, b4, c1, c2, c3, d1⟩ := h
  have ow : ∀ {e : TypeId} {v : Value} {n : Nat} {xs : List Value}, w.ownsRow (g + 1) e 1 v n xs → w'.ownsRow (g + 1) e 1 v n xs := fun ho => own_same ho (fun k hk => hb.block k (ho.lt k hk).2)
  exact ⟨a1.below hb a1.lt, a2.below hb a2.lt, a3.below hb a3.lt, ow a4, ow a5, ow a6, ⟨A, cp, e, TabS.keep (fun b o hb' => hb.cell (p := ⟨b, o, none⟩) (by show b < w.heap.size; omega)) 8 _ _ _ ht⟩, b1, b2, b3, Nat.le_trans b4 hb.size, c1, c2, c3, d1⟩
/-- another table, and whether one was none -/
theorem RAt.setT {w : World} {g gi gm : Nat} {c i : Int} {st : RS} {vN vS vF vT : Value} {lo hi lo' hi' : Nat} (h : RAt w g gi gm c i st vN vS vF vT lo hi) (l : List Fld) (A : Option Addr) (cp : Nat) (tb : Bool)
    (ht : TabS Held 8 w (fun b => lo' ≤ b ∧ b < hi') l A cp) (h1 : g < lo') (h2 : hi' ≤ w.heap.size) (an : ∀ k, vN.ownBlock = some k → k < lo' ∨ hi' ≤ k) (as_ : ∀ k, vS.ownBlock = some k → k < lo' ∨ hi' ≤ k) (af : ∀ k, vF.ownBlock = some k → k < lo' ∨ hi' ≤ k) :
    RAt ((w.setCell ⟨gm, 5, none⟩ (.slice A l.length cp)).setCell ⟨g, 3, none⟩ (.bool tb)) g gi gm c i { st with p := { st.p with t := l }, tb := tb } vN vS vF (.slice A l.length cp) lo' hi' ∧ Below gi w ((w.setCell ⟨gm, 5, none⟩ (.slice A l.length cp)).setCell ⟨g, 3, none⟩ (.bool tb)) := by
  have l1 := h.l1
  have l2 := h.l2
  have l3 := h.l3
  have keep : ∀ k, k ≠ g → k ≠ gm → ((w.setCell ⟨gm, 5, none⟩ (.slice A l.length cp)).setCell ⟨g, 3, none⟩ (.bool tb)).heap[k]? = w.heap[k]? := fun k h1 h2 => (Below.heap_setCell _ ⟨g, 3, none⟩ _ k h1).trans (Below.heap_setCell w ⟨gm, 5, none⟩ _ k h2)
  have ow : ∀ {e : TypeId} {v : Value} {n : Nat} {xs : List Value}, w.ownsRow (g + 1) e 1 v n xs → ((w.setCell ⟨gm, 5, none⟩ (.slice A l.length cp)).setCell ⟨g, 3, none⟩ (.bool tb)).ownsRow (g + 1) e 1 v n xs := fun ho => own_same ho (fun k hk => keep k (by have := (ho.lt k hk).1; omega) (by have := (ho.lt k hk).1; omega))
  have hb : Below (gi + 1) w ((w.setCell ⟨gm, 5, none⟩ (.slice A l.length cp)).setCell ⟨g, 3, none⟩ (.bool tb)) := ((Below.refl _ w).setCell (p := ⟨gm, 5, none⟩) (by show gi + 1 ≤ gm; omega) _).setCell (p := ⟨g, 3, none⟩) (by show gi + 1 ≤ g; omega) _
  have hrd : Whole (w.setCell ⟨gm, 5, none⟩ (.slice A l.length cp)) g 95 #[.pointer (some ⟨gi, 0, none⟩), .pointer (some ⟨gm, 0, none⟩), .int .u64 (st.fl : Int), .bool st.tb] := (Below.heap_setCell w ⟨gm, 5, none⟩ _ g (by show g ≠ gm; omega)).trans h.rd
  have hm : Whole (w.setCell ⟨gm, 5, none⟩ (.slice A l.length cp)) gm 32 #[.int .i64 c, .int .i64 i, vN, vS, vF, .slice A l.length cp] := h.m.set8 5 _ rfl
  exact ⟨⟨hrd.set8 3 _ rfl, h.in_.below hb (by omega), (Below.heap_setCell _ ⟨g, 3, none⟩ _ gm (by show gm ≠ g; omega)).trans hm, ow h.n, ow h.s, ow h.f, ⟨A, cp, rfl, TabS.keep (fun b o hb' => World.cell?_of_block (a := ⟨b, o, none⟩) (keep b (by omega) (by omega))) 8 _ _ _ ht⟩, l1, l2, h1, by simpa [World.setCell] using h2, an, as_, af, h.fl⟩, hb.mono (by omega)⟩
def ReadsE (g gi gm : Nat) (c i : Int) (st : RS) (w : World) (e : Ending) (w' : World) : Prop := e = .returned (.tuple #[]) ∧ (∃ vN vS vF vT lo hi, RAt w' g gi gm c i st vN vS vF vT lo hi) ∧ Below gi w w'
theorem Reads.ex {g gi gm : Nat} {c i : Int} {st : RS} {lo hi : Nat} {w w' : World} {e : Ending} (h : Reads g gi gm c i st lo hi w e w') : ReadsE g gi gm c i st w e w' := by
  obtain ⟨h1, ⟨vN, vS, vF, vT, h2⟩, h3⟩ := h
  exact ⟨h1, ⟨vN, vS, vF, vT, lo, hi, h2⟩, h3⟩

set_option maxHeartbeats 1000000 in
theorem rtable_f (g gi gm : Nat) (c i : Int) (st : RS) (vN vS vF vT : Value) (lo hi : Nat) (w : World) (h : RAt w g gi gm c i st vN vS vF vT lo hi) (hs : st.b.length ≤ 140737488355328) (htb : st.tb = false) :
    Calls Tryd.prog 64 #[.pointer (some ⟨g, 0, none⟩)] w (ReadsE g gi gm c i { st with b := txtRest 4 st.b, bad := st.bad || txtShort 4 st.b, p := { st.p with t := (parseB (txt 4 st.b)).getD [] }, tb := st.tb || (parseB (txt 4 st.b)).isNone } w) := by
  have d0 : w.cell? ⟨g, 0, none⟩ = some (.pointer (some ⟨gi, 0, none⟩)) := h.rd.cell 0
  obtain ⟨X, hX⟩ : ∃ X, X = txt 4 st.b := ⟨_, rfl⟩
  obtain ⟨R, hR⟩ : ∃ R, R = txtRest 4 st.b := ⟨_, rfl⟩
  obtain ⟨bd, hbd⟩ : ∃ bd, bd = (st.bad || txtShort 4 st.b) := ⟨_, rfl⟩
  have hxl := txt_sub 4 st.b
  rw [← hX] at hxl
  obtain ⟨T, hT⟩ : ∃ T, T = { st with b := txtRest 4 st.b, bad := st.bad || txtShort 4 st.b, p := { st.p with t := (parseB (txt 4 st.b)).getD [] }, tb := st.tb || (parseB (txt 4 st.b)).isNone } := ⟨_, rfl⟩
  rw [← hT]
  rw [← hX, ← hR, ← hbd, htb] at hT
  have HT := Lib.hid hT
  have HX := Lib.hid hX
  have HR := Lib.hid hR
  have HBD := Lib.hid hbd
  have HH := Lib.hid h
  have HIN := Lib.hid h.in_
  have HTB := Lib.hid htb
  clear hX hR hbd hT h htb
  go_enter Tryd.func64, Tryd.ntmps64
  go_wp2_with fail
  refine (in_long gi st.b st.bad w HIN.out hs).mono ?_
  rintro e w1 ⟨v1, rfl, ho1, hin, hg1⟩
  rw [← HX.out] at ho1
  rw [← HR.out, ← HBD.out] at hin
  obtain ⟨r1, r2⟩ := HH.out.read hg1 hin
  obtain ⟨A1, c1, rfl, _, _⟩ := own_form ho1
  have HL1 := Lib.hid (Lies.own ho1 (Nat.le_refl _))
  have HR1 := Lib.hid r1
  have HB1 := Lib.hid r2
  clear ho1 hin hg1 r1 r2
  go_wp2_with fail
  refine (parse_any A1 c1 X w1.heap.size _ HL1.out (Nat.le_refl _) (by unfold maxLen; omega)).mono ?_
  intro e w2 hq
  have hb2 : Below w1.heap.size w1 w2 := by
    rcases hq with ⟨_, _, hb⟩ | ⟨_, _, _, _, _, _, hb⟩ <;> exact hb
  have r2 := HR1.out.below hb2
  have lgi := HR1.out.in_.lt
  have HB2 := Lib.hid (HB1.out.trans (hb2.mono (Nat.le_of_lt lgi)))
  have q1 : w2.drew.cell? ⟨g, 1, none⟩ = some (.pointer (some ⟨gm, 0, none⟩)) := r2.rd.cell 1
  have q3 : w2.drew.cell? ⟨g, 3, none⟩ = some (.bool false) := by
    have : w2.cell? ⟨g, 3, none⟩ = some (.bool st.tb) := r2.rd.cell 3
    rw [HTB.out] at this
    exact this
  have q5 : w2.drew.cell? ⟨gm, 5, none⟩ = some vT := r2.m.cell 5
  have f3 : w2.drew.frozen? ⟨g, 3, none⟩ = false := r2.rd.frozen 3
  have f5 : w2.drew.frozen? ⟨gm, 5, none⟩ = false := r2.m.frozen 5
  have p1 : w2.cell? ⟨g, 1, none⟩ = some (.pointer (some ⟨gm, 0, none⟩)) := q1
  have p3 : w2.cell? ⟨g, 3, none⟩ = some (.bool false) := q3
  have p5 : w2.cell? ⟨gm, 5, none⟩ = some vT := q5
  have pf3 : w2.frozen? ⟨g, 3, none⟩ = false := f3
  have pf5 : w2.frozen? ⟨gm, 5, none⟩ = false := f5
  have hne : gm ≠ g := by have := r2.l2; omega
  rcases hq with ⟨hn, rfl, _⟩ | ⟨l, A2, c2, hn, rfl, ht2, _⟩
  · have D : Hid (ReadsE g gi gm c i T w (.returned (.tuple #[])) ((w2.drew.setCell ⟨gm, 5, none⟩ (.slice none 0 0)).setCell ⟨g, 3, none⟩ (.bool true))) := Lib.hid (by
      rw [HT.out, hn]
      obtain ⟨k1, k2⟩ := r2.drew.setT [] none 0 true (TabS.nil 8 _ _ _ _ (Nat.zero_le _)) (lo' := lo) (hi' := hi) r2.l3 r2.l4 r2.an r2.as_ r2.af
      exact ⟨rfl, ⟨vN, vS, vF, .slice none 0 0, lo, hi, k1⟩, HB2.out.drew.trans k2⟩)
    clear hn hb2 r2
    go_wp2_with fail
    first | go_region_with (fail) | fail
    all_goals
      go_wp2_with fail
      go_end0
      exact D.out
  · have D : Hid (ReadsE g gi gm c i T w (.returned (.tuple #[])) ((w2.drew.setCell ⟨gm, 5, none⟩ (.slice A2 l.length c2)).setCell ⟨g, 3, none⟩ (.bool false))) := Lib.hid (by
      rw [HT.out, hn]
      have z12 := hb2.size
      have lg := HR1.out.rd.lt
      have ob : ∀ {e : TypeId} {v : Value} {n : Nat} {xs : List Value}, w1.ownsRow (g + 1) e 1 v n xs → ∀ k, v.ownBlock = some k → k < w1.heap.size ∨ w2.heap.size ≤ k := fun ho k hk => .inl (ho.lt k hk).2
      obtain ⟨k1, k2⟩ := r2.drew.setT l A2 c2 false (lo' := w1.heap.size) (hi' := w2.heap.size) (TabS.keep (fun b o _ => rfl) 8 _ _ _ ht2) lg (Nat.le_refl _) (ob HR1.out.n) (ob HR1.out.s) (ob HR1.out.f)
      exact ⟨rfl, ⟨vN, vS, vF, _, _, _, k1⟩, HB2.out.drew.trans k2⟩)
    clear hn hb2 r2 ht2
    go_wp2_with fail
    first | go_region_with (fail) | fail
    all_goals
      go_wp2_with fail
      go_end0
      exact D.out

set_option maxHeartbeats 1000000 in
theorem rtable_t (g gi gm : Nat) (c i : Int) (st : RS) (vN vS vF vT : Value) (lo hi : Nat) (w : World) (h : RAt w g gi gm c i st vN vS vF vT lo hi) (hs : st.b.length ≤ 140737488355328) (htb : st.tb = true) :
    Calls Tryd.prog 64 #[.pointer (some ⟨g, 0, none⟩)] w (ReadsE g gi gm c i { st with b := txtRest 4 st.b, bad := st.bad || txtShort 4 st.b, p := { st.p with t := (parseB (txt 4 st.b)).getD [] }, tb := st.tb || (parseB (txt 4 st.b)).isNone } w) := by
  have d0 : w.cell? ⟨g, 0, none⟩ = some (.pointer (some ⟨gi, 0, none⟩)) := h.rd.cell 0
  obtain ⟨X, hX⟩ : ∃ X, X = txt 4 st.b := ⟨_, rfl⟩
  obtain ⟨R, hR⟩ : ∃ R, R = txtRest 4 st.b := ⟨_, rfl⟩
  obtain ⟨bd, hbd⟩ : ∃ bd, bd = (st.bad || txtShort 4 st.b) := ⟨_, rfl⟩
  have hxl := txt_sub 4 st.b
  rw [← hX] at hxl
  obtain ⟨T, hT⟩ : ∃ T, T = { st with b := txtRest 4 st.b, bad := st.bad || txtShort 4 st.b, p := { st.p with t := (parseB (txt 4 st.b)).getD [] }, tb := st.tb || (parseB (txt 4 st.b)).isNone } := ⟨_, rfl⟩
  rw [← hT]
  rw [← hX, ← hR, ← hbd, htb] at hT
  have HT := Lib.hid hT
  have HX := Lib.hid hX
  have HR := Lib.hid hR
  have HBD := Lib.hid hbd
  have HH := Lib.hid h
  have HIN := Lib.hid h.in_
  have HTB := Lib.hid htb
  clear hX hR hbd hT h htb
  go_enter Tryd.func64, Tryd.ntmps64
  go_wp2_with fail
  refine (in_long gi st.b st.bad w HIN.out hs).mono ?_
  rintro e w1 ⟨v1, rfl, ho1, hin, hg1⟩
  rw [← HX.out] at ho1
  rw [← HR.out, ← HBD.out] at hin
  obtain ⟨r1, r2⟩ := HH.out.read hg1 hin
  obtain ⟨A1, c1, rfl, _, _⟩ := own_form ho1
  have HL1 := Lib.hid (Lies.own ho1 (Nat.le_refl _))
  have HR1 := Lib.hid r1
  have HB1 := Lib.hid r2
  clear ho1 hin hg1 r1 r2
  go_wp2_with fail
  refine (parse_any A1 c1 X w1.heap.size _ HL1.out (Nat.le_refl _) (by unfold maxLen; omega)).mono ?_
  intro e w2 hq
  have hb2 : Below w1.heap.size w1 w2 := by
    rcases hq with ⟨_, _, hb⟩ | ⟨_, _, _, _, _, _, hb⟩ <;> exact hb
  have r2 := HR1.out.below hb2
  have lgi := HR1.out.in_.lt
  have HB2 := Lib.hid (HB1.out.trans (hb2.mono (Nat.le_of_lt lgi)))
  have q1 : w2.drew.cell? ⟨g, 1, none⟩ = some (.pointer (some ⟨gm, 0, none⟩)) := r2.rd.cell 1
  have q3 : w2.drew.cell? ⟨g, 3, none⟩ = some (.bool true) := by
    have : w2.cell? ⟨g, 3, none⟩ = some (.bool st.tb) := r2.rd.cell 3
    rw [HTB.out] at this
    exact this
  have q5 : w2.drew.cell? ⟨gm, 5, none⟩ = some vT := r2.m.cell 5
  have f3 : w2.drew.frozen? ⟨g, 3, none⟩ = false := r2.rd.frozen 3
  have f5 : w2.drew.frozen? ⟨gm, 5, none⟩ = false := r2.m.frozen 5
  have p1 : w2.cell? ⟨g, 1, none⟩ = some (.pointer (some ⟨gm, 0, none⟩)) := q1
  have p3 : w2.cell? ⟨g, 3, none⟩ = some (.bool true) := q3
  have p5 : w2.cell? ⟨gm, 5, none⟩ = some vT := q5
  have pf3 : w2.frozen? ⟨g, 3, none⟩ = false := f3
  have pf5 : w2.frozen? ⟨gm, 5, none⟩ = false := f5
  have hne : gm ≠ g := by have := r2.l2; omega
  rcases hq with ⟨hn, rfl, _⟩ | ⟨l, A2, c2, hn, rfl, ht2, _⟩
  · have D : Hid (ReadsE g gi gm c i T w (.returned (.tuple #[])) ((w2.drew.setCell ⟨gm, 5, none⟩ (.slice none 0 0)).setCell ⟨g, 3, none⟩ (.bool true))) := Lib.hid (by
      rw [HT.out, hn]
      obtain ⟨k1, k2⟩ := r2.drew.setT [] none 0 true (TabS.nil 8 _ _ _ _ (Nat.zero_le _)) (lo' := lo) (hi' := hi) r2.l3 r2.l4 r2.an r2.as_ r2.af
      exact ⟨rfl, ⟨vN, vS, vF, .slice none 0 0, lo, hi, k1⟩, HB2.out.drew.trans k2⟩)
    clear hn hb2 r2
    go_wp2_with fail
    first | go_region_with (fail) | fail
    all_goals
      go_wp2_with fail
      go_end0
      exact D.out
  · have D : Hid (ReadsE g gi gm c i T w (.returned (.tuple #[])) ((w2.drew.setCell ⟨gm, 5, none⟩ (.slice A2 l.length c2)).setCell ⟨g, 3, none⟩ (.bool true))) := Lib.hid (by
      rw [HT.out, hn]
      have z12 := hb2.size
      have lg := HR1.out.rd.lt
      have ob : ∀ {e : TypeId} {v : Value} {n : Nat} {xs : List Value}, w1.ownsRow (g + 1) e 1 v n xs → ∀ k, v.ownBlock = some k → k < w1.heap.size ∨ w2.heap.size ≤ k := fun ho k hk => .inl (ho.lt k hk).2
      obtain ⟨k1, k2⟩ := r2.drew.setT l A2 c2 true (lo' := w1.heap.size) (hi' := w2.heap.size) (TabS.keep (fun b o _ => rfl) 8 _ _ _ ht2) lg (Nat.le_refl _) (ob HR1.out.n) (ob HR1.out.s) (ob HR1.out.f)
      exact ⟨rfl, ⟨vN, vS, vF, _, _, _, k1⟩, HB2.out.drew.trans k2⟩)
    clear hn hb2 r2 ht2
    go_wp2_with fail
    first | go_region_with (fail) | fail
    all_goals
      go_wp2_with fail
      go_end0
      exact D.out
theorem rtable_any (g gi gm : Nat) (c i : Int) (st : RS) (vN vS vF vT : Value) (lo hi : Nat) (w : World) (h : RAt w g gi gm c i st vN vS vF vT lo hi) (hs : st.b.length ≤ 140737488355328) :
    Calls Tryd.prog 64 #[.pointer (some ⟨g, 0, none⟩)] w (ReadsE g gi gm c i (rstep 116 0 st) w) := by
  have e : rstep 116 0 st = { st with b := txtRest 4 st.b, bad := st.bad || txtShort 4 st.b, p := { st.p with t := (parseB (txt 4 st.b)).getD [] }, tb := st.tb || (parseB (txt 4 st.b)).isNone } := by
    unfold rstep
    rw [if_neg (by decide), if_neg (by decide), if_neg (by decide), if_pos rfl]
  rw [e]
  cases htb : st.tb with
  | false =>
    have := rtable_f g gi gm c i st vN vS vF vT lo hi w h hs htb
    rw [htb] at this
    exact this
  | true =>
    have := rtable_t g gi gm c i st vN vS vF vT lo hi w h hs htb
    rw [htb] at this
    exact this
end
section
open Go.RowKit
set_option maxRecDepth 100000
set_option linter.unusedSimpArgs false
set_option linter.unusedVariables false

def RS0 (g gi gm : Nat) (w : World) : Prop := w.cell? ⟨g, 0, none⟩ = some (.pointer (some ⟨gi, 0, none⟩)) ∧ w.cell? ⟨g, 1, none⟩ = some (.pointer (some ⟨gm, 0, none⟩))
structure Adds (g gi gm off : Nat) (ety : TypeId) (v : Value) (n : Nat) (xs : List Value) (x : Value) (w1 : World) (D : World → Prop) : Prop where
  s1 : RS0 g gi gm w1
  l1 : w1.cell? ⟨gm, off, none⟩ = some v
  sA : RS0 g gi gm (w1.alloc (.cells #[x] ety))
  lA : (w1.alloc (.cells #[x] ety)).cell? ⟨gm, off, none⟩ = some v
  own : (w1.alloc (.cells #[x] ety)).ownsRow (g + 1) ety 1 v n xs
  lies : Lies (w1.alloc (.cells #[x] ety)) (w1.heap.size + 1) (some ⟨w1.heap.size, 0, none⟩) [x]
  size : g + 1 ≤ (w1.alloc (.cells #[x] ety)).heap.size
  s3 : ∀ w3, (w1.alloc (.cells #[x] ety)).grownBy w3 v.ownBlock → RS0 g gi gm w3 ∧ w3.frozen? ⟨gm, off, none⟩ = false ∧ w3.cell? ⟨gm, off, none⟩ = some v
  s4 : ∀ (w3 : World) (u : Value), RS0 g gi gm w3 → RS0 g gi gm (w3.setCell ⟨gm, off, none⟩ u)
  done : ∀ (w3 : World) (A3 : Option Addr) (c3 : Nat), w3.ownsRow (g + 1) ety 1 (.slice A3 (n + 1) c3) (n + 1) (xs ++ [x]) → (w1.alloc (.cells #[x] ety)).grownBy w3 v.ownBlock → ((Value.slice A3 (n + 1) c3).ownBlock = v.ownBlock ∨ (Value.slice A3 (n + 1) c3).ownBlock = some (w1.alloc (.cells #[x] ety)).heap.size) → D (w3.setCell ⟨gm, off, none⟩ (.slice A3 (n + 1) c3))
theorem RAt.rs0 {w : World} {g gi gm : Nat} {c i : Int} {st : RS} {vN vS vF vT : Value} {lo hi : Nat} (h : RAt w g gi gm c i st vN vS vF vT lo hi) : RS0 g gi gm w := ⟨h.rd.cell 0, h.rd.cell 1⟩
theorem adds_n {w w1 : World} {g gi gm : Nat} {c i : Int} {st : RS} {vS vF vT : Value} {lo hi n cX : Nat} {AX : Option Addr} (r : RAt w1 g gi gm c i st (.slice AX n cX) vS vF vT lo hi) (hn : n = st.p.n.length) (hb : Below gi w w1) (x : Nat) :
    Adds g gi gm 2 27 (.slice AX n cX) n (cellsN st.p.n) (Value.int .u64 (x : Int)) w1 (fun w' => ReadsE g gi gm c i { st with p := st.p.app (pN x) } w (.returned (.tuple #[])) w') := by
  have ha : Below w1.heap.size w1 (w1.alloc (.cells #[Value.int .u64 (x : Int)] 27)) := (Below.refl _ _).alloc (Nat.le_refl _) _
  have hs : (w1.alloc (.cells #[Value.int .u64 (x : Int)] 27)).heap.size = w1.heap.size + 1 := by simp
  have rA := r.below ha
  have lg := r.rd.lt
  have l2 := r.l2
  have hown : ∀ k, (Value.slice AX n cX).ownBlock = some k → g + 1 ≤ k := fun k hk => (r.n.lt k hk).1
  refine ⟨r.rs0, r.m.cell 2, rA.rs0, rA.m.cell 2, by rw [hn]; exact hn ▸ rA.n, Lies.one w1 27 _, by omega, fun w3 hg => ?_, fun w3 u hu => ?_, fun w3 A3 c3 g1 g2 g3 => ?_⟩
  · obtain ⟨q1, q2⟩ := radd_mid r ha hg hown
    exact ⟨⟨q1.cell 0, q1.cell 1⟩, q2.frozen 2, q2.cell 2⟩
  · have hne : gm ≠ g := by omega
    exact ⟨(World.cell?_setCell_far w3 ⟨gm, 2, none⟩ ⟨g, 0, none⟩ u hne).trans hu.1, (World.cell?_setCell_far w3 ⟨gm, 2, none⟩ ⟨g, 1, none⟩ u hne).trans hu.2⟩
  · subst hn
    obtain ⟨k1, k2⟩ := radd_n (x := x) r ha g1 g2 g3
    exact ⟨rfl, ⟨_, _, _, _, _, _, k1⟩, hb.trans k2⟩
theorem adds_s {w w1 : World} {g gi gm : Nat} {c i : Int} {st : RS} {vN vF vT : Value} {lo hi n cX : Nat} {AX : Option Addr} (r : RAt w1 g gi gm c i st vN (.slice AX n cX) vF vT lo hi) (hn : n = st.p.s.length) (hb : Below gi w w1) (x : List UInt8) :
    Adds g gi gm 3 9 (.slice AX n cX) n (cellsS st.p.s) (St x) w1 (fun w' => ReadsE g gi gm c i { st with p := st.p.app (pS x) } w (.returned (.tuple #[])) w') := by
  have ha : Below w1.heap.size w1 (w1.alloc (.cells #[St x] 9)) := (Below.refl _ _).alloc (Nat.le_refl _) _
  have hs : (w1.alloc (.cells #[St x] 9)).heap.size = w1.heap.size + 1 := by simp
  have rA := r.below ha
  have lg := r.rd.lt
  have l2 := r.l2
  have hown : ∀ k, (Value.slice AX n cX).ownBlock = some k → g + 1 ≤ k := fun k hk => (r.s.lt k hk).1
  refine ⟨r.rs0, r.m.cell 3, rA.rs0, rA.m.cell 3, by rw [hn]; exact hn ▸ rA.s, Lies.one w1 9 _, by omega, fun w3 hg => ?_, fun w3 u hu => ?_, fun w3 A3 c3 g1 g2 g3 => ?_⟩
  · obtain ⟨q1, q2⟩ := radd_mid r ha hg hown
    exact ⟨⟨q1.cell 0, q1.cell 1⟩, q2.frozen 3, q2.cell 3⟩
  · have hne : gm ≠ g := by omega
    exact ⟨(World.cell?_setCell_far w3 ⟨gm, 3, none⟩ ⟨g, 0, none⟩ u hne).trans hu.1, (World.cell?_setCell_far w3 ⟨gm, 3, none⟩ ⟨g, 1, none⟩ u hne).trans hu.2⟩
  · subst hn
    obtain ⟨k1, k2⟩ := radd_s (x := x) r ha g1 g2 g3
    exact ⟨rfl, ⟨_, _, _, _, _, _, k1⟩, hb.trans k2⟩
end
end Go.Proofs.YtlfppfknelddcaaDoor
