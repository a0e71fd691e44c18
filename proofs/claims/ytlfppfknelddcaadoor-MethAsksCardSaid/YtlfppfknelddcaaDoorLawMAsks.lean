/- The law on what a method may not be: its walk. -/
import Derived.Test.YtlfppfknelddcaaDoorMethY
namespace Go.Proofs.YtlfppfknelddcaaDoor
open Go.RowKit
set_option maxRecDepth 100000
set_option linter.unusedSimpArgs false
set_option linter.unusedVariables false

theorem row_form {c i : Int} {L : List UInt8} (h : ((c, i, L) : FRow) ∈ formRows) : formB c i = some L := by
  unfold formB
  exact formF_some rows_apart h rfl rfl
theorem not_ok {c i : Int} {L : List UInt8} {q : Parts} (hf : formB c i = some L) (h : okP L q = false) : okM c i q = false := by
  unfold okM
  rw [hf]
  exact h
theorem no_n {L : List UInt8} {q : Parts} (h : q.n.length ≠ cN L) : okP L q = false := by
  unfold okP askB
  rw [decide_eq_false h]
  simp
theorem no_s {L : List UInt8} {q : Parts} (h : q.s.length ≠ cS L) : okP L q = false := by
  unfold okP askB
  rw [decide_eq_false h]
  simp
theorem no_f {L : List UInt8} {q : Parts} (h : q.f.length ≠ cF L) : okP L q = false := by
  unfold okP askB
  rw [decide_eq_false h]
  simp
theorem no_t {L : List UInt8} {q : Parts} (h : L.count 116 = 0) (ht : q.t ≠ []) : okP L q = false := by
  unfold okP askB
  rw [h, show q.t.isEmpty = false from by cases hq : q.t with | nil => exact absurd hq ht | cons _ _ => rfl]
  simp
theorem no_two {L : List UInt8} {q : Parts} {v : Nat} {r : List Nat} (h0 : L[0]? = some 50) (hq : q.n = v :: r) (hv : 65536 ≤ v) : okP L q = false := by
  cases L with
  | nil => cases h0
  | cons ch ls =>
    have e : ch = 50 := Option.some.inj h0
    subst e
    unfold okP badP
    rw [hq]
    have e : 256 ^ wd 50 = 65536 := by decide
    rw [if_neg (by decide), if_neg (by decide), if_neg (by decide), if_neg (by decide), List.headD_cons, e, decide_eq_true hv]
    simp
theorem sl_own {w : World} {b e : Nat} {n : Nat} {v : Value} {xs : List Value} (h : w.ownsRow b e 1 v n xs) : SlAt w w.heap.size v n xs := by
  obtain ⟨A, c, rfl, h1, h2⟩ := own_form h
  exact ⟨A, c, rfl, h1, h2, Lies.own h (Nat.le_refl _)⟩
/-- a row of one that is made -/
theorem own_one (w : World) (e : TypeId) (u : Value) (base : Nat) (hb : base ≤ w.heap.size) : (w.alloc (.cells #[u] e)).ownsRow base e 1 (.slice (some ⟨w.heap.size, 0, none⟩) 1 1) 1 [u] :=
  ⟨rfl, .inr ⟨w.heap.size, 1, #[u], rfl, hb, heap_alloc_new w _, Nat.le_refl _, by decide, rfl, rfl⟩⟩
/-- the first left off -/
theorem sl_tail {w : World} {B : Nat} {A : Option Addr} {n c : Nat} {x : Value} {xs : List Value} (hl : Lies w B A (x :: xs)) (hn : xs.length = n) (hc : n + 1 ≤ c) (hm : c ≤ maxLen) : SlAt w B (.slice (if c = 1 then A else A.map (·.add 1)) n (c - 1)) n xs := by
  have h := hl.drop 1 c (by simp) (by simp; omega)
  exact ⟨_, _, rfl, by omega, by omega, h⟩
theorem own_kind {w : World} {g b n e sz : Nat} {t : TypeId} {v : Value} {cs : Array Value} {xs : List Value} (hw : Whole w g t cs) (h : w.ownsRow b e sz v n xs) (hne : t ≠ e) : some g ≠ v.ownBlock := by
  intro e1
  rcases h.2 with ⟨rfl, _⟩ | ⟨g1, c1, u1, rfl, _, hg1, _⟩
  · cases e1
  · have e2 : g = g1 := Option.some.inj e1
    subst e2
    have hw2 : w.heap[g]? = _ := hw
    rw [hg1] at hw2
    injection hw2 with hw2
    injection hw2 with _ hw2
    exact hne hw2.symm
theorem own_set2 {w : World} {g b n e sz k : Nat} {t : TypeId} {v u : Value} {cs : Array Value} {xs : List Value} (h : w.ownsRow b e sz v n xs) (hw : Whole w g t cs) (hne : t ≠ e) : (w.setCell ⟨g, k, none⟩ u).ownsRow b e sz v n xs :=
  h.kept (only_set (only_refl w (some g)) k u) (by
    right
    intro e1
    exact own_kind hw h hne e1.symm)
/-- what stands ahead of the asking -/
structure AskAt (w wx : World) (g : Nat) (c i : Int) (q : Parts) (vN vS vF vT : Value) : Prop where
  ms : Whole wx g 32 #[.int .i64 c, .int .i64 i, vN, vS, vF, vT]
  bel : Below w.heap.size w wx
  at_ : PartsAt wx wx.heap.size q vN vS vF vT
  no : okM c i q = false
  fine : Fine q
theorem vfield_at (w : World) : TbAt (w.alloc (.cells #[.string ⟨#[120]⟩, .int .u8 86, .int .i64 0, .string ⟨#[]⟩, .slice none 0 0] 50)) (w.heap.size + 1) (.slice (some ⟨w.heap.size, 0, none⟩) 1 1) [.mk [120] 86 0 [] []] := by
  refine ⟨some ⟨w.heap.size, 0, none⟩, 1, 1, rfl, Nat.le_refl _, by decide, cellsF (.slice none 0 0) (.mk [120] 86 0 [] []), ?_, ?_⟩
  · exact Lies.lit w 50 (cellsF (.slice none 0 0) (.mk [120] 86 0 [] []))
  · exact ⟨none, 0, [], rfl, held_lit _ _ _ _ _ (by decide) (by decide) (by decide), TabS.nil _ _ _ _ _ (Nat.zero_le _), rfl⟩
theorem formed_nil (w : World) : Calls Tryd.prog 49 #[.slice none 0 0, .int .i64 1] w fun e w' => e = .returned (.bool true) ∧ w' = w := by
  go_enter Tryd.func49, Tryd.ntmps49
  go_wp2_with fail
  go_loopw [5] (fun vi wr => vi = .int .i64 0 ∧ wr = w) (fun _ _ => 0)
  case atStart => exact ⟨rfl, rfl⟩
  case round =>
    obtain ⟨rfl, hwr⟩ := hrel
    subst wr
    go_wp2_with fail
    go_ret
    exact ⟨rfl, rfl⟩
theorem weight_nil (w : World) : Calls Tryd.prog 50 #[.slice none 0 0, .int .i64 1] w fun e w' => e = .returned (.int .i64 0) ∧ w' = w := by
  go_enter Tryd.func50, Tryd.ntmps50
  go_wp2_with fail
  go_loopw [5, 6] (fun vn vi wr => vn = .int .i64 0 ∧ vi = .int .i64 0 ∧ wr = w) (fun _ _ _ => 0)
  case atStart => exact ⟨rfl, rfl, rfl⟩
  case round =>
    obtain ⟨rfl, rfl, hwr⟩ := hrel
    subst wr
    go_wp2_with fail
    go_ret
    exact ⟨rfl, rfl⟩
theorem nil_ok (w : World) : Calls Tryd.prog 36 #[.slice none 0 0] w fun e w' => e = .returned (.bool true) ∧ Below w.heap.size w w' := by
  go_enter Tryd.func36, Tryd.ntmps36
  go_wp2_with fail
  refine (formed_nil _).mono ?_
  rintro e w1 ⟨rfl, rfl⟩
  go_wp2_with fail
  refine (weight_nil _).mono ?_
  rintro e w1 ⟨rfl, rfl⟩
  go_wp2_with fail
  go_ret
  exact ⟨rfl, Below.refl _ _⟩

set_option maxHeartbeats 8000000 in
theorem masks_any (x f k : Int) (ln : List Nat) (ls : List (List UInt8)) (AN AS : Option Addr) (cN_ cS_ : Nat) (w : World)
    (hnc : ln.length ≤ cN_) (hnm : cN_ ≤ maxLen) (hln : Lies w w.heap.size AN (cellsN ln)) (hn64 : ∀ v ∈ ln, v < 18446744073709551616) (hsc : ls.length ≤ cS_) (hsm : cS_ ≤ maxLen) (hls : Lies w w.heap.size AS (cellsS ls)) :
    Calls Tryd.prog 6 #[.int .i64 x, .slice AN ln.length cN_, .slice AS ls.length cS_, .int .i64 f, .int .i64 k] w fun e w' => e = .returned (.bool true) ∧ Below w.heap.size w w' := by
  by_cases h30 : (30 : Int) < (ls.length : Int)
  · go_enter Tryd.func6, Tryd.ntmps6
    go_wp2_with fail
    refine (awake4_any _).mono ?_
    rintro e w1 ⟨rfl, hb1⟩
    have B1 := Lib.hid hb1
    clear hb1
    go_wp2_with fail
    go_ret
    exact ⟨rfl, B1.out⟩
  have HT0 : ∀ w', Below w.heap.size w w' → Calls Tryd.prog 36 #[.slice none ([] : List Fld).length 0] w' fun e w'' => e = .returned (.bool true) ∧ Below w'.heap.size w' w'' := fun w' _ => nil_ok w'
  have hmade := made_any x f ln ls AN AS none cN_ cS_ 0 [] 0 true w hln hnc hnm hn64 hls hsc hsm (TabS.nil _ _ _ _ _ (Nat.zero_le _)) okB_nil.symm HT0
  obtain ⟨K, hK, _, hKe⟩ := mask_is k 7 3 (by omega) rfl
  simp only [Nat.reducePow] at hK
  have HM := Lib.hid hmade
  clear hmade HT0 hln hls hn64
  go_enter Tryd.func6, Tryd.ntmps6
  go_wp2_with fail
  refine HM.out.mono ?_
  rintro e w1 ⟨c, i, L, p, g, vN, vS, vF, vT, hrow, rfl, hmo, hgg, hma, hts⟩
  obtain ⟨hpt, rfl⟩ : p.t = [] ∧ vT = .slice none 0 0 := by
    rcases hts with h | ⟨h1, h2, h3, h4⟩
    · exact h
    · exact ⟨h1, h4⟩
  obtain ⟨⟨hc0, hc1⟩, ⟨hi0, hi1⟩, hLl, hLk, _, _⟩ := forms_good _ hrow
  have hfo := row_form hrow
  replace hLl : L.length ≤ 20 := hLl
  replace hc0 : 0 ≤ c := hc0
  replace hc1 : c < 256 := hc1
  replace hi0 : 0 ≤ i := hi0
  replace hi1 : i < 256 := hi1
  replace hLk : ∀ ch ∈ L, okL ch := hLk
  have hform : formV c i = .tuple #[.string ⟨L.toArray⟩, .bool true] := by
    unfold formV
    rw [hfo]
  obtain ⟨An, kn, rfl, hn1, hn2⟩ := own_form hma.n
  obtain ⟨As, ks, rfl, hs1, hs2⟩ := own_form hma.s
  obtain ⟨Af, kf, rfl, hf1, hf2⟩ := own_form hma.f
  have hca := c_all L
  have hlenN : p.n.length ≤ 255 := by have := hmo.asked.n; omega
  have hlenS : p.s.length ≤ 255 := by have := hmo.asked.s; omega
  have hlenF : p.f.length ≤ 255 := by have := hmo.asked.f; omega
  obtain ⟨w2, hw2⟩ : ∃ w2, w2 = w1.alloc (.cells #[.int .i64 c, .int .i64 i, .slice An p.n.length kn, .slice As p.s.length ks, .slice Af p.f.length kf, .slice none 0 0] 32) := ⟨_, rfl⟩
  have M2 : Hid (Whole w2 w1.heap.size 32 #[.int .i64 c, .int .i64 i, .slice An p.n.length kn, .slice As p.s.length ks, .slice Af p.f.length kf, .slice none 0 0]) := Lib.hid (by rw [hw2]; exact Whole.new _ _ _)
  have N2 : Hid (w2.ownsRow (g + 1) 27 1 (.slice An p.n.length kn) p.n.length (cellsN p.n)) := Lib.hid (by rw [hw2]; exact hma.n.alloc _)
  have S2 : Hid (w2.ownsRow (g + 1) 9 1 (.slice As p.s.length ks) p.s.length (cellsS p.s)) := Lib.hid (by rw [hw2]; exact hma.s.alloc _)
  have F2 : Hid (w2.ownsRow (g + 1) 4 1 (.slice Af p.f.length kf) p.f.length (cellsB p.f)) := Lib.hid (by rw [hw2]; exact hma.f.alloc _)
  have B2 : Hid (Below w.heap.size w w2) := Lib.hid (by rw [hw2]; exact hma.bel.alloc hma.bel.size _)
  have hs2' : w2.heap.size = w1.heap.size + 1 := by rw [hw2]; simp
  have hg1 : g < w1.heap.size := hma.ms.lt
  have k0 : w2.cell? ⟨w1.heap.size, 0, none⟩ = some (.int .i64 c) := M2.out.cell 0
  have k1 : w2.cell? ⟨w1.heap.size, 1, none⟩ = some (.int .i64 i) := M2.out.cell 1
  have HW2 := Lib.hid hw2
  have MO := Lib.hid hmo
  have HFO := Lib.hid hfo
  have HS2 := Lib.hid hs2'
  have HG1 := Lib.hid hg1
  have HLK := Lib.hid hLk
  have HPT := Lib.hid hpt
  have HGG := Lib.hid hgg
  obtain ⟨gm, hgm⟩ : ∃ gm, gm = w1.heap.size := ⟨_, rfl⟩
  rw [← hgm] at M2 k0 k1
  have HGM := Lib.hid hgm
  have c2 : w2.cell? ⟨gm, 2, none⟩ = some (.slice An p.n.length kn) := M2.out.cell 2
  have c3 : w2.cell? ⟨gm, 3, none⟩ = some (.slice As p.s.length ks) := M2.out.cell 3
  have c4 : w2.cell? ⟨gm, 4, none⟩ = some (.slice Af p.f.length kf) := M2.out.cell 4
  have c5 : w2.cell? ⟨gm, 5, none⟩ = some (.slice none 0 0) := M2.out.cell 5
  have z2 := M2.out.frozen 2
  have z3 := M2.out.frozen 3
  have z4 := M2.out.frozen 4
  have z5 := M2.out.frozen 5
  rw [hw2, hgm] at k0 k1
  clear hw2 hpt hts hma hmo hfo hs2' hg1 hLk hgm hrow
  go_wp2_with fail
  rw [← HW2.out, ← HGM.out]
  refine (rform_any c i _).mono ?_
  rintro e w' ⟨rfl, rfl⟩
  rw [hform]
  clear k0 k1 hform
  have hgz : gm < w2.heap.size := M2.out.lt
  rcases (show K = 0 ∨ K = 1 ∨ K = 2 ∨ K = 3 ∨ K = 4 ∨ K = 5 ∨ K = 6 ∨ K = 7 by omega) with rfl | rfl | rfl | rfl | rfl | rfl | rfl | rfl
  · obtain ⟨i0, hi, hz0, hz1, hz2⟩ := info_parts nums_info
    have HI := Lib.hid hi
    have G0 := Lib.hid hz0
    have G1 := Lib.hid hz1
    have G2 := Lib.hid hz2
    clear hi hz0 hz1 hz2
    have hsA : p.n.length + 1 ≤ maxLen := by unfold maxLen; omega
    have hsB : (p.n.length + 1) * 8 ≤ 140737488355328 := by omega
    have KM : Hid (∀ w7 (o : Obj), (w2.alloc o).grownBy w7 (Value.slice An p.n.length kn).ownBlock → Whole w7 gm 32 #[.int .i64 c, .int .i64 i, .slice An p.n.length kn, .slice As p.s.length ks, .slice Af p.f.length kf, .slice none 0 0]) := Lib.hid (fun w7 o h => (M2.out.alloc o).grown h (own_kind M2.out N2.out (by decide)))
    have D : Hid (∀ (w7 : World) (v7 : Value) (o : Obj), w7.ownsRow (g + 1) 27 1 v7 (p.n.length + 1) (cellsN p.n ++ [.int .u64 1]) → (w2.alloc o).grownBy w7 (Value.slice An p.n.length kn).ownBlock → ∃ q xN xS xF xT, AskAt w (w7.setCell ⟨gm, 2, none⟩ v7) gm c i q xN xS xF xT) := Lib.hid (fun w7 v7 o ho hgw => by
      have hO : w7.ownsRow (g + 1) 27 1 v7 (p.n ++ [1]).length (cellsN (p.n ++ [1])) := by
        have e : cellsN (p.n ++ [1]) = cellsN p.n ++ [.int .u64 1] := by simp [cellsN, St]
        rw [e, List.length_append]
        exact ho
      have hz7 : w2.heap.size ≤ w7.heap.size := Nat.le_trans (by simp) hgw.size
      have hgg := HGG.out
      have hg1 := HG1.out
      have hge := HGM.out
      have hse : (w7.setCell ⟨gm, 2, none⟩ v7).heap.size = w7.heap.size := by simp [World.setCell]
      have hb7 : Below w.heap.size w w7 := ((B2.out.alloc B2.out.size o).grown hgw (Nat.le_trans B2.out.size (by simp)) (fun k hk => by have := (N2.out.lt k hk).1; omega))
      refine ⟨{ p with n := p.n ++ [1] }, _, _, _, _, (KM.out w7 o hgw).put 2 v7, hb7.setCell (p := ⟨gm, 2, none⟩) (show w.heap.size ≤ gm by omega) _, ⟨sl_own (own_set2 hO (KM.out w7 o hgw) (by decide)), sl_own (own_set2 ((S2.out.alloc o).kept hgw (own_types S2.out N2.out (by decide))) (KM.out w7 o hgw) (by decide)), sl_own (own_set2 ((F2.out.alloc o).kept hgw (own_types F2.out N2.out (by decide))) (KM.out w7 o hgw) (by decide)), by rw [show (Parts.t { p with n := p.n ++ [1] }) = [] from HPT.out]; exact TbAt.nil _ _⟩, not_ok HFO.out (no_n (by
        show (p.n ++ [1]).length ≠ _
        rw [List.length_append, MO.out.asked.n]
        simp)), ?_⟩
      exact ⟨MO.out.fine.1, fun x hx => by rcases List.mem_append.1 hx with h | h; exact MO.out.fine.2 x h; rw [List.mem_singleton] at h; omega⟩)
    go_upto_region 34 with (at_builtin; refine wpList_append_apart rfl _ _ 28 rfl (g + 1) 27 i0 (.int .u64 0) 1 8 Tryd.underlying28 HI.out G0.out G1.out G2.out rfl (by omega) _ p.n.length (cellsN p.n) rfl (N2.out.alloc _) _ _ 1 1 _ rfl (Lies.one w2 27 _) rfl (fun u hu => by rw [List.mem_singleton] at hu; subst hu; rfl) hsA hsB (by have := HG1.out; have := HS2.out; simp; omega) ?_; intro v7 w7 hown7 hg7; obtain ⟨A7, k7, rfl, _, _⟩ := own_form hown7; have HO7 := Lib.hid hown7; have HG7 := Lib.hid hg7; have e3 := (KM.out _ _ hg7).cell 2; have y3 := (KM.out _ _ hg7).frozen 2; clear hown7 hg7)
    obtain ⟨q, xN, xS, xF, xT, hax⟩ := D.out _ _ _ HO7.out HG7.out
    obtain ⟨wx, hwx⟩ : ∃ wx, wx = w7.setCell ⟨gm, 2, none⟩ (.slice A7 (p.n.length + 1) k7) := ⟨_, rfl⟩
    rw [← hwx] at hax ⊢
    have AX := Lib.hid hax
    clear hax hwx e3 y3
    obtain ⟨wb, hwb⟩ : ∃ wb, wb = wx.alloc (.cells #[.int .u8 1] 5) := ⟨_, rfl⟩
    have hbb : Below wx.heap.size wx wb := by rw [hwb]; exact (Below.refl _ _).alloc (Nat.le_refl _) _
    have hsb : wb.heap.size = wx.heap.size + 1 := by rw [hwb]; simp
    have LB : Hid (Lies wb (wx.heap.size + 1) (some ⟨wx.heap.size, 0, none⟩) (B8 [1])) := Lib.hid (by rw [hwb]; exact Lies.one wx 5 (.int .u8 1))
    have MB := AX.out.ms.below hbb AX.out.ms.lt
    have PB := Lib.hid ((AX.out.at_.below hbb).more (show wx.heap.size ≤ wx.heap.size + 1 by omega))
    have BB := Lib.hid (AX.out.bel.trans (hbb.mono AX.out.bel.size))
    obtain ⟨XN, qn, yn, rfl⟩ : ∃ A n c, xN = .slice A n c := by obtain ⟨A, c, h, _⟩ := AX.out.at_.n; exact ⟨_, _, _, h⟩
    obtain ⟨XS, qs, ys, rfl⟩ : ∃ A n c, xS = .slice A n c := by obtain ⟨A, c, h, _⟩ := AX.out.at_.s; exact ⟨_, _, _, h⟩
    obtain ⟨XF, qf, yf, rfl⟩ : ∃ A n c, xF = .slice A n c := by obtain ⟨A, c, h, _⟩ := AX.out.at_.f; exact ⟨_, _, _, h⟩
    obtain ⟨XT, qt, yt, rfl⟩ : ∃ A n c, xT = .slice A n c := by obtain ⟨A, c, d, h, _⟩ := AX.out.at_.t; exact ⟨_, _, _, h⟩
    have r0 : wb.cell? ⟨gm, 0, none⟩ = some (.int .i64 c) := MB.cell 0
    have r1 : wb.cell? ⟨gm, 1, none⟩ = some (.int .i64 i) := MB.cell 1
    have r2 : wb.cell? ⟨gm, 2, none⟩ = some (.slice XN qn yn) := MB.cell 2
    have r3 : wb.cell? ⟨gm, 3, none⟩ = some (.slice XS qs ys) := MB.cell 3
    have r4 : wb.cell? ⟨gm, 4, none⟩ = some (.slice XF qf yf) := MB.cell 4
    have r5 : wb.cell? ⟨gm, 5, none⟩ = some (.slice XT qt yt) := MB.cell 5
    have HWB := Lib.hid hwb
    have HSB := Lib.hid hsb
    rw [hwb] at r0 r1 r2 r3 r4 r5
    clear hwb hsb hbb MB
    go_wp2_with fail
    rw [← HWB.out]
    refine (mappend_any (some ⟨wx.heap.size, 0, none⟩) 1 [1] (wx.heap.size + 1) c i q _ _ _ _ wb LB.out (by rw [HSB.out]; exact Nat.le_refl _) PB.out AX.out.fine (wf64 (by omega) (by omega)) (wf64 (by omega) (by omega)) (by simp)).mono ?_
    rw [show appM [1] c i q = [1] from by unfold appM; rw [AX.out.no]; rfl, AX.out.no]
    rintro e w8 ⟨v8, rfl, ho8, hb8⟩
    obtain ⟨A8, k8, rfl, hk8, hm8⟩ := own_form ho8
    obtain ⟨g8, rfl, hg8, hg8', hf8⟩ := own_head ho8 (by simp)
    have hl8 := Lies.own ho8 (Nat.le_refl _)
    have c8 : w8.cell? ⟨g8, 0, none⟩ = some (.int .u8 1) := by
      rcases hl8.octets with h | ⟨b, o, e, _, hc⟩
      · cases h
      · injection e with e
        injection e with e1 e2 e3
        subst e1 e2
        exact hc 0 (by decide)
    have C8 := Lib.hid (BB.out.trans (hb8.mono BB.out.size))
    clear ho8 hl8 hb8 hf8
    go_wp2_with fail
    refine (awake4_any _).mono ?_
    rintro e w9 ⟨rfl, hb9⟩
    have C9 := Lib.hid (C8.out.trans (hb9.mono C8.out.size))
    clear hb9
    go_wp2_with fail
    go_ret
    exact ⟨rfl, C9.out⟩
  · obtain ⟨i0, hi, hz0, hz1, hz2⟩ := info_parts texts_info
    have HI := Lib.hid hi
    have G0 := Lib.hid hz0
    have G1 := Lib.hid hz1
    have G2 := Lib.hid hz2
    clear hi hz0 hz1 hz2
    have hsA : p.s.length + 1 ≤ maxLen := by unfold maxLen; omega
    have hsB : (p.s.length + 1) * 16 ≤ 140737488355328 := by omega
    have KM : Hid (∀ w7 (o : Obj), (w2.alloc o).grownBy w7 (Value.slice As p.s.length ks).ownBlock → Whole w7 gm 32 #[.int .i64 c, .int .i64 i, .slice An p.n.length kn, .slice As p.s.length ks, .slice Af p.f.length kf, .slice none 0 0]) := Lib.hid (fun w7 o h => (M2.out.alloc o).grown h (own_kind M2.out S2.out (by decide)))
    have D : Hid (∀ (w7 : World) (v7 : Value) (o : Obj), w7.ownsRow (g + 1) 9 1 v7 (p.s.length + 1) (cellsS p.s ++ [.string ⟨#[120]⟩]) → (w2.alloc o).grownBy w7 (Value.slice As p.s.length ks).ownBlock → ∃ q xN xS xF xT, AskAt w (w7.setCell ⟨gm, 3, none⟩ v7) gm c i q xN xS xF xT) := Lib.hid (fun w7 v7 o ho hgw => by
      have hO : w7.ownsRow (g + 1) 9 1 v7 (p.s ++ [[120]]).length (cellsS (p.s ++ [[120]])) := by
        have e : cellsS (p.s ++ [[120]]) = cellsS p.s ++ [.string ⟨#[120]⟩] := by simp [cellsS, St]
        rw [e, List.length_append]
        exact ho
      have hz7 : w2.heap.size ≤ w7.heap.size := Nat.le_trans (by simp) hgw.size
      have hgg := HGG.out
      have hg1 := HG1.out
      have hge := HGM.out
      have hse : (w7.setCell ⟨gm, 3, none⟩ v7).heap.size = w7.heap.size := by simp [World.setCell]
      have hb7 : Below w.heap.size w w7 := ((B2.out.alloc B2.out.size o).grown hgw (Nat.le_trans B2.out.size (by simp)) (fun k hk => by have := (S2.out.lt k hk).1; omega))
      refine ⟨{ p with s := p.s ++ [[120]] }, _, _, _, _, (KM.out w7 o hgw).put 3 v7, hb7.setCell (p := ⟨gm, 3, none⟩) (show w.heap.size ≤ gm by omega) _, ⟨sl_own (own_set2 ((N2.out.alloc o).kept hgw (own_types N2.out S2.out (by decide))) (KM.out w7 o hgw) (by decide)), sl_own (own_set2 hO (KM.out w7 o hgw) (by decide)), sl_own (own_set2 ((F2.out.alloc o).kept hgw (own_types F2.out S2.out (by decide))) (KM.out w7 o hgw) (by decide)), by rw [show (Parts.t { p with s := p.s ++ [[120]] }) = [] from HPT.out]; exact TbAt.nil _ _⟩, not_ok HFO.out (no_s (by
        show (p.s ++ [[120]]).length ≠ _
        rw [List.length_append, MO.out.asked.s]
        simp)), ?_⟩
      exact ⟨fun x hx => by rcases List.mem_append.1 hx with h | h; exact MO.out.fine.1 x h; rw [List.mem_singleton] at h; subst h; decide, MO.out.fine.2⟩)
    go_upto_region 34 with (at_builtin; refine wpList_append_apart rfl _ _ 29 rfl (g + 1) 9 i0 (.string ⟨#[]⟩) 1 16 Tryd.underlying29 HI.out G0.out G1.out G2.out rfl (by omega) _ p.s.length (cellsS p.s) rfl (S2.out.alloc _) _ _ 1 1 _ rfl (Lies.one w2 9 _) rfl (fun u hu => by rw [List.mem_singleton] at hu; subst hu; rfl) hsA hsB (by have := HG1.out; have := HS2.out; simp; omega) ?_; intro v7 w7 hown7 hg7; obtain ⟨A7, k7, rfl, _, _⟩ := own_form hown7; have HO7 := Lib.hid hown7; have HG7 := Lib.hid hg7; have e3 := (KM.out _ _ hg7).cell 3; have y3 := (KM.out _ _ hg7).frozen 3; clear hown7 hg7)
    obtain ⟨q, xN, xS, xF, xT, hax⟩ := D.out _ _ _ HO7.out HG7.out
    obtain ⟨wx, hwx⟩ : ∃ wx, wx = w7.setCell ⟨gm, 3, none⟩ (.slice A7 (p.s.length + 1) k7) := ⟨_, rfl⟩
    rw [← hwx] at hax ⊢
    have AX := Lib.hid hax
    clear hax hwx e3 y3
    obtain ⟨wb, hwb⟩ : ∃ wb, wb = wx.alloc (.cells #[.int .u8 1] 5) := ⟨_, rfl⟩
    have hbb : Below wx.heap.size wx wb := by rw [hwb]; exact (Below.refl _ _).alloc (Nat.le_refl _) _
    have hsb : wb.heap.size = wx.heap.size + 1 := by rw [hwb]; simp
    have LB : Hid (Lies wb (wx.heap.size + 1) (some ⟨wx.heap.size, 0, none⟩) (B8 [1])) := Lib.hid (by rw [hwb]; exact Lies.one wx 5 (.int .u8 1))
    have MB := AX.out.ms.below hbb AX.out.ms.lt
    have PB := Lib.hid ((AX.out.at_.below hbb).more (show wx.heap.size ≤ wx.heap.size + 1 by omega))
    have BB := Lib.hid (AX.out.bel.trans (hbb.mono AX.out.bel.size))
    obtain ⟨XN, qn, yn, rfl⟩ : ∃ A n c, xN = .slice A n c := by obtain ⟨A, c, h, _⟩ := AX.out.at_.n; exact ⟨_, _, _, h⟩
    obtain ⟨XS, qs, ys, rfl⟩ : ∃ A n c, xS = .slice A n c := by obtain ⟨A, c, h, _⟩ := AX.out.at_.s; exact ⟨_, _, _, h⟩
    obtain ⟨XF, qf, yf, rfl⟩ : ∃ A n c, xF = .slice A n c := by obtain ⟨A, c, h, _⟩ := AX.out.at_.f; exact ⟨_, _, _, h⟩
    obtain ⟨XT, qt, yt, rfl⟩ : ∃ A n c, xT = .slice A n c := by obtain ⟨A, c, d, h, _⟩ := AX.out.at_.t; exact ⟨_, _, _, h⟩
    have r0 : wb.cell? ⟨gm, 0, none⟩ = some (.int .i64 c) := MB.cell 0
    have r1 : wb.cell? ⟨gm, 1, none⟩ = some (.int .i64 i) := MB.cell 1
    have r2 : wb.cell? ⟨gm, 2, none⟩ = some (.slice XN qn yn) := MB.cell 2
    have r3 : wb.cell? ⟨gm, 3, none⟩ = some (.slice XS qs ys) := MB.cell 3
    have r4 : wb.cell? ⟨gm, 4, none⟩ = some (.slice XF qf yf) := MB.cell 4
    have r5 : wb.cell? ⟨gm, 5, none⟩ = some (.slice XT qt yt) := MB.cell 5
    have HWB := Lib.hid hwb
    have HSB := Lib.hid hsb
    rw [hwb] at r0 r1 r2 r3 r4 r5
    clear hwb hsb hbb MB
    go_wp2_with fail
    rw [← HWB.out]
    refine (mappend_any (some ⟨wx.heap.size, 0, none⟩) 1 [1] (wx.heap.size + 1) c i q _ _ _ _ wb LB.out (by rw [HSB.out]; exact Nat.le_refl _) PB.out AX.out.fine (wf64 (by omega) (by omega)) (wf64 (by omega) (by omega)) (by simp)).mono ?_
    rw [show appM [1] c i q = [1] from by unfold appM; rw [AX.out.no]; rfl, AX.out.no]
    rintro e w8 ⟨v8, rfl, ho8, hb8⟩
    obtain ⟨A8, k8, rfl, hk8, hm8⟩ := own_form ho8
    obtain ⟨g8, rfl, hg8, hg8', hf8⟩ := own_head ho8 (by simp)
    have hl8 := Lies.own ho8 (Nat.le_refl _)
    have c8 : w8.cell? ⟨g8, 0, none⟩ = some (.int .u8 1) := by
      rcases hl8.octets with h | ⟨b, o, e, _, hc⟩
      · cases h
      · injection e with e
        injection e with e1 e2 e3
        subst e1 e2
        exact hc 0 (by decide)
    have C8 := Lib.hid (BB.out.trans (hb8.mono BB.out.size))
    clear ho8 hl8 hb8 hf8
    go_wp2_with fail
    refine (awake4_any _).mono ?_
    rintro e w9 ⟨rfl, hb9⟩
    have C9 := Lib.hid (C8.out.trans (hb9.mono C8.out.size))
    clear hb9
    go_wp2_with fail
    go_ret
    exact ⟨rfl, C9.out⟩
  · obtain ⟨i0, hi, hz0, hz1, hz2⟩ := info_parts flags_info
    have HI := Lib.hid hi
    have G0 := Lib.hid hz0
    have G1 := Lib.hid hz1
    have G2 := Lib.hid hz2
    clear hi hz0 hz1 hz2
    have hsA : p.f.length + 1 ≤ maxLen := by unfold maxLen; omega
    have hsB : (p.f.length + 1) * 1 ≤ 140737488355328 := by omega
    have KM : Hid (∀ w7 (o : Obj), (w2.alloc o).grownBy w7 (Value.slice Af p.f.length kf).ownBlock → Whole w7 gm 32 #[.int .i64 c, .int .i64 i, .slice An p.n.length kn, .slice As p.s.length ks, .slice Af p.f.length kf, .slice none 0 0]) := Lib.hid (fun w7 o h => (M2.out.alloc o).grown h (own_kind M2.out F2.out (by decide)))
    have D : Hid (∀ (w7 : World) (v7 : Value) (o : Obj), w7.ownsRow (g + 1) 4 1 v7 (p.f.length + 1) (cellsB p.f ++ [.bool true]) → (w2.alloc o).grownBy w7 (Value.slice Af p.f.length kf).ownBlock → ∃ q xN xS xF xT, AskAt w (w7.setCell ⟨gm, 4, none⟩ v7) gm c i q xN xS xF xT) := Lib.hid (fun w7 v7 o ho hgw => by
      have hO : w7.ownsRow (g + 1) 4 1 v7 (p.f ++ [true]).length (cellsB (p.f ++ [true])) := by
        have e : cellsB (p.f ++ [true]) = cellsB p.f ++ [.bool true] := by simp [cellsB, St]
        rw [e, List.length_append]
        exact ho
      have hz7 : w2.heap.size ≤ w7.heap.size := Nat.le_trans (by simp) hgw.size
      have hgg := HGG.out
      have hg1 := HG1.out
      have hge := HGM.out
      have hse : (w7.setCell ⟨gm, 4, none⟩ v7).heap.size = w7.heap.size := by simp [World.setCell]
      have hb7 : Below w.heap.size w w7 := ((B2.out.alloc B2.out.size o).grown hgw (Nat.le_trans B2.out.size (by simp)) (fun k hk => by have := (F2.out.lt k hk).1; omega))
      refine ⟨{ p with f := p.f ++ [true] }, _, _, _, _, (KM.out w7 o hgw).put 4 v7, hb7.setCell (p := ⟨gm, 4, none⟩) (show w.heap.size ≤ gm by omega) _, ⟨sl_own (own_set2 ((N2.out.alloc o).kept hgw (own_types N2.out F2.out (by decide))) (KM.out w7 o hgw) (by decide)), sl_own (own_set2 ((S2.out.alloc o).kept hgw (own_types S2.out F2.out (by decide))) (KM.out w7 o hgw) (by decide)), sl_own (own_set2 hO (KM.out w7 o hgw) (by decide)), by rw [show (Parts.t { p with f := p.f ++ [true] }) = [] from HPT.out]; exact TbAt.nil _ _⟩, not_ok HFO.out (no_f (by
        show (p.f ++ [true]).length ≠ _
        rw [List.length_append, MO.out.asked.f]
        simp)), ?_⟩
      exact ⟨MO.out.fine.1, MO.out.fine.2⟩)
    go_upto_region 34 with (at_builtin; refine wpList_append_apart rfl _ _ 22 rfl (g + 1) 4 i0 (.bool false) 1 1 Tryd.underlying22 HI.out G0.out G1.out G2.out rfl (by omega) _ p.f.length (cellsB p.f) rfl (F2.out.alloc _) _ _ 1 1 _ rfl (Lies.one w2 4 _) rfl (fun u hu => by rw [List.mem_singleton] at hu; subst hu; rfl) hsA hsB (by have := HG1.out; have := HS2.out; simp; omega) ?_; intro v7 w7 hown7 hg7; obtain ⟨A7, k7, rfl, _, _⟩ := own_form hown7; have HO7 := Lib.hid hown7; have HG7 := Lib.hid hg7; have e3 := (KM.out _ _ hg7).cell 4; have y3 := (KM.out _ _ hg7).frozen 4; clear hown7 hg7)
    obtain ⟨q, xN, xS, xF, xT, hax⟩ := D.out _ _ _ HO7.out HG7.out
    obtain ⟨wx, hwx⟩ : ∃ wx, wx = w7.setCell ⟨gm, 4, none⟩ (.slice A7 (p.f.length + 1) k7) := ⟨_, rfl⟩
    rw [← hwx] at hax ⊢
    have AX := Lib.hid hax
    clear hax hwx e3 y3
    obtain ⟨wb, hwb⟩ : ∃ wb, wb = wx.alloc (.cells #[.int .u8 1] 5) := ⟨_, rfl⟩
    have hbb : Below wx.heap.size wx wb := by rw [hwb]; exact (Below.refl _ _).alloc (Nat.le_refl _) _
    have hsb : wb.heap.size = wx.heap.size + 1 := by rw [hwb]; simp
    have LB : Hid (Lies wb (wx.heap.size + 1) (some ⟨wx.heap.size, 0, none⟩) (B8 [1])) := Lib.hid (by rw [hwb]; exact Lies.one wx 5 (.int .u8 1))
    have MB := AX.out.ms.below hbb AX.out.ms.lt
    have PB := Lib.hid ((AX.out.at_.below hbb).more (show wx.heap.size ≤ wx.heap.size + 1 by omega))
    have BB := Lib.hid (AX.out.bel.trans (hbb.mono AX.out.bel.size))
    obtain ⟨XN, qn, yn, rfl⟩ : ∃ A n c, xN = .slice A n c := by obtain ⟨A, c, h, _⟩ := AX.out.at_.n; exact ⟨_, _, _, h⟩
    obtain ⟨XS, qs, ys, rfl⟩ : ∃ A n c, xS = .slice A n c := by obtain ⟨A, c, h, _⟩ := AX.out.at_.s; exact ⟨_, _, _, h⟩
    obtain ⟨XF, qf, yf, rfl⟩ : ∃ A n c, xF = .slice A n c := by obtain ⟨A, c, h, _⟩ := AX.out.at_.f; exact ⟨_, _, _, h⟩
    obtain ⟨XT, qt, yt, rfl⟩ : ∃ A n c, xT = .slice A n c := by obtain ⟨A, c, d, h, _⟩ := AX.out.at_.t; exact ⟨_, _, _, h⟩
    have r0 : wb.cell? ⟨gm, 0, none⟩ = some (.int .i64 c) := MB.cell 0
    have r1 : wb.cell? ⟨gm, 1, none⟩ = some (.int .i64 i) := MB.cell 1
    have r2 : wb.cell? ⟨gm, 2, none⟩ = some (.slice XN qn yn) := MB.cell 2
    have r3 : wb.cell? ⟨gm, 3, none⟩ = some (.slice XS qs ys) := MB.cell 3
    have r4 : wb.cell? ⟨gm, 4, none⟩ = some (.slice XF qf yf) := MB.cell 4
    have r5 : wb.cell? ⟨gm, 5, none⟩ = some (.slice XT qt yt) := MB.cell 5
    have HWB := Lib.hid hwb
    have HSB := Lib.hid hsb
    rw [hwb] at r0 r1 r2 r3 r4 r5
    clear hwb hsb hbb MB
    go_wp2_with fail
    rw [← HWB.out]
    refine (mappend_any (some ⟨wx.heap.size, 0, none⟩) 1 [1] (wx.heap.size + 1) c i q _ _ _ _ wb LB.out (by rw [HSB.out]; exact Nat.le_refl _) PB.out AX.out.fine (wf64 (by omega) (by omega)) (wf64 (by omega) (by omega)) (by simp)).mono ?_
    rw [show appM [1] c i q = [1] from by unfold appM; rw [AX.out.no]; rfl, AX.out.no]
    rintro e w8 ⟨v8, rfl, ho8, hb8⟩
    obtain ⟨A8, k8, rfl, hk8, hm8⟩ := own_form ho8
    obtain ⟨g8, rfl, hg8, hg8', hf8⟩ := own_head ho8 (by simp)
    have hl8 := Lies.own ho8 (Nat.le_refl _)
    have c8 : w8.cell? ⟨g8, 0, none⟩ = some (.int .u8 1) := by
      rcases hl8.octets with h | ⟨b, o, e, _, hc⟩
      · cases h
      · injection e with e
        injection e with e1 e2 e3
        subst e1 e2
        exact hc 0 (by decide)
    have C8 := Lib.hid (BB.out.trans (hb8.mono BB.out.size))
    clear ho8 hl8 hb8 hf8
    go_wp2_with fail
    refine (awake4_any _).mono ?_
    rintro e w9 ⟨rfl, hb9⟩
    have C9 := Lib.hid (C8.out.trans (hb9.mono C8.out.size))
    clear hb9
    go_wp2_with fail
    go_ret
    exact ⟨rfl, C9.out⟩
  · by_cases h0 : p.n.length = 0
    · have h0i : ((p.n.length : Int) == 0) = true := by rw [h0]; rfl
      go_wp2_with fail
      refine (awake4_any _).mono ?_
      rintro e w9 ⟨rfl, hb9⟩
      have C9 := Lib.hid (B2.out.trans (hb9.mono B2.out.size))
      clear hb9
      go_wp2_with fail
      go_ret
      exact ⟨rfl, C9.out⟩
    have h0i : ((p.n.length : Int) == 0) = false := beq_false_of_ne (by omega)
    have h1i : (1 : Int) ≤ (p.n.length : Int) := by omega
    obtain ⟨x1, xs, hx⟩ : ∃ x1 xs, p.n = x1 :: xs := by
      cases h : p.n with
      | nil => rw [h] at h0; simp at h0
      | cons a b => exact ⟨a, b, rfl⟩
    obtain ⟨ba, oa, rfl⟩ : ∃ b o, An = some ⟨b, o, none⟩ := by
      rcases Lies.own N2.out (Nat.le_refl _) with h | ⟨b, o, e, _, _⟩
      · rw [hx] at h; simp [cellsN] at h
      · exact ⟨b, o, e⟩
    obtain ⟨hcap, hcapm⟩ : p.n.length ≤ kn ∧ kn ≤ maxLen := ⟨by omega, by assumption⟩
    by_cases hc1 : kn = 1
    · obtain ⟨wx, hwx⟩ : ∃ wx, wx = w2.setCell ⟨gm, 2, none⟩ (.slice (some ⟨ba, oa, none⟩) (p.n.length - 1) 0) := ⟨_, rfl⟩
      have AX : Hid (∃ q xN xS xF xT, AskAt w wx gm c i q xN xS xF xT) := Lib.hid (by
        have hgg := HGG.out
        have hg1 := HG1.out
        have hge := HGM.out
        have hO := own_set2 (k := 2) (u := (.slice (some ⟨ba, oa, none⟩) (p.n.length - 1) 0)) N2.out M2.out (by decide)
        have hl := Lies.own hO (Nat.le_refl _)
        rw [hx] at hl
        have HTL : SlAt (w2.setCell ⟨gm, 2, none⟩ (.slice (some ⟨ba, oa, none⟩) (p.n.length - 1) 0)) (w2.setCell ⟨gm, 2, none⟩ (.slice (some ⟨ba, oa, none⟩) (p.n.length - 1) 0)).heap.size (.slice (some ⟨ba, oa, none⟩) (p.n.length - 1) 0) xs.length (cellsN xs) := by
          have h := sl_tail (n := xs.length) (c := kn) hl (by simp [cellsN]) (by rw [hx] at hcap; simpa using hcap) hcapm
          rw [if_pos hc1, hc1] at h
          have e : p.n.length - 1 = xs.length := by rw [hx]; simp
          rw [e]
          exact h
        rw [hwx]
        refine ⟨{ p with n := xs }, _, _, _, _, M2.out.put 2 (.slice (some ⟨ba, oa, none⟩) (p.n.length - 1) 0), B2.out.setCell (p := ⟨gm, 2, none⟩) (show w.heap.size ≤ gm by omega) _, ⟨HTL, sl_own (own_set2 S2.out M2.out (by decide)), sl_own (own_set2 F2.out M2.out (by decide)), by rw [show (Parts.t { p with n := xs }) = [] from HPT.out]; exact TbAt.nil _ _⟩, not_ok HFO.out (no_n (by
          show xs.length ≠ _
          rw [← MO.out.asked.n, hx]
          simp)), ?_⟩
        exact ⟨MO.out.fine.1, fun y hy => MO.out.fine.2 y (by rw [hx]; simp [hy])⟩)
      have HWX := Lib.hid hwx
      clear hwx hx
      go_upto_region 34 with fail
      rw [← HWX.out]
      obtain ⟨q, xN, xS, xF, xT, hax⟩ := AX.out
      replace AX := Lib.hid hax
      clear hax
      obtain ⟨wb, hwb⟩ : ∃ wb, wb = wx.alloc (.cells #[.int .u8 1] 5) := ⟨_, rfl⟩
      have hbb : Below wx.heap.size wx wb := by rw [hwb]; exact (Below.refl _ _).alloc (Nat.le_refl _) _
      have hsb : wb.heap.size = wx.heap.size + 1 := by rw [hwb]; simp
      have LB : Hid (Lies wb (wx.heap.size + 1) (some ⟨wx.heap.size, 0, none⟩) (B8 [1])) := Lib.hid (by rw [hwb]; exact Lies.one wx 5 (.int .u8 1))
      have MB := AX.out.ms.below hbb AX.out.ms.lt
      have PB := Lib.hid ((AX.out.at_.below hbb).more (show wx.heap.size ≤ wx.heap.size + 1 by omega))
      have BB := Lib.hid (AX.out.bel.trans (hbb.mono AX.out.bel.size))
      obtain ⟨XN, qn, yn, rfl⟩ : ∃ A n c, xN = .slice A n c := by obtain ⟨A, c, h, _⟩ := AX.out.at_.n; exact ⟨_, _, _, h⟩
      obtain ⟨XS, qs, ys, rfl⟩ : ∃ A n c, xS = .slice A n c := by obtain ⟨A, c, h, _⟩ := AX.out.at_.s; exact ⟨_, _, _, h⟩
      obtain ⟨XF, qf, yf, rfl⟩ : ∃ A n c, xF = .slice A n c := by obtain ⟨A, c, h, _⟩ := AX.out.at_.f; exact ⟨_, _, _, h⟩
      obtain ⟨XT, qt, yt, rfl⟩ : ∃ A n c, xT = .slice A n c := by obtain ⟨A, c, d, h, _⟩ := AX.out.at_.t; exact ⟨_, _, _, h⟩
      have r0 : wb.cell? ⟨gm, 0, none⟩ = some (.int .i64 c) := MB.cell 0
      have r1 : wb.cell? ⟨gm, 1, none⟩ = some (.int .i64 i) := MB.cell 1
      have r2 : wb.cell? ⟨gm, 2, none⟩ = some (.slice XN qn yn) := MB.cell 2
      have r3 : wb.cell? ⟨gm, 3, none⟩ = some (.slice XS qs ys) := MB.cell 3
      have r4 : wb.cell? ⟨gm, 4, none⟩ = some (.slice XF qf yf) := MB.cell 4
      have r5 : wb.cell? ⟨gm, 5, none⟩ = some (.slice XT qt yt) := MB.cell 5
      have HWB := Lib.hid hwb
      have HSB := Lib.hid hsb
      rw [hwb] at r0 r1 r2 r3 r4 r5
      clear hwb hsb hbb MB
      go_wp2_with fail
      rw [← HWB.out]
      refine (mappend_any (some ⟨wx.heap.size, 0, none⟩) 1 [1] (wx.heap.size + 1) c i q _ _ _ _ wb LB.out (by rw [HSB.out]; exact Nat.le_refl _) PB.out AX.out.fine (wf64 (by omega) (by omega)) (wf64 (by omega) (by omega)) (by simp)).mono ?_
      rw [show appM [1] c i q = [1] from by unfold appM; rw [AX.out.no]; rfl, AX.out.no]
      rintro e w8 ⟨v8, rfl, ho8, hb8⟩
      obtain ⟨A8, k8, rfl, hk8, hm8⟩ := own_form ho8
      obtain ⟨g8, rfl, hg8, hg8', hf8⟩ := own_head ho8 (by simp)
      have hl8 := Lies.own ho8 (Nat.le_refl _)
      have c8 : w8.cell? ⟨g8, 0, none⟩ = some (.int .u8 1) := by
        rcases hl8.octets with h | ⟨b, o, e, _, hc⟩
        · cases h
        · injection e with e
          injection e with e1 e2 e3
          subst e1 e2
          exact hc 0 (by decide)
      have C8 := Lib.hid (BB.out.trans (hb8.mono BB.out.size))
      clear ho8 hl8 hb8 hf8
      go_wp2_with fail
      refine (awake4_any _).mono ?_
      rintro e w9 ⟨rfl, hb9⟩
      have C9 := Lib.hid (C8.out.trans (hb9.mono C8.out.size))
      clear hb9
      go_wp2_with fail
      go_ret
      exact ⟨rfl, C9.out⟩
    · obtain ⟨wx, hwx⟩ : ∃ wx, wx = w2.setCell ⟨gm, 2, none⟩ (.slice (some ⟨ba, oa + 1, none⟩) (p.n.length - 1) (kn - 1)) := ⟨_, rfl⟩
      have AX : Hid (∃ q xN xS xF xT, AskAt w wx gm c i q xN xS xF xT) := Lib.hid (by
        have hgg := HGG.out
        have hg1 := HG1.out
        have hge := HGM.out
        have hO := own_set2 (k := 2) (u := (.slice (some ⟨ba, oa + 1, none⟩) (p.n.length - 1) (kn - 1))) N2.out M2.out (by decide)
        have hl := Lies.own hO (Nat.le_refl _)
        rw [hx] at hl
        have HTL : SlAt (w2.setCell ⟨gm, 2, none⟩ (.slice (some ⟨ba, oa + 1, none⟩) (p.n.length - 1) (kn - 1))) (w2.setCell ⟨gm, 2, none⟩ (.slice (some ⟨ba, oa + 1, none⟩) (p.n.length - 1) (kn - 1))).heap.size (.slice (some ⟨ba, oa + 1, none⟩) (p.n.length - 1) (kn - 1)) xs.length (cellsN xs) := by
          have h := sl_tail (n := xs.length) (c := kn) hl (by simp [cellsN]) (by rw [hx] at hcap; simpa using hcap) hcapm
          rw [if_neg hc1] at h
          have e : p.n.length - 1 = xs.length := by rw [hx]; simp
          rw [e]
          exact h
        rw [hwx]
        refine ⟨{ p with n := xs }, _, _, _, _, M2.out.put 2 (.slice (some ⟨ba, oa + 1, none⟩) (p.n.length - 1) (kn - 1)), B2.out.setCell (p := ⟨gm, 2, none⟩) (show w.heap.size ≤ gm by omega) _, ⟨HTL, sl_own (own_set2 S2.out M2.out (by decide)), sl_own (own_set2 F2.out M2.out (by decide)), by rw [show (Parts.t { p with n := xs }) = [] from HPT.out]; exact TbAt.nil _ _⟩, not_ok HFO.out (no_n (by
          show xs.length ≠ _
          rw [← MO.out.asked.n, hx]
          simp)), ?_⟩
        exact ⟨MO.out.fine.1, fun y hy => MO.out.fine.2 y (by rw [hx]; simp [hy])⟩)
      have HWX := Lib.hid hwx
      clear hwx hx
      go_upto_region 34 with fail
      rw [← HWX.out]
      obtain ⟨q, xN, xS, xF, xT, hax⟩ := AX.out
      replace AX := Lib.hid hax
      clear hax
      obtain ⟨wb, hwb⟩ : ∃ wb, wb = wx.alloc (.cells #[.int .u8 1] 5) := ⟨_, rfl⟩
      have hbb : Below wx.heap.size wx wb := by rw [hwb]; exact (Below.refl _ _).alloc (Nat.le_refl _) _
      have hsb : wb.heap.size = wx.heap.size + 1 := by rw [hwb]; simp
      have LB : Hid (Lies wb (wx.heap.size + 1) (some ⟨wx.heap.size, 0, none⟩) (B8 [1])) := Lib.hid (by rw [hwb]; exact Lies.one wx 5 (.int .u8 1))
      have MB := AX.out.ms.below hbb AX.out.ms.lt
      have PB := Lib.hid ((AX.out.at_.below hbb).more (show wx.heap.size ≤ wx.heap.size + 1 by omega))
      have BB := Lib.hid (AX.out.bel.trans (hbb.mono AX.out.bel.size))
      obtain ⟨XN, qn, yn, rfl⟩ : ∃ A n c, xN = .slice A n c := by obtain ⟨A, c, h, _⟩ := AX.out.at_.n; exact ⟨_, _, _, h⟩
      obtain ⟨XS, qs, ys, rfl⟩ : ∃ A n c, xS = .slice A n c := by obtain ⟨A, c, h, _⟩ := AX.out.at_.s; exact ⟨_, _, _, h⟩
      obtain ⟨XF, qf, yf, rfl⟩ : ∃ A n c, xF = .slice A n c := by obtain ⟨A, c, h, _⟩ := AX.out.at_.f; exact ⟨_, _, _, h⟩
      obtain ⟨XT, qt, yt, rfl⟩ : ∃ A n c, xT = .slice A n c := by obtain ⟨A, c, d, h, _⟩ := AX.out.at_.t; exact ⟨_, _, _, h⟩
      have r0 : wb.cell? ⟨gm, 0, none⟩ = some (.int .i64 c) := MB.cell 0
      have r1 : wb.cell? ⟨gm, 1, none⟩ = some (.int .i64 i) := MB.cell 1
      have r2 : wb.cell? ⟨gm, 2, none⟩ = some (.slice XN qn yn) := MB.cell 2
      have r3 : wb.cell? ⟨gm, 3, none⟩ = some (.slice XS qs ys) := MB.cell 3
      have r4 : wb.cell? ⟨gm, 4, none⟩ = some (.slice XF qf yf) := MB.cell 4
      have r5 : wb.cell? ⟨gm, 5, none⟩ = some (.slice XT qt yt) := MB.cell 5
      have HWB := Lib.hid hwb
      have HSB := Lib.hid hsb
      rw [hwb] at r0 r1 r2 r3 r4 r5
      clear hwb hsb hbb MB
      go_wp2_with fail
      rw [← HWB.out]
      refine (mappend_any (some ⟨wx.heap.size, 0, none⟩) 1 [1] (wx.heap.size + 1) c i q _ _ _ _ wb LB.out (by rw [HSB.out]; exact Nat.le_refl _) PB.out AX.out.fine (wf64 (by omega) (by omega)) (wf64 (by omega) (by omega)) (by simp)).mono ?_
      rw [show appM [1] c i q = [1] from by unfold appM; rw [AX.out.no]; rfl, AX.out.no]
      rintro e w8 ⟨v8, rfl, ho8, hb8⟩
      obtain ⟨A8, k8, rfl, hk8, hm8⟩ := own_form ho8
      obtain ⟨g8, rfl, hg8, hg8', hf8⟩ := own_head ho8 (by simp)
      have hl8 := Lies.own ho8 (Nat.le_refl _)
      have c8 : w8.cell? ⟨g8, 0, none⟩ = some (.int .u8 1) := by
        rcases hl8.octets with h | ⟨b, o, e, _, hc⟩
        · cases h
        · injection e with e
          injection e with e1 e2 e3
          subst e1 e2
          exact hc 0 (by decide)
      have C8 := Lib.hid (BB.out.trans (hb8.mono BB.out.size))
      clear ho8 hl8 hb8 hf8
      go_wp2_with fail
      refine (awake4_any _).mono ?_
      rintro e w9 ⟨rfl, hb9⟩
      have C9 := Lib.hid (C8.out.trans (hb9.mono C8.out.size))
      clear hb9
      go_wp2_with fail
      go_ret
      exact ⟨rfl, C9.out⟩
  · by_cases h0 : p.s.length = 0
    · have h0i : ((p.s.length : Int) == 0) = true := by rw [h0]; rfl
      go_wp2_with fail
      refine (awake4_any _).mono ?_
      rintro e w9 ⟨rfl, hb9⟩
      have C9 := Lib.hid (B2.out.trans (hb9.mono B2.out.size))
      clear hb9
      go_wp2_with fail
      go_ret
      exact ⟨rfl, C9.out⟩
    have h0i : ((p.s.length : Int) == 0) = false := beq_false_of_ne (by omega)
    have h1i : (1 : Int) ≤ (p.s.length : Int) := by omega
    obtain ⟨x1, xs, hx⟩ : ∃ x1 xs, p.s = x1 :: xs := by
      cases h : p.s with
      | nil => rw [h] at h0; simp at h0
      | cons a b => exact ⟨a, b, rfl⟩
    obtain ⟨ba, oa, rfl⟩ : ∃ b o, As = some ⟨b, o, none⟩ := by
      rcases Lies.own S2.out (Nat.le_refl _) with h | ⟨b, o, e, _, _⟩
      · rw [hx] at h; simp [cellsS] at h
      · exact ⟨b, o, e⟩
    obtain ⟨hcap, hcapm⟩ : p.s.length ≤ ks ∧ ks ≤ maxLen := ⟨by omega, by assumption⟩
    by_cases hc1 : ks = 1
    · obtain ⟨wx, hwx⟩ : ∃ wx, wx = w2.setCell ⟨gm, 3, none⟩ (.slice (some ⟨ba, oa, none⟩) (p.s.length - 1) 0) := ⟨_, rfl⟩
      have AX : Hid (∃ q xN xS xF xT, AskAt w wx gm c i q xN xS xF xT) := Lib.hid (by
        have hgg := HGG.out
        have hg1 := HG1.out
        have hge := HGM.out
        have hO := own_set2 (k := 3) (u := (.slice (some ⟨ba, oa, none⟩) (p.s.length - 1) 0)) S2.out M2.out (by decide)
        have hl := Lies.own hO (Nat.le_refl _)
        rw [hx] at hl
        have HTL : SlAt (w2.setCell ⟨gm, 3, none⟩ (.slice (some ⟨ba, oa, none⟩) (p.s.length - 1) 0)) (w2.setCell ⟨gm, 3, none⟩ (.slice (some ⟨ba, oa, none⟩) (p.s.length - 1) 0)).heap.size (.slice (some ⟨ba, oa, none⟩) (p.s.length - 1) 0) xs.length (cellsS xs) := by
          have h := sl_tail (n := xs.length) (c := ks) hl (by simp [cellsS]) (by rw [hx] at hcap; simpa using hcap) hcapm
          rw [if_pos hc1, hc1] at h
          have e : p.s.length - 1 = xs.length := by rw [hx]; simp
          rw [e]
          exact h
        rw [hwx]
        refine ⟨{ p with s := xs }, _, _, _, _, M2.out.put 3 (.slice (some ⟨ba, oa, none⟩) (p.s.length - 1) 0), B2.out.setCell (p := ⟨gm, 3, none⟩) (show w.heap.size ≤ gm by omega) _, ⟨sl_own (own_set2 N2.out M2.out (by decide)), HTL, sl_own (own_set2 F2.out M2.out (by decide)), by rw [show (Parts.t { p with s := xs }) = [] from HPT.out]; exact TbAt.nil _ _⟩, not_ok HFO.out (no_s (by
          show xs.length ≠ _
          rw [← MO.out.asked.s, hx]
          simp)), ?_⟩
        exact ⟨fun y hy => MO.out.fine.1 y (by rw [hx]; simp [hy]), MO.out.fine.2⟩)
      have HWX := Lib.hid hwx
      clear hwx hx
      go_upto_region 34 with fail
      rw [← HWX.out]
      obtain ⟨q, xN, xS, xF, xT, hax⟩ := AX.out
      replace AX := Lib.hid hax
      clear hax
      obtain ⟨wb, hwb⟩ : ∃ wb, wb = wx.alloc (.cells #[.int .u8 1] 5) := ⟨_, rfl⟩
      have hbb : Below wx.heap.size wx wb := by rw [hwb]; exact (Below.refl _ _).alloc (Nat.le_refl _) _
      have hsb : wb.heap.size = wx.heap.size + 1 := by rw [hwb]; simp
      have LB : Hid (Lies wb (wx.heap.size + 1) (some ⟨wx.heap.size, 0, none⟩) (B8 [1])) := Lib.hid (by rw [hwb]; exact Lies.one wx 5 (.int .u8 1))
      have MB := AX.out.ms.below hbb AX.out.ms.lt
      have PB := Lib.hid ((AX.out.at_.below hbb).more (show wx.heap.size ≤ wx.heap.size + 1 by omega))
      have BB := Lib.hid (AX.out.bel.trans (hbb.mono AX.out.bel.size))
      obtain ⟨XN, qn, yn, rfl⟩ : ∃ A n c, xN = .slice A n c := by obtain ⟨A, c, h, _⟩ := AX.out.at_.n; exact ⟨_, _, _, h⟩
      obtain ⟨XS, qs, ys, rfl⟩ : ∃ A n c, xS = .slice A n c := by obtain ⟨A, c, h, _⟩ := AX.out.at_.s; exact ⟨_, _, _, h⟩
      obtain ⟨XF, qf, yf, rfl⟩ : ∃ A n c, xF = .slice A n c := by obtain ⟨A, c, h, _⟩ := AX.out.at_.f; exact ⟨_, _, _, h⟩
      obtain ⟨XT, qt, yt, rfl⟩ : ∃ A n c, xT = .slice A n c := by obtain ⟨A, c, d, h, _⟩ := AX.out.at_.t; exact ⟨_, _, _, h⟩
      have r0 : wb.cell? ⟨gm, 0, none⟩ = some (.int .i64 c) := MB.cell 0
      have r1 : wb.cell? ⟨gm, 1, none⟩ = some (.int .i64 i) := MB.cell 1
      have r2 : wb.cell? ⟨gm, 2, none⟩ = some (.slice XN qn yn) := MB.cell 2
      have r3 : wb.cell? ⟨gm, 3, none⟩ = some (.slice XS qs ys) := MB.cell 3
      have r4 : wb.cell? ⟨gm, 4, none⟩ = some (.slice XF qf yf) := MB.cell 4
      have r5 : wb.cell? ⟨gm, 5, none⟩ = some (.slice XT qt yt) := MB.cell 5
      have HWB := Lib.hid hwb
      have HSB := Lib.hid hsb
      rw [hwb] at r0 r1 r2 r3 r4 r5
      clear hwb hsb hbb MB
      go_wp2_with fail
      rw [← HWB.out]
      refine (mappend_any (some ⟨wx.heap.size, 0, none⟩) 1 [1] (wx.heap.size + 1) c i q _ _ _ _ wb LB.out (by rw [HSB.out]; exact Nat.le_refl _) PB.out AX.out.fine (wf64 (by omega) (by omega)) (wf64 (by omega) (by omega)) (by simp)).mono ?_
      rw [show appM [1] c i q = [1] from by unfold appM; rw [AX.out.no]; rfl, AX.out.no]
      rintro e w8 ⟨v8, rfl, ho8, hb8⟩
      obtain ⟨A8, k8, rfl, hk8, hm8⟩ := own_form ho8
      obtain ⟨g8, rfl, hg8, hg8', hf8⟩ := own_head ho8 (by simp)
      have hl8 := Lies.own ho8 (Nat.le_refl _)
      have c8 : w8.cell? ⟨g8, 0, none⟩ = some (.int .u8 1) := by
        rcases hl8.octets with h | ⟨b, o, e, _, hc⟩
        · cases h
        · injection e with e
          injection e with e1 e2 e3
          subst e1 e2
          exact hc 0 (by decide)
      have C8 := Lib.hid (BB.out.trans (hb8.mono BB.out.size))
      clear ho8 hl8 hb8 hf8
      go_wp2_with fail
      refine (awake4_any _).mono ?_
      rintro e w9 ⟨rfl, hb9⟩
      have C9 := Lib.hid (C8.out.trans (hb9.mono C8.out.size))
      clear hb9
      go_wp2_with fail
      go_ret
      exact ⟨rfl, C9.out⟩
    · obtain ⟨wx, hwx⟩ : ∃ wx, wx = w2.setCell ⟨gm, 3, none⟩ (.slice (some ⟨ba, oa + 1, none⟩) (p.s.length - 1) (ks - 1)) := ⟨_, rfl⟩
      have AX : Hid (∃ q xN xS xF xT, AskAt w wx gm c i q xN xS xF xT) := Lib.hid (by
        have hgg := HGG.out
        have hg1 := HG1.out
        have hge := HGM.out
        have hO := own_set2 (k := 3) (u := (.slice (some ⟨ba, oa + 1, none⟩) (p.s.length - 1) (ks - 1))) S2.out M2.out (by decide)
        have hl := Lies.own hO (Nat.le_refl _)
        rw [hx] at hl
        have HTL : SlAt (w2.setCell ⟨gm, 3, none⟩ (.slice (some ⟨ba, oa + 1, none⟩) (p.s.length - 1) (ks - 1))) (w2.setCell ⟨gm, 3, none⟩ (.slice (some ⟨ba, oa + 1, none⟩) (p.s.length - 1) (ks - 1))).heap.size (.slice (some ⟨ba, oa + 1, none⟩) (p.s.length - 1) (ks - 1)) xs.length (cellsS xs) := by
          have h := sl_tail (n := xs.length) (c := ks) hl (by simp [cellsS]) (by rw [hx] at hcap; simpa using hcap) hcapm
          rw [if_neg hc1] at h
          have e : p.s.length - 1 = xs.length := by rw [hx]; simp
          rw [e]
          exact h
        rw [hwx]
        refine ⟨{ p with s := xs }, _, _, _, _, M2.out.put 3 (.slice (some ⟨ba, oa + 1, none⟩) (p.s.length - 1) (ks - 1)), B2.out.setCell (p := ⟨gm, 3, none⟩) (show w.heap.size ≤ gm by omega) _, ⟨sl_own (own_set2 N2.out M2.out (by decide)), HTL, sl_own (own_set2 F2.out M2.out (by decide)), by rw [show (Parts.t { p with s := xs }) = [] from HPT.out]; exact TbAt.nil _ _⟩, not_ok HFO.out (no_s (by
          show xs.length ≠ _
          rw [← MO.out.asked.s, hx]
          simp)), ?_⟩
        exact ⟨fun y hy => MO.out.fine.1 y (by rw [hx]; simp [hy]), MO.out.fine.2⟩)
      have HWX := Lib.hid hwx
      clear hwx hx
      go_upto_region 34 with fail
      rw [← HWX.out]
      obtain ⟨q, xN, xS, xF, xT, hax⟩ := AX.out
      replace AX := Lib.hid hax
      clear hax
      obtain ⟨wb, hwb⟩ : ∃ wb, wb = wx.alloc (.cells #[.int .u8 1] 5) := ⟨_, rfl⟩
      have hbb : Below wx.heap.size wx wb := by rw [hwb]; exact (Below.refl _ _).alloc (Nat.le_refl _) _
      have hsb : wb.heap.size = wx.heap.size + 1 := by rw [hwb]; simp
      have LB : Hid (Lies wb (wx.heap.size + 1) (some ⟨wx.heap.size, 0, none⟩) (B8 [1])) := Lib.hid (by rw [hwb]; exact Lies.one wx 5 (.int .u8 1))
      have MB := AX.out.ms.below hbb AX.out.ms.lt
      have PB := Lib.hid ((AX.out.at_.below hbb).more (show wx.heap.size ≤ wx.heap.size + 1 by omega))
      have BB := Lib.hid (AX.out.bel.trans (hbb.mono AX.out.bel.size))
      obtain ⟨XN, qn, yn, rfl⟩ : ∃ A n c, xN = .slice A n c := by obtain ⟨A, c, h, _⟩ := AX.out.at_.n; exact ⟨_, _, _, h⟩
      obtain ⟨XS, qs, ys, rfl⟩ : ∃ A n c, xS = .slice A n c := by obtain ⟨A, c, h, _⟩ := AX.out.at_.s; exact ⟨_, _, _, h⟩
      obtain ⟨XF, qf, yf, rfl⟩ : ∃ A n c, xF = .slice A n c := by obtain ⟨A, c, h, _⟩ := AX.out.at_.f; exact ⟨_, _, _, h⟩
      obtain ⟨XT, qt, yt, rfl⟩ : ∃ A n c, xT = .slice A n c := by obtain ⟨A, c, d, h, _⟩ := AX.out.at_.t; exact ⟨_, _, _, h⟩
      have r0 : wb.cell? ⟨gm, 0, none⟩ = some (.int .i64 c) := MB.cell 0
      have r1 : wb.cell? ⟨gm, 1, none⟩ = some (.int .i64 i) := MB.cell 1
      have r2 : wb.cell? ⟨gm, 2, none⟩ = some (.slice XN qn yn) := MB.cell 2
      have r3 : wb.cell? ⟨gm, 3, none⟩ = some (.slice XS qs ys) := MB.cell 3
      have r4 : wb.cell? ⟨gm, 4, none⟩ = some (.slice XF qf yf) := MB.cell 4
      have r5 : wb.cell? ⟨gm, 5, none⟩ = some (.slice XT qt yt) := MB.cell 5
      have HWB := Lib.hid hwb
      have HSB := Lib.hid hsb
      rw [hwb] at r0 r1 r2 r3 r4 r5
      clear hwb hsb hbb MB
      go_wp2_with fail
      rw [← HWB.out]
      refine (mappend_any (some ⟨wx.heap.size, 0, none⟩) 1 [1] (wx.heap.size + 1) c i q _ _ _ _ wb LB.out (by rw [HSB.out]; exact Nat.le_refl _) PB.out AX.out.fine (wf64 (by omega) (by omega)) (wf64 (by omega) (by omega)) (by simp)).mono ?_
      rw [show appM [1] c i q = [1] from by unfold appM; rw [AX.out.no]; rfl, AX.out.no]
      rintro e w8 ⟨v8, rfl, ho8, hb8⟩
      obtain ⟨A8, k8, rfl, hk8, hm8⟩ := own_form ho8
      obtain ⟨g8, rfl, hg8, hg8', hf8⟩ := own_head ho8 (by simp)
      have hl8 := Lies.own ho8 (Nat.le_refl _)
      have c8 : w8.cell? ⟨g8, 0, none⟩ = some (.int .u8 1) := by
        rcases hl8.octets with h | ⟨b, o, e, _, hc⟩
        · cases h
        · injection e with e
          injection e with e1 e2 e3
          subst e1 e2
          exact hc 0 (by decide)
      have C8 := Lib.hid (BB.out.trans (hb8.mono BB.out.size))
      clear ho8 hl8 hb8 hf8
      go_wp2_with fail
      refine (awake4_any _).mono ?_
      rintro e w9 ⟨rfl, hb9⟩
      have C9 := Lib.hid (C8.out.trans (hb9.mono C8.out.size))
      clear hb9
      go_wp2_with fail
      go_ret
      exact ⟨rfl, C9.out⟩
  · by_cases h0 : p.f.length = 0
    · have h0i : ((p.f.length : Int) == 0) = true := by rw [h0]; rfl
      go_wp2_with fail
      refine (awake4_any _).mono ?_
      rintro e w9 ⟨rfl, hb9⟩
      have C9 := Lib.hid (B2.out.trans (hb9.mono B2.out.size))
      clear hb9
      go_wp2_with fail
      go_ret
      exact ⟨rfl, C9.out⟩
    have h0i : ((p.f.length : Int) == 0) = false := beq_false_of_ne (by omega)
    have h1i : (1 : Int) ≤ (p.f.length : Int) := by omega
    obtain ⟨x1, xs, hx⟩ : ∃ x1 xs, p.f = x1 :: xs := by
      cases h : p.f with
      | nil => rw [h] at h0; simp at h0
      | cons a b => exact ⟨a, b, rfl⟩
    obtain ⟨ba, oa, rfl⟩ : ∃ b o, Af = some ⟨b, o, none⟩ := by
      rcases Lies.own F2.out (Nat.le_refl _) with h | ⟨b, o, e, _, _⟩
      · rw [hx] at h; simp [cellsB] at h
      · exact ⟨b, o, e⟩
    obtain ⟨hcap, hcapm⟩ : p.f.length ≤ kf ∧ kf ≤ maxLen := ⟨by omega, by assumption⟩
    by_cases hc1 : kf = 1
    · obtain ⟨wx, hwx⟩ : ∃ wx, wx = w2.setCell ⟨gm, 4, none⟩ (.slice (some ⟨ba, oa, none⟩) (p.f.length - 1) 0) := ⟨_, rfl⟩
      have AX : Hid (∃ q xN xS xF xT, AskAt w wx gm c i q xN xS xF xT) := Lib.hid (by
        have hgg := HGG.out
        have hg1 := HG1.out
        have hge := HGM.out
        have hO := own_set2 (k := 4) (u := (.slice (some ⟨ba, oa, none⟩) (p.f.length - 1) 0)) F2.out M2.out (by decide)
        have hl := Lies.own hO (Nat.le_refl _)
        rw [hx] at hl
        have HTL : SlAt (w2.setCell ⟨gm, 4, none⟩ (.slice (some ⟨ba, oa, none⟩) (p.f.length - 1) 0)) (w2.setCell ⟨gm, 4, none⟩ (.slice (some ⟨ba, oa, none⟩) (p.f.length - 1) 0)).heap.size (.slice (some ⟨ba, oa, none⟩) (p.f.length - 1) 0) xs.length (cellsB xs) := by
          have h := sl_tail (n := xs.length) (c := kf) hl (by simp [cellsB]) (by rw [hx] at hcap; simpa using hcap) hcapm
          rw [if_pos hc1, hc1] at h
          have e : p.f.length - 1 = xs.length := by rw [hx]; simp
          rw [e]
          exact h
        rw [hwx]
        refine ⟨{ p with f := xs }, _, _, _, _, M2.out.put 4 (.slice (some ⟨ba, oa, none⟩) (p.f.length - 1) 0), B2.out.setCell (p := ⟨gm, 4, none⟩) (show w.heap.size ≤ gm by omega) _, ⟨sl_own (own_set2 N2.out M2.out (by decide)), sl_own (own_set2 S2.out M2.out (by decide)), HTL, by rw [show (Parts.t { p with f := xs }) = [] from HPT.out]; exact TbAt.nil _ _⟩, not_ok HFO.out (no_f (by
          show xs.length ≠ _
          rw [← MO.out.asked.f, hx]
          simp)), ?_⟩
        exact ⟨MO.out.fine.1, MO.out.fine.2⟩)
      have HWX := Lib.hid hwx
      clear hwx hx
      go_upto_region 34 with fail
      rw [← HWX.out]
      obtain ⟨q, xN, xS, xF, xT, hax⟩ := AX.out
      replace AX := Lib.hid hax
      clear hax
      obtain ⟨wb, hwb⟩ : ∃ wb, wb = wx.alloc (.cells #[.int .u8 1] 5) := ⟨_, rfl⟩
      have hbb : Below wx.heap.size wx wb := by rw [hwb]; exact (Below.refl _ _).alloc (Nat.le_refl _) _
      have hsb : wb.heap.size = wx.heap.size + 1 := by rw [hwb]; simp
      have LB : Hid (Lies wb (wx.heap.size + 1) (some ⟨wx.heap.size, 0, none⟩) (B8 [1])) := Lib.hid (by rw [hwb]; exact Lies.one wx 5 (.int .u8 1))
      have MB := AX.out.ms.below hbb AX.out.ms.lt
      have PB := Lib.hid ((AX.out.at_.below hbb).more (show wx.heap.size ≤ wx.heap.size + 1 by omega))
      have BB := Lib.hid (AX.out.bel.trans (hbb.mono AX.out.bel.size))
      obtain ⟨XN, qn, yn, rfl⟩ : ∃ A n c, xN = .slice A n c := by obtain ⟨A, c, h, _⟩ := AX.out.at_.n; exact ⟨_, _, _, h⟩
      obtain ⟨XS, qs, ys, rfl⟩ : ∃ A n c, xS = .slice A n c := by obtain ⟨A, c, h, _⟩ := AX.out.at_.s; exact ⟨_, _, _, h⟩
      obtain ⟨XF, qf, yf, rfl⟩ : ∃ A n c, xF = .slice A n c := by obtain ⟨A, c, h, _⟩ := AX.out.at_.f; exact ⟨_, _, _, h⟩
      obtain ⟨XT, qt, yt, rfl⟩ : ∃ A n c, xT = .slice A n c := by obtain ⟨A, c, d, h, _⟩ := AX.out.at_.t; exact ⟨_, _, _, h⟩
      have r0 : wb.cell? ⟨gm, 0, none⟩ = some (.int .i64 c) := MB.cell 0
      have r1 : wb.cell? ⟨gm, 1, none⟩ = some (.int .i64 i) := MB.cell 1
      have r2 : wb.cell? ⟨gm, 2, none⟩ = some (.slice XN qn yn) := MB.cell 2
      have r3 : wb.cell? ⟨gm, 3, none⟩ = some (.slice XS qs ys) := MB.cell 3
      have r4 : wb.cell? ⟨gm, 4, none⟩ = some (.slice XF qf yf) := MB.cell 4
      have r5 : wb.cell? ⟨gm, 5, none⟩ = some (.slice XT qt yt) := MB.cell 5
      have HWB := Lib.hid hwb
      have HSB := Lib.hid hsb
      rw [hwb] at r0 r1 r2 r3 r4 r5
      clear hwb hsb hbb MB
      go_wp2_with fail
      rw [← HWB.out]
      refine (mappend_any (some ⟨wx.heap.size, 0, none⟩) 1 [1] (wx.heap.size + 1) c i q _ _ _ _ wb LB.out (by rw [HSB.out]; exact Nat.le_refl _) PB.out AX.out.fine (wf64 (by omega) (by omega)) (wf64 (by omega) (by omega)) (by simp)).mono ?_
      rw [show appM [1] c i q = [1] from by unfold appM; rw [AX.out.no]; rfl, AX.out.no]
      rintro e w8 ⟨v8, rfl, ho8, hb8⟩
      obtain ⟨A8, k8, rfl, hk8, hm8⟩ := own_form ho8
      obtain ⟨g8, rfl, hg8, hg8', hf8⟩ := own_head ho8 (by simp)
      have hl8 := Lies.own ho8 (Nat.le_refl _)
      have c8 : w8.cell? ⟨g8, 0, none⟩ = some (.int .u8 1) := by
        rcases hl8.octets with h | ⟨b, o, e, _, hc⟩
        · cases h
        · injection e with e
          injection e with e1 e2 e3
          subst e1 e2
          exact hc 0 (by decide)
      have C8 := Lib.hid (BB.out.trans (hb8.mono BB.out.size))
      clear ho8 hl8 hb8 hf8
      go_wp2_with fail
      refine (awake4_any _).mono ?_
      rintro e w9 ⟨rfl, hb9⟩
      have C9 := Lib.hid (C8.out.trans (hb9.mono C8.out.size))
      clear hb9
      go_wp2_with fail
      go_ret
      exact ⟨rfl, C9.out⟩
    · obtain ⟨wx, hwx⟩ : ∃ wx, wx = w2.setCell ⟨gm, 4, none⟩ (.slice (some ⟨ba, oa + 1, none⟩) (p.f.length - 1) (kf - 1)) := ⟨_, rfl⟩
      have AX : Hid (∃ q xN xS xF xT, AskAt w wx gm c i q xN xS xF xT) := Lib.hid (by
        have hgg := HGG.out
        have hg1 := HG1.out
        have hge := HGM.out
        have hO := own_set2 (k := 4) (u := (.slice (some ⟨ba, oa + 1, none⟩) (p.f.length - 1) (kf - 1))) F2.out M2.out (by decide)
        have hl := Lies.own hO (Nat.le_refl _)
        rw [hx] at hl
        have HTL : SlAt (w2.setCell ⟨gm, 4, none⟩ (.slice (some ⟨ba, oa + 1, none⟩) (p.f.length - 1) (kf - 1))) (w2.setCell ⟨gm, 4, none⟩ (.slice (some ⟨ba, oa + 1, none⟩) (p.f.length - 1) (kf - 1))).heap.size (.slice (some ⟨ba, oa + 1, none⟩) (p.f.length - 1) (kf - 1)) xs.length (cellsB xs) := by
          have h := sl_tail (n := xs.length) (c := kf) hl (by simp [cellsB]) (by rw [hx] at hcap; simpa using hcap) hcapm
          rw [if_neg hc1] at h
          have e : p.f.length - 1 = xs.length := by rw [hx]; simp
          rw [e]
          exact h
        rw [hwx]
        refine ⟨{ p with f := xs }, _, _, _, _, M2.out.put 4 (.slice (some ⟨ba, oa + 1, none⟩) (p.f.length - 1) (kf - 1)), B2.out.setCell (p := ⟨gm, 4, none⟩) (show w.heap.size ≤ gm by omega) _, ⟨sl_own (own_set2 N2.out M2.out (by decide)), sl_own (own_set2 S2.out M2.out (by decide)), HTL, by rw [show (Parts.t { p with f := xs }) = [] from HPT.out]; exact TbAt.nil _ _⟩, not_ok HFO.out (no_f (by
          show xs.length ≠ _
          rw [← MO.out.asked.f, hx]
          simp)), ?_⟩
        exact ⟨MO.out.fine.1, MO.out.fine.2⟩)
      have HWX := Lib.hid hwx
      clear hwx hx
      go_upto_region 34 with fail
      rw [← HWX.out]
      obtain ⟨q, xN, xS, xF, xT, hax⟩ := AX.out
      replace AX := Lib.hid hax
      clear hax
      obtain ⟨wb, hwb⟩ : ∃ wb, wb = wx.alloc (.cells #[.int .u8 1] 5) := ⟨_, rfl⟩
      have hbb : Below wx.heap.size wx wb := by rw [hwb]; exact (Below.refl _ _).alloc (Nat.le_refl _) _
      have hsb : wb.heap.size = wx.heap.size + 1 := by rw [hwb]; simp
      have LB : Hid (Lies wb (wx.heap.size + 1) (some ⟨wx.heap.size, 0, none⟩) (B8 [1])) := Lib.hid (by rw [hwb]; exact Lies.one wx 5 (.int .u8 1))
      have MB := AX.out.ms.below hbb AX.out.ms.lt
      have PB := Lib.hid ((AX.out.at_.below hbb).more (show wx.heap.size ≤ wx.heap.size + 1 by omega))
      have BB := Lib.hid (AX.out.bel.trans (hbb.mono AX.out.bel.size))
      obtain ⟨XN, qn, yn, rfl⟩ : ∃ A n c, xN = .slice A n c := by obtain ⟨A, c, h, _⟩ := AX.out.at_.n; exact ⟨_, _, _, h⟩
      obtain ⟨XS, qs, ys, rfl⟩ : ∃ A n c, xS = .slice A n c := by obtain ⟨A, c, h, _⟩ := AX.out.at_.s; exact ⟨_, _, _, h⟩
      obtain ⟨XF, qf, yf, rfl⟩ : ∃ A n c, xF = .slice A n c := by obtain ⟨A, c, h, _⟩ := AX.out.at_.f; exact ⟨_, _, _, h⟩
      obtain ⟨XT, qt, yt, rfl⟩ : ∃ A n c, xT = .slice A n c := by obtain ⟨A, c, d, h, _⟩ := AX.out.at_.t; exact ⟨_, _, _, h⟩
      have r0 : wb.cell? ⟨gm, 0, none⟩ = some (.int .i64 c) := MB.cell 0
      have r1 : wb.cell? ⟨gm, 1, none⟩ = some (.int .i64 i) := MB.cell 1
      have r2 : wb.cell? ⟨gm, 2, none⟩ = some (.slice XN qn yn) := MB.cell 2
      have r3 : wb.cell? ⟨gm, 3, none⟩ = some (.slice XS qs ys) := MB.cell 3
      have r4 : wb.cell? ⟨gm, 4, none⟩ = some (.slice XF qf yf) := MB.cell 4
      have r5 : wb.cell? ⟨gm, 5, none⟩ = some (.slice XT qt yt) := MB.cell 5
      have HWB := Lib.hid hwb
      have HSB := Lib.hid hsb
      rw [hwb] at r0 r1 r2 r3 r4 r5
      clear hwb hsb hbb MB
      go_wp2_with fail
      rw [← HWB.out]
      refine (mappend_any (some ⟨wx.heap.size, 0, none⟩) 1 [1] (wx.heap.size + 1) c i q _ _ _ _ wb LB.out (by rw [HSB.out]; exact Nat.le_refl _) PB.out AX.out.fine (wf64 (by omega) (by omega)) (wf64 (by omega) (by omega)) (by simp)).mono ?_
      rw [show appM [1] c i q = [1] from by unfold appM; rw [AX.out.no]; rfl, AX.out.no]
      rintro e w8 ⟨v8, rfl, ho8, hb8⟩
      obtain ⟨A8, k8, rfl, hk8, hm8⟩ := own_form ho8
      obtain ⟨g8, rfl, hg8, hg8', hf8⟩ := own_head ho8 (by simp)
      have hl8 := Lies.own ho8 (Nat.le_refl _)
      have c8 : w8.cell? ⟨g8, 0, none⟩ = some (.int .u8 1) := by
        rcases hl8.octets with h | ⟨b, o, e, _, hc⟩
        · cases h
        · injection e with e
          injection e with e1 e2 e3
          subst e1 e2
          exact hc 0 (by decide)
      have C8 := Lib.hid (BB.out.trans (hb8.mono BB.out.size))
      clear ho8 hl8 hb8 hf8
      go_wp2_with fail
      refine (awake4_any _).mono ?_
      rintro e w9 ⟨rfl, hb9⟩
      have C9 := Lib.hid (C8.out.trans (hb9.mono C8.out.size))
      clear hb9
      go_wp2_with fail
      go_ret
      exact ⟨rfl, C9.out⟩
  · by_cases hL0 : L.length = 0
    · have h0i : ((L.length : Int) == 0) = true := by rw [hL0]; rfl
      go_wp2_with fail
      refine (awake4_any _).mono ?_
      rintro e w9 ⟨rfl, hb9⟩
      have C9 := Lib.hid (B2.out.trans (hb9.mono B2.out.size))
      clear hb9
      go_wp2_with fail
      go_ret
      exact ⟨rfl, C9.out⟩
    have h0i : ((L.length : Int) == 0) = false := beq_false_of_ne (by omega)
    have hLp : (0 : Int) < (L.length : Int) := by omega
    have hjs : 0 < (⟨L.toArray⟩ : ByteArray).size := by show 0 < L.toArray.size; simp; omega
    obtain ⟨ch, hch⟩ : ∃ ch, ch = L[0]'(by omega) := ⟨_, rfl⟩
    have hidx : ((⟨L.toArray⟩ : ByteArray)[0]'hjs).toNat = ch.toNat := by rw [hch]; rfl
    by_cases h50 : ch = 50
    · have hne : ((((⟨L.toArray⟩ : ByteArray)[0]'hjs).toNat : Int) == 50) = true := by rw [hidx, h50]; rfl
      have hL50 : L[0]? = some 50 := by rw [List.getElem?_eq_getElem (by omega), ← hch, h50]
      have hnp : 0 < p.n.length := by
        rw [MO.out.asked.n]
        cases L with
        | nil => simp at hL0
        | cons a r =>
          have e : a = 50 := Option.some.inj hL50
          subst e
          simp [cN]
      have h1i : (1 : Int) ≤ (p.n.length : Int) := by omega
      obtain ⟨x1, xs, hx⟩ : ∃ x1 xs, p.n = x1 :: xs := by
        cases h : p.n with
        | nil => rw [h] at hnp; simp at hnp
        | cons a b => exact ⟨a, b, rfl⟩
      have hxl : p.n.length - 1 = xs.length := by rw [hx]; simp
      obtain ⟨ba, oa, rfl⟩ : ∃ b o, An = some ⟨b, o, none⟩ := by
        rcases Lies.own N2.out (Nat.le_refl _) with h | ⟨b, o, e, _, _⟩
        · rw [hx] at h; simp [cellsN] at h
        · exact ⟨b, o, e⟩
      obtain ⟨hcap, hcapm⟩ : p.n.length ≤ kn ∧ kn ≤ maxLen := ⟨by omega, by assumption⟩
      obtain ⟨i0, hi, hz0, hz1, hz2⟩ := info_parts nums_info
      have HI := Lib.hid hi
      have G0 := Lib.hid hz0
      have G1 := Lib.hid hz1
      have G2 := Lib.hid hz2
      clear hi hz0 hz1 hz2
      have HOW : Hid ((w2.alloc (.cells #[.int .u64 65536] 27)).ownsRow w2.heap.size 27 1 (.slice (some ⟨w2.heap.size, 0, none⟩) 1 1) 1 [.int .u64 65536]) := Lib.hid (own_one w2 _ _ _ (Nat.le_refl _))
      have hza : w2.heap.size ≤ (w2.alloc (.cells #[.int .u64 65536] 27)).heap.size := by simp
      have hsA : 1 + (p.n.length - 1) ≤ maxLen := by unfold maxLen; omega
      have hsB : (1 + (p.n.length - 1)) * 8 ≤ 140737488355328 := by omega
      have NONE : ∀ u ∈ cellsN xs, u.oneCell' = true := by
        intro u hu
        simp only [cellsN, List.mem_map] at hu
        obtain ⟨y, _, rfl⟩ := hu
        rfl
      have KM : Hid (∀ w7, (w2.alloc (.cells #[.int .u64 65536] 27)).grownBy w7 (Value.slice (some ⟨w2.heap.size, 0, none⟩) 1 1).ownBlock → Whole w7 gm 32 #[.int .i64 c, .int .i64 i, .slice (some ⟨ba, oa, none⟩) p.n.length kn, .slice As p.s.length ks, .slice Af p.f.length kf, .slice none 0 0]) := Lib.hid (fun w7 h => by
        exact (M2.out.alloc _).grown h (by intro e; have e2 : gm = w2.heap.size := Option.some.inj e; omega))
      have KO : Hid (∀ w7 (b e n : Nat) (v : Value) (ys : List Value), (w2.alloc (.cells #[.int .u64 65536] 27)).grownBy w7 (Value.slice (some ⟨w2.heap.size, 0, none⟩) 1 1).ownBlock → w2.ownsRow b e 1 v n ys → w7.ownsRow b e 1 v n ys) := Lib.hid (fun w7 b e n v ys h ho => by
        refine (ho.alloc _).kept h ?_
        cases hv : v.ownBlock with
        | none => exact .inl rfl
        | some k =>
          right
          intro e
          have e2 : k = w2.heap.size := Option.some.inj e
          have := (ho.lt k hv).2
          omega)
      have D : Hid (∀ (w7 : World) (v7 : Value), w7.ownsRow w2.heap.size 27 1 v7 (1 + (p.n.length - 1)) ([.int .u64 65536] ++ cellsN xs) → (w2.alloc (.cells #[.int .u64 65536] 27)).grownBy w7 (Value.slice (some ⟨w2.heap.size, 0, none⟩) 1 1).ownBlock → ∃ q xN xS xF xT, AskAt w (w7.setCell ⟨gm, 2, none⟩ v7) gm c i q xN xS xF xT) := Lib.hid (fun w7 v7 ho hgw => by
        have hgg := HGG.out
        have hg1 := HG1.out
        have hge := HGM.out
        have hO : w7.ownsRow w2.heap.size 27 1 v7 (65536 :: xs).length (cellsN (65536 :: xs)) := by
          rw [hxl, Nat.add_comm] at ho
          exact ho
        have hb7 : Below w.heap.size w w7 := by
          exact (B2.out.alloc B2.out.size _).grown hgw (Nat.le_trans B2.out.size (by simp)) (fun k hk => by have e2 : w2.heap.size = k := Option.some.inj hk; have := B2.out.size; omega)
        refine ⟨{ p with n := 65536 :: xs }, _, _, _, _, (KM.out w7 hgw).put 2 v7, hb7.setCell (p := ⟨gm, 2, none⟩) (show w.heap.size ≤ gm by omega) _, ⟨sl_own (own_set2 hO (KM.out w7 hgw) (by decide)), sl_own (own_set2 (KO.out w7 _ _ _ _ _ hgw S2.out) (KM.out w7 hgw) (by decide)), sl_own (own_set2 (KO.out w7 _ _ _ _ _ hgw F2.out) (KM.out w7 hgw) (by decide)), by rw [show (Parts.t { p with n := 65536 :: xs }) = [] from HPT.out]; exact TbAt.nil _ _⟩, not_ok HFO.out (no_two hL50 rfl (Nat.le_refl _)), ?_⟩
        exact ⟨MO.out.fine.1, fun y hy => by
          rcases List.mem_cons.1 hy with h | h
          · omega
          · exact MO.out.fine.2 y (by rw [hx]; simp [h])⟩)
      clear hidx hch h50 hL50 hnp
      by_cases hc1 : kn = 1
      · have LT : Hid (Lies (w2.alloc (.cells #[.int .u64 65536] 27)) (w2.alloc (.cells #[.int .u64 65536] 27)).heap.size (some ⟨ba, oa, none⟩) (cellsN xs)) := Lib.hid (by
          have hl := Lies.own N2.out (Nat.le_refl _)
          rw [hx] at hl
          obtain ⟨A9, c9, he, _, _, h⟩ := sl_tail (n := xs.length) (c := kn) hl (by simp [cellsN]) (by rw [hx] at hcap; simpa using hcap) hcapm
          rw [if_pos hc1] at he
          injection he with he1 he2 he3
          rw [← he1] at h
          exact (h.alloc (Nat.le_refl _) _).more (by simp))
        have HX := Lib.hid hx
        have HXL := Lib.hid hxl
        clear hx hxl
        go_upto_region 34 with (at_builtin; go_must (refine wpList_append_apart rfl _ _ 28 rfl w2.heap.size 27 i0 (.int .u64 0) 1 8 Tryd.underlying28 HI.out G0.out G1.out G2.out rfl (by omega) _ 1 [.int .u64 65536] rfl HOW.out (w2.alloc (.cells #[.int .u64 65536] 27)).heap.size (some ⟨ba, oa, none⟩) (p.n.length - 1) 0 (cellsN xs) rfl LT.out (by rw [HXL.out]; simp [cellsN]) NONE hsA hsB hza ?_); intro v7 w7 hown7 hg7; obtain ⟨A7, k7, rfl, _, _⟩ := own_form hown7; have HO7 := Lib.hid hown7; have HG7 := Lib.hid hg7; have e3 := (KM.out _ hg7).cell 2; have y3 := (KM.out _ hg7).frozen 2; clear hown7 hg7)
        obtain ⟨q, xN, xS, xF, xT, hax⟩ := D.out _ _ HO7.out HG7.out
        obtain ⟨wx, hwx⟩ : ∃ wx, wx = w7.setCell ⟨gm, 2, none⟩ (.slice A7 (1 + (p.n.length - 1)) k7) := ⟨_, rfl⟩
        rw [← hwx] at hax ⊢
        have AX := Lib.hid hax
        clear hax hwx e3 y3
        obtain ⟨wb, hwb⟩ : ∃ wb, wb = wx.alloc (.cells #[.int .u8 1] 5) := ⟨_, rfl⟩
        have hbb : Below wx.heap.size wx wb := by rw [hwb]; exact (Below.refl _ _).alloc (Nat.le_refl _) _
        have hsb : wb.heap.size = wx.heap.size + 1 := by rw [hwb]; simp
        have LB : Hid (Lies wb (wx.heap.size + 1) (some ⟨wx.heap.size, 0, none⟩) (B8 [1])) := Lib.hid (by rw [hwb]; exact Lies.one wx 5 (.int .u8 1))
        have MB := AX.out.ms.below hbb AX.out.ms.lt
        have PB := Lib.hid ((AX.out.at_.below hbb).more (show wx.heap.size ≤ wx.heap.size + 1 by omega))
        have BB := Lib.hid (AX.out.bel.trans (hbb.mono AX.out.bel.size))
        obtain ⟨XN, qn, yn, rfl⟩ : ∃ A n c, xN = .slice A n c := by obtain ⟨A, c, h, _⟩ := AX.out.at_.n; exact ⟨_, _, _, h⟩
        obtain ⟨XS, qs, ys, rfl⟩ : ∃ A n c, xS = .slice A n c := by obtain ⟨A, c, h, _⟩ := AX.out.at_.s; exact ⟨_, _, _, h⟩
        obtain ⟨XF, qf, yf, rfl⟩ : ∃ A n c, xF = .slice A n c := by obtain ⟨A, c, h, _⟩ := AX.out.at_.f; exact ⟨_, _, _, h⟩
        obtain ⟨XT, qt, yt, rfl⟩ : ∃ A n c, xT = .slice A n c := by obtain ⟨A, c, d, h, _⟩ := AX.out.at_.t; exact ⟨_, _, _, h⟩
        have r0 : wb.cell? ⟨gm, 0, none⟩ = some (.int .i64 c) := MB.cell 0
        have r1 : wb.cell? ⟨gm, 1, none⟩ = some (.int .i64 i) := MB.cell 1
        have r2 : wb.cell? ⟨gm, 2, none⟩ = some (.slice XN qn yn) := MB.cell 2
        have r3 : wb.cell? ⟨gm, 3, none⟩ = some (.slice XS qs ys) := MB.cell 3
        have r4 : wb.cell? ⟨gm, 4, none⟩ = some (.slice XF qf yf) := MB.cell 4
        have r5 : wb.cell? ⟨gm, 5, none⟩ = some (.slice XT qt yt) := MB.cell 5
        have HWB := Lib.hid hwb
        have HSB := Lib.hid hsb
        rw [hwb] at r0 r1 r2 r3 r4 r5
        clear hwb hsb hbb MB
        go_wp2_with fail
        rw [← HWB.out]
        refine (mappend_any (some ⟨wx.heap.size, 0, none⟩) 1 [1] (wx.heap.size + 1) c i q _ _ _ _ wb LB.out (by rw [HSB.out]; exact Nat.le_refl _) PB.out AX.out.fine (wf64 (by omega) (by omega)) (wf64 (by omega) (by omega)) (by simp)).mono ?_
        rw [show appM [1] c i q = [1] from by unfold appM; rw [AX.out.no]; rfl, AX.out.no]
        rintro e w8 ⟨v8, rfl, ho8, hb8⟩
        obtain ⟨A8, k8, rfl, hk8, hm8⟩ := own_form ho8
        obtain ⟨g8, rfl, hg8, hg8', hf8⟩ := own_head ho8 (by simp)
        have hl8 := Lies.own ho8 (Nat.le_refl _)
        have c8 : w8.cell? ⟨g8, 0, none⟩ = some (.int .u8 1) := by
          rcases hl8.octets with h | ⟨b, o, e, _, hc⟩
          · cases h
          · injection e with e
            injection e with e1 e2 e3
            subst e1 e2
            exact hc 0 (by decide)
        have C8 := Lib.hid (BB.out.trans (hb8.mono BB.out.size))
        clear ho8 hl8 hb8 hf8
        go_wp2_with fail
        refine (awake4_any _).mono ?_
        rintro e w9 ⟨rfl, hb9⟩
        have C9 := Lib.hid (C8.out.trans (hb9.mono C8.out.size))
        clear hb9
        go_wp2_with fail
        go_ret
        exact ⟨rfl, C9.out⟩
      · have LT : Hid (Lies (w2.alloc (.cells #[.int .u64 65536] 27)) (w2.alloc (.cells #[.int .u64 65536] 27)).heap.size (some ⟨ba, oa + 1, none⟩) (cellsN xs)) := Lib.hid (by
          have hl := Lies.own N2.out (Nat.le_refl _)
          rw [hx] at hl
          obtain ⟨A9, c9, he, _, _, h⟩ := sl_tail (n := xs.length) (c := kn) hl (by simp [cellsN]) (by rw [hx] at hcap; simpa using hcap) hcapm
          rw [if_neg hc1] at he
          injection he with he1 he2 he3
          rw [← he1] at h
          exact (h.alloc (Nat.le_refl _) _).more (by simp))
        have HX := Lib.hid hx
        have HXL := Lib.hid hxl
        clear hx hxl
        go_upto_region 34 with (at_builtin; go_must (refine wpList_append_apart rfl _ _ 28 rfl w2.heap.size 27 i0 (.int .u64 0) 1 8 Tryd.underlying28 HI.out G0.out G1.out G2.out rfl (by omega) _ 1 [.int .u64 65536] rfl HOW.out (w2.alloc (.cells #[.int .u64 65536] 27)).heap.size (some ⟨ba, oa + 1, none⟩) (p.n.length - 1) (kn - 1) (cellsN xs) rfl LT.out (by rw [HXL.out]; simp [cellsN]) NONE hsA hsB hza ?_); intro v7 w7 hown7 hg7; obtain ⟨A7, k7, rfl, _, _⟩ := own_form hown7; have HO7 := Lib.hid hown7; have HG7 := Lib.hid hg7; have e3 := (KM.out _ hg7).cell 2; have y3 := (KM.out _ hg7).frozen 2; clear hown7 hg7)
        obtain ⟨q, xN, xS, xF, xT, hax⟩ := D.out _ _ HO7.out HG7.out
        obtain ⟨wx, hwx⟩ : ∃ wx, wx = w7.setCell ⟨gm, 2, none⟩ (.slice A7 (1 + (p.n.length - 1)) k7) := ⟨_, rfl⟩
        rw [← hwx] at hax ⊢
        have AX := Lib.hid hax
        clear hax hwx e3 y3
        obtain ⟨wb, hwb⟩ : ∃ wb, wb = wx.alloc (.cells #[.int .u8 1] 5) := ⟨_, rfl⟩
        have hbb : Below wx.heap.size wx wb := by rw [hwb]; exact (Below.refl _ _).alloc (Nat.le_refl _) _
        have hsb : wb.heap.size = wx.heap.size + 1 := by rw [hwb]; simp
        have LB : Hid (Lies wb (wx.heap.size + 1) (some ⟨wx.heap.size, 0, none⟩) (B8 [1])) := Lib.hid (by rw [hwb]; exact Lies.one wx 5 (.int .u8 1))
        have MB := AX.out.ms.below hbb AX.out.ms.lt
        have PB := Lib.hid ((AX.out.at_.below hbb).more (show wx.heap.size ≤ wx.heap.size + 1 by omega))
        have BB := Lib.hid (AX.out.bel.trans (hbb.mono AX.out.bel.size))
        obtain ⟨XN, qn, yn, rfl⟩ : ∃ A n c, xN = .slice A n c := by obtain ⟨A, c, h, _⟩ := AX.out.at_.n; exact ⟨_, _, _, h⟩
        obtain ⟨XS, qs, ys, rfl⟩ : ∃ A n c, xS = .slice A n c := by obtain ⟨A, c, h, _⟩ := AX.out.at_.s; exact ⟨_, _, _, h⟩
        obtain ⟨XF, qf, yf, rfl⟩ : ∃ A n c, xF = .slice A n c := by obtain ⟨A, c, h, _⟩ := AX.out.at_.f; exact ⟨_, _, _, h⟩
        obtain ⟨XT, qt, yt, rfl⟩ : ∃ A n c, xT = .slice A n c := by obtain ⟨A, c, d, h, _⟩ := AX.out.at_.t; exact ⟨_, _, _, h⟩
        have r0 : wb.cell? ⟨gm, 0, none⟩ = some (.int .i64 c) := MB.cell 0
        have r1 : wb.cell? ⟨gm, 1, none⟩ = some (.int .i64 i) := MB.cell 1
        have r2 : wb.cell? ⟨gm, 2, none⟩ = some (.slice XN qn yn) := MB.cell 2
        have r3 : wb.cell? ⟨gm, 3, none⟩ = some (.slice XS qs ys) := MB.cell 3
        have r4 : wb.cell? ⟨gm, 4, none⟩ = some (.slice XF qf yf) := MB.cell 4
        have r5 : wb.cell? ⟨gm, 5, none⟩ = some (.slice XT qt yt) := MB.cell 5
        have HWB := Lib.hid hwb
        have HSB := Lib.hid hsb
        rw [hwb] at r0 r1 r2 r3 r4 r5
        clear hwb hsb hbb MB
        go_wp2_with fail
        rw [← HWB.out]
        refine (mappend_any (some ⟨wx.heap.size, 0, none⟩) 1 [1] (wx.heap.size + 1) c i q _ _ _ _ wb LB.out (by rw [HSB.out]; exact Nat.le_refl _) PB.out AX.out.fine (wf64 (by omega) (by omega)) (wf64 (by omega) (by omega)) (by simp)).mono ?_
        rw [show appM [1] c i q = [1] from by unfold appM; rw [AX.out.no]; rfl, AX.out.no]
        rintro e w8 ⟨v8, rfl, ho8, hb8⟩
        obtain ⟨A8, k8, rfl, hk8, hm8⟩ := own_form ho8
        obtain ⟨g8, rfl, hg8, hg8', hf8⟩ := own_head ho8 (by simp)
        have hl8 := Lies.own ho8 (Nat.le_refl _)
        have c8 : w8.cell? ⟨g8, 0, none⟩ = some (.int .u8 1) := by
          rcases hl8.octets with h | ⟨b, o, e, _, hc⟩
          · cases h
          · injection e with e
            injection e with e1 e2 e3
            subst e1 e2
            exact hc 0 (by decide)
        have C8 := Lib.hid (BB.out.trans (hb8.mono BB.out.size))
        clear ho8 hl8 hb8 hf8
        go_wp2_with fail
        refine (awake4_any _).mono ?_
        rintro e w9 ⟨rfl, hb9⟩
        have C9 := Lib.hid (C8.out.trans (hb9.mono C8.out.size))
        clear hb9
        go_wp2_with fail
        go_ret
        exact ⟨rfl, C9.out⟩
    · have hne : ((((⟨L.toArray⟩ : ByteArray)[0]'hjs).toNat : Int) == 50) = false := by
        rw [hidx]
        apply beq_false_of_ne
        intro e
        apply h50
        apply UInt8.toNat_inj.1
        have : ch.toNat = 50 := by omega
        exact this
      clear hidx hch h50
      go_wp2_with fail
      refine (awake4_any _).mono ?_
      rintro e w9 ⟨rfl, hb9⟩
      have C9 := Lib.hid (B2.out.trans (hb9.mono B2.out.size))
      clear hb9
      go_wp2_with fail
      go_ret
      exact ⟨rfl, C9.out⟩
  · go_upto_region 6 with fail
    go_wp2_with fail
    go_loopw [14] (fun vi wr => ∃ j : Nat, vi = .int .i64 j ∧ j ≤ L.length ∧ (116 : UInt8) ∉ L.take j ∧ wr = w2) (fun vi _ => L.length - (intOf vi).toNat)
    case atStart => exact ⟨0, rfl, Nat.zero_le _, by simp, rfl⟩
    case round =>
      obtain ⟨j, rfl, hj, hnot, hwr⟩ := hrel
      subst wr
      have HNOT := Lib.hid hnot
      clear hnot
      by_cases hlt : j < L.length
      · have q1 : (j : Int) < (L.length : Int) := by omega
        have q0 : (0 : Int) ≤ (j : Int) := by omega
        have hjs : j < (⟨L.toArray⟩ : ByteArray).size := by show j < L.toArray.size; simpa using hlt
        obtain ⟨ch, hch⟩ : ∃ ch, ch = L[j] := ⟨_, rfl⟩
        have hidx : ((⟨L.toArray⟩ : ByteArray)[j]'hjs).toNat = ch.toNat := by rw [hch]; rfl
        by_cases h116 : ch = 116
        · have hne : ((((⟨L.toArray⟩ : ByteArray)[j]'hjs).toNat : Int) == 116) = true := by rw [hidx, h116]; rfl
          clear hidx hch h116
          go_wp2_with fail
          refine (awake4_any _).mono ?_
          rintro e w9 ⟨rfl, hb9⟩
          have C9 := Lib.hid (B2.out.trans (hb9.mono B2.out.size))
          clear hb9
          go_wp2_with fail
          go_ret
          exact ⟨rfl, C9.out⟩
        · have hne : ((((⟨L.toArray⟩ : ByteArray)[j]'hjs).toNat : Int) == 116) = false := by
            rw [hidx]
            apply beq_false_of_ne
            intro e
            apply h116
            apply UInt8.toNat_inj.1
            have : ch.toNat = 116 := by omega
            exact this
          have D : Hid ((116 : UInt8) ∉ L.take (j + 1)) := Lib.hid (by
            rw [List.take_succ_eq_append_getElem hlt, ← hch, List.mem_append]
            rintro (h | h)
            · exact HNOT.out h
            · rw [List.mem_singleton] at h
              exact h116 h.symm)
          clear hidx hch h116
          go_wp2_with fail
          go_roundw
          case rel => exact ⟨j + 1, by go_num, by omega, D.out, trivial⟩
          case measure => simp [intOf]; omega
      · obtain rfl : j = L.length := by omega
        have q1 : ¬ (L.length : Int) < (L.length : Int) := Int.lt_irrefl _
        have hc0 : L.count 116 = 0 := List.count_eq_zero.2 (by have h := HNOT.out; rw [List.take_length] at h; exact h)
        obtain ⟨ws, hws⟩ : ∃ ws, ws = w2.setCell ⟨gm, 5, none⟩ (.slice (some ⟨w2.heap.size, 0, none⟩) 1 1) := ⟨_, rfl⟩
        have hsz : ws.heap.size = w2.heap.size := by rw [hws]; simp [World.setCell]
        obtain ⟨wx, hwx⟩ : ∃ wx, wx = ws.alloc (.cells #[.string ⟨#[120]⟩, .int .u8 86, .int .i64 0, .string ⟨#[]⟩, .slice none 0 0] 50) := ⟨_, rfl⟩
        have e3 : w2.cell? ⟨gm, 5, none⟩ = some (.slice none 0 0) := M2.out.cell 5
        have y3 : w2.frozen? ⟨gm, 5, none⟩ = false := M2.out.frozen 5
        have AX : Hid (∃ q xN xS xF xT, AskAt w wx gm c i q xN xS xF xT) := Lib.hid (by
          have hgg := HGG.out
          have hg1 := HG1.out
          have hge := HGM.out
          have hva := vfield_at ws
          have MW := M2.out.put 5 (.slice (some ⟨w2.heap.size, 0, none⟩) 1 1)
          rw [← hws] at MW
          have hn : ws.ownsRow (g + 1) 27 1 (.slice An p.n.length kn) p.n.length (cellsN p.n) := by rw [hws]; exact own_set2 N2.out M2.out (by decide)
          have hs : ws.ownsRow (g + 1) 9 1 (.slice As p.s.length ks) p.s.length (cellsS p.s) := by rw [hws]; exact own_set2 S2.out M2.out (by decide)
          have hf : ws.ownsRow (g + 1) 4 1 (.slice Af p.f.length kf) p.f.length (cellsB p.f) := by rw [hws]; exact own_set2 F2.out M2.out (by decide)
          have hbs : Below w.heap.size w ws := by rw [hws]; exact B2.out.setCell (p := ⟨gm, 5, none⟩) (show w.heap.size ≤ gm by omega) _
          rw [hsz] at hva
          have hsx : wx.heap.size = w2.heap.size + 1 := by rw [hwx]; simp [hsz]
          rw [← hwx] at hva
          refine ⟨{ p with t := [.mk [120] 86 0 [] []] }, _, _, _, _, (by rw [hwx]; exact MW.alloc _), (by rw [hwx]; exact hbs.alloc hbs.size _), ⟨sl_own (by rw [hwx]; exact hn.alloc _), sl_own (by rw [hwx]; exact hs.alloc _), sl_own (by rw [hwx]; exact hf.alloc _), ?_⟩, not_ok HFO.out (no_t hc0 (by simp)), ⟨MO.out.fine.1, MO.out.fine.2⟩⟩
          rw [hsx]
          exact hva)
        have HWA := Lib.hid hws
        have HWX := Lib.hid hwx
        clear hws hwx hsz hc0
        go_upto_region 34 with fail
        rw [← HWA.out, ← HWX.out]
        obtain ⟨q, xN, xS, xF, xT, hax⟩ := AX.out
        replace AX := Lib.hid hax
        clear hax e3 y3
        obtain ⟨wb, hwb⟩ : ∃ wb, wb = wx.alloc (.cells #[.int .u8 1] 5) := ⟨_, rfl⟩
        have hbb : Below wx.heap.size wx wb := by rw [hwb]; exact (Below.refl _ _).alloc (Nat.le_refl _) _
        have hsb : wb.heap.size = wx.heap.size + 1 := by rw [hwb]; simp
        have LB : Hid (Lies wb (wx.heap.size + 1) (some ⟨wx.heap.size, 0, none⟩) (B8 [1])) := Lib.hid (by rw [hwb]; exact Lies.one wx 5 (.int .u8 1))
        have MB := AX.out.ms.below hbb AX.out.ms.lt
        have PB := Lib.hid ((AX.out.at_.below hbb).more (show wx.heap.size ≤ wx.heap.size + 1 by omega))
        have BB := Lib.hid (AX.out.bel.trans (hbb.mono AX.out.bel.size))
        obtain ⟨XN, qn, yn, rfl⟩ : ∃ A n c, xN = .slice A n c := by obtain ⟨A, c, h, _⟩ := AX.out.at_.n; exact ⟨_, _, _, h⟩
        obtain ⟨XS, qs, ys, rfl⟩ : ∃ A n c, xS = .slice A n c := by obtain ⟨A, c, h, _⟩ := AX.out.at_.s; exact ⟨_, _, _, h⟩
        obtain ⟨XF, qf, yf, rfl⟩ : ∃ A n c, xF = .slice A n c := by obtain ⟨A, c, h, _⟩ := AX.out.at_.f; exact ⟨_, _, _, h⟩
        obtain ⟨XT, qt, yt, rfl⟩ : ∃ A n c, xT = .slice A n c := by obtain ⟨A, c, d, h, _⟩ := AX.out.at_.t; exact ⟨_, _, _, h⟩
        have r0 : wb.cell? ⟨gm, 0, none⟩ = some (.int .i64 c) := MB.cell 0
        have r1 : wb.cell? ⟨gm, 1, none⟩ = some (.int .i64 i) := MB.cell 1
        have r2 : wb.cell? ⟨gm, 2, none⟩ = some (.slice XN qn yn) := MB.cell 2
        have r3 : wb.cell? ⟨gm, 3, none⟩ = some (.slice XS qs ys) := MB.cell 3
        have r4 : wb.cell? ⟨gm, 4, none⟩ = some (.slice XF qf yf) := MB.cell 4
        have r5 : wb.cell? ⟨gm, 5, none⟩ = some (.slice XT qt yt) := MB.cell 5
        have HWB := Lib.hid hwb
        have HSB := Lib.hid hsb
        rw [hwb] at r0 r1 r2 r3 r4 r5
        clear hwb hsb hbb MB
        go_wp2_with fail
        rw [← HWB.out]
        refine (mappend_any (some ⟨wx.heap.size, 0, none⟩) 1 [1] (wx.heap.size + 1) c i q _ _ _ _ wb LB.out (by rw [HSB.out]; exact Nat.le_refl _) PB.out AX.out.fine (wf64 (by omega) (by omega)) (wf64 (by omega) (by omega)) (by simp)).mono ?_
        rw [show appM [1] c i q = [1] from by unfold appM; rw [AX.out.no]; rfl, AX.out.no]
        rintro e w8 ⟨v8, rfl, ho8, hb8⟩
        obtain ⟨A8, k8, rfl, hk8, hm8⟩ := own_form ho8
        obtain ⟨g8, rfl, hg8, hg8', hf8⟩ := own_head ho8 (by simp)
        have hl8 := Lies.own ho8 (Nat.le_refl _)
        have c8 : w8.cell? ⟨g8, 0, none⟩ = some (.int .u8 1) := by
          rcases hl8.octets with h | ⟨b, o, e, _, hc⟩
          · cases h
          · injection e with e
            injection e with e1 e2 e3
            subst e1 e2
            exact hc 0 (by decide)
        have C8 := Lib.hid (BB.out.trans (hb8.mono BB.out.size))
        clear ho8 hl8 hb8 hf8
        go_wp2_with fail
        refine (awake4_any _).mono ?_
        rintro e w9 ⟨rfl, hb9⟩
        have C9 := Lib.hid (C8.out.trans (hb9.mono C8.out.size))
        clear hb9
        go_wp2_with fail
        go_ret
        exact ⟨rfl, C9.out⟩
end Go.Proofs.YtlfppfknelddcaaDoor
