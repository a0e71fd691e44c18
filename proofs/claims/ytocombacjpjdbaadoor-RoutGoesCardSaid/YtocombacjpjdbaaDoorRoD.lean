/- Layer 16: Drop, Free, Unbind. -/
import Derived.Test.YtocombacjpjdbaaDoorRoJ
import Derived.Test.YtocombacjpjdbaaDoorRoO
import Derived.Deep.CutBlock
namespace Go.Proofs.YtocombacjpjdbaaDoor
open Go.RowKit Go.Maps Go.Sort Go.Shelf
set_option maxRecDepth 100000
set_option linter.unusedSimpArgs false
set_option linter.unusedVariables false
section
variable {w w' W : World} {g bx bb : Nat} {S : Rt}
theorem RoAt.delX (h : RoAt w g bx bb S) {n : List UInt8} (hn : n.length ≤ 1000000) (ty : TypeId) :
    ∃ w', (Builtin.delete_ #[43, 9] ty #[.map (some bx), .string ⟨n.toArray⟩]).run Tryd.prog w = .ok (.tuple #[]) w' ∧ RoAt w' g bx bb ⟨dropX n S.X, S.B⟩ ∧ w.mapTurned w' bx := by
  obtain ⟨w', h1, h2, h3⟩ := MapF.del h.ex rs_kind Tryd.underlying43 (x := n) hn ty
  have hne := h.ne
  have hgx := h.gx
  refine ⟨w', h1, ⟨h.ok.dropX n, (h3.grown.block g h.box.lt (fun e => hgx (Option.some.inj e))).trans h.box, h2.same (fun m => ?_), h.bd.block (h3.grown.block bb h.bd.lt (fun e => hne (Option.some.inj e).symm)), hne⟩, h3⟩
  show fX (dropX n S.X) m = upd (fX S.X) n none m
  unfold fX
  by_cases e : m = n
  · subst e
    rw [upd_self, fndX_drop, if_pos rfl]; rfl
  · rw [upd_other _ _ _ _ e, fndX_drop, if_neg e]
theorem drop1_any (b : Bnd) (n : List UInt8) (q : Nat) (w : World) (h : w.cell? ⟨q, 0, none⟩ = some (.string ⟨n.toArray⟩)) :
    Calls Tryd.prog 31 #[.agg #[.string ⟨b.e.toArray⟩, .string ⟨b.q.toArray⟩, .string ⟨b.k.toArray⟩], .pointer (some ⟨q, 0, none⟩)] w fun e w' => e = .returned (.bool (decide (b.e = n))) ∧ Below w.heap.size w w' := by
  have hq : q < w.heap.size := by obtain ⟨o, h1, _⟩ := cells_of_cell h; exact (Array.getElem?_eq_some_iff.1 h1).1
  go_enter Tryd.func31, Tryd.ntmps31
  go_wp2_with fail
  go_ret
  refine ⟨?_, (Below.refl _ _).alloc (Nat.le_refl _) _⟩
  have : (b.e == n) = decide (b.e = n) := by by_cases e : b.e = n <;> simp [e]
  simpa using this
theorem free1_any (b : Bnd) (n : List UInt8) (q : Nat) (w : World) (h : w.cell? ⟨q, 0, none⟩ = some (.string ⟨n.toArray⟩)) :
    Calls Tryd.prog 32 #[.agg #[.string ⟨b.e.toArray⟩, .string ⟨b.q.toArray⟩, .string ⟨b.k.toArray⟩], .pointer (some ⟨q, 0, none⟩)] w fun e w' => e = .returned (.bool (decide (b.q = n))) ∧ Below w.heap.size w w' := by
  have hq : q < w.heap.size := by obtain ⟨o, h1, _⟩ := cells_of_cell h; exact (Array.getElem?_eq_some_iff.1 h1).1
  go_enter Tryd.func32, Tryd.ntmps32
  go_wp2_with fail
  go_ret
  refine ⟨?_, (Below.refl _ _).alloc (Nat.le_refl _) _⟩
  have : (b.q == n) = decide (b.q = n) := by by_cases e : b.q = n <;> simp [e]
  simpa using this
set_option maxHeartbeats 8000000 in
theorem r_take_f (h : RoAt W g bx bb S) (p : Bnd → Bool) (cb : Value) (hW : ∀ (b : Bnd) w', bdOk b → Below W.heap.size W w' → Calls Tryd.prog 32 #[.agg #[.string ⟨b.e.toArray⟩, .string ⟨b.q.toArray⟩, .string ⟨b.k.toArray⟩], cb] w' fun e w'' => e = .returned (.bool (p b)) ∧ Below w'.heap.size w' w'') :
    Calls Tryd.prog 30 #[ptrR g, .func (.func 32) #[] #[cb]] W fun e w' => ∃ v, e = .returned v ∧ w'.ownsRow W.heap.size 33 3 v (S.B.filter p).length (bdCs (S.B.filter p)) ∧ RoAt w' g bx bb (S.take p) ∧ W.grownBy w' (some bb) := by
  obtain ⟨c0, c1⟩ := h.cell
  obtain ⟨l1, l2, l3⟩ := h.lts
  have H := Lib.hid h
  have HW := Lib.hid hW
  clear h hW
  go_enter Tryd.func30, Tryd.ntmps30
  go_wp2_with (first
    | (at_range; refine wpList_range_f rfl _ rfl bd_kind Tryd.underlying44 rfl H.out.bd ?_; intro w6 cnt6 hrg6 hg6 hs6)
    | go_in)
  go_frame
  obtain ⟨r, hr⟩ : ∃ r, r = W.heap.size := ⟨_, rfl⟩
  rw [← hr] at hrg6 ⊢
  have I0 : TkB W g bx bb r S (fun z => (fB S.B z).isSome) cnt6 (.slice none 0 0) [] w6 :=
    ⟨H.out.grown hg6 (by simp), hrg6, World.ownsRow_nil _ _ _ _, (Below.refl _ _).grown hg6 (Nat.le_refl _) (fun j hj => by cases hj), ⟨by omega, l1, l2, l3, by omega⟩⟩
  have I1 := Lib.hid I0
  have HR := Lib.hid hr
  clear hrg6 hg6 hs6 hr I0 c0 c1 l1 l2 l3
  go_loopw [5] (fun s5 wr => ∃ (left : Bnd → Bool) (cnt : Nat) (Q : List Bnd), TkB W g bx bb r S left cnt s5 Q wr ∧ RtM S p left Q) (fun _ wr => wr.rangeLeft bb r)
  case atStart => exact ⟨_, _, [], I1.out, RtM.start⟩
  case round =>
    obtain ⟨left, cnt, Q, hrb, hrm⟩ := hrel
    have RB := Lib.hid hrb
    have RM := Lib.hid hrm
    have HF := Lib.hid (hrm.few hrb.ro.ok.fb)
    clear hrb hrm
    go_wp2_with (first
      | (at_next; refine wpList_next_f rfl _ rfl bd_kind rfl RB.out.rng ?_ ?_)
      | go_in)
    · intro hl
      obtain ⟨hrest, hsrt⟩ := RM.out.rest RB.out.ro.ok hl
      have HRE := Lib.hid hrest
      have HSR := Lib.hid hsrt
      obtain ⟨n, hn⟩ : ∃ n, n = Q.length := ⟨_, rfl⟩
      have hrow := RB.out.row
      rw [← hn] at hrow
      obtain ⟨A5, c5, rfl, hc1, hc2⟩ := own_form hrow
      have HN := Lib.hid hn
      have HNF : n ≤ 1000 := by rw [hn]; exact HF.out
      have OW := Lib.hid hrow
      clear hl hrest hsrt hrow hc1 hc2 hn
      go_wp2_with fail
      go_loopw [27] (fun s27 w' => ∃ i : Nat, s27 = .int .i64 i ∧ i ≤ n ∧ RoAt w' g bx bb (S.less Q i) ∧ wr.grownBy w' (some bb)) (fun s27 _ => n - (intOf s27).toNat)
      case atStart => exact ⟨0, rfl, Nat.zero_le _, by rw [Rt.less_zero]; exact RB.out.ro, only_refl _ _⟩
      case round =>
        obtain ⟨i, rfl, hin, hro, hgr⟩ := hrel
        rename World => wq
        have RO := Lib.hid hro
        have GR := Lib.hid hgr
        have hrow2 := own_block16 OW.out (fun j hj => hgr.block j (OW.out.lt j hj).2 (fun e => by have h1 := (OW.out.lt j hj).1; have h2 := RB.out.ids; have h3 := Option.some.inj e; omega))
        have OW2 := Lib.hid hrow2
        clear hro hgr hrow2
        by_cases hi : i < n
        · have hiQ : i < Q.length := by rw [← HN.out]; exact hi
          have p1 : (i : Int) < (n : Int) := by omega
          have p0 : (0 : Int) ≤ (i : Int) := by omega
          have hl := LiesP3 OW2.out
          obtain ⟨b5, o5, rfl, hlb⟩ := hl.bind_some (by omega)
          obtain ⟨c0, c1, c2⟩ := hl.bind_at hiQ
          obtain ⟨ye, hye⟩ : ∃ ye, ye = Q[i].e := ⟨_, rfl⟩
          obtain ⟨yq, hyq⟩ : ∃ yq, yq = Q[i].q := ⟨_, rfl⟩
          obtain ⟨yk, hyk⟩ : ∃ yk, yk = Q[i].k := ⟨_, rfl⟩
          rw [← hye] at c0
          rw [← hyq] at c1
          rw [← hyk] at c2
          have HBD : Hid (∀ h : i < Q.length, bdV Q[i] = .agg #[.string ⟨ye.toArray⟩, .string ⟨yq.toArray⟩, .string ⟨yk.toArray⟩]) := Lib.hid (fun _ => by rw [hye, hyq, hyk]; rfl)
          have HIQ := Lib.hid hiQ
          have HBO : Hid (∀ h : i < Q.length, bdOk Q[i]) := Lib.hid (fun h => RB.out.ro.ok.sb _ ((RM.out.mem _).1 (List.getElem_mem h)).1)
          clear hl hye hyq hyk hiQ
          go_upto_region 10 with fail
          obtain ⟨hB, hhB⟩ : ∃ hB, hB = wq.heap.size := ⟨_, rfl⟩
          rw [← hhB]
          refine wp_renR (fun W' => RoAt W' g bx bb (S.less Q i) ∧ wr.grownBy W' (some bb) ∧ Whole W' hB 33 #[.string ⟨ye.toArray⟩, .string ⟨yq.toArray⟩, .string ⟨yk.toArray⟩]) ⟨?_, ?_, ?_⟩ ?_
          · exact RO.out.below ((Below.refl _ _).alloc (Nat.le_refl _) _)
          · exact only_trans GR.out (only_below ((Below.refl _ _).alloc (Nat.le_refl _) _) _)
          · rw [hhB]; exact Whole.new _ _ _
          rintro W9 ⟨hr9, hg9, hz9⟩
          have hR9 := hr9.below (w' := W9.drew) (Below.refl _ W9).drew
          obtain ⟨W10, hdel, hR10, ht10⟩ := hR9.delB (b := Q[i]'HIQ.out) (HBO.out HIQ.out) 0
          rw [HBD.out HIQ.out] at hdel
          rw [Rt.less_next S Q i HIQ.out] at hR10
          obtain ⟨d0, d1⟩ := hr9.cell
          have d1' : W9.drew.cell? ⟨g, 1, none⟩ = some (.map (some bb)) := d1
          have z0 : W9.cell? ⟨hB, 0, none⟩ = some (.string ⟨ye.toArray⟩) := (Whole.cell hz9 0).trans rfl
          have z1 : W9.cell? ⟨hB, 1, none⟩ = some (.string ⟨yq.toArray⟩) := (Whole.cell hz9 1).trans rfl
          have z2 : W9.cell? ⟨hB, 2, none⟩ = some (.string ⟨yk.toArray⟩) := (Whole.cell hz9 2).trans rfl
          have hlt := Whole.lt hz9
          have R10 := Lib.hid hR10
          have G10 := Lib.hid (show wr.grownBy W10 (some bb) from only_trans (only_trans hg9 (only_below (Below.refl _ W9).drew _)) ht10.grown)
          clear hr9 hg9 hz9 hR9 hR10 ht10 hhB d0 c0 c1 c2
          go_region
          go_wp2_with fail
          go_roundw
          case rel => exact ⟨i + 1, by go_num, by omega, R10.out, G10.out⟩
          case measure => simp [intOf]; omega
        · have hie : i = n := by omega
          subst hie
          have p1 : ¬ (i : Int) < (i : Int) := by omega
          have HSO := Lib.hid (sortB_any (.slice A5 i c5) Q (r + 1) wq (by rw [← HN.out]; exact OW2.out) (by have := HF.out; omega))
          go_wp2_with fail
          refine HSO.out.mono ?_
          rintro e w9 ⟨rfl, ho9, hg9⟩
          have O9 := Lib.hid ho9
          have G9 := Lib.hid hg9
          clear ho9 hg9 HSO
          go_wp2_with fail
          go_ret
          have hids := RB.out.ids
          have hrw := OW2.out
          have hblk : ∀ j, (Value.slice A5 i c5).ownBlock = some j → r + 1 ≤ j := fun j hj => (hrw.lt j hj).1
          have hg1 : W.grownBy wq (some bb) := only_trans (only_below RB.out.bel _) GR.out
          refine ⟨_, rfl, ?_, ?_, grown_over hg1 G9.out (fun j hj => by have := hblk j hj; omega)⟩
          · have ho := O9.out
            rw [HSR.out] at ho
            have hle : (S.B.filter p).length = Q.length := by rw [← HSR.out, srtB_length]
            rw [hle]
            exact own_low16 ho (by omega)
          · have hro := RO.out
            rw [HN.out, HRE.out] at hro
            exact hro.grown G9.out ⟨fun e => by have := hblk g e; omega, fun e => by have := hblk bx e; omega, fun e => by have := hblk bb e; omega⟩
    · intro y vy w1 cnt1 hy hly hfy hrg1 hlt hg1 hs1 hen
      obtain ⟨hyB, rfl⟩ : y ∈ S.B ∧ vy = .agg #[] := by
        unfold fB at hfy
        split at hfy
        · exact ⟨by assumption, (Option.some.inj hfy).symm⟩
        · cases hfy
      have RB1 := Lib.hid (RB.out.next hrg1 hg1)
      have HLT := Lib.hid hlt
      have HC := Lib.hid (fun w' hb => HW.out y w' hy hb)
      obtain ⟨ye, hye⟩ : ∃ ye, ye = y.e := ⟨_, rfl⟩
      obtain ⟨yq, hyq⟩ : ∃ yq, yq = y.q := ⟨_, rfl⟩
      obtain ⟨yk, hyk⟩ : ∃ yk, yk = y.k := ⟨_, rfl⟩
      have hbd : bdV y = .agg #[.string ⟨ye.toArray⟩, .string ⟨yq.toArray⟩, .string ⟨yk.toArray⟩] := by rw [hye, hyq, hyk]; rfl
      have hbc : Hid (bdC y = [.string ⟨ye.toArray⟩, .string ⟨yq.toArray⟩, .string ⟨yk.toArray⟩]) := Lib.hid (by rw [hye, hyq, hyk]; rfl)
      rw [← hye, ← hyq, ← hyk] at HC
      rw [hbd] at hen ⊢
      have HYB := Lib.hid (And.intro hly hyB)
      clear hy hyB hly hlt hfy hrg1 hg1 hs1 hbd hye hyq hyk
      go_upto_region 5 with fail
      obtain ⟨hB, hhB⟩ : ∃ hB, hB = w1.heap.size := ⟨_, rfl⟩
      rw [← hhB]
      refine wp_renR (fun W' => TkB W g bx bb r S (fun z => left z && !decide (z = y)) cnt1 u5 Q W' ∧ Whole W' hB 33 #[.string ⟨ye.toArray⟩, .string ⟨yq.toArray⟩, .string ⟨yk.toArray⟩]) ⟨?_, ?_⟩ ?_
      · exact RB1.out.below ((Below.refl _ _).alloc (Nat.le_refl _) _)
      · rw [hhB]; exact Whole.new _ _ _
      rintro W2 ⟨hr2, hz2⟩
      have R2 := Lib.hid hr2
      have Z2 := Lib.hid hz2
      have z0 : W2.cell? ⟨hB, 0, none⟩ = some (.string ⟨ye.toArray⟩) := (Whole.cell hz2 0).trans rfl
      have z1 : W2.cell? ⟨hB, 1, none⟩ = some (.string ⟨yq.toArray⟩) := (Whole.cell hz2 1).trans rfl
      have z2 : W2.cell? ⟨hB, 2, none⟩ = some (.string ⟨yk.toArray⟩) := (Whole.cell hz2 2).trans rfl
      have hlt2 := Whole.lt hz2
      have HC2 := Lib.hid (HC.out W2 hr2.bel)
      clear hr2 hz2 hhB HC
      go_wp2_with fail
      refine HC2.out.mono ?_
      rintro e w3 ⟨rfl, hb3⟩
      have R3 := Lib.hid (R2.out.below hb3)
      have Z3 := Lib.hid (show Whole w3 hB _ _ from (hb3.block hB hlt2).trans Z2.out)
      have y0 : w3.cell? ⟨hB, 0, none⟩ = some (.string ⟨ye.toArray⟩) := (Whole.cell Z3.out 0).trans rfl
      have y1 : w3.cell? ⟨hB, 1, none⟩ = some (.string ⟨yq.toArray⟩) := (Whole.cell Z3.out 1).trans rfl
      have y2 : w3.cell? ⟨hB, 2, none⟩ = some (.string ⟨yk.toArray⟩) := (Whole.cell Z3.out 2).trans rfl
      have hlt3 := Whole.lt Z3.out
      clear hb3 HC2 z0 z1 z2 hlt2
      cases hP : p y
      · have HM := Lib.hid (RM.out.skip (y := y) hP)
        go_wp2_with fail
        go_roundw
        case rel => exact ⟨_, _, _, R3.out, HM.out⟩
        case measure => rw [R3.out.rng.left_eq, RB.out.rng.left_eq]; exact HLT.out
      · have HM := Lib.hid (RM.out.take HYB.out.1 HYB.out.2 hP)
        have R4 := Lib.hid (R3.out.below ((Below.refl _ w3).alloc (Nat.le_refl _) (.cells #[.string ⟨ye.toArray⟩, .string ⟨yq.toArray⟩, .string ⟨yk.toArray⟩] 33)))
        have OW := Lib.hid R4.out.row
        have LT := Lib.hid (Lies.lit w3 33 [.string ⟨ye.toArray⟩, .string ⟨yq.toArray⟩, .string ⟨yk.toArray⟩])
        obtain ⟨i0, hi, hz0, hz1, hz2⟩ := info_parts bind_info
        have HI := Lib.hid hi
        have H0 := Lib.hid hz0
        have H1 := Lib.hid hz1
        have H2 := Lib.hid hz2
        have HR01 : Hid (Q.length + 1 ≤ maxLen) := Lib.hid (by have := HF.out; unfold maxLen; omega)
        have HR02 : Hid ((Q.length + 1) * 48 ≤ 140737488355328) := Lib.hid (by have := HF.out; omega)
        have HS0 : Hid (r + 1 ≤ (w3.alloc (.cells #[.string ⟨ye.toArray⟩, .string ⟨yq.toArray⟩, .string ⟨yk.toArray⟩] 33)).heap.size) := Lib.hid (by have := R3.out.ids; simp; omega)
        clear hi hz0 hz1 hz2
        go_wp2_with (at_builtin; go_must (refine wpList_append_apart rfl _ _ 36 rfl (r + 1) 33 i0 _ 3 48 Tryd.underlying36 HI.out H0.out H1.out H2.out rfl (by omega) u5 _ _ rfl OW.out _ _ 1 1 _ rfl LT.out rfl (by simp [Value.oneCell']) HR01.out HR02.out HS0.out ?_); intro v6 w6 o6 g6; have R6 := Lib.hid (R4.out.push (q := y) g6 (by rw [hbc.out]; exact o6)); clear o6 g6)
        refine ⟨⟨_, cnt1, Q ++ [y], R6.out, HM.out⟩, ?_⟩
        rw [R6.out.rng.left_eq, RB.out.rng.left_eq]; exact HLT.out
theorem r_free (h : RoAt W g bx bb S) {n : List UInt8} (hn : n.length ≤ 1000000) :
    Calls Tryd.prog 16 #[ptrR g, .string ⟨n.toArray⟩] W fun e w' => ∃ v, e = .returned v ∧ w'.ownsRow W.heap.size 33 3 v (S.B.filter fun b => decide (b.q = n)).length (bdCs (S.B.filter fun b => decide (b.q = n))) ∧ RoAt w' g bx bb (S.take fun b => decide (b.q = n)) ∧ W.grownBy w' (some bb) := by
  obtain ⟨c0, c1⟩ := h.cell
  obtain ⟨l1, l2, l3⟩ := h.lts
  have H := Lib.hid h
  clear h
  go_enter Tryd.func16, Tryd.ntmps16
  have hb : Below W.heap.size W (W.alloc (.cells #[.string ⟨n.toArray⟩] 9)) := (Below.refl _ W).alloc (Nat.le_refl _) _
  have T := Lib.hid (r_take_f (H.out.below hb) (fun b => decide (b.q = n)) (.pointer (some ⟨W.heap.size, 0, none⟩)) (fun b w' _ hw => free1_any b n W.heap.size w' ((hw.cell (p := ⟨W.heap.size, 0, none⟩) (by simp)).trans (Boxed.new W _ _).cell)))
  have HB := Lib.hid hb
  clear hb
  go_wp2_with fail
  refine T.out.mono ?_
  rintro e w2 ⟨v, rfl, h1, h2, h3⟩
  have O2 := Lib.hid h1
  have R2 := Lib.hid h2
  have G2 := Lib.hid h3
  clear h1 h2 h3
  go_wp2_with fail
  go_ret
  exact ⟨_, rfl, own_low16 O2.out (by simp), R2.out, only_trans (only_below HB.out _) G2.out⟩
theorem r_drop (h : RoAt W g bx bb S) {n : List UInt8} (hn : n.length ≤ 1000000) :
    Calls Tryd.prog 15 #[ptrR g, .string ⟨n.toArray⟩] W fun e w' => ∃ v, e = .returned v ∧ w'.ownsRow W.heap.size 33 3 v (S.B.filter fun b => decide (b.e = n)).length (bdCs (S.B.filter fun b => decide (b.e = n))) ∧ RoAt w' g bx bb (S.drop n) ∧ ∃ w1, W.grownBy w1 (some bx) ∧ w1.grownBy w' (some bb) := by
  obtain ⟨c0, c1⟩ := h.cell
  obtain ⟨l1, l2, l3⟩ := h.lts
  have H := Lib.hid h
  clear h
  go_enter Tryd.func15, Tryd.ntmps15
  have hb : Below W.heap.size W (W.alloc (.cells #[.string ⟨n.toArray⟩] 9)) := (Below.refl _ W).alloc (Nat.le_refl _) _
  have bx1 : Boxed (W.alloc (.cells #[.string ⟨n.toArray⟩] 9)) W.heap.size 9 (.string ⟨n.toArray⟩) := Boxed.new W _ _
  have hs1 : W.heap.size < (W.alloc (.cells #[.string ⟨n.toArray⟩] 9)).heap.size := by simp
  go_upto_region 1 with fail
  obtain ⟨q, hq⟩ : ∃ q, q = W.heap.size := ⟨_, rfl⟩
  rw [← hq] at bx1 hs1 hb ⊢
  refine wp_renR (fun W' => Below q W W' ∧ Boxed W' q 9 (.string ⟨n.toArray⟩)) ⟨hb, bx1⟩ ?_
  rintro W9 ⟨hb9, hx9⟩
  have hq9 : q < W9.heap.size := hx9.lt
  have hro9 : RoAt W9 g bx bb S := H.out.below (by rw [← hq]; exact hb9)
  obtain ⟨d0, d1⟩ := hro9.cell
  have d0' : W9.drew.cell? ⟨g, 0, none⟩ = some (.map (some bx)) := d0
  have z0 : W9.cell? ⟨q, 0, none⟩ = some (.string ⟨n.toArray⟩) := hx9.cell
  have z0' : W9.drew.cell? ⟨q, 0, none⟩ = some (.string ⟨n.toArray⟩) := hx9.cell
  obtain ⟨W10, hdel, hR10, ht10⟩ := (hro9.below (w' := W9.drew) (Below.refl _ W9).drew).delX hn 0
  have hg10 : W.grownBy W10 (some bx) := only_trans (only_trans (only_below (by rw [← hq]; exact hb9) _) (only_below (Below.refl _ W9).drew _)) ht10.grown
  have hx10 : Boxed W10 q 9 (.string ⟨n.toArray⟩) := (ht10.grown.block q hq9 (fun e => by have := Option.some.inj e; omega)).trans hx9
  have G10 := Lib.hid hg10
  have R10 := Lib.hid hR10
  have X10 := Lib.hid hx10
  have HQ := Lib.hid hq
  clear hq hg10 hR10 hx10 hb hb9 hs1 bx1 hx9 hro9 ht10
  go_region
  have T := Lib.hid (r_take_d R10.out (fun b => decide (b.e = n)) (.pointer (some ⟨q, 0, none⟩)) (fun b w' _ hw => drop1_any b n q w' ((hw.cell (p := ⟨q, 0, none⟩) X10.out.lt).trans X10.out.cell)))
  go_wp2_with fail
  refine T.out.mono ?_
  rintro e w2 ⟨v, rfl, h1, h2, h3⟩
  have O2 := Lib.hid h1
  have R2 := Lib.hid h2
  have G2 := Lib.hid h3
  clear h1 h2 h3
  go_wp2_with fail
  go_ret
  exact ⟨_, rfl, own_low16 O2.out G10.out.size, R2.out, _, G10.out, G2.out⟩
end
end Go.Proofs.YtocombacjpjdbaaDoor
