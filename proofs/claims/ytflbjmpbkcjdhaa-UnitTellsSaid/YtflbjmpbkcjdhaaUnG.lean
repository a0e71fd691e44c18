/- Contracts of package unit: each, over any closure that takes ops in. -/
import Derived.Test.YtflbjmpbkcjdhaaUnF
namespace Go.Proofs.Ytflbjmpbkcjdhaa
open Go.RowKit
set_option maxRecDepth 100000
set_option linter.unusedSimpArgs false
set_option linter.unusedVariables false

/-- a closure that takes ops in, and what it keeps -/
structure Clo (fn lb : Nat) (J : Nat → List Tl → World → Prop) : Prop where
  grown : ∀ {g : Nat} {ts : List Tl} {w w' : World}, J g ts w → w.grownBy w' (some g) → J g ts w'
  row : ∀ {g : Nat} {ts : List Tl} {w : World}, J g ts w → ∃ (T : TypeId) (A : Option Addr) (n c : Nat), Whole w lb T #[.slice A n c]
  lbg : ∀ {g : Nat} {ts : List Tl} {w : World}, J g ts w → lb < g
  call : ∀ (g : Nat) (ts : List Tl) (t : Tl) (A : Option Addr) (c : Nat) (E : Int) (w : World), J g ts w → ts.length ≤ 190000 → g < w.heap.size → w.ownsRow (g + 1) 5 1 (.slice A t.o.val.length c) t.o.val.length (B8 t.o.val) → (t.o.del = true → t.pos = 0 ∧ t.o.val = []) → (t.o.del = false → (t.pos : Int) = E - t.o.val.length) → E ≤ 190000 → 0 ≤ E → t.o.val.length ≤ 190000 →
    Calls Try.prog fn #[.agg #[.string ⟨t.o.key.toArray⟩, .bool t.o.del, .slice A t.o.val.length c], .int .i64 E, .pointer (some ⟨lb, 0, none⟩)] w (TakesIn (J g) lb g ts t w)
theorem clo_parse (lb : Nat) : Clo 24 lb (fun g ts w => JP lb g ts w) where
  grown := JP.grown
  row h := by obtain ⟨acc, A, c, _, h1, _⟩ := h.ex; exact ⟨_, _, _, _, h1⟩
  lbg h := h.lbg
  call g ts t A c E w hJ hts hg ho _ _ _ _ _ := parse1_any lb g ts t A c E w hJ (by omega) hg ho
theorem clo_places (lb : Nat) : Clo 25 lb (fun g ts w => JQ lb g ts w) where
  grown := JQ.grown
  row h := by obtain ⟨A, c, h1, _⟩ := h.ex; exact ⟨_, _, _, _, h1⟩
  lbg h := h.lbg
  call g ts t A c E w hJ hts hg _ h1 h2 h3 h4 h5 := places1_any lb g ts t A c E w hJ (by omega) hg h1 h2 h3 h4 h5
/-- how much In has left -/
def leftIn (g : Nat) (w : World) : Nat := match w.cell? ⟨g, 0, none⟩ with
  | some (.slice _ n _) => n
  | _ => 0
theorem InAt.left {w : World} {g : Nat} {l : List UInt8} {bad : Bool} (h : InAt w g l bad) : leftIn g w = l.length := by
  obtain ⟨A, c, h1, _⟩ := h
  unfold leftIn
  rw [h1.cell 0]
  rfl
/-- where the walk of each stands -/
structure EAt (w : World) (lb g : Nat) (J : Nat → List Tl → World → Prop) (b : List UInt8) (ts : List Tl) (r : List UInt8) (wr : World) : Prop where
  inn : InAt wr g r false
  j : J g ts wr
  bel : Below lb w wr
  beh : Behind b.length b ts r
  len : ts.length + r.length ≤ b.length
/-- an op was read, and lies in its box -/
structure EBx (w wr : World) (lb g : Nat) (J : Nat → List Tl → World → Prop) (b : List UInt8) (ts : List Tl) (t : Tl) (r' : List UInt8) (ob : Nat) (A : Option Addr) (c : Nat) (wx : World) : Prop where
  inn : InAt wx g r' false
  j : J g ts wx
  bel : Below lb w wx
  box : Whole wx ob 24 #[.string ⟨t.o.key.toArray⟩, .bool t.o.del, .slice A t.o.val.length c]
  own : wx.ownsRow (g + 1) 5 1 (.slice A t.o.val.length c) t.o.val.length (B8 t.o.val)
  gw : g < wx.heap.size
  gob : g < ob
  lbg : lb < g
  beh : Behind b.length b (ts ++ [t]) r'
  len : ts.length + 1 + r'.length ≤ b.length
theorem EBx.drew {w wr : World} {lb g : Nat} {J : Nat → List Tl → World → Prop} (hJ : ∀ {g : Nat} {ts : List Tl} {w w' : World}, J g ts w → w.grownBy w' (some g) → J g ts w') {b : List UInt8} {ts : List Tl} {t : Tl} {r' : List UInt8} {ob : Nat} {A : Option Addr} {c : Nat} {wx : World} (h : EBx w wr lb g J b ts t r' ob A c wx) : EBx w wr lb g J b ts t r' ob A c wx.drew :=
  ⟨h.inn, hJ h.j (only_below ((Below.refl _ _).drew) _), h.bel.drew, h.box, h.own, h.gw, h.gob, h.lbg, h.beh, h.len⟩
theorem EBx.cells {w wr : World} {lb g : Nat} {J : Nat → List Tl → World → Prop} {b : List UInt8} {ts : List Tl} {t : Tl} {r' : List UInt8} {ob : Nat} {A : Option Addr} {c : Nat} {wx : World} (h : EBx w wr lb g J b ts t r' ob A c wx) :
    wx.cell? ⟨ob, 0, none⟩ = some (.string ⟨t.o.key.toArray⟩) ∧ wx.cell? ⟨ob, 1, none⟩ = some (.bool t.o.del) ∧ wx.cell? ⟨ob, 2, none⟩ = some (.slice A t.o.val.length c) := ⟨h.box.cell 0, h.box.cell 1, h.box.cell 2⟩
/-- what each tells -/
def EachU (lb : Nat) (J : Nat → List Tl → World → Prop) (b : List UInt8) (w : World) (e : Ending) (w' : World) : Prop :=
  Below lb w w' ∧ match unitP b with
  | none => e = .returned (.bool false)
  | some ts => e = .returned (.bool true) ∧ ∃ g, J g ts w'
theorem EachU.no {lb : Nat} {J : Nat → List Tl → World → Prop} {b : List UInt8} {w w' : World} (h : unitP b = none) (hb : Below lb w w') : EachU lb J b w (.returned (.bool false)) w' := by
  unfold EachU
  rw [h]
  exact ⟨hb, rfl⟩
theorem EachU.yes {lb g : Nat} {J : Nat → List Tl → World → Prop} {b : List UInt8} {ts : List Tl} {w w' : World} (h : unitP b = some ts) (hb : Below lb w w') (hj : J g ts w') : EachU lb J b w (.returned (.bool true)) w' := by
  unfold EachU
  rw [h]
  exact ⟨hb, rfl, g, hj⟩
theorem EBx.next {w wr : World} {lb g : Nat} {J : Nat → List Tl → World → Prop} (hJ : ∀ {g : Nat} {ts : List Tl} {w : World}, J g ts w → ∃ (T : TypeId) (A : Option Addr) (n c : Nat), Whole w lb T #[.slice A n c]) {b : List UInt8} {ts : List Tl} {t : Tl} {r' : List UInt8} {ob : Nat} {A : Option Addr} {c : Nat} {wx w7 : World} (h : EBx w wr lb g J b ts t r' ob A c wx)
    (j7 : J g (ts ++ [t]) w7) (bx : Bx g lb wx w7) : EAt w lb g J b (ts ++ [t]) r' w7 := by
  obtain ⟨T, A', n', c', hw⟩ := hJ h.j
  have := h.lbg
  exact ⟨h.inn.bx hw bx (by omega), j7, h.bel.trans (bx.below (by omega)), h.beh, by rw [List.length_append]; have := h.len; simp; omega⟩
set_option maxHeartbeats 1000000 in
theorem each_parse (lb : Nat) (J : Nat → List Tl → World → Prop) (HC : Hid (Clo 24 lb J)) (A : Option Addr) (n c B : Nat) (b : List UInt8) (w : World) (hn : n = b.length) (hl : Lies w B A (B8 b)) (hB : B ≤ w.heap.size) (hc : n ≤ c) (hm : c ≤ maxLen) (hlb : lb < w.heap.size)
    (h0 : ∀ g w', w.heap.size ≤ g → Below w.heap.size w w' → J g [] w') :
    Calls Try.prog 23 #[.slice A n c, .func (.func 24) #[] #[.pointer (some ⟨lb, 0, none⟩)]] w (EachU lb J b w) := by
  subst hn
  unfold maxLen at hm
  have HL := Lib.hid hl
  have HJ0 := Lib.hid h0
  clear hl h0
  by_cases hlen : 190000 < b.length
  · have N : Hid (unitP b = none) := Lib.hid (by unfold unitP; rw [if_pos hlen])
    go_enter Try.func23, Try.ntmps23
    go_wp2_with fail
    go_ret
    exact EachU.no N.out (Below.refl _ _)
  have UP : Hid (unitP b = opsP b.length b) := Lib.hid (by unfold unitP; rw [if_neg hlen])
  have hlen' : b.length ≤ 190000 := by omega
  go_enter Try.func23, Try.ntmps23
  go_wp2_with fail
  refine (from_any A c b B _ HL.out hB (by omega)).mono ?_
  rintro e w1 ⟨g, hg, rfl, i1, b1⟩
  have E1 : Hid (EAt w lb g J b [] b w1) := Lib.hid ⟨i1, HJ0.out g w1 hg b1, b1.mono (by omega), Behind.start _ _, by simp⟩
  have hgl : lb < g := by omega
  clear i1 b1
  go_wp2_with fail
  go_loopw [] (fun wr => ∃ (ts : List Tl) (r : List UInt8), EAt w lb g J b ts r wr) (fun wr => leftIn g wr)
  case atStart => exact ⟨[], b, E1.out⟩
  case round =>
    obtain ⟨ts, r, hE⟩ := hrel
    have HE := Lib.hid hE
    have hleft := hE.inn.left
    have hlr := hE.len
    have hgw := hE.inn.lt
    clear hE
    go_wp2_with fail
    refine (in_left g r false _ HE.out.inn).mono ?_
    rintro e w2 ⟨rfl, rfl⟩
    by_cases hr : r = []
    · subst hr
      have D : Hid (EachU lb J b w (.returned (.bool true)) wr) := Lib.hid (EachU.yes (by rw [UP.out]; exact HE.out.beh.done) HE.out.bel HE.out.j)
      go_wp2_with fail
      go_ret
      exact D.out
    · have hpos : (0 : Int) < r.length := by have := List.length_pos_iff.2 hr; omega
      go_wp2_with fail
      refine (next_any g b.length r _ HE.out.inn hr (by omega)).mono ?_
      intro e w3 hN
      obtain ⟨x, hx⟩ : ∃ x, x = nextP b.length r := ⟨_, rfl⟩
      rw [← hx] at hN
      have HX := Lib.hid hx
      clear hx
      rcases x with _ | ⟨t, r'⟩
      · obtain ⟨hg3, k0, d0, A0, n0, c0, rfl⟩ := hN
        have B3 := Lib.hid (HE.out.bel.trans (below_only hg3 (by omega) (by have := HE.out.bel.size; omega)))
        have B4 : ∀ cs, Below lb w (w3.alloc (.cells cs 24)) := fun cs => B3.out.alloc (by have := B3.out.size; omega) _
        have HB4 := Lib.hid B4
        have N : Hid (unitP b = none) := Lib.hid (by rw [UP.out]; exact HE.out.beh.none hr HX.out.symm)
        clear hg3 B4
        go_wp2_with fail
        go_ret
        exact EachU.no N.out (HB4.out _)
      · obtain ⟨hg3, A5, c5, rfl, o3, i3⟩ := hN
        have hpos := nextP_pos HX.out.symm (by omega)
        have hless := nextP_less HX.out.symm hr
        have z3 := hg3.size
        have hlw := HE.out.bel.size
        have E5 : EBx w wr lb g J b ts t r' w3.heap.size A5 c5 (w3.alloc (.cells #[.string ⟨t.o.key.toArray⟩, .bool t.o.del, .slice A5 t.o.val.length c5] 24)) := by
          have ba : Below w3.heap.size w3 (w3.alloc (.cells #[.string ⟨t.o.key.toArray⟩, .bool t.o.del, .slice A5 t.o.val.length c5] 24)) := (Below.refl _ _).alloc (Nat.le_refl _) _
          exact ⟨i3.below ba (by omega), HC.out.grown (HC.out.grown HE.out.j hg3) (only_below ba _), (HE.out.bel.trans (below_only hg3 (by omega) (by omega))).trans (ba.mono (by omega)), Whole.new _ _ _, own_less (o3.kept (only_below ba none) (Classical.em _)) (by omega), by simp; omega, by omega, hgl, HE.out.beh.next hr HX.out.symm, by omega⟩
        have HE5 := Lib.hid E5
        have HP1 := Lib.hid hpos.2.1
        have HP2 := Lib.hid hpos.2.2
        have hv5 : t.o.val.length ≤ 190000 := by
          have h1 := hpos.2.1
          have h2 := hpos.2.2
          cases hd : t.o.del
          · have := h2 hd; omega
          · rw [(h1 hd).2]; simp
        have hr5 : r'.length ≤ 190000 := by omega
        have hrb : r'.length ≤ b.length := by omega
        have hwr : IntKind.i64.wrap ((b.length : Int) - r'.length) = (b.length : Int) - r'.length := IntWalk.i64_in _ ⟨by omega, by omega⟩
        have HTL : Hid (ts.length ≤ 190000) := Lib.hid (by omega)
        have HPE : Hid (t.o.del = false → (t.pos : Int) = IntKind.i64.wrap ((b.length : Int) - r'.length) - t.o.val.length) := Lib.hid (fun hd => by rw [hwr]; have := hpos.2.2 hd; omega)
        have HWR := Lib.hid hwr
        have HLS : Hid (r'.length < r.length) := Lib.hid hless
        have HV5 := Lib.hid hv5
        clear hpos hless hg3 o3 i3 E5 hwr
        go_upto_region 8 with fail
        obtain ⟨W5, hW5⟩ : ∃ W, W = w3.alloc (.cells #[.string ⟨t.o.key.toArray⟩, .bool t.o.del, .slice A5 t.o.val.length c5] 24) := ⟨_, rfl⟩
        have NE := EBx.drew (J := J) (fun h1 h2 => HC.out.grown h1 h2) HE5.out
        rw [← hW5] at NE ⊢
        have ND := Lib.hid NE
        obtain ⟨x0, x1, x2⟩ := NE.cells
        clear hW5 NE HE5
        go_region_with (first
          | (go_at_call 32; refine (in_left g r' false _ ND.out.inn).mono ?_; rintro e w6 ⟨rfl, rfl⟩)
          | (go_at_call 24; refine (HC.out.call g ts t A5 c5 _ _ ND.out.j HTL.out ND.out.gw ND.out.own HP1.out HPE.out (by rw [HWR.out]; omega) (by rw [HWR.out]; omega) HV5.out).mono ?_; rintro e w7 ⟨rfl, j7, bx7⟩; have D7 := Lib.hid (EBx.next (J := J) (fun h1 => HC.out.row h1) ND.out j7 bx7); clear j7 bx7))
        all_goals (
          have L7 := D7.out.inn.left
          clear x0 x1 x2
          go_wp2_with fail
          go_roundw
          case rel => exact ⟨_, _, D7.out⟩
          case measure => rw [L7, hleft]; exact HLS.out)
set_option maxHeartbeats 1000000 in
theorem each_places (lb : Nat) (J : Nat → List Tl → World → Prop) (HC : Hid (Clo 25 lb J)) (A : Option Addr) (n c B : Nat) (b : List UInt8) (w : World) (hn : n = b.length) (hl : Lies w B A (B8 b)) (hB : B ≤ w.heap.size) (hc : n ≤ c) (hm : c ≤ maxLen) (hlb : lb < w.heap.size)
    (h0 : ∀ g w', w.heap.size ≤ g → Below w.heap.size w w' → J g [] w') :
    Calls Try.prog 23 #[.slice A n c, .func (.func 25) #[] #[.pointer (some ⟨lb, 0, none⟩)]] w (EachU lb J b w) := by
  subst hn
  unfold maxLen at hm
  have HL := Lib.hid hl
  have HJ0 := Lib.hid h0
  clear hl h0
  by_cases hlen : 190000 < b.length
  · have N : Hid (unitP b = none) := Lib.hid (by unfold unitP; rw [if_pos hlen])
    go_enter Try.func23, Try.ntmps23
    go_wp2_with fail
    go_ret
    exact EachU.no N.out (Below.refl _ _)
  have UP : Hid (unitP b = opsP b.length b) := Lib.hid (by unfold unitP; rw [if_neg hlen])
  have hlen' : b.length ≤ 190000 := by omega
  go_enter Try.func23, Try.ntmps23
  go_wp2_with fail
  refine (from_any A c b B _ HL.out hB (by omega)).mono ?_
  rintro e w1 ⟨g, hg, rfl, i1, b1⟩
  have E1 : Hid (EAt w lb g J b [] b w1) := Lib.hid ⟨i1, HJ0.out g w1 hg b1, b1.mono (by omega), Behind.start _ _, by simp⟩
  have hgl : lb < g := by omega
  clear i1 b1
  go_wp2_with fail
  go_loopw [] (fun wr => ∃ (ts : List Tl) (r : List UInt8), EAt w lb g J b ts r wr) (fun wr => leftIn g wr)
  case atStart => exact ⟨[], b, E1.out⟩
  case round =>
    obtain ⟨ts, r, hE⟩ := hrel
    have HE := Lib.hid hE
    have hleft := hE.inn.left
    have hlr := hE.len
    have hgw := hE.inn.lt
    clear hE
    go_wp2_with fail
    refine (in_left g r false _ HE.out.inn).mono ?_
    rintro e w2 ⟨rfl, rfl⟩
    by_cases hr : r = []
    · subst hr
      have D : Hid (EachU lb J b w (.returned (.bool true)) wr) := Lib.hid (EachU.yes (by rw [UP.out]; exact HE.out.beh.done) HE.out.bel HE.out.j)
      go_wp2_with fail
      go_ret
      exact D.out
    · have hpos : (0 : Int) < r.length := by have := List.length_pos_iff.2 hr; omega
      go_wp2_with fail
      refine (next_any g b.length r _ HE.out.inn hr (by omega)).mono ?_
      intro e w3 hN
      obtain ⟨x, hx⟩ : ∃ x, x = nextP b.length r := ⟨_, rfl⟩
      rw [← hx] at hN
      have HX := Lib.hid hx
      clear hx
      rcases x with _ | ⟨t, r'⟩
      · obtain ⟨hg3, k0, d0, A0, n0, c0, rfl⟩ := hN
        have B3 := Lib.hid (HE.out.bel.trans (below_only hg3 (by omega) (by have := HE.out.bel.size; omega)))
        have B4 : ∀ cs, Below lb w (w3.alloc (.cells cs 24)) := fun cs => B3.out.alloc (by have := B3.out.size; omega) _
        have HB4 := Lib.hid B4
        have N : Hid (unitP b = none) := Lib.hid (by rw [UP.out]; exact HE.out.beh.none hr HX.out.symm)
        clear hg3 B4
        go_wp2_with fail
        go_ret
        exact EachU.no N.out (HB4.out _)
      · obtain ⟨hg3, A5, c5, rfl, o3, i3⟩ := hN
        have hpos := nextP_pos HX.out.symm (by omega)
        have hless := nextP_less HX.out.symm hr
        have z3 := hg3.size
        have hlw := HE.out.bel.size
        have E5 : EBx w wr lb g J b ts t r' w3.heap.size A5 c5 (w3.alloc (.cells #[.string ⟨t.o.key.toArray⟩, .bool t.o.del, .slice A5 t.o.val.length c5] 24)) := by
          have ba : Below w3.heap.size w3 (w3.alloc (.cells #[.string ⟨t.o.key.toArray⟩, .bool t.o.del, .slice A5 t.o.val.length c5] 24)) := (Below.refl _ _).alloc (Nat.le_refl _) _
          exact ⟨i3.below ba (by omega), HC.out.grown (HC.out.grown HE.out.j hg3) (only_below ba _), (HE.out.bel.trans (below_only hg3 (by omega) (by omega))).trans (ba.mono (by omega)), Whole.new _ _ _, own_less (o3.kept (only_below ba none) (Classical.em _)) (by omega), by simp; omega, by omega, hgl, HE.out.beh.next hr HX.out.symm, by omega⟩
        have HE5 := Lib.hid E5
        have HP1 := Lib.hid hpos.2.1
        have HP2 := Lib.hid hpos.2.2
        have hv5 : t.o.val.length ≤ 190000 := by
          have h1 := hpos.2.1
          have h2 := hpos.2.2
          cases hd : t.o.del
          · have := h2 hd; omega
          · rw [(h1 hd).2]; simp
        have hr5 : r'.length ≤ 190000 := by omega
        have hrb : r'.length ≤ b.length := by omega
        have hwr : IntKind.i64.wrap ((b.length : Int) - r'.length) = (b.length : Int) - r'.length := IntWalk.i64_in _ ⟨by omega, by omega⟩
        have HTL : Hid (ts.length ≤ 190000) := Lib.hid (by omega)
        have HPE : Hid (t.o.del = false → (t.pos : Int) = IntKind.i64.wrap ((b.length : Int) - r'.length) - t.o.val.length) := Lib.hid (fun hd => by rw [hwr]; have := hpos.2.2 hd; omega)
        have HWR := Lib.hid hwr
        have HLS : Hid (r'.length < r.length) := Lib.hid hless
        have HV5 := Lib.hid hv5
        clear hpos hless hg3 o3 i3 E5 hwr
        go_upto_region 8 with fail
        obtain ⟨W5, hW5⟩ : ∃ W, W = w3.alloc (.cells #[.string ⟨t.o.key.toArray⟩, .bool t.o.del, .slice A5 t.o.val.length c5] 24) := ⟨_, rfl⟩
        have NE := EBx.drew (J := J) (fun h1 h2 => HC.out.grown h1 h2) HE5.out
        rw [← hW5] at NE ⊢
        have ND := Lib.hid NE
        obtain ⟨x0, x1, x2⟩ := NE.cells
        clear hW5 NE HE5
        go_region_with (first
          | (go_at_call 32; refine (in_left g r' false _ ND.out.inn).mono ?_; rintro e w6 ⟨rfl, rfl⟩)
          | (go_at_call 25; refine (HC.out.call g ts t A5 c5 _ _ ND.out.j HTL.out ND.out.gw ND.out.own HP1.out HPE.out (by rw [HWR.out]; omega) (by rw [HWR.out]; omega) HV5.out).mono ?_; rintro e w7 ⟨rfl, j7, bx7⟩; have D7 := Lib.hid (EBx.next (J := J) (fun h1 => HC.out.row h1) ND.out j7 bx7); clear j7 bx7))
        all_goals (
          have L7 := D7.out.inn.left
          clear x0 x1 x2
          go_wp2_with fail
          go_roundw
          case rel => exact ⟨_, _, D7.out⟩
          case measure => rw [L7, hleft]; exact HLS.out)
end Go.Proofs.Ytflbjmpbkcjdhaa
