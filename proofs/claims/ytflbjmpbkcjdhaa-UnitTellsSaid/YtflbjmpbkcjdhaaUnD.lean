/- Contracts of package unit: next. -/
import Derived.Test.YtflbjmpbkcjdhaaUnC
import Derived.Deep.RegionWith
import Derived.Deep.CutBlock
import Derived.Deep.RegionHeld3
namespace Go.Proofs.Ytflbjmpbkcjdhaa
open Go.RowKit
set_option maxRecDepth 100000
set_option linter.unusedSimpArgs false
set_option linter.unusedVariables false

/-- what next tells -/
def NextU (g : Nat) (r : Option (Tl × List UInt8)) (w : World) (e : Ending) (w' : World) : Prop :=
  w.grownBy w' (some g) ∧ match r with
  | none => ∃ k d A n c, e = .returned (.tuple #[.agg #[.string k, .bool d, .slice A n c], .bool false])
  | some (t, r) => ∃ A c, e = .returned (.tuple #[.agg #[.string ⟨t.o.key.toArray⟩, .bool t.o.del, .slice A t.o.val.length c], .bool true]) ∧ w'.ownsRow w.heap.size 5 1 (.slice A t.o.val.length c) t.o.val.length (B8 t.o.val) ∧ InAt w' g r false
theorem NextU.no {g : Nat} {r : Option (Tl × List UInt8)} {w w' : World} {k : ByteArray} {d : Bool} {A : Option Addr} {n c : Nat} (h : r = none) (hg : w.grownBy w' (some g)) : NextU g r w (.returned (.tuple #[.agg #[.string k, .bool d, .slice A n c], .bool false])) w' := by
  subst h
  exact ⟨hg, _, _, _, _, _, rfl⟩
theorem NextU.yes {g : Nat} {r : Option (Tl × List UInt8)} {w w' : World} {t : Tl} {q : List UInt8} {A : Option Addr} {c n : Nat} (h : r = some (t, q)) (hn : n = t.o.val.length) (hg : w.grownBy w' (some g)) (ho : w'.ownsRow w.heap.size 5 1 (.slice A t.o.val.length c) t.o.val.length (B8 t.o.val)) (hi : InAt w' g q false) :
    NextU g r w (.returned (.tuple #[.agg #[.string ⟨t.o.key.toArray⟩, .bool t.o.del, .slice A n c], .bool true])) w' := by
  subst h hn
  exact ⟨hg, A, c, rfl, ho, hi⟩
theorem grown_new {w W : World} {g n i : Nat} {u : Value} (h : w.grownBy W (some g)) (hn : w.heap.size ≤ n) : w.grownBy (W.setCell ⟨n, i, none⟩ u) (some g) := by
  have h2 := only_set (only_refl W (some n)) i u
  exact ⟨h2.os.trans h.os, h2.tape.trans h.tape, h2.output.trans h.output, Nat.le_trans h.size h2.size, fun k hk hne => (h2.block k (Nat.lt_of_lt_of_le hk h.size) (fun e => by injection e; omega)).trans (h.block k hk hne)⟩
theorem InAt.grown_new {w : World} {g n i : Nat} {l : List UInt8} {bad : Bool} {u : Value} (h : InAt w g l bad) (hn : g < n) : InAt (w.setCell ⟨n, i, none⟩ u) g l bad := by
  have hb : Below (g + 1) w (w.setCell ⟨n, i, none⟩ u) := below_only (only_set (only_refl w (some n)) i u) (by omega) (by have := h.lt; omega)
  exact h.below hb (by omega)
theorem Whole.other {w : World} {n m i : Nat} {t : TypeId} {cs : Array Value} {u : Value} (h : Whole w n t cs) (hne : n ≠ m) : Whole (w.setCell ⟨m, i, none⟩ u) n t cs :=
  h.grown (only_set (only_refl w (some m)) i u) (fun e => hne (by injection e))
/-- an owned row stands when another block's cell is stored -/
theorem own_other {w : World} {base n i k : Nat} {e : TypeId} {size : Nat} {A : Option Addr} {c : Nat} {u : Value} {xs : List Value} (h : w.ownsRow base e size (.slice A k c) k xs) (hn : ∀ ad, A = some ad → ad.block ≠ n) : (w.setCell ⟨n, i, none⟩ u).ownsRow base e size (.slice A k c) k xs := by
  refine h.kept (only_set (only_refl w (some n)) i u) ?_
  rcases A with _ | ad
  · exact .inl rfl
  · right
    intro e
    have := hn ad rfl
    apply this
    simpa [Value.ownBlock] using e
/-- the two boxes of next, what In has left, the value -/
structure NxAt (w W : World) (g n : Nat) (key : List UInt8) (del : Bool) (A : Option Addr) (c : Nat) (val r : List UInt8) (bad : Bool) : Prop where
  res : Whole W n 24 #[.string ⟨#[]⟩, .bool false, .slice none 0 0]
  box : Whole W (n + 1) 24 #[.string ⟨key.toArray⟩, .bool del, .slice A val.length c]
  own : W.ownsRow (n + 2) 5 1 (.slice A val.length c) val.length (B8 val)
  inn : InAt W g r bad
  gro : w.grownBy W (some g)
  old : w.heap.size ≤ n
  gn : g < n
theorem NxAt.below {w W W' : World} {g n : Nat} {key : List UInt8} {del : Bool} {A : Option Addr} {c : Nat} {val r : List UInt8} {bad : Bool} (h : NxAt w W g n key del A c val r bad) (hb : Below W.heap.size W W') : NxAt w W' g n key del A c val r bad where
  res := h.res.below hb h.res.lt
  box := h.box.below hb h.box.lt
  own := h.own.kept (only_below hb none) (Classical.em _)
  inn := h.inn.below hb h.inn.lt
  gro := only_trans h.gro (only_below hb (some g))
  old := h.old
  gn := h.gn
theorem NxAt.drew {w W : World} {g n : Nat} {key : List UInt8} {del : Bool} {A : Option Addr} {c : Nat} {val r : List UInt8} {bad : Bool} (h : NxAt w W g n key del A c val r bad) : NxAt w W.drew g n key del A c val r bad := ⟨h.res, h.box, h.own, h.inn, ⟨h.gro.os, h.gro.tape, h.gro.output, h.gro.size, h.gro.block⟩, h.old, h.gn⟩
/-- the two boxes stored into -/
theorem put3 {W : World} {n : Nat} {t : TypeId} {a b c : Value} (x y z : Value) (hw : Whole W n t #[a, b, c]) :
    Whole (((W.setCell ⟨n, 0, none⟩ x).setCell ⟨n, 1, none⟩ y).setCell ⟨n, 2, none⟩ z) n t #[x, y, z] := ((hw.put 0 x).put 1 y).put 2 z
theorem NxAt.cells {w W : World} {g n : Nat} {key : List UInt8} {del : Bool} {A : Option Addr} {c : Nat} {val r : List UInt8} {bad : Bool} (h : NxAt w W g n key del A c val r bad) :
    (W.cell? ⟨n, 0, none⟩ = some (.string ⟨#[]⟩) ∧ W.cell? ⟨n, 1, none⟩ = some (.bool false) ∧ W.cell? ⟨n, 2, none⟩ = some (.slice none 0 0)) ∧
    (W.cell? ⟨n + 1, 0, none⟩ = some (.string ⟨key.toArray⟩) ∧ W.cell? ⟨n + 1, 1, none⟩ = some (.bool del) ∧ W.cell? ⟨n + 1, 2, none⟩ = some (.slice A val.length c)) ∧
    (W.frozen? ⟨n, 0, none⟩ = false ∧ W.frozen? ⟨n, 1, none⟩ = false ∧ W.frozen? ⟨n, 2, none⟩ = false) ∧ n ≠ n + 1 :=
  ⟨⟨h.res.cell 0, h.res.cell 1, h.res.cell 2⟩, ⟨h.box.cell 0, h.box.cell 1, h.box.cell 2⟩, ⟨h.res.frozen 0, h.res.frozen 1, h.res.frozen 2⟩, by omega⟩
set_option maxHeartbeats 2000000 in
theorem next_any (g L : Nat) (b : List UInt8) (w : World) (h : InAt w g b false) (hb : b ≠ []) (hs : b.length ≤ 140737488355328) :
    Calls Try.prog 33 #[.pointer (some ⟨g, 0, none⟩)] w (NextU g (nextP L b) w) := by
  have hg := h.lt
  obtain ⟨n, hn⟩ : ∃ n, n = w.heap.size := ⟨_, rfl⟩
  obtain ⟨WA, hWA⟩ : ∃ W, W = w.alloc (.cells #[.string ⟨#[]⟩, .bool false, .slice none 0 0] 24) := ⟨_, rfl⟩
  obtain ⟨WB, hWB⟩ : ∃ W, W = WA.alloc (.cells #[.string ⟨#[]⟩, .bool false, .slice none 0 0] 24) := ⟨_, rfl⟩
  have zA : WA.heap.size = n + 1 := by rw [hWA, hn]; simp
  have X0 : Whole WB n 24 #[.string ⟨#[]⟩, .bool false, .slice none 0 0] := by rw [hWB, hWA, hn]; exact (Whole.new _ _ _).alloc _
  have X1 : Whole WB (n + 1) 24 #[.string ⟨#[]⟩, .bool false, .slice none 0 0] := by rw [hWB, ← zA]; exact Whole.new _ _ _
  have G0 : w.grownBy WB (some g) := by rw [hWB, hWA]; exact only_trans (World.grownBy_alloc w _ (some g)) (World.grownBy_alloc _ _ (some g))
  have b0 : Below w.heap.size w WB := by rw [hWB, hWA]; exact ((Below.refl _ w).alloc (Nat.le_refl _) _).alloc (by simp) _
  have I0 := Lib.hid (h.below b0 hg)
  have hgn : g < n := by rw [hn]; exact hg
  have k0 : short 1 b = false := short_no (List.length_pos_iff.2 hb)
  have HX0 := Lib.hid X0
  have HX1 := Lib.hid X1
  have HG0 := Lib.hid G0
  have HK0 := Lib.hid k0
  have HN := Lib.hid hn
  have HS := Lib.hid hs
  clear X0 X1 G0 b0 h hg k0 hs hb
  go_enter Try.func33, Try.ntmps33
  go_upto_region 2 with fail
  rw [← hWA, ← hWB, ← hn]
  clear hWA hWB zA hn
  go_wp2_with fail
  refine (in_int g 1 b false _ I0.out).mono ?_
  rw [show wid 1 = 1 from rfl]
  rintro e w1 ⟨rfl, i1, g1⟩
  rw [HK0.out] at i1
  have X0 := HX0.out.grown g1 (by intro e; injection e; omega)
  have X1 := HX1.out.grown g1 (by intro e; injection e; omega)
  have G1 := Lib.hid (only_trans HG0.out g1)
  have I1 := Lib.hid i1
  have hz1 : n + 1 < w1.heap.size := X1.lt
  obtain ⟨k, hk⟩ : ∃ k, k = nat (tk 1 b) := ⟨_, rfl⟩
  rw [← hk]
  have HK := Lib.hid hk
  have HX0 := Lib.hid X0
  have HX1 := Lib.hid X1
  clear hk i1 g1 X0 X1
  obtain ⟨b1, hb1⟩ : ∃ b1, b1 = rst 1 b := ⟨_, rfl⟩
  rw [← hb1] at I1
  have HB1 := Lib.hid hb1
  clear hb1
  have hl1 : b1.length ≤ 140737488355328 := by rw [HB1.out]; exact Nat.le_trans (rst_sub 1 b) HS.out
  go_upto_block 0 with fail
  go_cut [] (fun wx => ∃ (key : List UInt8) (del : Bool) (A : Option Addr) (c : Nat) (val r : List UInt8) (bad : Bool) (p : Nat), (key.length ≤ maxLen ∧ val.length ≤ maxLen) ∧ NxAt w wx g n key del A c val r bad ∧ nextP L b = if (!bad && fitO ⟨key, del, val⟩) = true then some (⟨⟨key, del, val⟩, p⟩, r) else none)
  case first =>
    have x0 := HX1.out.cell 0
    have x1 := HX1.out.cell 1
    have x2 := HX1.out.cell 2
    have f0 := HX1.out.frozen 0
    have f1 := HX1.out.frozen 1
    have f2 := HX1.out.frozen 2
    by_cases q1 : k = 1
    · subst q1
      have NP : Hid (nextP L b = putP L b1) := Lib.hid (by unfold nextP; rw [← HK.out, if_pos rfl, HB1.out])
      clear x0 x1 x2 f0 f1 f2
      go_wp2_with fail
      refine (in_short g b1 false _ I1.out).mono ?_
      rintro e w2 ⟨rfl, i2, g2⟩
      have X0 := HX0.out.grown g2 (by intro e; injection e; omega)
      have X1 := HX1.out.grown g2 (by intro e; injection e; omega)
      have G2 := Lib.hid (only_trans G1.out g2)
      have I2 := Lib.hid i2
      have hz2 : n + 1 < w2.heap.size := X1.lt
      have HX0 := Lib.hid X0
      have HX1 := Lib.hid X1
      have hl2 : (txtRest 1 b1).length ≤ 140737488355328 := Nat.le_trans (txtRest_sub _ _) hl1
      have HL2 := Lib.hid hl2
      clear i2 g2 X0 X1 hl2
      go_wp2_with fail
      refine (in_long g (txtRest 1 b1) (false || txtShort 1 b1) _ I2.out HL2.out).mono ?_
      rintro e w3 ⟨v3, rfl, o3, i3, g3⟩
      obtain ⟨A, c, rfl, _, _⟩ := own_form o3
      have X0 := HX0.out.grown g3 (by intro e; injection e; omega)
      have X1 := HX1.out.grown g3 (by intro e; injection e; omega)
      have G3 := only_trans G2.out g3
      obtain ⟨key, hkey⟩ : ∃ x, x = txt 1 b1 := ⟨_, rfl⟩
      obtain ⟨val, hval⟩ : ∃ x, x = txt 4 (txtRest 1 b1) := ⟨_, rfl⟩
      obtain ⟨r, hr⟩ : ∃ x, x = txtRest 4 (txtRest 1 b1) := ⟨_, rfl⟩
      obtain ⟨bad, hbad⟩ : ∃ x, x = (false || txtShort 1 b1 || txtShort 4 (txtRest 1 b1)) := ⟨_, rfl⟩
      rw [← hval] at o3
      rw [← hr, ← hbad] at i3
      rw [← hval, ← hkey]
      have x0 := X1.cell 0
      have x1 := X1.cell 1
      have x2 := X1.cell 2
      have f0 := X1.frozen 0
      have f1 := X1.frozen 1
      have f2 := X1.frozen 2
      have N3 : NxAt w (((w3.setCell ⟨n + 1, 0, none⟩ (.string ⟨key.toArray⟩)).setCell ⟨n + 1, 1, none⟩ (.bool false)).setCell ⟨n + 1, 2, none⟩ (.slice A val.length c)) g n key false A c val r bad :=
        ⟨((X0.other (by omega)).other (by omega)).other (by omega), put3 _ _ _ X1, own_set (own_set (own_set (own_less o3 (by omega)) (by omega)) (by omega)) (by omega), ((i3.grown_new (by omega)).grown_new (by omega)).grown_new (by omega), grown_new (grown_new (grown_new G3 (by have := HN.out; omega)) (by have := HN.out; omega)) (by have := HN.out; omega), by have := HN.out; omega, hgn⟩
      have HN3 := Lib.hid N3
      have NP2 : Hid (nextP L b = if (!bad && fitO ⟨key, false, val⟩) = true then some (⟨⟨key, false, val⟩, L - r.length - val.length⟩, r) else none) := Lib.hid (by
        rw [NP.out, putP, hkey, hval, hr, hbad, Bool.false_or])
      have HM : Hid (key.length ≤ maxLen ∧ val.length ≤ maxLen) := Lib.hid ⟨room63 (by rw [hkey]; exact Nat.le_trans (txt_sub _ _) hl1), room63 (by rw [hval]; exact Nat.le_trans (txt_sub _ _) HL2.out)⟩
      clear hkey hval hr hbad o3 i3 g3 X0 X1 N3 G3
      go_wp2_with fail
      go_meet
      exact ⟨_, _, _, _, _, _, _, _, HM.out, HN3.out, NP2.out⟩
    · by_cases q2 : k = 2
      · subst q2
        have NP : Hid (nextP L b = delP b1) := Lib.hid (by unfold nextP; rw [← HK.out, if_neg (by decide), if_pos rfl, HB1.out])
        clear x0 x1 x2 f0 f1 f2
        go_wp2_with fail
        refine (in_short g b1 false _ I1.out).mono ?_
        rintro e w3 ⟨rfl, i3, g3⟩
        have X0 := HX0.out.grown g3 (by intro e; injection e; omega)
        have X1 := HX1.out.grown g3 (by intro e; injection e; omega)
        have G3 := only_trans G1.out g3
        have hz3 : n + 1 < w3.heap.size := X1.lt
        obtain ⟨key, hkey⟩ : ∃ x, x = txt 1 b1 := ⟨_, rfl⟩
        obtain ⟨r, hr⟩ : ∃ x, x = txtRest 1 b1 := ⟨_, rfl⟩
        obtain ⟨bad, hbad⟩ : ∃ x, x = (false || txtShort 1 b1) := ⟨_, rfl⟩
        rw [← hr, ← hbad] at i3
        rw [← hkey]
        have x0 := X1.cell 0
        have x1 := X1.cell 1
        have x2 := X1.cell 2
        have f0 := X1.frozen 0
        have f1 := X1.frozen 1
        have f2 := X1.frozen 2
        have N3 : NxAt w (((w3.setCell ⟨n + 1, 0, none⟩ (.string ⟨key.toArray⟩)).setCell ⟨n + 1, 1, none⟩ (.bool true)).setCell ⟨n + 1, 2, none⟩ (.slice none 0 0)) g n key true none 0 [] r bad :=
          ⟨((X0.other (by omega)).other (by omega)).other (by omega), put3 _ _ _ X1, World.ownsRow_nil _ _ _ _, ((i3.grown_new (by omega)).grown_new (by omega)).grown_new (by omega), grown_new (grown_new (grown_new G3 (by have := HN.out; omega)) (by have := HN.out; omega)) (by have := HN.out; omega), by have := HN.out; omega, hgn⟩
        have HN3 := Lib.hid N3
        have NP2 : Hid (nextP L b = if (!bad && fitO ⟨key, true, []⟩) = true then some (⟨⟨key, true, []⟩, 0⟩, r) else none) := Lib.hid (by
          rw [NP.out, delP, hkey, hr, hbad, Bool.false_or])
        have HM : Hid (key.length ≤ maxLen ∧ ([] : List UInt8).length ≤ maxLen) := Lib.hid ⟨room63 (by rw [hkey]; exact Nat.le_trans (txt_sub _ _) hl1), Nat.zero_le _⟩
        clear hkey hr hbad i3 g3 X0 X1 N3 G3
        go_wp2_with fail
        go_meet
        exact ⟨_, _, _, _, _, _, _, _, HM.out, HN3.out, NP2.out⟩
      · have e1 : ((k : Int) == 1) = false := by simp; omega
        have e2 : ((k : Int) == 2) = false := by simp; omega
        have NP : Hid (nextP L b = none) := Lib.hid (by unfold nextP; rw [← HK.out, if_neg q1, if_neg q2])
        have y0 := HX0.out.cell 0
        have y1 := HX0.out.cell 1
        have y2 := HX0.out.cell 2
        have d0 := HX0.out.frozen 0
        have d1 := HX0.out.frozen 1
        have d2 := HX0.out.frozen 2
        have P := put3 (.string ⟨#[]⟩) (.bool false) (.slice none 0 0) HX0.out
        have G3 := Lib.hid (grown_new (n := n) (i := 2) (u := .slice none 0 0) (grown_new (n := n) (i := 1) (u := .bool false) (grown_new (n := n) (i := 0) (u := .string ⟨#[]⟩) G1.out (by have := HN.out; omega)) (by have := HN.out; omega)) (by have := HN.out; omega))
        have HP := Lib.hid P
        clear P
        go_wp2_with fail
        have p0 := HP.out.cell 0
        have p1 := HP.out.cell 1
        have p2 := HP.out.cell 2
        exact bodyPost_ret (v := .tuple #[.agg #[.string ⟨#[]⟩, .bool false, .slice none 0 0], .bool false]) (by simp [results, Try.results33, go_sem, p0, p1, p2]) rfl (NextU.no NP.out G3.out)
  case rest =>
    obtain ⟨key, del, A, c, val, r, bad, p, ⟨hm1, hm2⟩, hN, hP⟩ := hcut
    have FK := Lib.hid hm1
    have FV := Lib.hid hm2
    clear hm1 hm2
    obtain ⟨W, hW⟩ : ∃ W, W = wc := ⟨_, rfl⟩
    rw [← hW] at hN
    rw [← hW]
    clear hW
    have ND := Lib.hid hN.drew
    have HP := Lib.hid hP
    clear hN hP
    obtain ⟨⟨y0, y1, y2⟩, ⟨x0, x1, x2⟩, ⟨f0, f1, f2⟩, hnn⟩ := ND.out.cells
    go_upto_region 8 with fail
    cases bad with
    | true =>
      have NO : Hid (nextP L b = none) := Lib.hid (by rw [HP.out]; rfl)
      refine wp_region_held_drew (S := (fun w' => w'.cell? ⟨n + 1, 0, none⟩ = some (.string ⟨key.toArray⟩) ∧ w'.cell? ⟨n + 1, 1, none⟩ = some (.bool del) ∧ w'.cell? ⟨n + 1, 2, none⟩ = some (.slice A val.length c))) (by kernel_rfl) ⟨x0, x1, x2⟩ (fun hS0 => ?_)
      obtain ⟨WD, hWD⟩ : ∃ WD, WD = W.drew := ⟨_, rfl⟩
      have NE := ND.out
      rw [← hWD] at NE hS0 ⊢
      have ND := Lib.hid NE
      clear hWD NE y0 y1 y2 x0 x1 x2 f0 f1 f2
      obtain ⟨⟨y0, y1, y2⟩, ⟨x0, x1, x2⟩, ⟨f0, f1, f2⟩, hnn⟩ := ND.out.cells
      refine wpAnyH_take (i := 0) (oi := ⟨some 20, _, _, _, _, _⟩) (v := ?_) rfl (by kernel_rfl) (by kernel_rfl) (by kernel_rfl) (fun _ _ _ h => h) (Or.inl ⟨by rfl, ?_⟩) hS0 ?_
      rotate_left
      · (intro wS hSw; (try dsimp only at hSw); go_simp); all_goals (with_reducible rfl)
      try simp only [Act.put, List.setIfInBounds_toArray, List.set_cons_zero, List.set_cons_succ]
      refine wpAnyH_take (i := 1) (oi := ⟨some 21, _, _, _, _, _⟩) (v := ?_) rfl (by kernel_rfl) (by kernel_rfl) (by kernel_rfl) (fun _ _ _ h => h) (Or.inl ⟨by rfl, ?_⟩) hS0 ?_
      rotate_left
      · (intro wS hSw; (try dsimp only at hSw); go_simp); all_goals (with_reducible rfl)
      try simp only [Act.put, List.setIfInBounds_toArray, List.set_cons_zero, List.set_cons_succ]
      refine wpAnyH_ready (rs := [2]) (by kernel_rfl) (by simp) ?_
      refine AllReadyH.cons (o := ⟨some 22, _, _, _, _, _⟩) rfl (fun K hK => ?_) AllReadyH.nil
      go_simp
      refine (in_ok g r true _ ND.out.inn).mono ?_
      rintro e w5 ⟨rfl, rfl⟩
      go_wp2_with fail
      refine hK.out _ _ ⟨x0, x1, x2⟩ (fun hS2 => ?_)
      clear hK K
      try simp only [Act.put, List.setIfInBounds_toArray, List.set_cons_zero, List.set_cons_succ]
      refine wpAnyH_take (i := 3) (oi := ⟨some 23, _, _, _, _, _⟩) (v := ?_) rfl (by kernel_rfl) (by kernel_rfl) (by kernel_rfl) (fun _ _ _ h => h) (Or.inl ⟨by rfl, ?_⟩) hS2 ?_
      rotate_left
      · (intro wS hSw; (try dsimp only at hSw); go_simp); all_goals (with_reducible rfl)
      try simp only [Act.put, List.setIfInBounds_toArray, List.set_cons_zero, List.set_cons_succ]
      refine wpAnyH_take (i := 4) (oi := ⟨some 24, _, _, _, _, _⟩) (v := undef) rfl (by kernel_rfl) (by kernel_rfl) (by kernel_rfl) (fun _ _ _ h => h) (Or.inr ⟨by rfl, rfl⟩) hS2 ?_
      try simp only [Act.put, List.setIfInBounds_toArray, List.set_cons_zero, List.set_cons_succ]
      refine wpAnyH_take (i := 5) (oi := ⟨some 25, _, _, _, _, _⟩) (v := undef) rfl (by kernel_rfl) (by kernel_rfl) (by kernel_rfl) (fun _ _ _ h => h) (Or.inr ⟨by rfl, rfl⟩) hS2 ?_
      try simp only [Act.put, List.setIfInBounds_toArray, List.set_cons_zero, List.set_cons_succ]
      refine wpAnyH_take (i := 6) (oi := ⟨some 26, _, _, _, _, _⟩) (v := ?_) rfl (by kernel_rfl) (by kernel_rfl) (by kernel_rfl) (fun _ _ _ h => h) (Or.inl ⟨by rfl, ?_⟩) hS2 ?_
      rotate_left
      · (intro wS hSw; (try dsimp only at hSw); go_simp); all_goals (with_reducible rfl)
      try simp only [Act.put, List.setIfInBounds_toArray, List.set_cons_zero, List.set_cons_succ]
      refine wpAnyH_ready (rs := [7]) (by kernel_rfl) (by simp) ?_
      refine AllReadyH.cons (o := ⟨none, _, _, _, _, _⟩) rfl (fun K hK => ?_) AllReadyH.nil
      go_simp
      have P := put3 (.string ⟨key.toArray⟩) (.bool del) (.slice A val.length c) ND.out.res
      have HP3 := Lib.hid P
      have G3 := Lib.hid (grown_new (n := n) (i := 2) (u := .slice A val.length c) (grown_new (n := n) (i := 1) (u := .bool del) (grown_new (n := n) (i := 0) (u := .string ⟨key.toArray⟩) ND.out.gro ND.out.old) ND.out.old) ND.out.old)
      have B3 := ((ND.out.box.other (i := 0) (u := .string ⟨key.toArray⟩) (show n + 1 ≠ n by omega)).other (i := 1) (u := .bool del) (show n + 1 ≠ n by omega)).other (i := 2) (u := .slice A val.length c) (show n + 1 ≠ n by omega)
      have I3 := Lib.hid (((ND.out.inn.grown_new (i := 0) (u := .string ⟨key.toArray⟩) ND.out.gn).grown_new (i := 1) (u := .bool del) ND.out.gn).grown_new (i := 2) (u := .slice A val.length c) ND.out.gn)
      have O3 := Lib.hid (own_set (i := 2) (u := .slice A val.length c) (own_set (i := 1) (u := .bool del) (own_set (i := 0) (u := .string ⟨key.toArray⟩) ND.out.own (show n < n + 2 by omega)) (show n < n + 2 by omega)) (show n < n + 2 by omega))
      have z0 := B3.cell 0
      have z1 := B3.cell 1
      have z2 := B3.cell 2
      clear P B3
      refine hK.out _ _ ⟨z0, z1, z2⟩ (fun hS7 => ?_)
      clear hK K
      try simp only [Act.put, List.setIfInBounds_toArray, List.set_cons_zero, List.set_cons_succ]
      refine wpAnyH_take (i := 8) (oi := ⟨some 3, _, _, _, _, _⟩) (v := ?_) rfl (by kernel_rfl) (by kernel_rfl) (by kernel_rfl) (fun _ _ _ h => h) (Or.inl ⟨by rfl, ?_⟩) hS7 ?_
      rotate_left
      · (intro wS hSw; (try dsimp only at hSw); go_simp); all_goals (with_reducible rfl)
      try simp only [Act.put, List.setIfInBounds_toArray, List.set_cons_zero, List.set_cons_succ]
      refine wpAnyH_done (by kernel_rfl) ?_ _
      go_wp2_with fail
      have p0 := HP3.out.cell 0
      have p1 := HP3.out.cell 1
      have p2 := HP3.out.cell 2
      exact bodyPost_ret (v := .tuple #[.agg #[.string ⟨key.toArray⟩, .bool del, .slice A val.length c], .bool false]) (by simp [results, Try.results33, go_sem, p0, p1, p2]) rfl (NextU.no NO.out G3.out)
    | false =>
      obtain ⟨f, hf⟩ : ∃ f, f = fitO ⟨key, del, val⟩ := ⟨_, rfl⟩
      have HFF := Lib.hid hf
      clear hf
      refine wp_region_held_drew (S := (fun w' => w'.cell? ⟨n + 1, 0, none⟩ = some (.string ⟨key.toArray⟩) ∧ w'.cell? ⟨n + 1, 1, none⟩ = some (.bool del) ∧ w'.cell? ⟨n + 1, 2, none⟩ = some (.slice A val.length c))) (by kernel_rfl) ⟨x0, x1, x2⟩ (fun hS0 => ?_)
      obtain ⟨WD, hWD⟩ : ∃ WD, WD = W.drew := ⟨_, rfl⟩
      have NE := ND.out
      rw [← hWD] at NE hS0 ⊢
      have ND := Lib.hid NE
      clear hWD NE y0 y1 y2 x0 x1 x2 f0 f1 f2
      obtain ⟨⟨y0, y1, y2⟩, ⟨x0, x1, x2⟩, ⟨f0, f1, f2⟩, hnn⟩ := ND.out.cells
      refine wpAnyH_take (i := 0) (oi := ⟨some 20, _, _, _, _, _⟩) (v := ?_) rfl (by kernel_rfl) (by kernel_rfl) (by kernel_rfl) (fun _ _ _ h => h) (Or.inl ⟨by rfl, ?_⟩) hS0 ?_
      rotate_left
      · (intro wS hSw; (try dsimp only at hSw); go_simp); all_goals (with_reducible rfl)
      try simp only [Act.put, List.setIfInBounds_toArray, List.set_cons_zero, List.set_cons_succ]
      refine wpAnyH_take (i := 1) (oi := ⟨some 21, _, _, _, _, _⟩) (v := ?_) rfl (by kernel_rfl) (by kernel_rfl) (by kernel_rfl) (fun _ _ _ h => h) (Or.inl ⟨by rfl, ?_⟩) hS0 ?_
      rotate_left
      · (intro wS hSw; (try dsimp only at hSw); go_simp); all_goals (with_reducible rfl)
      try simp only [Act.put, List.setIfInBounds_toArray, List.set_cons_zero, List.set_cons_succ]
      refine wpAnyH_ready (rs := [2]) (by kernel_rfl) (by simp) ?_
      refine AllReadyH.cons (o := ⟨some 22, _, _, _, _, _⟩) rfl (fun K hK => ?_) AllReadyH.nil
      go_simp
      refine (in_ok g r false _ ND.out.inn).mono ?_
      rintro e w5 ⟨rfl, rfl⟩
      go_wp2_with fail
      refine hK.out _ _ ⟨x0, x1, x2⟩ (fun hS2 => ?_)
      clear hK K
      try simp only [Act.put, List.setIfInBounds_toArray, List.set_cons_zero, List.set_cons_succ]
      refine wpAnyH_take (i := 3) (oi := ⟨some 23, _, _, _, _, _⟩) (v := ?_) rfl (by kernel_rfl) (by kernel_rfl) (by kernel_rfl) (fun _ _ _ h => h) (Or.inl ⟨by rfl, ?_⟩) hS2 ?_
      rotate_left
      · (intro wS hSw; (try dsimp only at hSw); go_simp); all_goals (with_reducible rfl)
      try simp only [Act.put, List.setIfInBounds_toArray, List.set_cons_zero, List.set_cons_succ]
      refine wpAnyH_take (i := 4) (oi := ⟨some 24, _, _, _, _, _⟩) (v := ?_) rfl (by kernel_rfl) (by kernel_rfl) (by kernel_rfl) (fun _ _ _ h => h) (Or.inl ⟨by rfl, ?_⟩) hS2 ?_
      rotate_left
      · (intro wS hSw; (try dsimp only at hSw); go_simp); all_goals (with_reducible rfl)
      try simp only [Act.put, List.setIfInBounds_toArray, List.set_cons_zero, List.set_cons_succ]
      refine wpAnyH_ready (rs := [5]) (by kernel_rfl) (by simp) ?_
      refine AllReadyH.cons (o := ⟨some 25, _, _, _, _, _⟩) rfl (fun K hK => ?_) AllReadyH.nil
      go_simp
      refine (ufits_any ⟨⟨key, del, val⟩, A, c⟩ _ FK.out FV.out).mono ?_
      rintro e w6 ⟨rfl, hb6⟩
      have ND := Lib.hid (ND.out.below hb6)
      clear hb6 y0 y1 y2 x0 x1 x2 f0 f1 f2
      obtain ⟨⟨y0, y1, y2⟩, ⟨x0, x1, x2⟩, ⟨f0, f1, f2⟩, hnn⟩ := ND.out.cells
      rw [← HFF.out]
      go_wp2_with fail
      refine hK.out _ _ ⟨x0, x1, x2⟩ (fun hS5 => ?_)
      clear hK K
      try simp only [Act.put, List.setIfInBounds_toArray, List.set_cons_zero, List.set_cons_succ]
      refine wpAnyH_take (i := 6) (oi := ⟨some 26, _, _, _, _, _⟩) (v := ?_) rfl (by kernel_rfl) (by kernel_rfl) (by kernel_rfl) (fun _ _ _ h => h) (Or.inl ⟨by rfl, ?_⟩) hS5 ?_
      rotate_left
      · (intro wS hSw; (try dsimp only at hSw); go_simp); all_goals (with_reducible rfl)
      try simp only [Act.put, List.setIfInBounds_toArray, List.set_cons_zero, List.set_cons_succ]
      refine wpAnyH_ready (rs := [7]) (by kernel_rfl) (by simp) ?_
      refine AllReadyH.cons (o := ⟨none, _, _, _, _, _⟩) rfl (fun K hK => ?_) AllReadyH.nil
      go_simp
      have P := put3 (.string ⟨key.toArray⟩) (.bool del) (.slice A val.length c) ND.out.res
      have HP3 := Lib.hid P
      have G3 := Lib.hid (grown_new (n := n) (i := 2) (u := .slice A val.length c) (grown_new (n := n) (i := 1) (u := .bool del) (grown_new (n := n) (i := 0) (u := .string ⟨key.toArray⟩) ND.out.gro ND.out.old) ND.out.old) ND.out.old)
      have B3 := ((ND.out.box.other (i := 0) (u := .string ⟨key.toArray⟩) (show n + 1 ≠ n by omega)).other (i := 1) (u := .bool del) (show n + 1 ≠ n by omega)).other (i := 2) (u := .slice A val.length c) (show n + 1 ≠ n by omega)
      have I3 := Lib.hid (((ND.out.inn.grown_new (i := 0) (u := .string ⟨key.toArray⟩) ND.out.gn).grown_new (i := 1) (u := .bool del) ND.out.gn).grown_new (i := 2) (u := .slice A val.length c) ND.out.gn)
      have O3 := Lib.hid (own_set (i := 2) (u := .slice A val.length c) (own_set (i := 1) (u := .bool del) (own_set (i := 0) (u := .string ⟨key.toArray⟩) ND.out.own (show n < n + 2 by omega)) (show n < n + 2 by omega)) (show n < n + 2 by omega))
      have z0 := B3.cell 0
      have z1 := B3.cell 1
      have z2 := B3.cell 2
      clear P B3
      refine hK.out _ _ ⟨z0, z1, z2⟩ (fun hS7 => ?_)
      clear hK K
      try simp only [Act.put, List.setIfInBounds_toArray, List.set_cons_zero, List.set_cons_succ]
      refine wpAnyH_take (i := 8) (oi := ⟨some 3, _, _, _, _, _⟩) (v := ?_) rfl (by kernel_rfl) (by kernel_rfl) (by kernel_rfl) (fun _ _ _ h => h) (Or.inl ⟨by rfl, ?_⟩) hS7 ?_
      rotate_left
      · (intro wS hSw; (try dsimp only at hSw); go_simp); all_goals (with_reducible rfl)
      try simp only [Act.put, List.setIfInBounds_toArray, List.set_cons_zero, List.set_cons_succ]
      refine wpAnyH_done (by kernel_rfl) ?_ _
      cases f with
      | false =>
        have NO : Hid (nextP L b = none) := Lib.hid (by rw [HP.out, ← HFF.out]; rfl)
        go_wp2_with fail
        have p0 := HP3.out.cell 0
        have p1 := HP3.out.cell 1
        have p2 := HP3.out.cell 2
        exact bodyPost_ret (v := .tuple #[.agg #[.string ⟨key.toArray⟩, .bool del, .slice A val.length c], .bool false]) (by simp [results, Try.results33, go_sem, p0, p1, p2]) rfl (NextU.no NO.out G3.out)
      | true =>
        have YES : Hid (nextP L b = some (⟨⟨key, del, val⟩, p⟩, r)) := Lib.hid (by rw [HP.out, ← HFF.out]; rfl)
        go_wp2_with fail
        have p0 := HP3.out.cell 0
        have p1 := HP3.out.cell 1
        have p2 := HP3.out.cell 2
        exact bodyPost_ret (v := .tuple #[.agg #[.string ⟨key.toArray⟩, .bool del, .slice A val.length c], .bool true]) (by simp [results, Try.results33, go_sem, p0, p1, p2]) rfl (NextU.yes YES.out rfl G3.out (own_less O3.out (by have := ND.out.old; omega)) I3.out)
end Go.Proofs.Ytflbjmpbkcjdhaa
