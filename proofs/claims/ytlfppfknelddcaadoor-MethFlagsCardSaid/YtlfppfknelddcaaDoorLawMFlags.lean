/- The law on flags: what is told of its two methods (its walk is still to come). -/
import Derived.Test.YtlfppfknelddcaaDoorMethC
import Derived.Deep.OwnRows
namespace Go.Proofs.YtlfppfknelddcaaDoor
open Go.RowKit
set_option maxRecDepth 100000
set_option linter.unusedSimpArgs false
set_option linter.unusedVariables false

/-- five flags of a number; the octet that they make -/
def fl5 (m : Nat) : List Bool := [m.testBit 0, m.testBit 1, m.testBit 2, m.testBit 3, m.testBit 4]
def fmP (m : Nat) : Parts := ⟨[0], [[101], [116]], fl5 m, []⟩
def fmB (v : UInt8) : List UInt8 := [0, 40, 0, 10, 0, 0, 1, 101, 1, 116, v, 0, 0, 0, 0]
theorem fm_form : formB 40 10 = some [50, 115, 115, 102, 102, 102, 102, 102, 116] := by rfl
theorem fm_octF : ∀ m, m < 32 → octF [102, 102, 102, 102, 102, 116] 0 (fl5 m) = m := by decide
theorem fm_ok (m : Nat) : okM 40 10 (fmP m) = true := by
  unfold okM
  rw [fm_form]
  rfl
theorem fm_oct (m : Nat) (h : m < 32) : appM [] 40 10 (fmP m) = fmB (UInt8.ofNat m) := by
  unfold appM
  rw [fm_ok m, if_pos rfl]
  unfold octM
  rw [fm_form]
  have h1 := fm_octF m h
  simp [pw, fmP, wd, h1]
  rw [show be 2 40 = [0, 40] from by decide, show be 2 10 = [0, 10] from by decide, show be 2 0 = [0, 0] from by decide, show be 1 1 = [1] from by decide, show appB [] [] = [] from by rfl, show be 4 ([] : List UInt8).length = [0, 0, 0, 0] from by decide]
  rfl
theorem fm_fine (m : Nat) : Fine (fmP m) := by
  refine ⟨fun x hx => ?_, fun x hx => ?_⟩
  · have : x = [101] ∨ x = [116] := by simpa [fmP] using hx
    rcases this with rfl | rfl <;> decide
  · have : x = 0 := by simpa [fmP] using hx
    omega
theorem fm_table (fl : Nat) : pr0 [116] 5 fl [0, 0, 0, 0] = some (Parts.none_, []) := by
  unfold pr0
  rw [if_neg (by decide), if_neg (by decide), if_neg (by decide), if_pos rfl]
  rw [if_neg (by decide)]
  rw [show txt 4 ([0, 0, 0, 0] : List UInt8) = [] from by decide, show parseB [] = some [] from by rfl, show txtRest 4 ([0, 0, 0, 0] : List UInt8) = [] from by decide]
  rfl
theorem fm_front (v : UInt8) (ls rest : List UInt8) : pr0 (50 :: 115 :: 115 :: 102 :: 102 :: 102 :: 102 :: 102 :: ls) 0 0 (0 :: 0 :: 1 :: 101 :: 1 :: 116 :: v :: rest) = addP (pN 0) (addP (pS [101]) (addP (pS [116]) (addP (pF ((nat [v]).testBit 0)) (addP (pF ((nat [v]).testBit 1)) (addP (pF ((nat [v]).testBit 2)) (addP (pF ((nat [v]).testBit 3)) (addP (pF ((nat [v]).testBit 4)) (pr0 ls 5 (nat [v]) rest)))))))) := by
  have a1 : pr0 (50 :: 115 :: 115 :: 102 :: 102 :: 102 :: 102 :: 102 :: ls) 0 0 (0 :: 0 :: 1 :: 101 :: 1 :: 116 :: v :: rest) = addP (pN 0) (pr0 (115 :: 115 :: 102 :: 102 :: 102 :: 102 :: 102 :: ls) 0 0 (1 :: 101 :: 1 :: 116 :: v :: rest)) := by
    rw [pr0, if_neg (by decide), if_neg (by decide), if_neg (by decide), if_neg (by decide), if_neg (by simp [short, wd]; exact decide_eq_false (by omega))]
    rfl
  have a2 : ∀ (x y : UInt8) (l r : List UInt8) (f : Nat), x = 1 → pr0 (115 :: l) 0 f (x :: y :: r) = addP (pS [y]) (pr0 l 0 f r) := by
    intro x y l r f hx
    subst hx
    have h1 : txtShort 1 (1 :: y :: r) = false := by simp [txtShort, short, tk, rst, nat]
    have h2 : txt 1 (1 :: y :: r) = [y] := by simp [txt, tk, rst, nat]
    have h3 : txtRest 1 (1 :: y :: r) = r := by simp [txtRest, tk, rst, nat]
    rw [pr0, if_pos rfl, h1, h2, h3]
    rfl
  rw [a1, a2 _ _ _ _ _ rfl, a2 _ _ _ _ _ rfl]
  rfl
theorem fm_pr (v : UInt8) : pr0 [50, 115, 115, 102, 102, 102, 102, 102, 116] 0 0 [0, 0, 1, 101, 1, 116, v, 0, 0, 0, 0] = some (⟨[0], [[101], [116]], fl5 (nat [v]), []⟩, []) := by
  rw [fm_front, fm_table]
  rfl
theorem fm_back (v : UInt8) : parseM (fmB v) = .ok 40 10 (fmP v.toNat) := by
  have h : nat [v] = v.toNat := by simp [nat]
  have e1 : formB (nat ((fmB v).take 2)) (nat (((fmB v).drop 2).take 2)) = some [50, 115, 115, 102, 102, 102, 102, 102, 116] := by rfl
  have e2 : (fmB v).drop 4 = [0, 0, 1, 101, 1, 116, v, 0, 0, 0, 0] := by rfl
  unfold parseM
  rw [if_neg (by simp [fmB]), e1, e2]
  simp only
  rw [fm_pr, h]
  rfl
/-- the bits above are not asked -/
theorem fl5_low (m r : Nat) (h : m < 32) : fl5 (m + 32 * r) = fl5 m := by
  have e : ∀ i, i < 5 → (m + 32 * r).testBit i = m.testBit i := by
    intro i hi
    rw [Nat.testBit_eq_decide_div_mod_eq, Nat.testBit_eq_decide_div_mod_eq]
    have : i = 0 ∨ i = 1 ∨ i = 2 ∨ i = 3 ∨ i = 4 := by omega
    rcases this with rfl | rfl | rfl | rfl | rfl <;> (congr 1; simp; omega)
  simp [fl5, e]
theorem nk_back (v : UInt8) : parseM [0, 60, 0, 120, 0, 0, 0, 0, 0, 0, 0, 9, v] = .ok 60 120 ⟨[9], [], [v.toNat.testBit 0, v.toNat.testBit 1], []⟩ := by
  have h : nat [v] = v.toNat := by simp [nat]
  have e : parseM [0, 60, 0, 120, 0, 0, 0, 0, 0, 0, 0, 9, v] = .ok 60 120 ⟨[9], [], [(nat [v]).testBit 0, (nat [v]).testBit 1], []⟩ := by rfl
  rw [e, h]
/-! ### the walk -/
theorem and_two (f k : Nat) : f &&& 2 ^ k = if f / 2 ^ k % 2 = 1 then 2 ^ k else 0 := by
  apply Nat.eq_of_testBit_eq
  intro i
  have ht : f.testBit k = decide (f / 2 ^ k % 2 = 1) := Nat.testBit_eq_decide_div_mod_eq
  rw [Nat.testBit_and, Nat.testBit_two_pow]
  by_cases hi : k = i
  · subst hi
    rw [ht]
    by_cases hb : f / 2 ^ k % 2 = 1
    · rw [if_pos hb, decide_eq_true hb, Nat.testBit_two_pow]; simp
    · rw [if_neg hb, decide_eq_false hb]; simp
  · rw [decide_eq_false hi, Bool.and_false]
    by_cases hb : f / 2 ^ k % 2 = 1
    · rw [if_pos hb, Nat.testBit_two_pow, decide_eq_false hi]
    · rw [if_neg hb, Nat.zero_testBit]
/-- the bit of a number of either sign, of five -/
theorem bit_low {x : Int} {m : Nat} (hm : x % 2 ^ 5 = (m : Int)) (j : Nat) (hj : j < 5) : (bits .and .i64 (x / 2 ^ j) 1 == 1) = m.testBit j := by
  have h1 : bits .and .i64 (x / 2 ^ j) 1 = (x / 2 ^ j) % 2 ^ 1 := i64_mask (x / 2 ^ j) 1 (by omega)
  rw [h1, Nat.testBit_eq_decide_div_mod_eq, Bool.eq_iff_iff, beq_iff_eq, decide_eq_true_eq]
  have : j = 0 ∨ j = 1 ∨ j = 2 ∨ j = 3 ∨ j = 4 := by omega
  rcases this with rfl | rfl | rfl | rfl | rfl <;> (simp only [Nat.reducePow, Int.reducePow] at *; omega)
theorem bit_one {y : Int} {n : Nat} (hn : y % 256 = (n : Int)) : (bits .and .i64 y 1 == 1) = n.testBit 0 := by
  have h1 : bits .and .i64 y 1 = y % 2 ^ 1 := i64_mask y 1 (by omega)
  rw [h1, Nat.testBit_eq_decide_div_mod_eq, Bool.eq_iff_iff, beq_iff_eq, decide_eq_true_eq]
  simp only [Nat.reducePow, Int.reducePow] at *
  omega
theorem bit_two {y : Int} {n : Nat} (hn : y % 256 = (n : Int)) : (bits .and .i64 y 2 == 2) = n.testBit 1 := by
  have e : bits .and .i64 y 2 = if n / 2 % 2 = 1 then 2 else 0 := by
    show IntKind.i64.wrap ((BitVec.ofInt 64 y &&& BitVec.ofInt 64 2).toNat : Int) = _
    have h2 : (BitVec.ofInt 64 2).toNat = 2 ^ 1 := by decide
    have h3 : (BitVec.ofInt 64 y).toNat % 256 = n := by
      rw [BitVec.toNat_ofInt]
      omega
    rw [BitVec.toNat_and, h2, and_two]
    generalize (BitVec.ofInt 64 y).toNat = q at *
    have h4 : (q / 2 ^ 1 % 2 = 1) = (n / 2 % 2 = 1) := by
      rw [eq_iff_iff]
      omega
    simp only [h4]
    split <;> rfl
  rw [e, Nat.testBit_eq_decide_div_mod_eq]
  by_cases h : n / 2 % 2 = 1
  · rw [if_pos h, show n / 2 ^ 1 % 2 = 1 from h]; rfl
  · rw [if_neg h, decide_eq_false (show ¬ n / 2 ^ 1 % 2 = 1 from h)]; rfl
theorem set_lies {w : World} {B g o : Nat} {l : List UInt8} (h : Lies w B (some ⟨g, o, none⟩) (B8 l)) (j : Nat) (hj : j < l.length) (v : UInt8) :
    Lies (w.setCell ⟨g, o + j, none⟩ (.int .u8 (v.toNat : Int))) B (some ⟨g, o, none⟩) (B8 (l.set j v)) := by
  have h1 := flip_lies h j hj (l.getD j 0 ^^^ v)
  have e : l.getD j 0 ^^^ (l.getD j 0 ^^^ v) = v := by rw [← UInt8.xor_assoc, UInt8.xor_self, UInt8.zero_xor]
  unfold flip at h1
  rw [e] at h1
  exact h1
theorem mbool_info : (Tryd.prog.info? 4).map (fun i => (i.zero, i.size, i.bytes)) = some (some (.bool false), 1, 1) := by kernel_rfl
theorem make_five (w : World) : (Instr.makeSlice 22 (.int .i64 5) (.int .i64 5)).run Tryd.prog w = .ok (.slice (some ⟨w.heap.size, 0, none⟩) 5 5) (w.alloc (.cells (madeCells #[.bool false] 5) 4)) :=
  run_make_row' (P := Tryd.prog) 22 4 (.bool false) 1 Tryd.underlying22 mbool_info rfl .i64 .i64 5 (by omega) (by omega) w
/-- the first j of five flags told -/
def flc (m j : Nat) : Array Value := #[.bool (decide (0 < j) && m.testBit 0), .bool (decide (1 < j) && m.testBit 1), .bool (decide (2 < j) && m.testBit 2), .bool (decide (3 < j) && m.testBit 3), .bool (decide (4 < j) && m.testBit 4)]
theorem made_row5 (n : Nat) (z : Value) : madeCells #[z] n = (List.replicate n z).toArray := by
  apply Array.ext
  · simp [madeCells]
  · intro i h1 h2
    simp [madeCells, Nat.mod_one]
theorem made_five (m : Nat) : madeCells #[.bool false] 5 = flc m 0 := by
  rw [made_row5]
  rfl
theorem or_five (m r : Nat) (hm : m < 32) (hr : r < 8) : bits .or .i64 (m : Int) ((r : Int) * 32) % 256 = ((m + 32 * r : Nat) : Int) := by
  have e : ((r : Int) * 32) = ((r * 32 : Nat) : Int) := by rw [Int.natCast_mul]; rfl
  have h : bits .or .i64 (m : Int) ((r * 32 : Nat) : Int) = ((m + 32 * r : Nat) : Int) := by
    show IntKind.i64.wrap ((BitVec.ofInt 64 (m : Int) ||| BitVec.ofInt 64 ((r * 32 : Nat) : Int)).toNat : Int) = _
    rw [BitVec.ofInt_natCast, BitVec.ofInt_natCast, BitVec.toNat_or, BitVec.toNat_ofNat, BitVec.toNat_ofNat, Nat.mod_eq_of_lt (by omega), Nat.mod_eq_of_lt (by omega), Nat.or_comm, nat_join 5 (r * 32) m (by omega) (by omega)]
    rw [show r * 32 + m = m + 32 * r from by omega]
    exact IntWalk.i64_in _ (by omega)
  rw [e, h]
  omega
theorem flc_put (m j : Nat) (hj : j < 5) : (flc m j).setIfInBounds j (.bool (m.testBit j)) = flc m (j + 1) := by
  have : j = 0 ∨ j = 1 ∨ j = 2 ∨ j = 3 ∨ j = 4 := by omega
  rcases this with rfl | rfl | rfl | rfl | rfl <;> rfl
theorem flc_get (m j : Nat) (hj : j < 5) : (flc m 5)[j]? = some (.bool (m.testBit j)) := by
  have : j = 0 ∨ j = 1 ∨ j = 2 ∨ j = 3 ∨ j = 4 := by omega
  rcases this with rfl | rfl | rfl | rfl | rfl <;> rfl
theorem fl5_get (m j : Nat) (hj : j < 5) : (cellsB (fl5 m))[j]? = some (.bool (m.testBit j)) := by
  have : j = 0 ∨ j = 1 ∨ j = 2 ∨ j = 3 ∨ j = 4 := by omega
  rcases this with rfl | rfl | rfl | rfl | rfl <;> rfl
theorem flc_some (m j k : Nat) (hj : j < 5) : ∃ b, (flc m k)[j]? = some (.bool b) := by
  have : j = 0 ∨ j = 1 ∨ j = 2 ∨ j = 3 ∨ j = 4 := by omega
  rcases this with rfl | rfl | rfl | rfl | rfl <;> exact ⟨_, rfl⟩
theorem fm_at {w : World} {g m : Nat} (h : Whole w g 4 (flc m 5)) : PartsAt ((w.alloc (.cells #[.int .u64 0] 27)).alloc (.cells #[.string ⟨#[101]⟩, .string ⟨#[116]⟩] 9)) (w.heap.size + 2) (fmP m) (.slice (some ⟨w.heap.size, 0, none⟩) 1 1) (.slice (some ⟨w.heap.size + 1, 0, none⟩) 2 2) (.slice (some ⟨g, 0, none⟩) 5 5) (.slice none 0 0) := by
  have h1 := (Lies.lit w 27 [.int .u64 0]).alloc (by simp) (.cells #[.string ⟨#[101]⟩, .string ⟨#[116]⟩] 9)
  have h2 := Lies.lit (w.alloc (.cells #[.int .u64 0] 27)) 9 [.string ⟨#[101]⟩, .string ⟨#[116]⟩]
  rw [show (w.alloc (.cells #[.int .u64 0] 27)).heap.size = w.heap.size + 1 from by simp] at h2
  have hg := h.lt
  have h3 : Lies ((w.alloc (.cells #[.int .u64 0] 27)).alloc (.cells #[.string ⟨#[101]⟩, .string ⟨#[116]⟩] 9)) (w.heap.size + 2) (some ⟨g, 0, none⟩) (cellsB (fl5 m)) := by
    refine .inr ⟨g, 0, rfl, by omega, fun j x hx => ?_⟩
    have hj : j < 5 := (List.getElem?_eq_some_iff.1 hx).1
    rw [fl5_get m j hj] at hx
    rw [Nat.zero_add, ((h.alloc _).alloc _).cell, flc_get m j hj]
    exact hx
  exact ⟨slat_lit _ _ _ _ (h1.more (by omega)) 1 (by decide), slat_lit _ _ _ _ (h2.more (by omega)) 2 (by decide), slat_lit _ _ _ _ h3 5 (by decide), TbAt.nil _ _⟩
theorem fm_set (a v : UInt8) : (fmB a).set 10 v = fmB v := rfl

set_option maxHeartbeats 4000000 in
theorem mflags_any (x y : Int) (w : World) (hx0 : (Lit.int .i64 x).wf = true) (hy0 : (Lit.int .i64 y).wf = true) :
    Calls Tryd.prog 3 #[.int .i64 x, .int .i64 y] w fun e w' => e = .returned (.bool true) ∧ Below w.heap.size w w' := by
  obtain ⟨m, hm, hxm, hmk⟩ := mask_is x 31 5 (by omega) rfl
  obtain ⟨r, hr, _, hrk⟩ := mask_is y 7 3 (by omega) rfl
  simp only [Nat.reducePow] at hm hr
  have hxb : ∀ j, j < 5 → (bits .and .i64 (x / 2 ^ j) 1 == 1) = m.testBit j := bit_low hxm
  have HXB := Lib.hid hxb
  have mk := make_five w
  obtain ⟨w0, hw0⟩ : ∃ w0, w0 = w.alloc (.cells (madeCells #[.bool false] 5) 4) := ⟨_, rfl⟩
  have hk0 : Whole w0 w.heap.size 4 (flc m 0) := by rw [hw0, made_five m]; exact Whole.new _ _ _
  have hb0 : Below w.heap.size w w0 := by rw [hw0]; exact (Below.refl _ _).alloc (Nat.le_refl _) _
  rw [← hw0] at mk
  have K0 := Lib.hid hk0
  have B0 := Lib.hid hb0
  clear hxb hxm hk0 hb0 hw0
  go_enter Tryd.func3, Tryd.ntmps3
  go_wp2_with fail
  clear mk
  go_loopw [17] (fun vi wr => ∃ j : Nat, vi = .int .i64 j ∧ j ≤ 5 ∧ Whole wr w.heap.size 4 (flc m j) ∧ Below w.heap.size w wr) (fun vi _ => 5 - (intOf vi).toNat)
  case atStart => exact ⟨0, rfl, by omega, K0.out, B0.out⟩
  case round =>
    obtain ⟨j, rfl, hj, hkr, hbr⟩ := hrel
    have KR := Lib.hid hkr
    have BR := Lib.hid hbr
    have zr := hbr.size
    clear hkr hbr
    by_cases hlt : j < 5
    · have q1 : (j : Int) < 5 := by omega
      have q0 : (0 : Int) ≤ (j : Int) := by omega
      have hu : IntKind.u64.wrap (j : Int) = (j : Int) := IntWalk.u64_in _ ⟨by omega, by omega⟩
      have hmin : min j 64 = j := by omega
      have hb := HXB.out j hlt
      have hfz := KR.out.frozen j
      obtain ⟨ob, hcn⟩ : ∃ b, wr.cell? ⟨w.heap.size, j, none⟩ = some (.bool b) := by rw [KR.out.cell]; exact flc_some m j j hlt
      have D : Hid (Whole (wr.setCell ⟨w.heap.size, j, none⟩ (.bool (m.testBit j))) w.heap.size 4 (flc m (j + 1))) := Lib.hid (by rw [← flc_put m j hlt]; exact KR.out.put _ _)
      have DB : Hid (Below w.heap.size w (wr.setCell ⟨w.heap.size, j, none⟩ (.bool (m.testBit j)))) := Lib.hid (BR.out.setCell (p := ⟨w.heap.size, j, none⟩) (Nat.le_refl _) _)
      go_wp2_with fail
      go_roundw
      case rel => exact ⟨j + 1, by go_num, by omega, D.out, DB.out⟩
      case measure => simp [intOf]; omega
    · obtain rfl : j = 5 := by omega
      have q1 : ¬ ((5 : Nat) : Int) < 5 := by decide
      obtain ⟨w2, hw2⟩ : ∃ w2, w2 = (wr.alloc (.cells #[.int .u64 0] 27)).alloc (.cells #[.string ⟨#[101]⟩, .string ⟨#[116]⟩] 9) := ⟨_, rfl⟩
      have hb2 : Below wr.heap.size wr w2 := by rw [hw2]; exact ((Below.refl _ _).alloc (Nat.le_refl _) _).alloc (by simp) _
      have hz2 : w2.heap.size = wr.heap.size + 2 := by rw [hw2]; simp
      have hp2 : PartsAt w2 (wr.heap.size + 2) (fmP m) (.slice (some ⟨wr.heap.size, 0, none⟩) 1 1) (.slice (some ⟨wr.heap.size + 1, 0, none⟩) 2 2) (.slice (some ⟨w.heap.size, 0, none⟩) 5 5) (.slice none 0 0) := by rw [hw2]; exact fm_at KR.out
      have K2 := Lib.hid (KR.out.below hb2 KR.out.lt)
      have B2 := Lib.hid (BR.out.trans (hb2.mono zr))
      have hgw : w.heap.size < w2.heap.size := K2.out.lt
      have HW2 := Lib.hid hw2
      have HZ2 := Lib.hid hz2
      have HP2 := Lib.hid hp2
      clear hw2 hb2 hz2 hp2
      go_wp2_with fail
      rw [← HW2.out]
      refine (mappend_any none 0 [] (wr.heap.size + 2) 40 10 (fmP m) _ _ _ _ w2 (Lies.empty _ _ _) (by rw [HZ2.out]; exact Nat.le_refl _) HP2.out (fm_fine m) (by decide) (by decide) (by simp)).mono ?_
      rw [fm_oct m hm, fm_ok m]
      rintro e w3 ⟨v3, rfl, ho3, hb3⟩
      obtain ⟨A3, c3, rfl, hc3, hm3⟩ := own_form ho3
      obtain ⟨g3, rfl, hg3, hg3', hfr⟩ := own_head ho3 (by simp [fmB])
      have l15 : (fmB (UInt8.ofNat m)).length = 15 := rfl
      rw [l15] at ho3 hc3
      have z3 := hb3.size
      have hl3 := Lies.own ho3 (Nat.le_refl _)
      have hc10 : w3.cell? ⟨g3, 10, none⟩ = some (.int .u8 ((UInt8.ofNat m).toNat : Int)) := by
        rcases hl3.octets with h | ⟨b, o, e, _, hc⟩
        · cases h
        · injection e with e
          injection e with e1 e2 e3
          subst e1 e2
          exact hc 10 (by show 10 < 15; omega)
      have hmn : (UInt8.ofNat m).toNat = m := by rw [UInt8.toNat_ofNat']; omega
      rw [hmn] at hc10
      have hf10 := hfr 10
      obtain ⟨V, hV⟩ : ∃ V : UInt8, V = UInt8.ofNat (m + 32 * r) := ⟨_, rfl⟩
      have hVn : V.toNat = m + 32 * r := by rw [hV, UInt8.toNat_ofNat']; omega
      obtain ⟨w4, hw4⟩ : ∃ w4, w4 = w3.setCell ⟨g3, 10, none⟩ (.int .u8 (V.toNat : Int)) := ⟨_, rfl⟩
      have L4 : Hid (Lies w4 w3.heap.size (some ⟨g3, 0, none⟩) (B8 (fmB V))) := Lib.hid (by
        rw [hw4]
        have h := set_lies hl3 10 (by show 10 < 15; omega) V
        rw [Nat.zero_add, fm_set] at h
        exact h)
      have hb34 : Below w2.heap.size w2 w4 := by rw [hw4]; exact hb3.setCell hg3 _
      have hs4 : w4.heap.size = w3.heap.size := by rw [hw4]; simp [World.setCell]
      have B4 := Lib.hid (B2.out.trans (hb34.mono (by have := HZ2.out; omega)))
      have K4 := Lib.hid (K2.out.below hb34 hgw)
      have HS4 := Lib.hid hs4
      have HW4 := Lib.hid hw4
      have HVn := Lib.hid hVn
      have c15 : (10 : Int) < 15 := by decide
      have WV : Hid (bits .or .i64 (m : Int) ((r : Int) * 32) % 256 = (V.toNat : Int)) := Lib.hid (by rw [or_five m r hm hr, hVn])
      clear ho3 hb3 hl3 hfr hV hVn hb34 hs4 hw4
      go_wp2_with fail
      rw [WV.out, ← HW4.out]
      refine (mparse_any (some ⟨g3, 0, none⟩) c3 (fmB V) w3.heap.size w4 L4.out (by rw [HS4.out]; exact Nat.le_refl _) (by show 15 ≤ 140737488355328; omega)).mono ?_
      rw [fm_back V, HVn.out]
      rintro e w5 ⟨hb5, vN, vS, vF, vT, rfl, hp5⟩
      obtain ⟨AN, cN5, rfl, _, _, _⟩ := hp5.n
      obtain ⟨AS, cS5, rfl, _, _, _⟩ := hp5.s
      obtain ⟨AF, cF5, rfl, _, _, hlF⟩ := hp5.f
      obtain ⟨AT, cT5, dT, rfl, _⟩ := hp5.t
      have eF : (fmP (m + 32 * r)).f = fl5 m := fl5_low m r hm
      rw [eF] at hlF
      obtain ⟨bF, oF, rfl, hbF, hcF⟩ := hlF.resolve_left (by intro h; cases h)
      clear hp5 eF hlF
      have z5 := hb5.size
      obtain ⟨w6, hw6⟩ : ∃ w6, w6 = w5.alloc (.cells #[.int .i64 40, .int .i64 10, .slice AN 1 cN5, .slice AS 2 cS5, .slice (some ⟨bF, oF, none⟩) 5 cF5, .slice AT 0 cT5] 32) := ⟨_, rfl⟩
      have hb56 : Below w5.heap.size w5 w6 := by rw [hw6]; exact (Below.refl _ _).alloc (Nat.le_refl _) _
      have hb46 : Below w4.heap.size w4 w6 := hb5.trans (hb56.mono z5)
      have W6 : Hid (Whole w6 w5.heap.size 32 #[.int .i64 40, .int .i64 10, .slice AN 1 cN5, .slice AS 2 cS5, .slice (some ⟨bF, oF, none⟩) 5 cF5, .slice AT 0 cT5]) := Lib.hid (by rw [hw6]; exact Whole.new _ _ _)
      have K6 := Lib.hid (K4.out.below hb46 (by rw [HS4.out]; omega))
      have B6 := Lib.hid (B4.out.trans (hb46.mono (by rw [HS4.out]; have := B4.out.size; have := HS4.out; omega)))
      have CF : Hid (∀ j, j < 5 → w6.cell? ⟨bF, oF + j, none⟩ = some (.bool (m.testBit j))) := Lib.hid (fun j hj => by
        rw [hb56.cell (p := ⟨bF, oF + j, none⟩) hbF]
        exact hcF j _ (fl5_get m j hj))
      have c4 : w6.cell? ⟨w5.heap.size, 4, none⟩ = some (.slice (some ⟨bF, oF, none⟩) 5 cF5) := W6.out.cell 4
      have HW6 := Lib.hid hw6
      rw [hw6] at c4
      clear hcF hb5 hb56 hb46 hw6
      rw [show (fmP (m + 32 * r)).n.length = 1 from rfl, show (fmP (m + 32 * r)).s.length = 2 from rfl, show (fmP (m + 32 * r)).f.length = 5 from rfl, show (fmP (m + 32 * r)).t.length = 0 from rfl]
      go_wp2_with fail
      rw [← HW6.out]
      clear c4
      obtain ⟨n2, hn2⟩ : ∃ n2 : Nat, y % 256 = (n2 : Int) := Int.eq_ofNat_of_zero_le (Int.emod_nonneg y (by decide))
      have hn256 : n2 < 256 := by omega
      obtain ⟨Q, hQ⟩ : ∃ Q : UInt8, Q = UInt8.ofNat n2 := ⟨_, rfl⟩
      have hQn : Q.toNat = n2 := by rw [hQ, UInt8.toNat_ofNat']; omega
      have hb1 := bit_one hn2
      have hb2 := bit_two hn2
      obtain ⟨p1, hp1⟩ : ∃ p1, p1 = n2.testBit 0 := ⟨_, rfl⟩
      obtain ⟨p2, hp2⟩ : ∃ p2, p2 = n2.testBit 1 := ⟨_, rfl⟩
      rw [← hp1] at hb1
      rw [← hp2] at hb2
      have hnk := nk_back Q
      rw [hQn, ← hp1, ← hp2] at hnk
      have HNK := Lib.hid hnk
      have HB12 := Lib.hid (And.intro hb1 hb2)
      have HYQ : Hid (y % 256 = (Q.toNat : Int)) := Lib.hid (by rw [hQn, hn2])
      clear hn2 hn256 hQ hQn hb1 hb2 hp1 hp2 hnk
      go_loopw [78] (fun vi wx => ∃ j : Nat, vi = .int .i64 j ∧ j ≤ 5 ∧ ∃ n, wx = w6.drewN n) (fun vi _ => 5 - (intOf vi).toNat)
      case atStart => exact ⟨0, rfl, by omega, 0, rfl⟩
      case round =>
        obtain ⟨j, rfl, hj, n, hwx⟩ := hrel
        have DN : Hid (∀ k, ∃ n', wr.drewN k = w6.drewN n') := Lib.hid (fun k => ⟨n + k, by rw [hwx]; simp [World.drewN, Nat.add_assoc]⟩)
        have f4 : wr.cell? ⟨w5.heap.size, 4, none⟩ = some (.slice (some ⟨bF, oF, none⟩) 5 cF5) := by rw [hwx]; exact W6.out.cell 4
        have BE : Hid (Below w.heap.size w wr) := Lib.hid (by rw [hwx]; exact below_drewN B6.out n)
        by_cases hlt5 : j < 5
        · have q1 : (j : Int) < 5 := by omega
          have q0 : (0 : Int) ≤ (j : Int) := by omega
          have f1 : wr.cell? ⟨bF, oF + j, none⟩ = some (.bool (m.testBit j)) := by rw [hwx]; exact CF.out j hlt5
          have f2 : wr.cell? ⟨w.heap.size, j, none⟩ = some (.bool (m.testBit j)) := by
            rw [hwx]
            exact (K6.out.cell j).trans (flc_get m j hlt5)
          clear hwx
          go_wp2_with fail
          go_quiet (fail)
          go_wp2_with fail
          go_roundw
          case rel => exact ⟨j + 1, by go_num, by omega, DN.out _⟩
          case measure => simp [intOf]; omega
        · obtain rfl : j = 5 := by omega
          clear hwx f4
          have zr7 := BE.out.size
          obtain ⟨w7, hw7⟩ : ∃ w7, w7 = wr.alloc (.cells #[.int .u8 0, .int .u8 60, .int .u8 0, .int .u8 120, .int .u8 0, .int .u8 0, .int .u8 0, .int .u8 0, .int .u8 0, .int .u8 0, .int .u8 0, .int .u8 9, .int .u8 (Q.toNat : Int)] 5) := ⟨_, rfl⟩
          have L7 : Hid (Lies w7 (wr.heap.size + 1) (some ⟨wr.heap.size, 0, none⟩) (B8 [0, 60, 0, 120, 0, 0, 0, 0, 0, 0, 0, 9, Q])) := Lib.hid (by rw [hw7]; exact Lies.lit wr 5 (B8 [0, 60, 0, 120, 0, 0, 0, 0, 0, 0, 0, 9, Q]))
          have hb7 : Below wr.heap.size wr w7 := by rw [hw7]; exact (Below.refl _ _).alloc (Nat.le_refl _) _
          have hs7 : w7.heap.size = wr.heap.size + 1 := by rw [hw7]; simp
          have B7 := Lib.hid (BE.out.trans (hb7.mono zr7))
          have HW7 := Lib.hid hw7
          have HS7 := Lib.hid hs7
          clear hw7 hb7 hs7
          go_upto_region 20 with fail
          go_wp2_with fail
          rw [HYQ.out, ← HW7.out]
          refine (mparse_any (some ⟨wr.heap.size, 0, none⟩) 13 [0, 60, 0, 120, 0, 0, 0, 0, 0, 0, 0, 9, Q] (wr.heap.size + 1) w7 L7.out (by rw [HS7.out]; exact Nat.le_refl _) (by show 13 ≤ 140737488355328; omega)).mono ?_
          rw [HNK.out]
          rintro e w8 ⟨hb8, vN, vS, vF, vT, rfl, hp8⟩
          obtain ⟨AN, cN8, rfl, _, _, hlN⟩ := hp8.n
          obtain ⟨AS, cS8, rfl, _, _, _⟩ := hp8.s
          obtain ⟨AF, cF8, rfl, _, _, hlF⟩ := hp8.f
          obtain ⟨AT, cT8, dT8, rfl, _⟩ := hp8.t
          obtain ⟨bN, oN, rfl, hbN, hcN⟩ := hlN.resolve_left (by intro h; cases h)
          obtain ⟨bG, oG, rfl, hbG, hcG⟩ := hlF.resolve_left (by intro h; cases h)
          clear hp8 hlN hlF
          have z8 := hb8.size
          obtain ⟨w9, hw9⟩ : ∃ w9, w9 = w8.alloc (.cells #[.int .i64 60, .int .i64 120, .slice (some ⟨bN, oN, none⟩) 1 cN8, .slice AS 0 cS8, .slice (some ⟨bG, oG, none⟩) 2 cF8, .slice AT 0 cT8] 32) := ⟨_, rfl⟩
          have hb89 : Below w8.heap.size w8 w9 := by rw [hw9]; exact (Below.refl _ _).alloc (Nat.le_refl _) _
          have W9 : Whole w9 w8.heap.size 32 #[.int .i64 60, .int .i64 120, .slice (some ⟨bN, oN, none⟩) 1 cN8, .slice AS 0 cS8, .slice (some ⟨bG, oG, none⟩) 2 cF8, .slice AT 0 cT8] := by rw [hw9]; exact Whole.new _ _ _
          have B9 := Lib.hid (B7.out.trans ((hb8.trans (hb89.mono z8)).mono (by rw [HS7.out]; omega)))
          have g2 : w9.cell? ⟨w8.heap.size, 2, none⟩ = some (.slice (some ⟨bN, oN, none⟩) 1 cN8) := W9.cell 2
          have g4 : w9.cell? ⟨w8.heap.size, 4, none⟩ = some (.slice (some ⟨bG, oG, none⟩) 2 cF8) := W9.cell 4
          have gn : w9.cell? ⟨bN, oN, none⟩ = some (.int .u64 9) := by
            rw [hb89.cell (p := ⟨bN, oN, none⟩) hbN]
            exact hcN 0 _ rfl
          have gf : w9.cell? ⟨bG, oG, none⟩ = some (.bool p1) := by
            rw [hb89.cell (p := ⟨bG, oG, none⟩) hbG]
            exact hcG 0 _ rfl
          have gg : w9.cell? ⟨bG, oG + 1, none⟩ = some (.bool p2) := by
            rw [hb89.cell (p := ⟨bG, oG + 1, none⟩) hbG]
            exact hcG 1 _ rfl
          obtain ⟨hy1, hy2⟩ := HB12.out
          have HW9 := Lib.hid hw9
          clear hcN hcG hb8 hb89 W9
          rw [hw9] at g2 g4 gn gf gg
          clear hw9
          rw [show ([9] : List Nat).length = 1 from rfl, show ([] : List (List UInt8)).length = 0 from rfl, show ([p1, p2] : List Bool).length = 2 from rfl, show ([] : List Fld).length = 0 from rfl]
          go_wp2_with fail
          rw [← HW9.out]
          refine (awake4_any _).mono ?_
          rintro e w10 ⟨rfl, hb10⟩
          have C10 := Lib.hid (B9.out.trans (hb10.mono B9.out.size))
          clear hb10
          go_wp2_with fail
          go_ret
          exact ⟨rfl, C10.out⟩
end Go.Proofs.YtlfppfknelddcaaDoor
