/- Contracts of package fram: what is written. -/
import Derived.Test.YtfajkbegmmlmjaaFram
namespace Go.Proofs.Ytfajkbegmmlmjaa
open Go.RowKit
set_option maxRecDepth 100000

/-- what Append tells -/
def fappB (l : List UInt8) (k ch : Int) (b : List UInt8) : List UInt8 := if frameOk k ch b.length then l ++ frameB k.toNat ch.toNat b else l

set_option maxRecDepth 100000 in
theorem fappend_not (A : Option Addr) (c : Nat) (l : List UInt8) (B : Nat) (k ch : Int) (A2 : Option Addr) (m c2 : Nat) (w : World) (hl : Lies w B A (B8 l)) (hB : B ≤ w.heap.size) (hs : l.length ≤ 140737488355328) (hm : m ≤ maxLen)
    (h : frameOk k ch m = false) :
    Calls Try.prog 29 #[.slice A l.length c, .agg #[.int .i64 k, .int .i64 ch, .slice A2 m c2]] w (NewOctsOk w.heap.size l false w) := by
  unfold maxLen at hm
  have HL := Lib.hid (hl.alloc hB (.cells #[.int .i64 k, .int .i64 ch, .slice A2 m c2] 44))
  have hz : B ≤ (w.alloc (.cells #[.int .i64 k, .int .i64 ch, .slice A2 m c2] 44)).heap.size := by simp; omega
  have hq : (w.alloc (.cells #[.int .i64 k, .int .i64 ch, .slice A2 m c2] 44)).heap.size = w.heap.size + 1 := by simp
  have HB0 : Hid (Below w.heap.size w (w.alloc (.cells #[.int .i64 k, .int .i64 ch, .slice A2 m c2] 44))) := Lib.hid ((Below.refl _ _).alloc (Nat.le_refl _) _)
  have W0 : Hid (Whole (w.alloc (.cells #[.int .i64 k, .int .i64 ch, .slice A2 m c2] 44)) w.heap.size 44 #[.int .i64 k, .int .i64 ch, .slice A2 m c2]) := Lib.hid (Whole.new _ _ _)
  have HZ := Lib.hid hz
  have HQ := Lib.hid hq
  have HH := Lib.hid h
  clear hl hz hq h
  go_enter Try.func29, Try.ntmps29
  go_wp2_with fail
  refine (clone_any A c l B _ HL.out HZ.out hs).mono ?_
  rintro e w1 ⟨v1, rfl, hown, hb1⟩
  have W1 := Lib.hid (W0.out.below hb1 (by rw [HQ.out]; omega))
  have B1 := Lib.hid (HB0.out.trans (hb1.mono (by rw [HQ.out]; omega)))
  have O1 := Lib.hid (own_at_base (b' := w.heap.size) hown (by rw [HQ.out]; omega))
  clear hown hb1
  have k0 : w1.cell? ⟨w.heap.size, 0, none⟩ = some (.int .i64 k) := W1.out.cell 0
  have k1 : w1.cell? ⟨w.heap.size, 1, none⟩ = some (.int .i64 ch) := W1.out.cell 1
  have k2 : w1.cell? ⟨w.heap.size, 2, none⟩ = some (.slice A2 m c2) := W1.out.cell 2
  have D : Hid (NewOctsOk w.heap.size l false w (.returned (.tuple #[v1, .bool false])) w1) := Lib.hid ⟨v1, rfl, O1.out, B1.out⟩
  go_wp2_with fail
  refine (isKind_any _ _).mono ?_
  rintro e w6 ⟨rfl, hw6⟩
  subst hw6
  have hcase : fkind k = false ∨ (fkind k = true ∧ ch < 0) ∨ (fkind k = true ∧ 0 ≤ ch ∧ 65535 < ch) ∨ (fkind k = true ∧ 0 ≤ ch ∧ ch ≤ 65535 ∧ (4088 : Int) < m) := by
    have h := HH.out
    unfold frameOk at h
    cases hk : fkind k with
    | false => exact .inl rfl
    | true =>
      rw [hk, Bool.true_and, decide_eq_false_iff_not] at h
      by_cases a1 : ch < 0
      · exact .inr (.inl ⟨rfl, a1⟩)
      · by_cases a2 : 65535 < ch
        · exact .inr (.inr (.inl ⟨rfl, by omega, a2⟩))
        · exact .inr (.inr (.inr ⟨rfl, by omega, by omega, by omega⟩))
  rcases hcase with h | ⟨h, h1⟩ | ⟨h, h1, h2⟩ | ⟨h, h1, h2, h3⟩
  all_goals
    rw [h]
    clear h
    go_wp2_with fail
    go_ret2
    exact D.out

set_option maxRecDepth 100000 in
theorem fappend_yes (A : Option Addr) (c : Nat) (l : List UInt8) (B : Nat) (k ch : Nat) (A2 : Option Addr) (b : List UInt8) (c2 : Nat) (w : World) (hl : Lies w B A (B8 l)) (hB : B ≤ w.heap.size) (hs : l.length ≤ 70368744177664) (hb : Lies w B A2 (B8 b))
    (h : frameOk k ch b.length = true) :
    Calls Try.prog 29 #[.slice A l.length c, .agg #[.int .i64 k, .int .i64 ch, .slice A2 b.length c2]] w (NewOctsOk w.heap.size (l ++ frameB k ch b) true w) := by
  have h' := h
  unfold frameOk at h'
  simp only [Bool.and_eq_true, decide_eq_true_eq] at h'
  obtain ⟨hk, h1, h2, h3⟩ := h'
  have hk8 : k ≤ 8 := by unfold fkind at hk; simp at hk; omega
  have h3' : (b.length : Int) ≤ 4088 := by omega
  have HK := Lib.hid hk
  have HL := Lib.hid (hl.alloc hB (.cells #[.int .i64 k, .int .i64 ch, .slice A2 b.length c2] 44))
  have HLB := Lib.hid (hb.alloc hB (.cells #[.int .i64 k, .int .i64 ch, .slice A2 b.length c2] 44))
  have hz : B ≤ (w.alloc (.cells #[.int .i64 k, .int .i64 ch, .slice A2 b.length c2] 44)).heap.size := by simp; omega
  have hq : (w.alloc (.cells #[.int .i64 k, .int .i64 ch, .slice A2 b.length c2] 44)).heap.size = w.heap.size + 1 := by simp
  have HB0 : Hid (Below w.heap.size w (w.alloc (.cells #[.int .i64 k, .int .i64 ch, .slice A2 b.length c2] 44))) := Lib.hid ((Below.refl _ _).alloc (Nat.le_refl _) _)
  have W0 : Hid (Whole (w.alloc (.cells #[.int .i64 k, .int .i64 ch, .slice A2 b.length c2] 44)) w.heap.size 44 #[.int .i64 k, .int .i64 ch, .slice A2 b.length c2]) := Lib.hid (Whole.new _ _ _)
  have HZ := Lib.hid hz
  have HQ := Lib.hid hq
  obtain ⟨Z, hZ⟩ : ∃ Z, Z = frameB k ch b := ⟨_, rfl⟩
  rw [← hZ]
  have HZB := Lib.hid hZ
  clear hl hb hz hq h hk hZ
  go_enter Try.func29, Try.ntmps29
  go_wp2_with fail
  refine (clone_any A c l B _ HL.out HZ.out (by omega)).mono ?_
  rintro e w1 ⟨v1, rfl, hown, hb1⟩
  have W1 := Lib.hid (W0.out.below hb1 (by rw [HQ.out]; omega))
  have B1 := Lib.hid (HB0.out.trans (hb1.mono (by rw [HQ.out]; omega)))
  have O1 := Lib.hid (own_at_base (b' := w.heap.size) hown (by rw [HQ.out]; omega))
  have L1 := Lib.hid (HLB.out.below (hb1.mono HZ.out))
  clear hown hb1
  have k0 : w1.cell? ⟨w.heap.size, 0, none⟩ = some (.int .i64 k) := W1.out.cell 0
  have k1 : w1.cell? ⟨w.heap.size, 1, none⟩ = some (.int .i64 ch) := W1.out.cell 1
  have k2 : w1.cell? ⟨w.heap.size, 2, none⟩ = some (.slice A2 b.length c2) := W1.out.cell 2
  go_wp2_with fail
  refine (isKind_any _ _).mono ?_
  rintro e w6 ⟨rfl, hw6⟩
  subst hw6
  rw [HK.out]
  have z1 := B1.out.size
  go_wp2_with fail
  refine (int_any none 0 [] 0 1 k _ (Lies.empty _ _ _) (Nat.zero_le _) (by simp)).mono ?_
  rintro e w2 ⟨v2, rfl, ho, hb⟩
  rw [show wid 1 = 1 from rfl, List.nil_append] at ho
  obtain ⟨X1, hX1⟩ : ∃ X1, X1 = be 1 k := ⟨_, rfl⟩
  rw [← hX1] at ho
  have x1l : X1.length = 1 := by rw [hX1, be_length]
  obtain ⟨A3, c3, rfl, _, _⟩ := own_form ho
  have M2 := Lib.hid (Lies.own ho (Nat.le_refl _))
  have W2 := Lib.hid (W1.out.below hb W1.out.lt)
  have B2 := Lib.hid (B1.out.trans (hb.mono z1))
  have O2 := Lib.hid (O1.out.kept (only_below hb none) (by cases hv : v1.ownBlock <;> simp))
  have L2 := Lib.hid (L1.out.below (hb.mono (by omega)))
  have HX1 := Lib.hid hX1
  have X1L := Lib.hid x1l
  have z2 := B2.out.size
  clear ho hb hX1 x1l k0 k1 k2
  have k1 : w2.cell? ⟨w.heap.size, 1, none⟩ = some (.int .i64 ch) := W2.out.cell 1
  go_wp2_with fail
  refine (int_any A3 c3 X1 _ 2 ch _ M2.out (Nat.le_refl _) (by have := X1L.out; omega)).mono ?_
  rintro e w3 ⟨v3, rfl, ho, hb⟩
  rw [show wid 2 = 2 from rfl] at ho
  obtain ⟨X2, hX2⟩ : ∃ X2, X2 = X1 ++ be 2 ch := ⟨_, rfl⟩
  rw [← hX2] at ho
  have x2l : X2.length = 3 := by rw [hX2, List.length_append, be_length, X1L.out]
  obtain ⟨A4, c4, rfl, _, _⟩ := own_form ho
  have M3 := Lib.hid (Lies.own ho (Nat.le_refl _))
  have W3 := Lib.hid (W2.out.below hb W2.out.lt)
  have B3 := Lib.hid (B2.out.trans (hb.mono z2))
  have O3 := Lib.hid (O2.out.kept (only_below hb none) (by cases hv : v1.ownBlock <;> simp))
  have L3 := Lib.hid (L2.out.below (hb.mono (by omega)))
  have HX2 := Lib.hid hX2
  have X2L := Lib.hid x2l
  have z3 := B3.out.size
  clear ho hb hX2 x2l k1
  have k2 : w3.cell? ⟨w.heap.size, 2, none⟩ = some (.slice A2 b.length c2) := W3.out.cell 2
  go_wp2_with fail
  refine (long_any A4 c4 X2 w3.heap.size A2 c2 b _ M3.out (L3.out.more (by omega)) (Nat.le_refl _) (by have := X2L.out; omega)).mono ?_
  rintro e w4 ⟨v4, rfl, ho, hb⟩
  obtain ⟨X3, hX3⟩ : ∃ X3, X3 = X2 ++ be 4 b.length ++ b := ⟨_, rfl⟩
  rw [← hX3] at ho
  have x3l : X3.length = b.length + 7 := by rw [hX3, List.length_append, List.length_append, be_length, X2L.out]; omega
  obtain ⟨A5, c5, rfl, _, _⟩ := own_form ho
  have M4 := Lib.hid (Lies.own ho (Nat.le_refl _))
  have B4 := Lib.hid (B3.out.trans (hb.mono z3))
  have O4 := Lib.hid (O3.out.kept (only_below hb none) (by cases hv : v1.ownBlock <;> simp))
  have HX3 := Lib.hid hX3
  have X3L := Lib.hid x3l
  have z4 := B4.out.size
  clear ho hb hX3 x3l k2
  go_wp2_with fail
  refine (int_any A5 c5 X3 w4.heap.size 1 206 _ M4.out (Nat.le_refl _) (by have := X3L.out; omega)).mono ?_
  rintro e w5 ⟨v5, rfl, ho, hb⟩
  rw [show wid 1 = 1 from rfl] at ho
  obtain ⟨X4, hX4⟩ : ∃ X4, X4 = X3 ++ be 1 206 := ⟨_, rfl⟩
  rw [← hX4] at ho
  have x4l : X4.length = b.length + 8 := by rw [hX4, List.length_append, be_length, X3L.out]
  obtain ⟨A6, c6, rfl, _, _⟩ := own_form ho
  have M5 := Lib.hid (Lies.own ho (Nat.le_refl _))
  have B5 := Lib.hid (B4.out.trans (hb.mono z4))
  have O5 := Lib.hid (O4.out.kept (only_below hb none) (by cases hv : v1.ownBlock <;> simp))
  have HZ4 : Hid (X4 = Z) := Lib.hid (by
    rw [hX4, HX3.out, HX2.out, HX1.out, HZB.out]
    unfold frameB
    rw [show be 1 206 = [206] from by decide])
  have X4L := Lib.hid x4l
  have z5 := B5.out.size
  obtain ⟨i0, hi, hz0, hz1, hz2⟩ := info_parts u8_info
  have HI := Lib.hid hi
  have H0 := Lib.hid hz0
  have H1 := Lib.hid hz1
  have H2 := Lib.hid hz2
  have hs' : l.length + X4.length ≤ 140737488355328 := by omega
  have HS := Lib.hid hs'
  clear ho hb hX4 x4l hi hz0 hz1 hz2 hs'
  go_wp2_with (at_builtin; refine wpList_append_cells rfl _ _ 26 rfl w.heap.size 5 i0 (.int .u8 0) 1 1 Try.underlying26 HI.out H0.out H1.out H2.out rfl (by omega) _ _ _ rfl O5.out _ A6 X4.length c6 (B8 X4) rfl M5.out (B8_len1 X4) (B8_one X4) (room63 HS.out) (room1 HS.out) z5 ?_; intro v' w6 hown6 hb6; rw [← B8_append] at hown6; have HO6 := Lib.hid hown6; have HB6 := Lib.hid (B5.out.trans hb6); clear hown6 hb6)
  go_ret2
  refine ⟨_, rfl, ?_, HB6.out⟩
  rw [← HZ4.out, List.length_append]
  exact HO6.out

theorem fappend_any (A : Option Addr) (c : Nat) (l : List UInt8) (B : Nat) (k ch : Int) (A2 : Option Addr) (b : List UInt8) (c2 : Nat) (w : World) (hl : Lies w B A (B8 l)) (hB : B ≤ w.heap.size) (hs : l.length ≤ 70368744177664) (hb : Lies w B A2 (B8 b)) (hm : b.length ≤ maxLen) :
    Calls Try.prog 29 #[.slice A l.length c, .agg #[.int .i64 k, .int .i64 ch, .slice A2 b.length c2]] w (NewOctsOk w.heap.size (fappB l k ch b) (frameOk k ch b.length) w) := by
  unfold fappB
  cases h : frameOk k ch b.length with
  | false => exact fappend_not A c l B k ch A2 b.length c2 w hl hB (by omega) hm h
  | true =>
    have h' := h
    unfold frameOk fkind at h'
    simp only [Bool.and_eq_true, decide_eq_true_eq] at h'
    obtain ⟨kn, rfl⟩ := Int.eq_ofNat_of_zero_le (show 0 ≤ k by omega)
    obtain ⟨cn, rfl⟩ := Int.eq_ofNat_of_zero_le h'.2.1
    exact fappend_yes A c l B kn cn A2 b c2 w hl hB hs hb h
theorem fappend_at (A : Option Addr) (c n : Nat) (l : List UInt8) (B : Nat) (k ch : Int) (A2 : Option Addr) (m : Nat) (b : List UInt8) (c2 : Nat) (w : World) (r : Bool) (Z : List UInt8) (hn : n = l.length) (hl : Lies w B A (B8 l)) (hB : B ≤ w.heap.size) (hs : l.length ≤ 70368744177664) (hm : m = b.length) (hb : Lies w B A2 (B8 b)) (hx : b.length ≤ maxLen) (hr : frameOk k ch b.length = r) (hZ : fappB l k ch b = Z) :
    Calls Try.prog 29 #[.slice A n c, .agg #[.int .i64 k, .int .i64 ch, .slice A2 m c2]] w (NewOctsOk w.heap.size Z r w) := by
  subst hn hm hr hZ
  exact fappend_any A c l B k ch A2 b c2 w hl hB hs hb hx
end Go.Proofs.Ytfajkbegmmlmjaa
