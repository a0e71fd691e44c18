/- Layer 16: two rows of texts held against each other; the closed call of layer 16. -/
import Derived.Test.YtocombacjpjdbaaDoorRoN
namespace Go.Proofs.YtocombacjpjdbaaDoor
open Go.RowKit Go.Maps Go.Sort Go.Shelf
set_option maxRecDepth 100000
set_option linter.unusedSimpArgs false
set_option linter.unusedVariables false
theorem rsC_S8 (l : List (List UInt8)) : rsC l = S8 l := rfl
/-- the same row twice -/
theorem texts_same16 (A1 A2 : Option Addr) (c1 c2 : Nat) (l : List (List UInt8)) (D1 D2 : Nat) (w : World) (h1 : Lies w D1 A1 (S8 l)) (h2 : Lies w D2 A2 (S8 l)) (hl : l.length ≤ 1000001) :
    Calls Tryd.prog 18 #[.slice A1 l.length c1, .slice A2 l.length c2] w fun e w' => e = .returned (.bool true) ∧ Below w.heap.size w w' := by
  have L1 := Lib.hid h1
  have L2 := Lib.hid h2
  clear h1 h2
  go_enter Tryd.func18, Tryd.ntmps18
  go_wp2_with fail
  go_loopw [5] (fun vi wr => ∃ j : Nat, j ≤ l.length ∧ vi = .int .i64 j ∧ ∃ n, wr = w.drewN n) (fun vi _ => l.length - (intOf vi).toNat)
  case atStart => exact ⟨0, Nat.zero_le _, rfl, 0, rfl⟩
  case round =>
    obtain ⟨j, hj, rfl, n, hwr⟩ := hrel
    have BE : Hid (Below w.heap.size w wr) := Lib.hid (by rw [hwr]; exact below_drewN (Below.refl _ _) n)
    by_cases hlt : j < l.length
    · obtain ⟨b1, o1, rfl, hb1⟩ := L1.out.texts_some (by omega)
      obtain ⟨b2, o2, rfl, hb2⟩ := L2.out.texts_some (by omega)
      have p1 : wr.cell? ⟨b1, o1 + j, none⟩ = some (.string ⟨l[j].toArray⟩) := by rw [hwr]; exact L1.out.texts_at hlt
      have p2 : wr.cell? ⟨b2, o2 + j, none⟩ = some (.string ⟨l[j].toArray⟩) := by rw [hwr]; exact L2.out.texts_at hlt
      obtain ⟨x, hx⟩ : ∃ x, x = l[j] := ⟨_, rfl⟩
      rw [← hx] at p1 p2
      have q1 : (j : Int) < (l.length : Int) := by omega
      have q0 : (0 : Int) ≤ (j : Int) := by omega
      have HWR := Lib.hid hwr
      have DN : Hid (∀ k, ∃ n', wr.drewN k = w.drewN n') := Lib.hid (fun k => ⟨n + k, by rw [hwr]; simp [World.drewN, Nat.add_assoc]⟩)
      clear hx hwr
      go_wp2_with fail
      go_quiet (fail)
      go_wp2_with fail
      go_roundw
      case rel => exact ⟨j + 1, by omega, by go_num, DN.out _⟩
      case measure => simp [intOf]; omega
    · have q1 : ¬ (j : Int) < (l.length : Int) := by omega
      clear hwr
      go_wp2_with fail
      go_ret
      exact ⟨rfl, BE.out⟩
def bA : Bnd := ⟨nTopic, [113], [97, 46, 35]⟩
theorem bA_ok : bdOk bA := by unfold bdOk; decide
def rtT : Rt := ⟨rt0.X, [bA]⟩
theorem bind_a : rt0.binds bA = true ∧ rt0.bind bA = rtT := ⟨by decide, by rw [Rt.bind, if_pos (by decide)]; rfl⟩
theorem bind_b : rtT.binds bA = false ∧ rtT.bind bA = rtT := ⟨by decide, by rw [Rt.bind, if_neg (by decide)]⟩
theorem get_a : fndX rtT.X nFanout = some xc2 := by decide
theorem route_a : rtT.route [] [107] = [[107]] := by decide
theorem route_b : rtT.route nTopic [97, 46, 98] = [[113]] := by decide
set_option maxHeartbeats 4000000 in
theorem awake16_any (W : World) : Calls Tryd.prog 7 #[] W fun e w' => e = .returned (.bool true) ∧ Below W.heap.size W w' := by
  go_enter Tryd.func7, Tryd.ntmps7
  go_wp2_with fail
  refine (r_new _).mono ?_
  rintro e w1 ⟨g, bx, bb, rfl, hr1, hb1, hg1, hx1, hbb1⟩
  have R1 := Lib.hid hr1
  have B1 := Lib.hid hb1
  have GB := Lib.hid (And.intro hg1 (And.intro hx1 hbb1))
  clear hr1 hb1 hg1 hx1 hbb1
  go_wp2_with fail
  refine (r_bind R1.out (b := bA) bA_ok (by decide)).mono ?_
  rintro e w2 ⟨rfl, hr2, hg2⟩
  rw [bind_a.1]
  rw [bind_a.2] at hr2
  have R2 := Lib.hid hr2
  have B2 := Lib.hid (B1.out.grown hg2 B1.out.size (fun k hk => by cases hk; exact GB.out.2.2))
  clear hr2 hg2
  go_wp2_with fail
  refine (r_bind R2.out (b := bA) bA_ok (by decide)).mono ?_
  rintro e w3 ⟨rfl, hr3, hg3⟩
  rw [bind_b.1]
  rw [bind_b.2] at hr3
  have R3 := Lib.hid hr3
  have B3 := Lib.hid (B2.out.grown hg3 B2.out.size (fun k hk => by cases hk; exact GB.out.2.2))
  clear hr3 hg3
  go_wp2_with fail
  have hget := r_get R3.out (n := nFanout) (by decide)
  rw [get_a] at hget
  refine hget.mono ?_
  rintro e w4 ⟨rfl, hb4⟩
  have R4 := Lib.hid (R3.out.below hb4)
  have B4 := Lib.hid (B3.out.trans (hb4.mono B3.out.size))
  clear hb4 hget
  simp only [Option.map_some, Option.getD_some, Option.isSome_some, xcV, xc2]
  go_upto_region 6 with fail
  obtain ⟨hB, hhB⟩ : ∃ hB, hB = w4.heap.size := ⟨_, rfl⟩
  rw [← hhB]
  refine wp_renR (fun W' => RoAt W' g bx bb rtT ∧ Below W.heap.size W W' ∧ W'.cell? ⟨hB, 1, none⟩ = some (.int .i64 2) ∧ W'.cell? ⟨hB, 2, none⟩ = some (.bool true)) ⟨?_, ?_, ?_, ?_⟩ ?_
  · exact R4.out.below ((Below.refl _ _).alloc (Nat.le_refl _) _)
  · exact B4.out.alloc B4.out.size _
  · rw [hhB]; exact (Whole.cell (Whole.new w4 _ _) 1).trans rfl
  · rw [hhB]; exact (Whole.cell (Whole.new w4 _ _) 2).trans rfl
  rintro w5 ⟨hr5, hb5, y1, y2⟩
  have R5 := Lib.hid hr5
  have B5 := Lib.hid hb5
  clear hr5 hb5 hhB
  have ht1 := r_route R5.out (n := []) (key := [107]) (by decide) (by decide)
  rw [route_a] at ht1
  have HT1 := Lib.hid ht1
  clear ht1
  go_wp2_with fail
  refine HT1.out.mono ?_
  rintro e w6 ⟨v6, rfl, ho6, hb6⟩
  obtain ⟨A6, c6, rfl, _, _⟩ := own_form ho6
  have R6 := Lib.hid (R5.out.below hb6)
  have B6 := Lib.hid (B5.out.trans (hb6.mono B5.out.size))
  have L6 := Lib.hid (Lies.own ho6 (Nat.le_refl _))
  clear ho6 hb6 HT1 y1 y2
  have HS1 := Lib.hid (texts_same16 A6 (some ⟨w6.heap.size, 0, none⟩) c6 1 [[107]] w6.heap.size (w6.heap.size + 1) (w6.alloc (.cells #[.string ⟨#[107]⟩] 9)) (L6.out.alloc (Nat.le_refl _) _) (Lies.lit w6 9 [.string ⟨#[107]⟩]) (by decide))
  go_wp2_with fail
  refine HS1.out.mono ?_
  rintro e w7 ⟨rfl, hb7⟩
  have hb7' : Below w6.heap.size w6 w7 := ((Below.refl _ _).alloc (Nat.le_refl _) _).trans (hb7.mono (by simp))
  have R7 := Lib.hid (R6.out.below hb7')
  have B7 := Lib.hid (B6.out.trans (hb7'.mono B6.out.size))
  clear hb7 hb7' HS1 L6
  have ht2 := r_route R7.out (n := nTopic) (key := [97, 46, 98]) (by decide) (by decide)
  rw [route_b] at ht2
  have HT2 := Lib.hid ht2
  clear ht2
  go_wp2_with fail
  refine HT2.out.mono ?_
  rintro e w8 ⟨v8, rfl, ho8, hb8⟩
  obtain ⟨A8, c8, rfl, _, _⟩ := own_form ho8
  have R8 := Lib.hid (R7.out.below hb8)
  have B8' := Lib.hid (B7.out.trans (hb8.mono B7.out.size))
  have L8 := Lib.hid (Lies.own ho8 (Nat.le_refl _))
  clear ho8 hb8 HT2
  have HS2 := Lib.hid (texts_same16 A8 (some ⟨w8.heap.size, 0, none⟩) c8 1 [[113]] w8.heap.size (w8.heap.size + 1) (w8.alloc (.cells #[.string ⟨#[113]⟩] 9)) (L8.out.alloc (Nat.le_refl _) _) (Lies.lit w8 9 [.string ⟨#[113]⟩]) (by decide))
  go_wp2_with fail
  refine HS2.out.mono ?_
  rintro e w9 ⟨rfl, hb9⟩
  have hb9' : Below w8.heap.size w8 w9 := ((Below.refl _ _).alloc (Nat.le_refl _) _).trans (hb9.mono (by simp))
  have R9 := Lib.hid (R8.out.below hb9')
  have B9 := Lib.hid (B8'.out.trans (hb9'.mono B8'.out.size))
  clear hb9 hb9' HS2 L8
  have HN := Lib.hid (r_names R9.out)
  go_wp2_with fail
  refine HN.out.mono ?_
  rintro e w10 ⟨v10, rfl, ho10, hb10⟩
  obtain ⟨A10, c10, rfl, _, _⟩ := own_form ho10
  have B10 := Lib.hid (B9.out.trans (hb10.mono B9.out.size))
  have hlen : rtT.X.length = 4 := by decide
  rw [hlen]
  clear ho10 hb10 HN
  go_wp2_with fail
  go_ret
  exact ⟨rfl, B10.out⟩
end Go.Proofs.YtocombacjpjdbaaDoor
