/- The fixed call that every statement of layer 4 asks. -/
import Derived.Test.YtlfppfknelddcaaDoorMethV
import Derived.Test.YtlfppfknelddcaaDoorMethQ
namespace Go.Proofs.YtlfppfknelddcaaDoor
open Go.RowKit
set_option maxRecDepth 100000
set_option linter.unusedSimpArgs false
set_option linter.unusedVariables false

def nackP (n : Nat) : Parts := ⟨[n], [], [true, true], []⟩
theorem nack_fine (n : Nat) (h : n < 18446744073709551616) : Fine (nackP n) := by
  refine ⟨fun x hx => ?_, fun x hx => ?_⟩
  · cases hx
  · have : x = n := by simpa [nackP] using hx
    omega
theorem nack_form : formB 60 120 = some [56, 102, 102] := by rfl
theorem nack_okP : okP [56, 102, 102] (nackP 5) = true := by rfl
theorem nack_ok : okM 60 120 (nackP 5) = true := by unfold okM; rw [nack_form]; exact nack_okP
theorem nack_oct : appM [] 60 120 (nackP 5) = [0, 60, 0, 120, 0, 0, 0, 0, 0, 0, 0, 5, 3] := by
  unfold appM
  rw [nack_ok, if_pos rfl]
  unfold octM
  rw [nack_form]
  rfl
theorem nack_back : parseM [0, 60, 0, 120, 0, 0, 0, 0, 0, 0, 0, 5, 3] = .ok 60 120 (nackP 5) := by rfl
theorem none_back : parseM [0, 60, 0, 99] = .no := by rfl
theorem short_back : parseM [0, 60, 0] = .syn := by rfl
theorem closeok_form : formV 20 41 = .tuple #[.string ⟨#[]⟩, .bool true] := by rfl
theorem TbAt.nil (w : World) (B : Nat) : TbAt w B (.slice none 0 0) [] := ⟨none, 0, 0, rfl, TabS.nil _ _ _ _ _ (Nat.zero_le _)⟩
theorem SlAt.nil (w : World) (B : Nat) : SlAt w B (.slice none 0 0) 0 [] := ⟨none, 0, rfl, Nat.le_refl _, Nat.zero_le _, Lies.empty _ _ _⟩
theorem slat_lit (w : World) (B b : Nat) (cs : List Value) (h : Lies w B (some ⟨b, 0, none⟩) cs) (n : Nat) (hm : n ≤ maxLen) : SlAt w B (.slice (some ⟨b, 0, none⟩) n n) n cs := ⟨_, _, rfl, Nat.le_refl _, hm, h⟩

theorem nack_at (w : World) : PartsAt ((w.alloc (.cells #[.int .u64 5] 27)).alloc (.cells #[.bool true, .bool true] 4)) (w.heap.size + 2) (nackP 5) (.slice (some ⟨w.heap.size, 0, none⟩) 1 1) (.slice none 0 0) (.slice (some ⟨w.heap.size + 1, 0, none⟩) 2 2) (.slice none 0 0) := by
  have h1 := (Lies.lit w 27 [.int .u64 5]).alloc (by simp) (.cells #[.bool true, .bool true] 4)
  have h2 := Lies.lit (w.alloc (.cells #[.int .u64 5] 27)) 4 [.bool true, .bool true]
  rw [show (w.alloc (.cells #[.int .u64 5] 27)).heap.size = w.heap.size + 1 from by simp] at h2
  exact ⟨slat_lit _ _ _ _ (h1.more (by omega)) 1 (by decide), SlAt.nil _ _, slat_lit _ _ _ _ h2 2 (by decide), TbAt.nil _ _⟩
set_option maxHeartbeats 2000000 in
theorem awake4_any (w : World) : Calls Tryd.prog 9 #[] w fun e w' => e = .returned (.bool true) ∧ Below w.heap.size w w' := by
  -- the method that is told
  obtain ⟨w0, hw0⟩ : ∃ w0, w0 = (w.alloc (.cells #[.int .u64 5] 27)).alloc (.cells #[.bool true, .bool true] 4) := ⟨_, rfl⟩
  have hb0 : Below w.heap.size w w0 := by rw [hw0]; exact ((Below.refl _ _).alloc (Nat.le_refl _) _).alloc (by simp) _
  have hz0 : w0.heap.size = w.heap.size + 2 := by rw [hw0]; simp
  have hp0 : PartsAt w0 (w.heap.size + 2) (nackP 5) (.slice (some ⟨w.heap.size, 0, none⟩) 1 1) (.slice none 0 0) (.slice (some ⟨w.heap.size + 1, 0, none⟩) 2 2) (.slice none 0 0) := by
    rw [hw0]
    exact nack_at w
  have HB0 := Lib.hid hb0
  have HZ0 := Lib.hid hz0
  have HP0 := Lib.hid hp0
  have HW0 := Lib.hid hw0
  obtain ⟨Z, hZ⟩ : ∃ Z, Z = appM [] 60 120 (nackP 5) := ⟨_, rfl⟩
  have hZ2 := hZ.trans nack_oct
  have hZl : Z.length = 13 := by rw [hZ2]; rfl
  have hZ12 : (B8 Z)[12]? = some (.int .u8 3) := by rw [hZ2]; rfl
  have HZ := Lib.hid hZ
  have HZL := Lib.hid hZl
  have HZ12 := Lib.hid hZ12
  have HZP : Hid (parseM Z = .ok 60 120 (nackP 5)) := Lib.hid (by rw [hZ2]; exact nack_back)
  have HOK := Lib.hid nack_ok
  have HFV := Lib.hid closeok_form
  clear hb0 hz0 hp0 hw0 hZ hZ2 hZl hZ12
  go_enter Tryd.func9, Tryd.ntmps9
  go_wp2_with fail
  rw [← HW0.out]
  refine (mappend_any none 0 [] (w.heap.size + 2) 60 120 (nackP 5) _ _ _ _ w0 (Lies.empty _ _ _) (by rw [HZ0.out]; exact Nat.le_refl _) HP0.out (nack_fine 5 (by omega)) (by decide) (by decide) (by simp)).mono ?_
  rw [← HZ.out, HOK.out]
  rintro e w1 ⟨v1, rfl, ho1, hb1⟩
  rw [HZL.out] at ho1
  obtain ⟨A1, c1, rfl, hc1, _⟩ := own_form ho1
  have HL1 := Lib.hid (Lies.own ho1 (Nat.le_refl _))
  have HB1 := Lib.hid (HB0.out.trans (hb1.mono (by have := HZ0.out; omega)))
  have hz1 := HB1.out.size
  clear ho1 hb1
  go_wp2_with fail
  rw [show (13 : Nat) = Z.length from HZL.out.symm]
  refine (mparse_any A1 c1 Z w1.heap.size w1 HL1.out (Nat.le_refl _) (by have := HZL.out; omega)).mono ?_
  rw [HZL.out, HZP.out]
  rintro e w2 ⟨hb2, vN, vS, vF, vT, rfl, hp2⟩
  obtain ⟨AN, cN_, rfl, _, _, _⟩ := hp2.n
  obtain ⟨AS, cS_, rfl, _, _, _⟩ := hp2.s
  obtain ⟨AF, cF_, rfl, _, _, _⟩ := hp2.f
  obtain ⟨AT, cT_, dT, rfl, _⟩ := hp2.t
  have HP2 := Lib.hid hp2
  have HB2 := Lib.hid (HB1.out.trans (hb2.mono hz1))
  have HL2 := Lib.hid (HL1.out.below hb2)
  have hz2 := hb2.size
  obtain ⟨cs, hcs⟩ : ∃ cs : Array Value, cs = #[.int .i64 60, .int .i64 120, .slice AN (nackP 5).n.length cN_, .slice AS (nackP 5).s.length cS_, .slice AF (nackP 5).f.length cF_, .slice AT (nackP 5).t.length cT_] := ⟨_, rfl⟩
  obtain ⟨w3, hw3⟩ : ∃ w3, w3 = (w2.alloc (.cells #[.int .i64 60, .int .i64 120, .slice AN (nackP 5).n.length cN_, .slice AS (nackP 5).s.length cS_, .slice AF (nackP 5).f.length cF_, .slice AT (nackP 5).t.length cT_] 32)).alloc (.cells #[.int .u8 0, .int .u8 60, .int .u8 0, .int .u8 99] 5) := ⟨_, rfl⟩
  have hb3 : Below w2.heap.size w2 w3 := by rw [hw3]; exact ((Below.refl _ _).alloc (Nat.le_refl _) _).alloc (by simp) _
  have hz3 : w3.heap.size = w2.heap.size + 2 := by rw [hw3]; simp
  have hm3 : Whole w3 w2.heap.size 32 #[.int .i64 60, .int .i64 120, .slice AN (nackP 5).n.length cN_, .slice AS (nackP 5).s.length cS_, .slice AF (nackP 5).f.length cF_, .slice AT (nackP 5).t.length cT_] := by rw [hw3]; exact (Whole.new _ _ _).alloc _
  have hl3 : Lies w3 w3.heap.size (some ⟨w2.heap.size + 1, 0, none⟩) (B8 [0, 60, 0, 99]) := by
    have h := Lies.lit (w2.alloc (.cells #[.int .i64 60, .int .i64 120, .slice AN (nackP 5).n.length cN_, .slice AS (nackP 5).s.length cS_, .slice AF (nackP 5).f.length cF_, .slice AT (nackP 5).t.length cT_] 32)) 5 [.int .u8 0, .int .u8 60, .int .u8 0, .int .u8 99]
    rw [show (w2.alloc (.cells #[.int .i64 60, .int .i64 120, .slice AN (nackP 5).n.length cN_, .slice AS (nackP 5).s.length cS_, .slice AF (nackP 5).f.length cF_, .slice AT (nackP 5).t.length cT_] 32)).heap.size = w2.heap.size + 1 from by simp, ← hw3] at h
    exact h.more (by omega)
  have HB3 := Lib.hid (HB2.out.trans (hb3.mono (Nat.le_trans hz1 hz2)))
  have HM3 := Lib.hid hm3
  have HL3 := Lib.hid hl3
  have HZ3 := Lib.hid hz3
  have HW3 := Lib.hid hw3
  have HP3 := Lib.hid ((HP2.out.below hb3))
  have HLZ3 := Lib.hid (HL2.out.below (hb3.mono hz2))
  clear hp2 hb2 hcs hw3 hb3 hz3 hm3 hl3
  go_wp2_with fail
  rw [← HW3.out]
  refine (mparse_any (some ⟨w2.heap.size + 1, 0, none⟩) 4 [0, 60, 0, 99] w3.heap.size w3 HL3.out (Nat.le_refl _) (by simp)).mono ?_
  rw [none_back]
  rintro e w4 ⟨hb4, rfl⟩
  have hz4 := hb4.size
  obtain ⟨w5, hw5⟩ : ∃ w5, w5 = (w4.alloc (.cells #[.int .i64 0, .int .i64 0, .slice none 0 0, .slice none 0 0, .slice none 0 0, .slice none 0 0] 32)).alloc (.cells #[.int .u8 0, .int .u8 60, .int .u8 0] 5) := ⟨_, rfl⟩
  have hb5 : Below w4.heap.size w4 w5 := by rw [hw5]; exact ((Below.refl _ _).alloc (Nat.le_refl _) _).alloc (by simp) _
  have hz5 : w5.heap.size = w4.heap.size + 2 := by rw [hw5]; simp
  have hl5 : Lies w5 w5.heap.size (some ⟨w4.heap.size + 1, 0, none⟩) (B8 [0, 60, 0]) := by
    have h := Lies.lit (w4.alloc (.cells #[.int .i64 0, .int .i64 0, .slice none 0 0, .slice none 0 0, .slice none 0 0, .slice none 0 0] 32)) 5 [.int .u8 0, .int .u8 60, .int .u8 0]
    rw [show (w4.alloc (.cells #[.int .i64 0, .int .i64 0, .slice none 0 0, .slice none 0 0, .slice none 0 0, .slice none 0 0] 32)).heap.size = w4.heap.size + 1 from by simp, ← hw5] at h
    exact h.more (by omega)
  have b35 : Below w3.heap.size w3 w5 := hb4.trans (hb5.mono hz4)
  have HB5 := Lib.hid (HB3.out.trans (b35.mono (by have := HZ3.out; omega)))
  have HM5 := Lib.hid (HM3.out.below b35 HM3.out.lt)
  have HP5 := Lib.hid (HP3.out.below (b35.mono (by have := HZ3.out; omega)))
  have HLZ5 := Lib.hid (HLZ3.out.below (b35.mono (by have := HZ3.out; omega)))
  have HL5 := Lib.hid hl5
  have HW5 := Lib.hid hw5
  have HZ5 : Hid (w3.heap.size ≤ w5.heap.size) := Lib.hid (by omega)
  clear hb4 hw5 hb5 hl5 b35
  unfold zeroM
  go_wp2_with fail
  rw [← HW5.out]
  refine (mparse_any (some ⟨w4.heap.size + 1, 0, none⟩) 3 [0, 60, 0] w5.heap.size w5 HL5.out (Nat.le_refl _) (by simp)).mono ?_
  rw [short_back]
  rintro e w6 ⟨hb6, rfl⟩
  have hz6 := hb6.size
  have HB6 := Lib.hid (HB5.out.trans (hb6.mono (by have := HZ3.out; have := HZ5.out; omega)))
  have HM6 := Lib.hid (HM5.out.below hb6 HM5.out.lt)
  have HP6 := Lib.hid (HP5.out.below (hb6.mono (by have := HZ3.out; have := HZ5.out; omega)))
  have HLZ6 := Lib.hid (HLZ5.out.below (hb6.mono (by have := HZ3.out; have := HZ5.out; omega)))
  obtain ⟨w7, hw7⟩ : ∃ w7, w7 = w6.alloc (.cells #[.int .i64 0, .int .i64 0, .slice none 0 0, .slice none 0 0, .slice none 0 0, .slice none 0 0] 32) := ⟨_, rfl⟩
  have hb7 : Below w6.heap.size w6 w7 := by rw [hw7]; exact (Below.refl _ _).alloc (Nat.le_refl _) _
  have hz7 := hb7.size
  have HB7 := Lib.hid (HB6.out.trans (hb7.mono (by have := HZ3.out; have := HZ5.out; omega)))
  have HM7 := Lib.hid (HM6.out.below hb7 HM6.out.lt)
  have HP7 := Lib.hid (HP6.out.below (hb7.mono (by have := HZ3.out; have := HZ5.out; omega)))
  have HLZ7 := Lib.hid (HLZ6.out.below (hb7.mono (by have := HZ3.out; have := HZ5.out; omega)))
  have HW7 := Lib.hid hw7
  clear hb6 hw7 hb7
  unfold zeroM
  go_wp2_with fail
  rw [← HW7.out]
  refine (form_any 20 41 w7 (by decide) (by decide)).mono ?_
  rw [HFV.out]
  rintro e w8 ⟨rfl, hb8⟩
  have hz8 := hb8.size
  have HB8 := Lib.hid (HB7.out.trans (hb8.mono (by have := HZ3.out; have := HZ5.out; omega)))
  have hm8 := HM7.out.below hb8 HM7.out.lt
  have HP8 := Lib.hid (HP7.out.below (hb8.mono (by have := HZ3.out; have := HZ5.out; omega)))
  have hlz8 := HLZ7.out.below (hb8.mono (by have := HZ3.out; have := HZ5.out; omega))
  have m0 : w8.cell? ⟨w2.heap.size, 0, none⟩ = some (.int .i64 60) := hm8.cell 0
  have m1 : w8.cell? ⟨w2.heap.size, 1, none⟩ = some (.int .i64 120) := hm8.cell 1
  have m2 : w8.cell? ⟨w2.heap.size, 2, none⟩ = some (.slice AN (nackP 5).n.length cN_) := hm8.cell 2
  have m3 : w8.cell? ⟨w2.heap.size, 3, none⟩ = some (.slice AS (nackP 5).s.length cS_) := hm8.cell 3
  have m4 : w8.cell? ⟨w2.heap.size, 4, none⟩ = some (.slice AF (nackP 5).f.length cF_) := hm8.cell 4
  have m5 : w8.cell? ⟨w2.heap.size, 5, none⟩ = some (.slice AT (nackP 5).t.length cT_) := hm8.cell 5
  obtain ⟨bz, oz, rfl, _, hzc⟩ := hlz8.resolve_left (by intro h; have := HZ12.out; rw [h] at this; simp at this)
  have p12 : w8.cell? ⟨bz, oz + 12, none⟩ = some (.int .u8 3) := hzc 12 _ HZ12.out
  clear hb8 hm8 hlz8 hzc
  have hs9 : ((w8.alloc (.cells #[.int .u64 5] 27)).alloc (.cells #[.bool true, .bool true] 4)).heap.size = w8.heap.size + 2 := by simp
  have hb9 : Below w8.heap.size w8 ((w8.alloc (.cells #[.int .u64 5] 27)).alloc (.cells #[.bool true, .bool true] 4)) := ((Below.refl _ _).alloc (Nat.le_refl _) _).alloc (by simp) _
  have HS9 := Lib.hid hs9
  have HB9 := Lib.hid hb9
  have HN9 := Lib.hid (nack_at w8)
  have HZ8 : Hid (w2.heap.size ≤ w8.heap.size) := Lib.hid (by have := HZ3.out; have := HZ5.out; omega)
  clear hs9 hb9
  go_wp2_with fail
  refine (same_meth 60 120 (nackP 5) _ _ _ _ _ _ _ _ w2.heap.size (w8.heap.size + 2) _ (HP8.out.below (HB9.out.mono HZ8.out)) HN9.out (by rw [HS9.out]; have := HZ8.out; omega) (by rw [HS9.out]; exact Nat.le_refl _)).mono ?_
  rintro e w10 ⟨rfl, hb10⟩
  rw [HS9.out] at hb10
  have BF := Lib.hid (HB8.out.trans ((HB9.out.trans (hb10.mono (by omega))).mono HB8.out.size))
  clear hb10
  go_wp2_with fail
  go_ret
  exact ⟨rfl, BF.out⟩
end Go.Proofs.YtlfppfknelddcaaDoor
