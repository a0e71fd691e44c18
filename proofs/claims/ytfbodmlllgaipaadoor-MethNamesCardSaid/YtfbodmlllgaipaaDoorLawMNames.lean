/- The law on names: its walk. -/
import Derived.Test.YtfbodmlllgaipaaDoorMethC
namespace Go.Proofs.YtfbodmlllgaipaaDoor
open Go.RowKit
set_option maxRecDepth 100000
set_option linter.unusedSimpArgs false
set_option linter.unusedVariables false

def nmA (a b : Nat) (s : List UInt8) : Parts := ⟨[a, b], [s], [], []⟩
def nmB (a b : Nat) (s : List UInt8) (f : Bool) : Parts := ⟨[a, b], [[101], s], [f], []⟩
theorem nmA_form : formB 50 11 = some [115, 52, 52] := by rfl
theorem nmB_form : formB 60 71 = some [56, 102, 115, 115, 52] := by rfl
theorem nmA_ok (a b : Nat) (s : List UInt8) (ha : a < 4294967296) (hb : b < 4294967296) (hs : s.length ≤ 255) : okM 50 11 (nmA a b s) = true := by
  unfold okM
  rw [nmA_form]
  have h1 : ¬ 255 < s.length := by omega
  have h2 : ¬ 256 ^ 4 ≤ a := by have : 256 ^ 4 = 4294967296 := by decide
                                omega
  have h3 : ¬ 256 ^ 4 ≤ b := by have : 256 ^ 4 = 4294967296 := by decide
                                omega
  simp [okP, askB, badP, nmA, cN, cS, cF, wd, h1, h2, h3]
theorem nmB_ok (a b : Nat) (s : List UInt8) (f : Bool) (ha : a < 18446744073709551616) (hb : b < 4294967296) (hs : s.length ≤ 255) : okM 60 71 (nmB a b s f) = true := by
  unfold okM
  rw [nmB_form]
  have h1 : ¬ 255 < s.length := by omega
  have h2 : ¬ 256 ^ 8 ≤ a := by have : 256 ^ 8 = 18446744073709551616 := by decide
                                omega
  have h3 : ¬ 256 ^ 4 ≤ b := by have : 256 ^ 4 = 4294967296 := by decide
                                omega
  simp [okP, askB, badP, nmB, cN, cS, cF, wd, h1, h2, h3]
theorem nmA_oct (a b : Nat) (s : List UInt8) (ha : a < 4294967296) (hb : b < 4294967296) (hs : s.length ≤ 255) :
    appM [] 50 11 (nmA a b s) = [0, 50, 0, 11, UInt8.ofNat s.length] ++ (s ++ (be 4 a ++ be 4 b)) := by
  unfold appM
  rw [nmA_ok a b s ha hb hs, if_pos rfl]
  unfold octM
  rw [nmA_form]
  have h1 : be 1 s.length = [UInt8.ofNat s.length] := by simp [be]
  simp [pw, nmA, wd, h1]
  rw [show be 2 50 = [0, 50] from by decide, show be 2 11 = [0, 11] from by decide]
  rfl
theorem nmB_oct (a b : Nat) (s : List UInt8) (f : Bool) (ha : a < 18446744073709551616) (hb : b < 4294967296) (hs : s.length ≤ 255) :
    appM [] 60 71 (nmB a b s f) = [0, 60, 0, 71] ++ (be 8 a ++ ([if f then 1 else 0, 1, 101, UInt8.ofNat s.length] ++ (s ++ be 4 b))) := by
  unfold appM
  rw [nmB_ok a b s f ha hb hs, if_pos rfl]
  unfold octM
  rw [nmB_form]
  have h1 : be 1 s.length = [UInt8.ofNat s.length] := by simp [be]
  simp [pw, nmB, wd, h1]
  rw [show be 2 60 = [0, 60] from by decide, show be 2 71 = [0, 71] from by decide, show be 1 1 = [1] from by decide, show UInt8.ofNat (octF [102, 115, 115, 52] 0 [f]) = if f then 1 else 0 from by cases f <;> rfl]
  rfl
theorem or_word (a c : Nat) (ha : a < 4294967296) (hc : c < 4294967296) : bits .or .u64 ((a : Int) * 4294967296) (c : Int) = ((a * 4294967296 + c : Nat) : Int) := by
  have h := u64_or_nat (a * 4294967296) c (by omega) (by omega)
  rw [Int.natCast_mul] at h
  rw [show ((4294967296 : Nat) : Int) = 4294967296 from rfl] at h
  rw [h, nat_join 32 (a * 4294967296) c (by omega) hc]
/-- a number of four octets -/
theorem or_four (a : Nat) (ha : a < 4294967296) (o0 o1 o2 o3 : UInt8) (h : be 4 a = [o0, o1, o2, o3]) :
    bits .or .u64 (bits .or .u64 (bits .or .u64 ((o0.toNat : Int) * 16777216) ((o1.toNat : Int) * 65536)) ((o2.toNat : Int) * 256)) (o3.toNat : Int) = (a : Int) := by
  have e : nat [o0, o1, o2, o3] = a := by rw [← h, nat_be, Nat.mod_eq_of_lt (by simpa using ha)]
  have t0 := o0.toNat_lt
  have t1 := o1.toNat_lt
  have t2 := o2.toNat_lt
  have t3 := o3.toNat_lt
  have j1 := u64_or_nat (o0.toNat * 16777216) (o1.toNat * 65536) (by omega) (by omega)
  rw [nat_join 24 (o0.toNat * 16777216) (o1.toNat * 65536) (by omega) (by omega)] at j1
  have j2 := u64_or_nat (o0.toNat * 16777216 + o1.toNat * 65536) (o2.toNat * 256) (by omega) (by omega)
  rw [nat_join 16 (o0.toNat * 16777216 + o1.toNat * 65536) (o2.toNat * 256) (by omega) (by omega)] at j2
  have j3 := u64_or_nat (o0.toNat * 16777216 + o1.toNat * 65536 + o2.toNat * 256) (o3.toNat) (by omega) (by omega)
  rw [nat_join 8 (o0.toNat * 16777216 + o1.toNat * 65536 + o2.toNat * 256) o3.toNat (by omega) (by omega)] at j3
  simp only [Int.natCast_add, Int.natCast_mul, show ((16777216 : Nat) : Int) = 16777216 from rfl, show ((65536 : Nat) : Int) = 65536 from rfl, show ((256 : Nat) : Int) = 256 from rfl] at j1 j2 j3
  have e2 : nat [o0, o1, o2, o3] = o0.toNat * 16777216 + o1.toNat * 65536 + o2.toNat * 256 + o3.toNat := by
    simp only [nat, List.foldl_cons, List.foldl_nil]
    omega
  rw [j1, j2, j3, ← e, e2]
  simp only [Int.natCast_add, Int.natCast_mul]
  rfl
theorem nmA_at (w : World) (a b : Nat) (s : List UInt8) : PartsAt ((w.alloc (.cells #[.string ⟨s.toArray⟩] 9)).alloc (.cells #[.int .u64 (a : Int), .int .u64 (b : Int)] 27)) (w.heap.size + 2) (nmA a b s) (.slice (some ⟨w.heap.size + 1, 0, none⟩) 2 2) (.slice (some ⟨w.heap.size, 0, none⟩) 1 1) (.slice none 0 0) (.slice none 0 0) := by
  have h1 := (Lies.lit w 9 [.string ⟨s.toArray⟩]).alloc (by simp) (.cells #[.int .u64 (a : Int), .int .u64 (b : Int)] 27)
  have h2 := Lies.lit (w.alloc (.cells #[.string ⟨s.toArray⟩] 9)) 27 [.int .u64 (a : Int), .int .u64 (b : Int)]
  rw [show (w.alloc (.cells #[.string ⟨s.toArray⟩] 9)).heap.size = w.heap.size + 1 from by simp] at h2
  exact ⟨slat_lit _ _ _ _ h2 2 (by decide), slat_lit _ _ _ _ (h1.more (by omega)) 1 (by decide), SlAt.nil _ _, TbAt.nil _ _⟩
theorem nmB_at (w : World) (a b : Nat) (s : List UInt8) (f : Bool) : PartsAt (((w.alloc (.cells #[.int .u64 (a : Int), .int .u64 (b : Int)] 27)).alloc (.cells #[.bool f] 4)).alloc (.cells #[.string ⟨#[101]⟩, .string ⟨s.toArray⟩] 9)) (w.heap.size + 3) (nmB a b s f) (.slice (some ⟨w.heap.size, 0, none⟩) 2 2) (.slice (some ⟨w.heap.size + 2, 0, none⟩) 2 2) (.slice (some ⟨w.heap.size + 1, 0, none⟩) 1 1) (.slice none 0 0) := by
  have h1 := ((Lies.lit w 27 [.int .u64 (a : Int), .int .u64 (b : Int)]).alloc (by simp) (.cells #[.bool f] 4)).alloc (by simp) (.cells #[.string ⟨#[101]⟩, .string ⟨s.toArray⟩] 9)
  have h2 := (Lies.lit (w.alloc (.cells #[.int .u64 (a : Int), .int .u64 (b : Int)] 27)) 4 [.bool f]).alloc (by simp) (.cells #[.string ⟨#[101]⟩, .string ⟨s.toArray⟩] 9)
  have h3 := Lies.lit ((w.alloc (.cells #[.int .u64 (a : Int), .int .u64 (b : Int)] 27)).alloc (.cells #[.bool f] 4)) 9 [.string ⟨#[101]⟩, .string ⟨s.toArray⟩]
  rw [show (w.alloc (.cells #[.int .u64 (a : Int), .int .u64 (b : Int)] 27)).heap.size = w.heap.size + 1 from by simp] at h2
  rw [show ((w.alloc (.cells #[.int .u64 (a : Int), .int .u64 (b : Int)] 27)).alloc (.cells #[.bool f] 4)).heap.size = w.heap.size + 2 from by simp] at h3
  exact ⟨slat_lit _ _ _ _ (h1.more (by omega)) 2 (by decide), slat_lit _ _ _ _ (h3.more (by omega)) 2 (by decide), slat_lit _ _ _ _ (h2.more (by omega)) 1 (by decide), TbAt.nil _ _⟩
theorem nmA_fine (a b : Nat) (s : List UInt8) (ha : a < 4294967296) (hb : b < 4294967296) (hs : s.length ≤ 255) : Fine (nmA a b s) := by
  refine ⟨fun x hx => ?_, fun x hx => ?_⟩
  · have : x = s := by simpa [nmA] using hx
    subst this; omega
  · have : x = a ∨ x = b := by simpa [nmA] using hx
    omega
theorem nmB_fine (a b : Nat) (s : List UInt8) (f : Bool) (ha : a < 18446744073709551616) (hb : b < 4294967296) (hs : s.length ≤ 255) : Fine (nmB a b s f) := by
  refine ⟨fun x hx => ?_, fun x hx => ?_⟩
  · have : x = [101] ∨ x = s := by simpa [nmB] using hx
    rcases this with rfl | rfl
    · decide
    · omega
  · have : x = a ∨ x = b := by simpa [nmB] using hx
    omega
theorem B8_mid (P s Q : List UInt8) (k : Nat) (v : Value) (h : (B8 s)[k]? = some v) : (B8 (P ++ (s ++ Q)))[P.length + k]? = some v := by
  have hk : k < (B8 s).length := by
    obtain ⟨hk, _⟩ := List.getElem?_eq_some_iff.1 h
    exact hk
  rw [B8_append, B8_append, List.getElem?_append_right (by rw [B8_length]; omega), B8_length, Nat.add_sub_cancel_left, List.getElem?_append_left hk]
  exact h
set_option maxHeartbeats 4000000 in
theorem mnames_any (s : List UInt8) (n k : Int) (again : Bool) (w : World) (hn0 : (Lit.int .u64 n).wf = true) (hk0 : (Lit.int .u64 k).wf = true) :
    Calls Tryd.prog 4 #[.string ⟨s.toArray⟩, .int .u64 n, .int .u64 k, .bool again] w fun e w' => e = .returned (.bool true) ∧ Below w.heap.size w w' := by
  obtain ⟨a', ea, ha'⟩ := wf_u64 hn0
  obtain ⟨b', eb, hb'⟩ := wf_u64 hk0
  subst ea; subst eb
  clear hn0 hk0
  obtain ⟨L, hL⟩ : ∃ L : Nat, s.length = L := ⟨_, rfl⟩
  by_cases h255 : 255 < L
  · go_enter Tryd.func4, Tryd.ntmps4
    go_wp2_with fail
    refine (awake4_any _).mono ?_
    rintro e w1 ⟨rfl, hb1⟩
    go_wp2_with fail
    go_ret
    exact ⟨rfl, hb1⟩
  · have m1 := mask_low32 a' ha'
    have m2 := mask_low32 b' hb'
    obtain ⟨a, hA⟩ : ∃ a : Nat, a' % 4294967296 = a := ⟨_, rfl⟩
    obtain ⟨b, hB⟩ : ∃ b : Nat, b' % 4294967296 = b := ⟨_, rfl⟩
    rw [hA] at m1
    rw [hB] at m2
    have ha : a < 4294967296 := by rw [← hA]; exact Nat.mod_lt _ (by omega)
    have hb : b < 4294967296 := by rw [← hB]; exact Nat.mod_lt _ (by omega)
    have HA := Lib.hid ha
    have HB := Lib.hid hb
    have HL := Lib.hid hL
    clear hA hB ha' hb' ha hb
    have hs255 : s.length ≤ 255 := by have := HL.out; omega
    obtain ⟨w0, hw0⟩ : ∃ w0, w0 = (w.alloc (.cells #[.string ⟨s.toArray⟩] 9)).alloc (.cells #[.int .u64 (a : Int), .int .u64 (b : Int)] 27) := ⟨_, rfl⟩
    have hb0 : Below w.heap.size w w0 := by rw [hw0]; exact ((Below.refl _ _).alloc (Nat.le_refl _) _).alloc (by simp) _
    have hz0 : w0.heap.size = w.heap.size + 2 := by rw [hw0]; simp
    have hp0 : PartsAt w0 (w.heap.size + 2) (nmA a b s) (.slice (some ⟨w.heap.size + 1, 0, none⟩) 2 2) (.slice (some ⟨w.heap.size, 0, none⟩) 1 1) (.slice none 0 0) (.slice none 0 0) := by
      rw [hw0]
      exact nmA_at w a b s
    have HB0 := Lib.hid hb0
    have HZ0 := Lib.hid hz0
    have HP0 := Lib.hid hp0
    have HW0 := Lib.hid hw0
    obtain ⟨Y, hY⟩ : ∃ Y, Y = appM [] 50 11 (nmA a b s) := ⟨_, rfl⟩
    have hY2 := hY.trans (nmA_oct a b s HA.out HB.out hs255)
    have hYl : Y.length = 13 + L := by rw [hY2]; simp [be_length, hL]; omega
    have HY := Lib.hid hY
    have HY2 := Lib.hid hY2
    have HYL := Lib.hid hYl
    have HOK := Lib.hid (nmA_ok a b s HA.out HB.out hs255)
    have HFI := Lib.hid (nmA_fine a b s HA.out HB.out hs255)
    -- the second
    have hx : a * 4294967296 + b < 18446744073709551616 := by have := HA.out; have := HB.out; omega
    have HOW := Lib.hid (or_word a b HA.out HB.out)
    have HWR : Hid (IntKind.u64.wrap ((a : Int) * 4294967296) = (a : Int) * 4294967296) := Lib.hid (IntWalk.u64_in _ ⟨by omega, by have := HA.out; omega⟩)
    obtain ⟨X, hX⟩ : ∃ X : Nat, X = a * 4294967296 + b := ⟨_, rfl⟩
    rw [← hX] at hx
    have HX := Lib.hid hX
    have HXl := Lib.hid hx
    obtain ⟨Z, hZ⟩ : ∃ Z, Z = appM [] 60 71 (nmB X b s again) := ⟨_, rfl⟩
    have hZ2 := hZ.trans (nmB_oct X b s again hx HB.out hs255)
    have hZl : Z.length = 20 + L := by rw [hZ2]; simp [be_length, hL]; omega
    have HZ := Lib.hid hZ
    have HZ2 := Lib.hid hZ2
    have HZL := Lib.hid hZl
    have HOK2 := Lib.hid (nmB_ok X b s again hx HB.out hs255)
    have HFI2 := Lib.hid (nmB_fine X b s again hx HB.out hs255)
    have HS := Lib.hid hs255
    clear hb0 hz0 hp0 hw0 hY hY2 hYl hZ hZ2 hZl hx hX hs255
    go_enter Tryd.func4, Tryd.ntmps4
    go_wp2_with fail
    rw [← HW0.out]
    refine (mappend_any none 0 [] (w.heap.size + 2) 50 11 (nmA a b s) _ _ _ _ w0 (Lies.empty _ _ _) (by rw [HZ0.out]; exact Nat.le_refl _) HP0.out HFI.out (by decide) (by decide) (by simp)).mono ?_
    rw [← HY.out, HOK.out]
    rintro e w1 ⟨v1, rfl, ho1, hb1⟩
    rw [HYL.out] at ho1
    obtain ⟨A1, c1, rfl, hc1, _⟩ := own_form ho1
    have HL1 := Lib.hid (Lies.own ho1 (Nat.le_refl _))
    have HB1 := Lib.hid (HB0.out.trans (hb1.mono (by have := HZ0.out; omega)))
    have hz1 := HB1.out.size
    have HC1 := Lib.hid hc1
    clear ho1 hb1 hc1
    go_wp2_with fail
    rw [HWR.out, HOW.out, ← HX.out]
    obtain ⟨w2, hw2⟩ : ∃ w2, w2 = ((w1.alloc (.cells #[.int .u64 (X : Int), .int .u64 (b : Int)] 27)).alloc (.cells #[.bool again] 4)).alloc (.cells #[.string ⟨#[101]⟩, .string ⟨s.toArray⟩] 9) := ⟨_, rfl⟩
    have hb2 : Below w1.heap.size w1 w2 := by rw [hw2]; exact (((Below.refl _ _).alloc (Nat.le_refl _) _).alloc (by simp) _).alloc (by simp; omega) _
    have hz2 : w2.heap.size = w1.heap.size + 3 := by rw [hw2]; simp
    have hp2 : PartsAt w2 (w1.heap.size + 3) (nmB X b s again) (.slice (some ⟨w1.heap.size, 0, none⟩) 2 2) (.slice (some ⟨w1.heap.size + 2, 0, none⟩) 2 2) (.slice (some ⟨w1.heap.size + 1, 0, none⟩) 1 1) (.slice none 0 0) := by
      rw [hw2]
      exact nmB_at w1 X b s again
    rw [← hw2]
    clear hw2
    refine (mappend_any none 0 [] (w1.heap.size + 3) 60 71 (nmB X b s again) _ _ _ _ w2 (Lies.empty _ _ _) (by rw [hz2]; exact Nat.le_refl _) hp2 HFI2.out (by decide) (by decide) (by simp)).mono ?_
    rw [← HZ.out, HOK2.out]
    rintro e w3 ⟨v3, rfl, ho3, hb3⟩
    rw [HZL.out] at ho3
    obtain ⟨A3, c3, rfl, hc3, _⟩ := own_form ho3
    have HL3 := Lib.hid (Lies.own ho3 (Nat.le_refl _))
    have b13 : Below w1.heap.size w1 w3 := hb2.trans (hb3.mono (by omega))
    have HB3 := Lib.hid (HB1.out.trans (b13.mono hz1))
    have HL13 := Lib.hid (HL1.out.below b13)
    have HW13 := Lib.hid b13.size
    have HC3 := Lib.hid hc3
    clear ho3 hb3 hc3 hb2 hp2 b13 hz2 hz1
    -- what lies there
    obtain ⟨o0, o1, o2, o3, hbe⟩ : ∃ o0 o1 o2 o3, be 4 a = [o0, o1, o2, o3] := by
      have := be_length 4 a
      match h : be 4 a, this with
      | [o0, o1, o2, o3], _ => exact ⟨o0, o1, o2, o3, rfl⟩
    obtain ⟨T, hT⟩ : ∃ T : Nat, T = 5 + L := ⟨_, rfl⟩
    have hTs : ([0, 50, 0, 11, UInt8.ofNat s.length] ++ s).length = T := by simp [hT, HL.out]; omega
    have hY3 : B8 Y = B8 ([0, 50, 0, 11, UInt8.ofNat s.length] ++ s) ++ (B8 [o0, o1, o2, o3] ++ B8 (be 4 b)) := by
      rw [HY2.out, hbe, B8_append, B8_append, B8_append, B8_append, List.append_assoc]
    have hYc : ∀ i v, (B8 [o0, o1, o2, o3] ++ B8 (be 4 b))[i]? = some v → (B8 Y)[T + i]? = some v := by
      intro i v h
      rw [hY3, List.getElem?_append_right (by rw [B8_length, hTs]; omega), B8_length, hTs, Nat.add_sub_cancel_left]
      exact h
    obtain ⟨b1, p1, rfl, hlt1, hcell1⟩ := HL13.out.resolve_left (by intro h; have := congrArg List.length h; rw [B8_length, HYL.out] at this; simp at this)
    obtain ⟨T1, hT1⟩ : ∃ T1 : Nat, T1 = T + 1 := ⟨_, rfl⟩
    obtain ⟨T2, hT2⟩ : ∃ T2 : Nat, T2 = T + 2 := ⟨_, rfl⟩
    obtain ⟨T3, hT3⟩ : ∃ T3 : Nat, T3 = T + 3 := ⟨_, rfl⟩
    have y0 : w3.cell? ⟨b1, p1 + T, none⟩ = some (.int .u8 (o0.toNat : Int)) := hcell1 T _ (hYc 0 _ rfl)
    have y1 : w3.cell? ⟨b1, p1 + T1, none⟩ = some (.int .u8 (o1.toNat : Int)) := hcell1 T1 _ (by rw [hT1]; exact hYc 1 _ rfl)
    have y2 : w3.cell? ⟨b1, p1 + T2, none⟩ = some (.int .u8 (o2.toNat : Int)) := hcell1 T2 _ (by rw [hT2]; exact hYc 2 _ rfl)
    have y3 : w3.cell? ⟨b1, p1 + T3, none⟩ = some (.int .u8 (o3.toNat : Int)) := hcell1 T3 _ (by rw [hT3]; exact hYc 3 _ rfl)
    have ly : Lies w3.drew w3.heap.size (some ⟨b1, p1 + 5, none⟩) (B8 s) := Or.inr ⟨b1, p1 + 5, rfl, by have := HW13.out; omega, fun i v h => by
      rw [Nat.add_assoc]
      exact hcell1 (5 + i) v (by rw [HY2.out]; exact B8_mid [0, 50, 0, 11, UInt8.ofNat s.length] s _ i v h)⟩
    obtain ⟨b3, p3, rfl, hlt3, hcell3⟩ := HL3.out.resolve_left (by intro h; have := congrArg List.length h; rw [B8_length, HZL.out] at this; simp at this)
    have lz : Lies w3.drew w3.heap.size (some ⟨b3, p3 + 16, none⟩) (B8 s) := Or.inr ⟨b3, p3 + 16, rfl, hlt3, fun i v h => by
      rw [Nat.add_assoc]
      have e : Z = ([0, 60, 0, 71] ++ be 8 X ++ [if again then 1 else 0, 1, 101, UInt8.ofNat s.length]) ++ (s ++ be 4 b) := by rw [HZ2.out]; simp
      have := B8_mid ([0, 60, 0, 71] ++ be 8 X ++ [if again then 1 else 0, 1, 101, UInt8.ofNat s.length]) s (be 4 b) i v h
      rw [← e] at this
      have l16 : (([0, 60, 0, 71] ++ be 8 X ++ [if again then 1 else 0, 1, 101, UInt8.ofNat s.length] : List UInt8)).length = 16 := by simp [be_length]
      rw [l16] at this
      exact hcell3 (16 + i) v this⟩
    have hz : ∀ i v, (B8 [if again then 1 else 0, 1, 101, UInt8.ofNat s.length])[i]? = some v → (B8 Z)[12 + i]? = some v := by
      intro i v h
      have e : Z = ([0, 60, 0, 71] ++ be 8 X) ++ ([if again then 1 else 0, 1, 101, UInt8.ofNat s.length] ++ (s ++ be 4 b)) := by rw [HZ2.out]; simp
      have := B8_mid ([0, 60, 0, 71] ++ be 8 X) [if again then 1 else 0, 1, 101, UInt8.ofNat s.length] (s ++ be 4 b) i v h
      rw [← e] at this
      have l12 : (([0, 60, 0, 71] ++ be 8 X : List UInt8)).length = 12 := by simp [be_length]
      rw [l12] at this
      exact this
    have z12 : w3.drew.cell? ⟨b3, p3 + 12, none⟩ = some (.int .u8 (((if again then 1 else 0 : UInt8)).toNat : Int)) := hcell3 12 _ (hz 0 _ rfl)
    have z13 : w3.drew.cell? ⟨b3, p3 + 13, none⟩ = some (.int .u8 1) := hcell3 13 _ (hz 1 _ rfl)
    have z14 : w3.drew.cell? ⟨b3, p3 + 14, none⟩ = some (.int .u8 101) := hcell3 14 _ (hz 2 _ rfl)
    have LY := Lib.hid ly
    have LZ := Lib.hid lz
    have Z12 := Lib.hid z12
    have Z13 := Lib.hid z13
    have Z14 := Lib.hid z14
    clear ly lz hz z12 z13 z14 hcell3
    have Y4 := Lib.hid (And.intro y0 (And.intro y1 (And.intro y2 y3)))
    have OF := Lib.hid (or_four a HA.out o0 o1 o2 o3 hbe)
    have HTL := Lib.hid hT
    have HT1 := Lib.hid hT1
    have HT2 := Lib.hid hT2
    have HT3 := Lib.hid hT3
    clear hbe hTs hY3 hYc hcell1 y0 y1 y2 y3 hT hT1 hT2 hT3
    go_upto_region 9 with fail
    rw [show 5 + (L : Int) = (T : Int) from by have := HTL.out; omega]
    have t0 := o0.toNat_lt
    have t1 := o1.toNat_lt
    have t2 := o2.toNat_lt
    have t3 := o3.toNat_lt
    have g0 : (T : Int) < 13 + (L : Int) := by have := HTL.out; omega
    have g1 : (T1 : Int) < 13 + (L : Int) := by have := HTL.out; have := HT1.out; omega
    have g2 : (T2 : Int) < 13 + (L : Int) := by have := HTL.out; have := HT2.out; omega
    have g3 : (T3 : Int) < 13 + (L : Int) := by have := HTL.out; have := HT3.out; omega
    have r1 : IntKind.i64.wrap ((T : Int) + 1) = (T1 : Int) := by rw [HT1.out]; exact IntWalk.i64_in _ (by have := HTL.out; have := HS.out; have := HL.out; omega)
    have r2 : IntKind.i64.wrap ((T : Int) + 2) = (T2 : Int) := by rw [HT2.out]; exact IntWalk.i64_in _ (by have := HTL.out; have := HS.out; have := HL.out; omega)
    have r3 : IntKind.i64.wrap ((T : Int) + 3) = (T3 : Int) := by rw [HT3.out]; exact IntWalk.i64_in _ (by have := HTL.out; have := HS.out; have := HL.out; omega)
    have u0 : IntKind.u64.wrap (o0.toNat : Int) = (o0.toNat : Int) := IntWalk.u64_in _ ⟨by omega, by omega⟩
    have u1 : IntKind.u64.wrap (o1.toNat : Int) = (o1.toNat : Int) := IntWalk.u64_in _ ⟨by omega, by omega⟩
    have u2 : IntKind.u64.wrap (o2.toNat : Int) = (o2.toNat : Int) := IntWalk.u64_in _ ⟨by omega, by omega⟩
    have u3 : IntKind.u64.wrap (o3.toNat : Int) = (o3.toNat : Int) := IntWalk.u64_in _ ⟨by omega, by omega⟩
    have v0 : IntKind.u64.wrap ((o0.toNat : Int) * 16777216) = (o0.toNat : Int) * 16777216 := IntWalk.u64_in _ ⟨by omega, by omega⟩
    have v1 : IntKind.u64.wrap ((o1.toNat : Int) * 65536) = (o1.toNat : Int) * 65536 := IntWalk.u64_in _ ⟨by omega, by omega⟩
    have v2 : IntKind.u64.wrap ((o2.toNat : Int) * 256) = (o2.toNat : Int) * 256 := IntWalk.u64_in _ ⟨by omega, by omega⟩
    have Y4d : Hid (w3.drew.cell? ⟨b1, p1 + T, none⟩ = some (.int .u8 (o0.toNat : Int)) ∧ w3.drew.cell? ⟨b1, p1 + T1, none⟩ = some (.int .u8 (o1.toNat : Int)) ∧ w3.drew.cell? ⟨b1, p1 + T2, none⟩ = some (.int .u8 (o2.toNat : Int)) ∧ w3.drew.cell? ⟨b1, p1 + T3, none⟩ = some (.int .u8 (o3.toNat : Int))) := Lib.hid Y4.out
    clear t0 t1 t2 t3
    go_region_held3 (fun w' => w'.cell? ⟨b1, p1 + T, none⟩ = some (.int .u8 (o0.toNat : Int)) ∧ w'.cell? ⟨b1, p1 + T1, none⟩ = some (.int .u8 (o1.toNat : Int)) ∧ w'.cell? ⟨b1, p1 + T2, none⟩ = some (.int .u8 (o2.toNat : Int)) ∧ w'.cell? ⟨b1, p1 + T3, none⟩ = some (.int .u8 (o3.toNat : Int))) (first | exact Y4d.out | exact Y4.out) (fail)
    rw [OF.out]
    clear Y4d r1 r2 r3 u0 u1 u2 u3 v0 v1 v2 g0 g1 g2 g3
    go_upto_region 10 with fail
    have cy := run_octets_string (P := Tryd.prog) 24 9 5 Tryd.underlying24 Tryd.underlying5 Tryd.underlying9 LY.out (c1 - 5)
    have cz := run_octets_string (P := Tryd.prog) 24 9 5 Tryd.underlying24 Tryd.underlying5 Tryd.underlying9 LZ.out (c3 - 16)
    rw [show s.length = T - 5 from by have := HL.out; have := HTL.out; omega] at cy
    rw [HL.out] at cz
    have z12 := Z12.out
    have z13 := Z13.out
    have z14 := Z14.out
    have g5 : (5 : Int) ≤ (T : Int) := by have := HTL.out; omega
    have g6 : (T : Int) ≤ (c1 : Int) := by have := HTL.out; have := HC1.out; omega
    have g7 : T ≤ c1 := by omega
    have g8 : ¬ c1 = 5 := by have := HC1.out; omega
    have g9 : ¬ c3 = 16 := by have := HC3.out; omega
    have r4 : IntKind.i64.wrap (16 + (L : Int)) = 16 + (L : Int) := IntWalk.i64_in _ (by have := HS.out; have := HL.out; omega)
    have g10 : 16 + (L : Int) ≤ (c3 : Int) := by have := HC3.out; omega
    have g11 : 16 + L ≤ c3 := by have := HC3.out; omega
    cases again
    · simp at z12
      go_wp2_with fail
      refine (awake4_any _).mono ?_
      rintro e w9 ⟨rfl, hb9⟩
      have HB9 := Lib.hid (HB3.out.drew.trans (hb9.mono HB3.out.drew.size))
      clear hb9
      go_wp2_with fail
      go_ret
      exact ⟨rfl, HB9.out⟩
    · simp at z12
      go_wp2_with fail
      refine (awake4_any _).mono ?_
      rintro e w9 ⟨rfl, hb9⟩
      have HB9 := Lib.hid (HB3.out.drew.trans (hb9.mono HB3.out.drew.size))
      clear hb9
      go_wp2_with fail
      go_ret
      exact ⟨rfl, HB9.out⟩
end Go.Proofs.YtfbodmlllgaipaaDoor
