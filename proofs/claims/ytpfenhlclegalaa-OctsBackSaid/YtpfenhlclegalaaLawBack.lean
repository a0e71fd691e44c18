/- The walk of the law on what is written and read back. -/
import Derived.Test.YtpfenhlclegalaaAwake
import Derived.Test.YtpfenhlclegalaaConv
import Derived.Test.YtpfenhlclegalaaWords3
import Derived.Deep.DeepCutAuto
namespace Go.Proofs.Ytpfenhlclegalaa
open Go.RowKit

theorem short_list (A : Option Addr) (c : Nat) (l : List UInt8) (B : Nat) (S : List UInt8) (w : World) (hl : Lies w B A (B8 l)) (hB : B ≤ w.heap.size) (hs : l.length + 264 ≤ 140737488355328) (h255 : S.length ≤ 255) :
    Calls Try.prog 9 #[.slice A l.length c, .string ⟨S.toArray⟩] w (NewOctsOk w.heap.size (l ++ be 1 S.length ++ S) true w) :=
  short_any A c l B ⟨S.toArray⟩ w hl hB hs h255
theorem short_list_not (A : Option Addr) (c : Nat) (l : List UInt8) (B : Nat) (S : List UInt8) (w : World) (hl : Lies w B A (B8 l)) (hB : B ≤ w.heap.size) (hs : l.length ≤ 140737488355328) (h255 : 255 < S.length) (hm : S.length ≤ maxLen) :
    Calls Try.prog 9 #[.slice A l.length c, .string ⟨S.toArray⟩] w (NewOctsOk w.heap.size l false w) :=
  short_not A c l B ⟨S.toArray⟩ w hl hB hs h255 hm

set_option maxRecDepth 100000 in
set_option maxHeartbeats 1000000 in
theorem back_yes (a : Option Addr) (ca : Nat) (b : List UInt8) (n : Int) (v : Nat) (S : List UInt8) (a' : Option Addr) (ca' : Nat) (t : List UInt8) (w : World)
    (hv : v < 18446744073709551616) (hb : b.length ≤ 300) (ht : t.length ≤ 300) (h255 : S.length ≤ 255) (lb : Lies w w.heap.size a (B8 b)) (lt : Lies w w.heap.size a' (B8 t)) :
    Calls Try.prog 6 #[.slice a b.length ca, .int .i64 n, .int .u64 v, .string ⟨S.toArray⟩, .slice a' t.length ca'] w fun e w' => e = .returned (.bool true) ∧ Below w.heap.size w w' := by
  have hw := wid_in n
  have h1 : 8 < n → (8 : Int) = (wid n : Int) := by unfold wid; omega
  have h2 : n < 1 → (1 : Int) = (wid n : Int) := by unfold wid; omega
  have h3 : 1 ≤ n → n ≤ 8 → n = (wid n : Int) := by unfold wid; omega
  have H1 : Hid _ := h1
  have H2 : Hid _ := h2
  have H3 : Hid _ := h3
  have LB := Lib.hid lb
  have LT := Lib.hid lt
  clear h1 h2 h3 lb lt
  obtain ⟨wo, hwo⟩ : ∃ wo : World, wo = w := ⟨_, rfl⟩
  subst hwo
  go_enter Try.func6, Try.ntmps6
  go_upto_region 3 with fail
  go_cut [11] (fun s11 wx => s11 = .int .i64 (wid n) ∧ wx = wo)
  case first =>
    rcases Int.lt_or_le n 1 with h | h
    · go_wp2_with fail
      go_meet
      exact ⟨by rw [H2.out h], rfl⟩
    · rcases Int.lt_or_le 8 n with h' | h'
      · go_wp2_with fail
        go_meet
        exact ⟨by rw [H1.out h'], rfl⟩
      · go_wp2_with fail
        go_meet
        exact ⟨by rw [← H3.out h h'], rfl⟩
  case rest =>
    obtain ⟨rfl, hwc⟩ := hcut
    subst hwc
    have HW := Lib.hid (int_any (n := n))
    have HI := Lib.hid (in_int (n := n))
    generalize wid n = k at *
    clear H1 H2 H3
    go_wp2_with fail
    refine (HW.out a ca b wc.heap.size v _ LB.out (Nat.le_refl _) (by omega)).mono ?_
    rintro e w1 ⟨v1, rfl, ho, hb1⟩
    have B1 := Lib.hid hb1
    obtain ⟨X, hX⟩ : ∃ X, X = b ++ be k v := ⟨_, rfl⟩
    rw [← hX] at ho
    have hXl : X.length = b.length + k := by rw [hX, List.length_append, be_length]
    have hXb : X.length ≤ 308 := by omega
    have HX := Lib.hid hX
    have HXL := Lib.hid hXl
    clear hX hXl
    obtain ⟨A, c, rfl, _, _⟩ := own_form ho
    have L1 := Lib.hid (Lies.own ho (Nat.le_refl _))
    clear ho hb1
    go_wp2_with fail
    refine (short_list A c X w1.heap.size S _ L1.out (Nat.le_refl _) (by omega) h255).mono ?_
    rintro e w2 ⟨v2, rfl, ho, hb2⟩
    have B2 := Lib.hid (B1.out.trans (hb2.mono B1.out.size))
    obtain ⟨Y, hY⟩ : ∃ Y, Y = X ++ be 1 S.length ++ S := ⟨_, rfl⟩
    rw [← hY] at ho
    have hYl : Y.length = X.length + 1 + S.length := by rw [hY, List.length_append, List.length_append, be_length]
    have hYb : Y.length ≤ 564 := by omega
    have HY := Lib.hid hY
    have HYL := Lib.hid hYl
    clear hY hYl
    obtain ⟨A2, c2, rfl, _, _⟩ := own_form ho
    have L2 := Lib.hid (Lies.own ho (Nat.le_refl _))
    have LT2 := Lib.hid (LT.out.below B2.out)
    clear ho hb2
    go_wp2_with fail
    have hsz2 := B2.out.size
    refine (long_any A2 c2 Y w2.heap.size a' ca' t _ L2.out (LT2.out.more hsz2) (Nat.le_refl _) (by omega)).mono ?_
    rintro e w3 ⟨v3, rfl, ho, hb3⟩
    have B3 := Lib.hid (B2.out.trans (hb3.mono B2.out.size))
    obtain ⟨Z, hZ⟩ : ∃ Z, Z = Y ++ be 4 t.length ++ t := ⟨_, rfl⟩
    rw [← hZ] at ho
    have hZl : Z.length = Y.length + 4 + t.length := by rw [hZ, List.length_append, List.length_append, be_length]
    have hZb : Z.length ≤ 868 := by omega
    have HZ := Lib.hid hZ
    have HZL := Lib.hid hZl
    obtain ⟨A3, c3, rfl, hc3, hm3⟩ := own_form ho
    unfold maxLen at hm3
    have L3 := Lies.own ho (Nat.le_refl _)
    clear hsz2 hZl hZ ho hb3
    have hsplit : Z = b ++ (be k v ++ (be 1 S.length ++ (S ++ (be 4 t.length ++ (t ++ []))))) := by
      rw [HZ.out, HY.out, HX.out]; simp
    have hbz : b.length < Z.length := by have h1 := HZL.out; have h2 := HXL.out; have h3 := HYL.out; omega
    have hbc : b.length ≤ c3 := by omega
    have hbc' : ¬ c3 = b.length := by omega
    rcases L3.octets with h0 | ⟨g3, o3, rfl, hg3, hcell⟩
    · rw [h0] at hbz; simp at hbz
    · have LP : Lies w3 w3.heap.size (some ⟨g3, o3, none⟩) (B8 b) := by
        have h1 := L3.take b.length
        rw [B8, ← List.map_take, hsplit, List.take_left] at h1
        exact h1
      obtain ⟨R, hR⟩ : ∃ R, R = Z.drop b.length := ⟨_, rfl⟩
      have LR : Lies w3 w3.heap.size (some ⟨g3, o3 + b.length, none⟩) (B8 R) := by
        have h1 := L3.drop b.length c3 (by rw [B8_length]; omega) (by rw [B8_length]; exact hc3)
        rw [if_neg hbc', B8, ← List.map_drop, ← hR] at h1
        have h2 : (Option.map (fun x => x.add b.length) (some (⟨g3, o3, none⟩ : Addr))) = some ⟨g3, o3 + b.length, none⟩ := by
          by_cases h0 : b.length = 0 <;> simp [Addr.add, h0]
        rw [← h2]; exact h1
      have hRl : Z.length - b.length = R.length := by rw [hR, List.length_drop]
      have hRb : R.length ≤ 868 := by omega
      have e1 : ((X.length : Int) != (b.length : Int) + (k : Int)) = false := by rw [HXL.out]; simp
      have e2 : ((Z.length : Int) != (Y.length : Int) + 4 + (t.length : Int)) = false := by rw [HZL.out]; simp
      rw [hsplit, List.drop_left] at hR
      have HR := Lib.hid hR
      have HLP := Lib.hid LP
      have HLR := Lib.hid LR
      clear hR LP LR hcell hsplit L3
      go_wp2_with fail
      refine (from_any _ (c3 - b.length) R w3.heap.size _ HLR.out (Nat.le_refl _) (by omega)).mono ?_
      rintro e w4 ⟨g, hg, rfl, hi, hb4⟩
      have hg' : wc.heap.size ≤ g := by have := B3.out.size; omega
      have B4 := Lib.hid (B3.out.trans (hb4.mono B3.out.size))
      have I4 := Lib.hid hi
      have LP4 := Lib.hid (HLP.out.below hb4)
      have LB4 := Lib.hid (LB.out.below B4.out)
      have LT4 := Lib.hid (LT.out.below B4.out)
      clear hi hb4 hg HLP HLR
      go_wp2_with fail
      refine (same_yes _ a c3 ca w3.heap.size wc.heap.size b _ LP4.out LB4.out).mono ?_
      rintro e w' ⟨rfl, rfl⟩
      obtain ⟨low, hlow⟩ : ∃ low, low = v % 256 ^ k := ⟨_, rfl⟩
      have HLow := Lib.hid hlow
      clear hlow
      obtain ⟨wb, hwb⟩ : ∃ wb : World, wb = wc := ⟨_, rfl⟩
      subst hwb
      go_upto_if 97 with fail
      go_cut [17] (fun s17 wx => s17 = .int .u64 (low : Int) ∧ wx = w4)
      case first =>
        by_cases hk : k < 8
        · have ma := mask_low v k hv hk
          rw [← HLow.out] at ma
          go_wp2_with fail
          go_meet
          exact ⟨rfl, rfl⟩
        · obtain rfl : k = 8 := by omega
          obtain rfl : low = v := by rw [HLow.out]; omega
          go_wp2_with fail
          go_meet
          exact ⟨rfl, rfl⟩
      case rest =>
        obtain ⟨rfl, hwx⟩ := hcut
        subst hwx
        go_wp2_with fail
        refine (HI.out g R false _ I4.out).mono ?_
        rintro e w5 ⟨rfl, hi, hb5⟩
        obtain ⟨p1, p2, p3⟩ := tk_pre (n := k) (a := be k v) (be 1 S.length ++ (S ++ (be 4 t.length ++ (t ++ [])))) (be_length k v)
        rw [← HR.out] at p1 p2 p3
        rw [p2, p3, Bool.or_false] at hi
        rw [p1, nat_be, ← HLow.out]
        have B5 := Lib.hid (B4.out.trans (below_only hb5 hg' B4.out.size))
        have I5 := Lib.hid hi
        clear hi hb5 p1 p2 p3 HR I4
        go_wp2_with fail
        refine (in_short g _ false _ I5.out).mono ?_
        rintro e w6 ⟨rfl, hi, hb6⟩
        obtain ⟨p1, p2, p3⟩ := txt_pre 1 S (be 4 t.length ++ (t ++ [])) (by rw [show 256 ^ 1 = 256 from rfl]; omega)
        rw [p2, p3, Bool.or_false] at hi
        rw [p1]
        have B6 := Lib.hid (B5.out.trans (below_only hb6 hg' B5.out.size))
        have I6 := Lib.hid hi
        clear hi hb6 p1 p2 p3 I5
        go_wp2_with fail
        have hRl : (be 4 t.length ++ (t ++ [])).length ≤ 140737488355328 := by simp [be_length]; omega
        refine (in_long g _ false _ I6.out hRl).mono ?_
        rintro e w7 ⟨v7, rfl, ho, hi, hb7⟩
        obtain ⟨p1, p2, p3⟩ := txt_pre 4 t [] (by rw [show 256 ^ 4 = 4294967296 from by decide]; omega)
        rw [p1] at ho
        rw [p2, p3, Bool.or_false] at hi
        have B7 := Lib.hid (B6.out.trans (below_only hb7 hg' B6.out.size))
        have I7 := Lib.hid hi
        obtain ⟨A7, c7, rfl, _, _⟩ := own_form ho
        have L7 := Lib.hid (Lies.own ho (Nat.le_refl _))
        have LT7 := Lib.hid (LT.out.below B7.out)
        clear hi hb7 p1 p2 p3 I6 hRl ho
        go_wp2_with fail
        refine (same_yes _ a' c7 ca' _ _ t _ L7.out LT7.out).mono ?_
        rintro e w' ⟨rfl, rfl⟩
        go_wp2_with fail
        refine (in_ok g _ false _ I7.out).mono ?_
        rintro e w' ⟨rfl, rfl⟩
        go_wp2_with fail
        refine (in_left g _ false _ I7.out).mono ?_
        rintro e w' ⟨rfl, rfl⟩
        go_wp2_with fail
        refine (in_rest g [] false _ I7.out (by simp)).mono ?_
        rintro e w8 ⟨v8, rfl, ho, hi, hb8⟩
        obtain ⟨A8, c8, rfl, _, _⟩ := own_form ho
        have B8' := Lib.hid (B7.out.trans (below_only hb8 hg' B7.out.size))
        have I8 := Lib.hid hi
        clear hi hb8 ho
        go_wp2_with fail
        refine (in_int g 1 [] false _ I8.out).mono ?_
        rintro e w9 ⟨rfl, hi, hb9⟩
        have B9 := Lib.hid (B8'.out.trans (below_only hb9 hg' B8'.out.size))
        have I9 : Hid (InAt w9 g [] true) := hi
        rw [show nat (tk (wid 1) []) = 0 from rfl]
        clear hi hb9
        go_wp2_with fail
        refine (in_ok g _ true _ I9.out).mono ?_
        rintro e w' ⟨rfl, rfl⟩
        go_wp2_with fail
        refine (awake_any _).mono ?_
        rintro e w10 ⟨rfl, hb10⟩
        go_wp2_with fail
        go_ret
        exact ⟨rfl, B9.out.trans (hb10.mono B9.out.size)⟩

set_option maxRecDepth 100000 in
set_option maxHeartbeats 1000000 in
theorem back_no (a : Option Addr) (ca : Nat) (b : List UInt8) (n : Int) (v : Nat) (S : List UInt8) (a' : Option Addr) (ca' : Nat) (t : List UInt8) (w : World)
    (hv : v < 18446744073709551616) (hb : b.length ≤ 300) (ht : t.length ≤ 300) (h255 : 255 < S.length) (hSm : S.length ≤ maxLen) (lb : Lies w w.heap.size a (B8 b)) (lt : Lies w w.heap.size a' (B8 t)) :
    Calls Try.prog 6 #[.slice a b.length ca, .int .i64 n, .int .u64 v, .string ⟨S.toArray⟩, .slice a' t.length ca'] w fun e w' => e = .returned (.bool true) ∧ Below w.heap.size w w' := by
  have hw := wid_in n
  have h1 : 8 < n → (8 : Int) = (wid n : Int) := by unfold wid; omega
  have h2 : n < 1 → (1 : Int) = (wid n : Int) := by unfold wid; omega
  have h3 : 1 ≤ n → n ≤ 8 → n = (wid n : Int) := by unfold wid; omega
  have H1 : Hid _ := h1
  have H2 : Hid _ := h2
  have H3 : Hid _ := h3
  have LB := Lib.hid lb
  have LT := Lib.hid lt
  clear h1 h2 h3 lb lt
  have HSM := Lib.hid hSm
  unfold maxLen at hSm
  obtain ⟨wo, hwo⟩ : ∃ wo : World, wo = w := ⟨_, rfl⟩
  subst hwo
  go_enter Try.func6, Try.ntmps6
  go_upto_region 3 with fail
  go_cut [11] (fun s11 wx => s11 = .int .i64 (wid n) ∧ wx = wo)
  case first =>
    rcases Int.lt_or_le n 1 with h | h
    · go_wp2_with fail
      go_meet
      exact ⟨by rw [H2.out h], rfl⟩
    · rcases Int.lt_or_le 8 n with h' | h'
      · go_wp2_with fail
        go_meet
        exact ⟨by rw [H1.out h'], rfl⟩
      · go_wp2_with fail
        go_meet
        exact ⟨by rw [← H3.out h h'], rfl⟩
  case rest =>
    obtain ⟨rfl, hwc⟩ := hcut
    subst hwc
    have HW := Lib.hid (int_any (n := n))
    have HI := Lib.hid (in_int (n := n))
    generalize wid n = k at *
    clear H1 H2 H3
    go_wp2_with fail
    refine (HW.out a ca b wc.heap.size v _ LB.out (Nat.le_refl _) (by omega)).mono ?_
    rintro e w1 ⟨v1, rfl, ho, hb1⟩
    have B1 := Lib.hid hb1
    obtain ⟨X, hX⟩ : ∃ X, X = b ++ be k v := ⟨_, rfl⟩
    rw [← hX] at ho
    have hXl : X.length = b.length + k := by rw [hX, List.length_append, be_length]
    have hXb : X.length ≤ 308 := by omega
    have HX := Lib.hid hX
    have HXL := Lib.hid hXl
    clear hX hXl
    obtain ⟨A, c, rfl, _, _⟩ := own_form ho
    have L1 := Lib.hid (Lies.own ho (Nat.le_refl _))
    clear ho hb1
    go_wp2_with fail
    refine (short_list_not A c X w1.heap.size S _ L1.out (Nat.le_refl _) (by omega) h255 HSM.out).mono ?_
    rintro e w2 ⟨v2, rfl, ho, hb2⟩
    have B2 := Lib.hid (B1.out.trans (hb2.mono B1.out.size))
    obtain ⟨A2, c2, rfl, _, _⟩ := own_form ho
    have L2 := Lib.hid (Lies.own ho (Nat.le_refl _))
    have LT2 := Lib.hid (LT.out.below B2.out)
    clear ho hb2
    go_wp2_with fail
    have hsz2 := B2.out.size
    refine (long_any A2 c2 X w2.heap.size a' ca' t _ L2.out (LT2.out.more hsz2) (Nat.le_refl _) (by omega)).mono ?_
    rintro e w3 ⟨v3, rfl, ho, hb3⟩
    have B3 := Lib.hid (B2.out.trans (hb3.mono B2.out.size))
    obtain ⟨Z, hZ⟩ : ∃ Z, Z = X ++ be 4 t.length ++ t := ⟨_, rfl⟩
    rw [← hZ] at ho
    have hZl : Z.length = X.length + 4 + t.length := by rw [hZ, List.length_append, List.length_append, be_length]
    have hZb : Z.length ≤ 868 := by omega
    have HZ := Lib.hid hZ
    have HZL := Lib.hid hZl
    obtain ⟨A3, c3, rfl, hc3, hm3⟩ := own_form ho
    unfold maxLen at hm3
    have L3 := Lies.own ho (Nat.le_refl _)
    clear hsz2 hZl hZ ho hb3
    have hsplit : Z = b ++ (be k v ++ (be 4 t.length ++ (t ++ []))) := by
      rw [HZ.out, HX.out]; simp
    have hbz : b.length < Z.length := by have h1 := HZL.out; have h2 := HXL.out; omega
    have hbc : b.length ≤ c3 := by omega
    have hbc' : ¬ c3 = b.length := by omega
    rcases L3.octets with h0 | ⟨g3, o3, rfl, hg3, hcell⟩
    · rw [h0] at hbz; simp at hbz
    · have LP : Lies w3 w3.heap.size (some ⟨g3, o3, none⟩) (B8 b) := by
        have h1 := L3.take b.length
        rw [B8, ← List.map_take, hsplit, List.take_left] at h1
        exact h1
      obtain ⟨R, hR⟩ : ∃ R, R = Z.drop b.length := ⟨_, rfl⟩
      have LR : Lies w3 w3.heap.size (some ⟨g3, o3 + b.length, none⟩) (B8 R) := by
        have h1 := L3.drop b.length c3 (by rw [B8_length]; omega) (by rw [B8_length]; exact hc3)
        rw [if_neg hbc', B8, ← List.map_drop, ← hR] at h1
        have h2 : (Option.map (fun x => x.add b.length) (some (⟨g3, o3, none⟩ : Addr))) = some ⟨g3, o3 + b.length, none⟩ := by
          by_cases h0 : b.length = 0 <;> simp [Addr.add, h0]
        rw [← h2]; exact h1
      have hRl : Z.length - b.length = R.length := by rw [hR, List.length_drop]
      have hRb : R.length ≤ 868 := by omega
      have e1 : ((X.length : Int) != (b.length : Int) + (k : Int)) = false := by rw [HXL.out]; simp
      have e2 : ((Z.length : Int) != (X.length : Int) + 4 + (t.length : Int)) = false := by rw [HZL.out]; simp
      rw [hsplit, List.drop_left] at hR
      have HR := Lib.hid hR
      have HLP := Lib.hid LP
      have HLR := Lib.hid LR
      clear hR LP LR hcell hsplit L3
      go_wp2_with fail
      refine (from_any _ (c3 - b.length) R w3.heap.size _ HLR.out (Nat.le_refl _) (by omega)).mono ?_
      rintro e w4 ⟨g, hg, rfl, hi, hb4⟩
      have hg' : wc.heap.size ≤ g := by have := B3.out.size; omega
      have B4 := Lib.hid (B3.out.trans (hb4.mono B3.out.size))
      have I4 := Lib.hid hi
      have LP4 := Lib.hid (HLP.out.below hb4)
      have LB4 := Lib.hid (LB.out.below B4.out)
      have LT4 := Lib.hid (LT.out.below B4.out)
      clear hi hb4 hg HLP HLR
      go_wp2_with fail
      refine (same_yes _ a c3 ca w3.heap.size wc.heap.size b _ LP4.out LB4.out).mono ?_
      rintro e w' ⟨rfl, rfl⟩
      obtain ⟨low, hlow⟩ : ∃ low, low = v % 256 ^ k := ⟨_, rfl⟩
      have HLow := Lib.hid hlow
      clear hlow
      obtain ⟨wb, hwb⟩ : ∃ wb : World, wb = wc := ⟨_, rfl⟩
      subst hwb
      go_upto_if 97 with fail
      go_cut [17] (fun s17 wx => s17 = .int .u64 (low : Int) ∧ wx = w4)
      case first =>
        by_cases hk : k < 8
        · have ma := mask_low v k hv hk
          rw [← HLow.out] at ma
          go_wp2_with fail
          go_meet
          exact ⟨rfl, rfl⟩
        · obtain rfl : k = 8 := by omega
          obtain rfl : low = v := by rw [HLow.out]; omega
          go_wp2_with fail
          go_meet
          exact ⟨rfl, rfl⟩
      case rest =>
        obtain ⟨rfl, hwx⟩ := hcut
        subst hwx
        go_wp2_with fail
        refine (HI.out g R false _ I4.out).mono ?_
        rintro e w5 ⟨rfl, hi, hb5⟩
        obtain ⟨p1, p2, p3⟩ := tk_pre (n := k) (a := be k v) (be 4 t.length ++ (t ++ [])) (be_length k v)
        rw [← HR.out] at p1 p2 p3
        rw [p2, p3, Bool.or_false] at hi
        rw [p1, nat_be, ← HLow.out]
        have B5 := Lib.hid (B4.out.trans (below_only hb5 hg' B4.out.size))
        have I5 := Lib.hid hi
        clear hi hb5 p1 p2 p3 HR I4
        go_wp2_with fail
        have hRl : (be 4 t.length ++ (t ++ [])).length ≤ 140737488355328 := by simp [be_length]; omega
        refine (in_long g _ false _ I5.out hRl).mono ?_
        rintro e w7 ⟨v7, rfl, ho, hi, hb7⟩
        obtain ⟨p1, p2, p3⟩ := txt_pre 4 t [] (by rw [show 256 ^ 4 = 4294967296 from by decide]; omega)
        rw [p1] at ho
        rw [p2, p3, Bool.or_false] at hi
        have B7 := Lib.hid (B5.out.trans (below_only hb7 hg' B5.out.size))
        have I7 := Lib.hid hi
        obtain ⟨A7, c7, rfl, _, _⟩ := own_form ho
        have L7 := Lib.hid (Lies.own ho (Nat.le_refl _))
        have LT7 := Lib.hid (LT.out.below B7.out)
        clear hi hb7 p1 p2 p3 I5 hRl ho
        go_wp2_with fail
        refine (same_yes _ a' c7 ca' _ _ t _ L7.out LT7.out).mono ?_
        rintro e w' ⟨rfl, rfl⟩
        go_wp2_with fail
        refine (in_ok g _ false _ I7.out).mono ?_
        rintro e w' ⟨rfl, rfl⟩
        go_wp2_with fail
        refine (in_left g _ false _ I7.out).mono ?_
        rintro e w' ⟨rfl, rfl⟩
        go_wp2_with fail
        refine (in_rest g [] false _ I7.out (by simp)).mono ?_
        rintro e w8 ⟨v8, rfl, ho, hi, hb8⟩
        obtain ⟨A8, c8, rfl, _, _⟩ := own_form ho
        have B8' := Lib.hid (B7.out.trans (below_only hb8 hg' B7.out.size))
        have I8 := Lib.hid hi
        clear hi hb8 ho
        go_wp2_with fail
        refine (in_int g 1 [] false _ I8.out).mono ?_
        rintro e w9 ⟨rfl, hi, hb9⟩
        have B9 := Lib.hid (B8'.out.trans (below_only hb9 hg' B8'.out.size))
        have I9 : Hid (InAt w9 g [] true) := hi
        rw [show nat (tk (wid 1) []) = 0 from rfl]
        clear hi hb9
        go_wp2_with fail
        refine (in_ok g _ true _ I9.out).mono ?_
        rintro e w' ⟨rfl, rfl⟩
        go_wp2_with fail
        refine (awake_any _).mono ?_
        rintro e w10 ⟨rfl, hb10⟩
        go_wp2_with fail
        go_ret
        exact ⟨rfl, B9.out.trans (hb10.mono B9.out.size)⟩
end Go.Proofs.Ytpfenhlclegalaa
