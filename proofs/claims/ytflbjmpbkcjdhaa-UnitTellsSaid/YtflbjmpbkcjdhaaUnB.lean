/- Contracts of package unit: fits, short, octets. -/
import Derived.Test.YtflbjmpbkcjdhaaUnA
import Derived.Test.YtflbjmpbkcjdhaaOctsSL
import Derived.IntWalk
import Derived.Deep.RegionWith
import Derived.Deep.DeepCutAuto
import Derived.Deep.DeepMust
import Derived.Deep.RegionHeld3
namespace Go.Proofs.Ytflbjmpbkcjdhaa
open Go.RowKit
set_option maxRecDepth 100000
set_option linter.unusedSimpArgs false
set_option linter.unusedVariables false

theorem ufits_any (m : Om) (w : World) (hk : m.o.key.length ≤ maxLen) (hv : m.o.val.length ≤ maxLen) :
    Calls Try.prog 19 #[omV m] w fun e w' => e = .returned (.bool (fitO m.o)) ∧ Below w.heap.size w w' := by
  rcases m with ⟨⟨key, del, val⟩, A, c⟩
  simp only at hk hv
  unfold maxLen at hk hv
  unfold omV
  simp only
  have BX := Lib.hid ((Below.refl w.heap.size w).alloc (Nat.le_refl _) (.cells #[.string ⟨key.toArray⟩, .bool del, .slice A val.length c] 24))
  have hz := size_arr key
  by_cases k0 : key = []
  · subst k0
    have F : Hid (fitO ⟨[], del, val⟩ = false) := Lib.hid rfl
    go_enter Try.func19, Try.ntmps19
    go_wp2_with fail
    go_ret
    rw [F.out]
    exact ⟨rfl, BX.out⟩
  have hne : ¬ ((⟨key.toArray⟩ : ByteArray) = ⟨#[]⟩) := by
    intro h
    apply k0
    have h2 := congrArg (fun b : ByteArray => b.data.toList) h
    simpa using h2
  have k1 : 1 ≤ key.length := List.length_pos_iff.2 k0
  have he : (⟨key.toArray⟩ : ByteArray).toList.isEmpty = false := by rw [ByteArray.toList_eq]; simpa using k0
  by_cases h130 : 130 < key.length
  · have F : Hid (fitO ⟨key, del, val⟩ = false) := Lib.hid (by unfold fitO; simp only; rw [decide_eq_false (show ¬ key.length ≤ 130 by omega)]; simp)
    have q : (130 : Int) < key.length := by omega
    generalize (⟨key.toArray⟩ : ByteArray) = K at *
    go_enter Try.func19, Try.ntmps19
    go_wp2_with fail
    go_ret
    rw [F.out]
    exact ⟨rfl, BX.out⟩
  have q1 : (key.length : Int) ≤ 130 := by omega
  by_cases h11 : 11000 < val.length
  · have F : Hid (fitO ⟨key, del, val⟩ = false) := Lib.hid (by unfold fitO; simp only; rw [decide_eq_false (show ¬ val.length ≤ 11000 by omega)]; simp)
    have q : (11000 : Int) < val.length := by omega
    generalize (⟨key.toArray⟩ : ByteArray) = K at *
    go_enter Try.func19, Try.ntmps19
    go_wp2_with fail
    go_ret
    rw [F.out]
    exact ⟨rfl, BX.out⟩
  have q2 : (val.length : Int) ≤ 11000 := by omega
  have F : Hid (fitO ⟨key, del, val⟩ = (!del || decide (val.length = 0))) := Lib.hid (by unfold fitO; simp only; rw [decide_eq_true k1, decide_eq_true (show key.length ≤ 130 by omega), decide_eq_true (show val.length ≤ 11000 by omega)]; simp)
  generalize (⟨key.toArray⟩ : ByteArray) = K at *
  cases del with
  | false =>
    go_enter Try.func19, Try.ntmps19
    go_wp2_with fail
    go_ret
    rw [F.out]
    exact ⟨rfl, BX.out⟩
  | true =>
    have EQ : Hid (((val.length : Int) == 0) = decide (val.length = 0)) := Lib.hid (by by_cases h : val.length = 0 <;> simp [h])
    go_enter Try.func19, Try.ntmps19
    go_wp2_with fail
    go_ret
    refine ⟨?_, BX.out⟩
    rw [F.out]
    show Ending.returned (.bool ((val.length : Int) == 0)) = _
    rw [EQ.out]
    rfl

theorem ushort_any (A : Option Addr) (c n : Nat) (l : List UInt8) (B : Nat) (t : List UInt8) (w : World) (hn : n = l.length) (hl : Lies w B A (B8 l)) (hB : B ≤ w.heap.size) (hs : l.length + 264 ≤ 140737488355328) (h255 : t.length ≤ 255) :
    Calls Try.prog 27 #[.slice A n c, .string ⟨t.toArray⟩] w (NewOcts w.heap.size (l ++ (be 1 t.length ++ t)) w) := by
  subst hn
  have h := fun w' (hl : Lies w' B A (B8 l)) (hB : B ≤ w'.heap.size) => short_any A c l B ⟨t.toArray⟩ w' hl hB hs (by rw [size_arr]; exact h255)
  have H := Lib.hid h
  have HL := Lib.hid hl
  clear h hl
  go_enter Try.func27, Try.ntmps27
  go_wp2_with fail
  refine (H.out _ HL.out hB).mono ?_
  rintro e w1 ⟨v, rfl, ho, hb⟩
  rw [size_arr, List.append_assoc] at ho
  have HO := Lib.hid ho
  clear ho
  go_wp2_with fail
  go_ret
  exact ⟨_, rfl, HO.out, hb⟩
theorem uint_at (A : Option Addr) (c m : Nat) (l : List UInt8) (B : Nat) (x : Nat) (w : World) (hm : m = l.length) (hl : Lies w B A (B8 l)) (hB : B ≤ w.heap.size) (hs : l.length + 8 ≤ 140737488355328) :
    Calls Try.prog 28 #[.slice A m c, .int .i64 1, .int .u64 x] w (NewOcts w.heap.size (l ++ be 1 x) w) := by
  subst hm
  have h := int_any A c l B 1 x w hl hB hs
  rwa [show wid 1 = 1 from rfl] at h
theorem ulong_at (A : Option Addr) (c n : Nat) (l : List UInt8) (B : Nat) (A' : Option Addr) (c' n' : Nat) (s : List UInt8) (w : World) (hn : n = l.length) (hn' : n' = s.length) (hl : Lies w B A (B8 l)) (hl' : Lies w B A' (B8 s)) (hB : B ≤ w.heap.size) (hs : l.length + s.length + 8 ≤ 140737488355328) :
    Calls Try.prog 29 #[.slice A n c, .slice A' n' c'] w (NewOcts w.heap.size (l ++ be 4 s.length ++ s) w) := by
  subst hn hn'
  exact long_any A c l B A' c' s w hl hl' hB hs
set_option maxHeartbeats 1000000 in
theorem uoctets_any (m : Om) (B : Nat) (w : World) (hv : ValAt w B m) (hB : B ≤ w.heap.size) (hf : fitO m.o = true) :
    Calls Try.prog 20 #[omV m] w (NewOcts w.heap.size (opB m.o) w) := by
  obtain ⟨h1, h2, h3, h4⟩ := fitO_is hf
  rcases m with ⟨⟨key, del, val⟩, A, c⟩
  obtain ⟨hl, hlc, hcm⟩ := hv
  simp only at h1 h2 h3 h4 hl hlc hcm
  unfold maxLen at hcm
  unfold omV opB
  simp only
  obtain ⟨W0, hW0⟩ : ∃ W, W = w.alloc (.cells #[.string ⟨key.toArray⟩, .bool del, .slice A val.length c] 24) := ⟨_, rfl⟩
  have b0 : Below w.heap.size w W0.drew := by rw [hW0]; exact ((Below.refl w.heap.size w).alloc (Nat.le_refl _) _).drew
  have X : Whole W0.drew w.heap.size 24 #[.string ⟨key.toArray⟩, .bool del, .slice A val.length c] := by rw [hW0]; exact Whole.new w _ _
  have c1 : W0.cell? ⟨w.heap.size, 1, none⟩ = some (.bool del) := X.cell 1
  have KD := Lib.hid X
  have BD := Lib.hid b0
  have HL := Lib.hid (hl.below (b0.mono hB))
  have g0 : W0.drew.cell? ⟨w.heap.size, 0, none⟩ = some (.string ⟨key.toArray⟩) := X.cell 0
  have g2 : W0.drew.cell? ⟨w.heap.size, 2, none⟩ = some (.slice A val.length c) := X.cell 2
  have hz : w.heap.size < W0.drew.heap.size := X.lt
  have HB := Lib.hid hB
  have HW0 := Lib.hid hW0
  clear X b0 hl hB hW0 h4 hf
  cases del with
  | true =>
    simp only [if_true]
    have e0 : [] ++ be 1 2 ++ (be 1 key.length ++ key) = headB 2 key := by simp [headB]
    have E0 := Lib.hid e0
    clear e0
    go_enter Try.func20, Try.ntmps20
    go_upto_region 1 with fail
    rw [← HW0.out]
    go_upto_region 2 with fail
    go_region_with (first
      | (go_at_call 28; go_must (refine (uint_at none 0 0 [] 0 2 _ rfl (Lies.empty _ _ _) (Nat.zero_le _) (by simp)).mono ?_); rintro e w1 ⟨v1, rfl, ho1, hb1⟩; obtain ⟨A1, c1, rfl, _, _⟩ := own_form ho1; have MD := Lib.hid (Lies.own ho1 (Nat.le_refl _)); have BD := Lib.hid (BD.out.trans (hb1.mono BD.out.size)); have KD := Lib.hid (KD.out.below hb1 KD.out.lt); clear g0 g2; have g0 : w1.cell? ⟨w.heap.size, 0, none⟩ = some (.string ⟨key.toArray⟩) := KD.out.cell 0; have g2 : w1.cell? ⟨w.heap.size, 2, none⟩ = some (.slice A val.length c) := KD.out.cell 2; clear ho1 hb1)
      | (go_at_call 27; go_must (refine (ushort_any A1 c1 _ _ _ key _ rfl MD.out (Nat.le_refl _) (by simp [be_length]) (by omega)).mono ?_); rintro e w2 ⟨v2, rfl, ho2, hb2⟩; have D : Hid (NewOcts w.heap.size (headB 2 key) w (.returned v2) w2) := (by rw [E0.out] at ho2; exact ⟨v2, rfl, own_less ho2 BD.out.size, BD.out.trans (hb2.mono BD.out.size)⟩); clear ho2 hb2))
    all_goals (go_wp2_with fail; go_ret; exact D.out)
  | false =>
    simp only [Bool.false_eq_true, if_false]
    have e0 : [] ++ be 1 1 ++ (be 1 key.length ++ key) = headB 1 key := by simp [headB]
    have E0 := Lib.hid e0
    have hhl : (headB 1 key).length = 2 + key.length := by unfold headB; simp [be_length]; omega
    obtain ⟨H, hH⟩ : ∃ H, H = headB 1 key := ⟨_, rfl⟩
    rw [← hH] at hhl
    have HH := Lib.hid hH
    have HHL := Lib.hid hhl
    clear e0 hH hhl
    go_enter Try.func20, Try.ntmps20
    go_upto_region 1 with fail
    rw [← HW0.out]
    go_upto_region 3 with fail
    refine wp_region_held_drew (S := (fun w' => w'.cell? ⟨w.heap.size, 0, none⟩ = some (.string ⟨key.toArray⟩) ∧ w'.cell? ⟨w.heap.size, 2, none⟩ = some (.slice A val.length c))) (by kernel_rfl) ⟨g0, g2⟩ (fun hS0 => ?_)
    refine wpAnyH_take (i := 1) (oi := ⟨some 10, _, _, _, _, _⟩) (v := ?_) rfl (by kernel_rfl) (by kernel_rfl) (by kernel_rfl) (fun _ _ _ h => h) (Or.inl ⟨by rfl, ?_⟩) hS0 ?_
    rotate_left
    · (intro wS hSw; (try dsimp only at hSw); go_simp); all_goals (with_reducible rfl)
    try simp only [Act.put, List.setIfInBounds_toArray, List.set_cons_zero, List.set_cons_succ]
    refine wpAnyH_take (i := 2) (oi := ⟨some 11, _, _, _, _, _⟩) (v := ?_) rfl (by kernel_rfl) (by kernel_rfl) (by kernel_rfl) (fun _ _ _ h => h) (Or.inl ⟨by rfl, ?_⟩) hS0 ?_
    rotate_left
    · (intro wS hSw; (try dsimp only at hSw); go_simp); all_goals (with_reducible rfl)
    try simp only [Act.put, List.setIfInBounds_toArray, List.set_cons_zero, List.set_cons_succ]
    refine wpAnyH_take (i := 4) (oi := ⟨some 13, _, _, _, _, _⟩) (v := ?_) rfl (by kernel_rfl) (by kernel_rfl) (by kernel_rfl) (fun _ _ _ h => h) (Or.inl ⟨by rfl, ?_⟩) hS0 ?_
    rotate_left
    · (intro wS hSw; (try dsimp only at hSw); go_simp); all_goals (with_reducible rfl)
    try simp only [Act.put, List.setIfInBounds_toArray, List.set_cons_zero, List.set_cons_succ]
    refine wpAnyH_take (i := 5) (oi := ⟨some 14, _, _, _, _, _⟩) (v := ?_) rfl (by kernel_rfl) (by kernel_rfl) (by kernel_rfl) (fun _ _ _ h => h) (Or.inl ⟨by rfl, ?_⟩) hS0 ?_
    rotate_left
    · (intro wS hSw; (try dsimp only at hSw); go_simp); all_goals (with_reducible rfl)
    try simp only [Act.put, List.setIfInBounds_toArray, List.set_cons_zero, List.set_cons_succ]
    refine wpAnyH_ready (rs := [0]) (by kernel_rfl) (by simp) ?_
    refine AllReadyH.cons (o := ⟨some 9, _, _, _, _, _⟩) rfl (fun K hK => ?_) AllReadyH.nil
    go_simp
    refine (uint_at none 0 0 [] 0 1 _ rfl (Lies.empty _ _ _) (Nat.zero_le _) (by simp)).mono ?_
    rintro e w1 ⟨v1, rfl, ho1, hb1⟩
    obtain ⟨A1, c1, rfl, _, _⟩ := own_form ho1
    have MD := Lib.hid (Lies.own ho1 (Nat.le_refl _))
    have HL := Lib.hid (HL.out.below (hb1.mono (by have := HB.out; omega)))
    have BD := Lib.hid (BD.out.trans (hb1.mono BD.out.size))
    have KD := Lib.hid (KD.out.below hb1 KD.out.lt)
    clear ho1 hb1 g0 g2 hz
    have hz : w.heap.size < w1.heap.size := KD.out.lt
    have g0 : w1.cell? ⟨w.heap.size, 0, none⟩ = some (.string ⟨key.toArray⟩) := KD.out.cell 0
    have g2 : w1.cell? ⟨w.heap.size, 2, none⟩ = some (.slice A val.length c) := KD.out.cell 2
    go_wp2_with fail
    refine hK.out _ _ ⟨g0, g2⟩ (fun hS0 => ?_)
    clear hK K
    try simp only [Act.put, List.setIfInBounds_toArray, List.set_cons_zero, List.set_cons_succ]
    refine wpAnyH_ready (rs := [3]) (by kernel_rfl) (by simp) ?_
    refine AllReadyH.cons (o := ⟨some 12, _, _, _, _, _⟩) rfl (fun K hK => ?_) AllReadyH.nil
    go_simp
    refine (ushort_any A1 c1 _ _ _ key _ rfl MD.out (Nat.le_refl _) (by simp [be_length]) (by omega)).mono ?_
    rintro e w2 ⟨v2, rfl, ho2, hb2⟩
    rw [E0.out, ← HH.out] at ho2
    obtain ⟨A2, c2, rfl, _, _⟩ := own_form ho2
    have MD := Lib.hid (Lies.own ho2 (Nat.le_refl _))
    have HL := Lib.hid (HL.out.below (hb2.mono (by have := HB.out; omega)))
    have BD := Lib.hid (BD.out.trans (hb2.mono BD.out.size))
    have KD := Lib.hid (KD.out.below hb2 KD.out.lt)
    clear ho2 hb2 g0 g2 hz
    have hz : w.heap.size < w2.heap.size := KD.out.lt
    have g0 : w2.cell? ⟨w.heap.size, 0, none⟩ = some (.string ⟨key.toArray⟩) := KD.out.cell 0
    have g2 : w2.cell? ⟨w.heap.size, 2, none⟩ = some (.slice A val.length c) := KD.out.cell 2
    go_wp2_with fail
    refine hK.out _ _ ⟨g0, g2⟩ (fun hS3 => ?_)
    clear hK K
    try simp only [Act.put, List.setIfInBounds_toArray, List.set_cons_zero, List.set_cons_succ]
    refine wpAnyH_ready (rs := [6]) (by kernel_rfl) (by simp) ?_
    refine AllReadyH.cons (o := ⟨some 15, _, _, _, _, _⟩) rfl (fun K hK => ?_) AllReadyH.nil
    go_simp
    refine (ulong_at A2 c2 _ H _ A c _ val _ rfl rfl MD.out (HL.out.more (by have := HB.out; omega)) (Nat.le_refl _) (by have := HHL.out; omega)).mono ?_
    rintro e w3 ⟨v3, rfl, ho3, hb3⟩
    have D : Hid (NewOcts w.heap.size (headB 1 key ++ be 4 val.length ++ val) w (.returned v3) w3) := by
      rw [HH.out] at ho3
      exact ⟨v3, rfl, own_less ho3 BD.out.size, BD.out.trans (hb3.mono BD.out.size)⟩
    have HL := Lib.hid (HL.out.below (hb3.mono (by have := HB.out; omega)))
    have BD := Lib.hid (BD.out.trans (hb3.mono BD.out.size))
    have KD := Lib.hid (KD.out.below hb3 KD.out.lt)
    clear ho3 hb3 g0 g2 hz
    have hz : w.heap.size < w3.heap.size := KD.out.lt
    have g0 : w3.cell? ⟨w.heap.size, 0, none⟩ = some (.string ⟨key.toArray⟩) := KD.out.cell 0
    have g2 : w3.cell? ⟨w.heap.size, 2, none⟩ = some (.slice A val.length c) := KD.out.cell 2
    go_wp2_with fail
    refine hK.out _ _ ⟨g0, g2⟩ (fun hS6 => ?_)
    clear hK K
    try simp only [Act.put, List.setIfInBounds_toArray, List.set_cons_zero, List.set_cons_succ]
    refine wpAnyH_take (i := 7) (oi := ⟨some 2, _, _, _, _, _⟩) (v := ?_) rfl (by kernel_rfl) (by kernel_rfl) (by kernel_rfl) (fun _ _ _ h => h) (Or.inl ⟨by rfl, ?_⟩) hS6 ?_
    rotate_left
    · (intro wS hSw; (try dsimp only at hSw); go_simp); all_goals (with_reducible rfl)
    try simp only [Act.put, List.setIfInBounds_toArray, List.set_cons_zero, List.set_cons_succ]
    refine wpAnyH_done (by kernel_rfl) ?_ _
    go_wp2_with fail
    go_ret
    exact D.out
end Go.Proofs.Ytflbjmpbkcjdhaa
