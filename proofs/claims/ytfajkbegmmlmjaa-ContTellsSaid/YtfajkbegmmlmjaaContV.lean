/- Contracts of the document's own answer for layer 5: what octets are as a head. -/
import Derived.Test.YtfajkbegmmlmjaaContU
namespace Go.Proofs.Ytfajkbegmmlmjaa
open Go.RowKit
set_option maxRecDepth 100000
set_option linter.unusedSimpArgs false
set_option linter.unusedVariables false

theorem num_some (A : Option Addr) (c n B : Nat) (l : List UInt8) (p k : Nat) (w : World) (hn : n = l.length) (hl : Lies w B A (B8 l)) (hs : l.length ≤ 140737488355328) (hp : p ≤ 100) (hk : k ≤ 8) :
    Calls Try.prog 10 #[.slice A n c, .int .i64 p, .int .i64 k] w fun e w' => (∃ (x : Nat) (ok : Bool), e = .returned (.tuple #[.int .u64 x, .bool ok])) ∧ w = w' := by
  subst hn
  by_cases h : p ≤ l.length
  · refine (num_any A c B l p k w hl h hk hs).mono ?_
    rintro e w' ⟨h1, h2⟩
    exact ⟨⟨_, _, h1⟩, h2⟩
  · refine (num_out A c l.length p k w (by omega) (by omega) hp hk).mono ?_
    rintro e w' ⟨h1, h2⟩
    exact ⟨⟨0, false, h1⟩, h2⟩
theorem num_at' (A : Option Addr) (c n B : Nat) (l : List UInt8) (p k x : Nat) (w : World) (hn : n = l.length) (hl : Lies w B A (B8 l)) (hp : p + k ≤ l.length) (hk : k ≤ 8) (hs : l.length ≤ 140737488355328) (hx : nat ((l.drop p).take k) = x) :
    Calls Try.prog 10 #[.slice A n c, .int .i64 p, .int .i64 k] w fun e w' => e = .returned (.tuple #[.int .u64 x, .bool true]) ∧ w = w' := by
  subst hn
  have hdl : (l.drop p).length = l.length - p := List.length_drop
  refine (num_any A c B l p k w hl (by omega) hk hs).mono ?_
  rw [tk_yes (by omega), hx, short_no (by omega)]
  exact fun e w' h => h
theorem headQ_flags2 {c s f : Nat} {r : List UInt8} {bad : Bool} {x : Nat × Nat × List UInt8} (h : headQ c s f r bad = some x) : ∃ m t, x = (s, m, t) ∧ f = hflags t (m : Int) := by
  unfold headQ at h
  split at h
  · rename_i h1
    injection h with h
    exact ⟨_, _, h.symm, h1.2.2.2.1⟩
  · cases h
theorem flags_only (f : Nat) (hf : f < 65536) (h : f &&& 28671 = 0) : f = 32768 * (f / 32768 % 2) + 4096 * (f / 4096 % 2) := by
  have h1 : ∀ k, f &&& (28671 &&& k) = 0 := fun k => by rw [← Nat.and_assoc, h, Nat.zero_and]
  have a1 : f &&& 4095 = 0 := h1 4095
  have a2 : f &&& 8192 = 0 := h1 8192
  have a3 : f &&& 16384 = 0 := h1 16384
  have b1 : f % 4096 = 0 := by
    have := Nat.and_two_pow_sub_one_eq_mod f 12
    rw [show (2 : Nat) ^ 12 - 1 = 4095 from rfl, a1] at this
    exact this.symm
  have b2 : f / 8192 % 2 = 0 := by
    have h2 : f &&& 8192 = if f / 8192 % 2 = 1 then 8192 else 0 := and_pow f 13
    rw [a2] at h2
    split at h2 <;> omega
  have b3 : f / 16384 % 2 = 0 := by
    have h2 : f &&& 16384 = if f / 16384 % 2 = 1 then 16384 else 0 := and_pow f 14
    rw [a3] at h2
    split at h2 <;> omega
  omega
theorem hflags_mask (t : List UInt8) (m : Int) : hflags t m &&& 28671 = 0 := by
  unfold hflags
  split <;> split <;> decide
theorem head14 (b : List UInt8) (h : 14 ≤ b.length) : nat (tk 4 b) = nat (b.take 2) * 65536 + nat ((b.drop 2).take 2) ∧ hS b = nat ((b.drop 4).take 8) ∧ hF b = nat ((b.drop 12).take 2) ∧ hR3 b = b.drop 14 ∧ hBad3 b = false := by
  have r1 : rst 4 b = b.drop 4 := rst_yes (by omega)
  have l1 : (b.drop 4).length = b.length - 4 := List.length_drop
  have r2 : rst 8 (b.drop 4) = b.drop 12 := by rw [rst_yes (by omega), List.drop_drop]
  have l2 : (b.drop 12).length = b.length - 12 := List.length_drop
  have r3 : rst 2 (b.drop 12) = b.drop 14 := by rw [rst_yes (by omega), List.drop_drop]
  have l3 : (b.drop 2).length = b.length - 2 := List.length_drop
  unfold hS hF hR3 hBad3
  rw [r1, r2, r3, tk_yes (show 4 ≤ b.length by omega), tk_yes (show 8 ≤ (b.drop 4).length by omega), tk_yes (show 2 ≤ (b.drop 12).length by omega), short_no (show 4 ≤ b.length by omega), short_no (show 8 ≤ (b.drop 4).length by omega), short_no (show 2 ≤ (b.drop 12).length by omega)]
  refine ⟨?_, rfl, rfl, rfl, rfl⟩
  have e : b.take 4 = b.take 2 ++ (b.drop 2).take 2 := by rw [← List.take_add]
  have e2 : ((b.drop 2).take 2).length = 2 := by rw [List.length_take]; omega
  have h3 : ∀ (x y : List UInt8), nat (x ++ y) = nat x * 256 ^ y.length + nat y := by
    intro x y
    induction x with
    | nil => simp [nat]
    | cons c x ih => rw [List.cons_append, nat_cons, ih, nat_cons, List.length_append, Nat.pow_add, Nat.add_mul]; simp only [Nat.mul_assoc, Nat.add_assoc]
  rw [e, h3, e2]
theorem head_less (b : List UInt8) (h : b.length < 14) : headP b = none := by
  have hb : hBad3 b = true := by
    unfold hBad3
    by_cases h1 : b.length < 4
    · rw [short_yes h1]; rfl
    · rw [rst_yes (show 4 ≤ b.length by omega)]
      have l1 : (b.drop 4).length = b.length - 4 := List.length_drop
      by_cases h2 : b.length < 12
      · rw [short_yes (show (b.drop 4).length < 8 by omega)]; simp
      · rw [rst_yes (show 8 ≤ (b.drop 4).length by omega), List.drop_drop]
        have l2 : (b.drop (4 + 8)).length = b.length - 12 := List.length_drop
        rw [short_yes (show (b.drop (4 + 8)).length < 2 by omega)]; simp
  unfold headP
  rw [hb]
  unfold headQ
  rw [if_neg]
  rintro ⟨h, _⟩
  unfold hBad5 hBad4 at h
  split at h <;> split at h <;> simp at h

theorem num_out2 (A : Option Addr) (c n p k : Nat) (w : World) (hn : n ≤ 140737488355328) (h : n < p + k) (hp : p ≤ n) (hk : k ≤ 8 := by omega) :
    Calls Try.prog 10 #[.slice A n c, .int .i64 p, .int .i64 k] w fun e w' => e = .returned (.tuple #[.int .u64 0, .bool false]) ∧ w = w' := by
  have h1 : (n : Int) - (p : Int) < (k : Int) := by omega
  go_enter Try.func10, Try.ntmps10
  go_wp2_with fail
  go_ret2
  exact ⟨rfl, rfl⟩

/-- what stands while a head is read off -/
structure HAt (w wx : World) (F s m : Nat) (t : List UInt8) : Prop where
  lo : w.heap.size < F
  hd : Whole wx F 25 #[.int .u64 s, .int .i64 m, .string ⟨t.toArray⟩]
  zr : Whole wx w.heap.size 25 #[.int .u64 0, .int .i64 0, .string ⟨#[]⟩]
  bel : Below w.heap.size w wx
section
variable {w wx : World} {F s m : Nat} {t : List UInt8}
theorem HAt.set (h : HAt w wx F s m t) (i : Nat) (u : Value) (m' : Nat) (t' : List UInt8) (he : (#[Value.int .u64 s, .int .i64 m, .string ⟨t.toArray⟩] : Array Value).setIfInBounds i u = #[.int .u64 s, .int .i64 m', .string ⟨t'.toArray⟩]) : HAt w (wx.setCell ⟨F, i, none⟩ u) F s m' t' := by
  have hlo := h.lo
  refine ⟨h.lo, ?_, ?_, h.bel.setCell (p := ⟨F, i, none⟩) (by show w.heap.size ≤ F; omega) u⟩
  · have h1 := h.hd.put i u
    rw [he] at h1
    exact h1
  · exact h.zr.below (B := F) ((Below.refl F wx).setCell (p := ⟨F, i, none⟩) (Nat.le_refl _) u) (by omega)
theorem HAt.ended (h : HAt w wx F s m t) (v0 v1 v2 : Value) : Whole (((wx.setCell ⟨w.heap.size, 0, none⟩ v0).setCell ⟨w.heap.size, 1, none⟩ v1).setCell ⟨w.heap.size, 2, none⟩ v2) w.heap.size 25 #[v0, v1, v2] ∧
    Below w.heap.size w (((wx.setCell ⟨w.heap.size, 0, none⟩ v0).setCell ⟨w.heap.size, 1, none⟩ v1).setCell ⟨w.heap.size, 2, none⟩ v2) :=
  ⟨((h.zr.put 0 v0).put 1 v1).put 2 v2, ((h.bel.setCell (p := ⟨w.heap.size, 0, none⟩) (Nat.le_refl _) v0).setCell (p := ⟨w.heap.size, 1, none⟩) (Nat.le_refl _) v1).setCell (p := ⟨w.heap.size, 2, none⟩) (Nat.le_refl _) v2⟩
end
theorem zero_ended {w wx : World} (zr : Whole wx w.heap.size 25 #[.int .u64 0, .int .i64 0, .string ⟨#[]⟩]) (bel : Below w.heap.size w wx) (v0 v1 v2 : Value) : Whole (((wx.setCell ⟨w.heap.size, 0, none⟩ v0).setCell ⟨w.heap.size, 1, none⟩ v1).setCell ⟨w.heap.size, 2, none⟩ v2) w.heap.size 25 #[v0, v1, v2] ∧
    Below w.heap.size w (((wx.setCell ⟨w.heap.size, 0, none⟩ v0).setCell ⟨w.heap.size, 1, none⟩ v1).setCell ⟨w.heap.size, 2, none⟩ v2) :=
  ⟨((zr.put 0 v0).put 1 v1).put 2 v2, ((bel.setCell (p := ⟨w.heap.size, 0, none⟩) (Nat.le_refl _) v0).setCell (p := ⟨w.heap.size, 1, none⟩) (Nat.le_refl _) v1).setCell (p := ⟨w.heap.size, 2, none⟩) (Nat.le_refl _) v2⟩

set_option maxHeartbeats 4000000 in
theorem rheadof_any (A : Option Addr) (c n : Nat) (b : List UInt8) (B : Nat) (w : World) (hn : n = b.length) (hl : Lies w B A (B8 b)) (hB : B ≤ w.heap.size) (hs : b.length ≤ 140737488355328) (hc : b.length ≤ c) (hcm : c ≤ maxLen) :
    Calls Try.prog 13 #[.slice A n c] w (HeadIs (headP b) w) := by
  subst hn
  obtain ⟨P, hP⟩ : ∃ P, P = headP b := ⟨_, rfl⟩
  rw [← hP]
  have HP := Lib.hid hP
  obtain ⟨w0, hw0⟩ : ∃ w0, w0 = w.alloc (.cells #[.int .u64 0, .int .i64 0, .string ⟨#[]⟩] 25) := ⟨_, rfl⟩
  have hb0 : Below w.heap.size w w0 := by rw [hw0]; exact (Below.refl _ _).alloc (Nat.le_refl _) _
  have hs0 : w0.heap.size = w.heap.size + 1 := by rw [hw0]; simp
  have hk0 : Whole w0 w.heap.size 25 #[.int .u64 0, .int .i64 0, .string ⟨#[]⟩] := by rw [hw0]; exact Whole.new _ _ _
  have HW0 := Lib.hid hw0
  have HB0 := Lib.hid hb0
  have HS0 := Lib.hid hs0
  have HK0 := Lib.hid hk0
  have HL := Lib.hid (hl.below (hb0.mono hB))
  have z0 : w0.cell? ⟨w.heap.size, 0, none⟩ = some (.int .u64 0) := hk0.cell 0
  have z1 : w0.cell? ⟨w.heap.size, 1, none⟩ = some (.int .i64 0) := hk0.cell 1
  have z2 : w0.cell? ⟨w.heap.size, 2, none⟩ = some (.string ⟨#[]⟩) := hk0.cell 2
  have y0 : w0.frozen? ⟨w.heap.size, 0, none⟩ = false := hk0.frozen 0
  have y1 : w0.frozen? ⟨w.heap.size, 1, none⟩ = false := hk0.frozen 1
  have y2 : w0.frozen? ⟨w.heap.size, 2, none⟩ = false := hk0.frozen 2
  clear hP hl hw0 hb0 hs0 hk0
  by_cases h14 : 14 ≤ b.length
  case neg =>
    have DP : Hid (P = none) := Lib.hid (by rw [HP.out]; exact head_less b (by omega))
    have hlt : b.length < 12 + 2 := by omega
    clear h14
    go_enter Try.func13, Try.ntmps13
    go_wp2_with fail
    rw [← HW0.out]
    refine (num_some A c b.length B b 0 2 _ rfl HL.out hs (by omega) (by omega)).mono ?_
    rintro e w1 ⟨⟨k1, o1, rfl⟩, hw1⟩
    subst hw1
    go_wp2_with fail
    refine (num_some A c b.length B b 2 2 _ rfl HL.out hs (by omega) (by omega)).mono ?_
    rintro e w1 ⟨⟨k2, o2, rfl⟩, hw1⟩
    subst hw1
    go_wp2_with fail
    refine (num_some A c b.length B b 4 8 _ rfl HL.out hs (by omega) (by omega)).mono ?_
    rintro e w1 ⟨⟨k3, o3, rfl⟩, hw1⟩
    subst hw1
    go_wp2_with fail
    refine (num_out A c b.length 12 2 _ (by omega) hlt (by omega) (by omega)).mono ?_
    rintro e w1 ⟨rfl, hw1⟩
    subst hw1
    go_wp2_with fail
    obtain ⟨hfw, hfb⟩ := zero_ended HK0.out HB0.out (.int .u64 0) (.int .i64 0) (.string ⟨#[]⟩)
    have e0 := hfw.cell 0
    have e1 := hfw.cell 1
    have e2 := hfw.cell 2
    exact bodyPost_ret (v := .tuple #[.agg #[.int .u64 0, .int .i64 0, .string ⟨#[]⟩], .int .i64 4]) (by simp [results, Try.results13, go_sem, e0, e1, e2]) rfl (HeadIs.no DP.out hfb)
  case pos =>
    obtain ⟨g1, g2, g3, g4, g5⟩ := head14 b h14
    obtain ⟨k1, hk1⟩ : ∃ k, k = nat (b.take 2) := ⟨_, rfl⟩
    obtain ⟨k2, hk2⟩ : ∃ k, k = nat ((b.drop 2).take 2) := ⟨_, rfl⟩
    obtain ⟨s, hs8⟩ : ∃ k, k = nat ((b.drop 4).take 8) := ⟨_, rfl⟩
    obtain ⟨f, hf⟩ : ∃ k, k = nat ((b.drop 12).take 2) := ⟨_, rfl⟩
    obtain ⟨r, hr⟩ : ∃ r, r = b.drop 14 := ⟨_, rfl⟩
    have PQ : Hid (P = headQ (k1 * 65536 + k2) s f r false) := Lib.hid (by rw [HP.out]; unfold headP; rw [g1, g2, g3, g4, g5, ← hk1, ← hk2, ← hs8, ← hf, ← hr])
    have hfl : f < 65536 := by rw [hf, ← g3]; exact hF_lt b
    have hk2l : k2 < 65536 := by
      have h1 := nat_lt ((b.drop 2).take 2)
      have h2 : ((b.drop 2).take 2).length ≤ 2 := by rw [List.length_take]; omega
      have h3 : 256 ^ ((b.drop 2).take 2).length ≤ 256 ^ 2 := Nat.pow_le_pow_right (by omega) h2
      rw [hk2]
      omega
    have HK1 := Lib.hid hk1
    have HK2 := Lib.hid hk2
    have HS8 := Lib.hid hs8
    have HFF := Lib.hid hf
    have HR := Lib.hid hr
    have NO : Hid (∀ (v : Option (Nat × Nat × List UInt8)), (k1 ≠ 60 ∨ k2 ≠ 0 ∨ f &&& 28671 ≠ 0) → P = none) := Lib.hid (by
      intro _ h
      rw [PQ.out]
      cases hQ : headQ (k1 * 65536 + k2) s f r false with
      | none => rfl
      | some x =>
        exfalso
        have hQ' := hQ
        obtain ⟨m, t, _, hff⟩ := headQ_flags2 hQ
        unfold headQ at hQ'
        split at hQ'
        · rename_i h1
          have h2 := h1.2.2.1
          have h3 := hflags_mask t (m : Int)
          rw [← hff] at h3
          omega
        · cases hQ')
    have hand : bits .and .u64 (f : Int) 28671 = ((f &&& 28671 : Nat) : Int) := u64_and_nat f 28671 (by omega) (by omega)
    have fo := flags_only f hfl
    obtain ⟨q, hq⟩ : ∃ q, q = f &&& 28671 := ⟨_, rfl⟩
    rw [← hq] at hand fo
    have b15 := bit15 f hfl
    have b12 := bit12 f hfl
    have HQ := Lib.hid hq
    have FO := Lib.hid fo
    have B15 := Lib.hid b15
    have B12 := Lib.hid b12
    clear g1 g2 g3 g4 g5 hk1 hk2 hs8 hf hr hq b15 b12 fo
    go_enter Try.func13, Try.ntmps13
    go_wp2_with fail
    rw [← HW0.out]
    refine (num_at' A c b.length B b 0 2 k1 _ rfl HL.out (by omega) (by omega) hs (by rw [HK1.out]; rfl)).mono ?_
    rintro e w1 ⟨rfl, hw1⟩
    subst hw1
    go_wp2_with fail
    refine (num_at' A c b.length B b 2 2 k2 _ rfl HL.out (by omega) (by omega) hs HK2.out.symm).mono ?_
    rintro e w1 ⟨rfl, hw1⟩
    subst hw1
    go_wp2_with fail
    refine (num_at' A c b.length B b 4 8 s _ rfl HL.out (by omega) (by omega) hs HS8.out.symm).mono ?_
    rintro e w1 ⟨rfl, hw1⟩
    subst hw1
    go_wp2_with fail
    refine (num_at' A c b.length B b 12 2 f _ rfl HL.out (by omega) (by omega) hs HFF.out.symm).mono ?_
    rintro e w1 ⟨rfl, hw1⟩
    subst hw1
    by_cases h1 : k1 = 60
    case neg =>
      have DP : Hid (P = none) := Lib.hid (NO.out none (.inl h1))
      have hki : ((k1 : Int) != 60) = true := by simp; omega
      go_wp2_with fail
      obtain ⟨hfw, hfb⟩ := zero_ended HK0.out HB0.out (.int .u64 0) (.int .i64 0) (.string ⟨#[]⟩)
      have e0 := hfw.cell 0
      have e1 := hfw.cell 1
      have e2 := hfw.cell 2
      exact bodyPost_ret (v := .tuple #[.agg #[.int .u64 0, .int .i64 0, .string ⟨#[]⟩], .int .i64 4]) (by simp [results, Try.results13, go_sem, e0, e1, e2]) rfl (HeadIs.no DP.out hfb)
    subst h1
    by_cases h2 : k2 = 0
    case neg =>
      have DP : Hid (P = none) := Lib.hid (NO.out none (.inr (.inl h2)))
      have hki : ((k2 : Int) != 0) = true := by simp; omega
      go_wp2_with fail
      obtain ⟨hfw, hfb⟩ := zero_ended HK0.out HB0.out (.int .u64 0) (.int .i64 0) (.string ⟨#[]⟩)
      have e0 := hfw.cell 0
      have e1 := hfw.cell 1
      have e2 := hfw.cell 2
      exact bodyPost_ret (v := .tuple #[.agg #[.int .u64 0, .int .i64 0, .string ⟨#[]⟩], .int .i64 4]) (by simp [results, Try.results13, go_sem, e0, e1, e2]) rfl (HeadIs.no DP.out hfb)
    subst h2
    by_cases h3 : q = 0
    case neg =>
      have DP : Hid (P = none) := Lib.hid (NO.out none (.inr (.inr (by rw [← HQ.out]; exact h3))))
      have hki : ((q : Int) != 0) = true := by simp; omega
      go_wp2_with fail
      obtain ⟨hfw, hfb⟩ := zero_ended HK0.out HB0.out (.int .u64 0) (.int .i64 0) (.string ⟨#[]⟩)
      have e0 := hfw.cell 0
      have e1 := hfw.cell 1
      have e2 := hfw.cell 2
      exact bodyPost_ret (v := .tuple #[.agg #[.int .u64 0, .int .i64 0, .string ⟨#[]⟩], .int .i64 4]) (by simp [results, Try.results13, go_sem, e0, e1, e2]) rfl (HeadIs.no DP.out hfb)
    subst h3
    have FE := Lib.hid (FO.out rfl)
    have hand0 : bits .and .u64 (f : Int) 28671 = 0 := hand
    clear hand
    go_upto_region 9 with fail
    clear hand0
    obtain ⟨F, hF⟩ : ∃ F, F = w0.heap.size := ⟨_, rfl⟩
    obtain ⟨w1, hw1⟩ : ∃ w1, w1 = w0.alloc (.cells #[.int .u64 s, .int .i64 0, .string ⟨#[]⟩] 25) := ⟨_, rfl⟩
    have c1 : Hid (HAt w w1 F s 0 []) := Lib.hid (by
      rw [hF, hw1]
      exact ⟨by rw [HS0.out]; omega, Whole.new _ _ _, HK0.out.alloc _, HB0.out.alloc (by rw [HS0.out]; omega) _⟩)
    have L1 : Hid (Lies w1 B A (B8 b)) := Lib.hid (by rw [hw1]; exact HL.out.alloc (by rw [HS0.out]; omega) _)
    have HF := Lib.hid hF
    have HW1 := Lib.hid hw1
    have PQ2 : Hid (P = if hBad5 f (hR4 f r) (hBad4 f r false) = false ∧ hR5 f (hR4 f r) = [] ∧ f = hflags (hT f r) (hM f (hR4 f r) : Nat) ∧ hM f (hR4 f r) ≤ 2 then some (s, hM f (hR4 f r), hT f r) else none) := Lib.hid (by
      rw [PQ.out]
      unfold headQ
      simp only [Nat.reduceMul, Nat.add_zero, true_and])
    have rl : r.length = b.length - 14 := by rw [HR.out, List.length_drop]
    have RL := Lib.hid rl
    clear z0 z1 z2 y0 y1 y2 hF hw1 rl PQ NO
    rw [← HW1.out, ← HF.out]
    by_cases hb15 : f / 32768 % 2 = 1
    · have e15 : bits .and .u64 (f : Int) 32768 = 32768 := by rw [B15.out, if_pos hb15]
      have FT : Hid (32768 * (f / 32768 % 2) = 32768) := Lib.hid (by rw [hb15])
      obtain ⟨T, hTq⟩ : ∃ T, T = txt 1 r := ⟨_, rfl⟩
      obtain ⟨r4, hr4⟩ : ∃ r4, r4 = txtRest 1 r := ⟨_, rfl⟩
      have PT : Hid (P = if hBad5 f r4 (txtShort 1 r) = false ∧ hR5 f r4 = [] ∧ f = hflags T (hM f r4 : Nat) ∧ hM f r4 ≤ 2 then some (s, hM f r4, T) else none) := Lib.hid (by rw [PQ2.out, hTq, hr4]; unfold hT hR4 hBad4; simp only [if_pos hb15, Bool.false_or])
      have HT := Lib.hid hTq
      have HR4 := Lib.hid hr4
      clear hb15 hTq hr4
      go_wp2_with fail
      cases hts : txtShort 1 r with
      | true =>
        have DP : Hid (P = none) := Lib.hid (by
          rw [PT.out, hts, if_neg]
          rintro ⟨h, _⟩
          unfold hBad5 at h
          split at h <;> simp at h)
        have z0 : w1.cell? ⟨w.heap.size, 0, none⟩ = some (.int .u64 0) := c1.out.zr.cell 0
        have z1 : w1.cell? ⟨w.heap.size, 1, none⟩ = some (.int .i64 0) := c1.out.zr.cell 1
        have z2 : w1.cell? ⟨w.heap.size, 2, none⟩ = some (.string ⟨#[]⟩) := c1.out.zr.cell 2
        have y0 : w1.frozen? ⟨w.heap.size, 0, none⟩ = false := c1.out.zr.frozen 0
        have y1 : w1.frozen? ⟨w.heap.size, 1, none⟩ = false := c1.out.zr.frozen 1
        have y2 : w1.frozen? ⟨w.heap.size, 2, none⟩ = false := c1.out.zr.frozen 2
        have x0 : w1.cell? ⟨F, 0, none⟩ = some (.int .u64 s) := c1.out.hd.cell 0
        have x1 : w1.cell? ⟨F, 1, none⟩ = some (.int .i64 0) := c1.out.hd.cell 1
        have x2 : w1.cell? ⟨F, 2, none⟩ = some (.string ⟨#[]⟩) := c1.out.hd.cell 2
        have v1 : w1.frozen? ⟨F, 1, none⟩ = false := c1.out.hd.frozen 1
        have v2 : w1.frozen? ⟨F, 2, none⟩ = false := c1.out.hd.frozen 2
        refine (text_no A c B b 14 1 _ L1.out h14 (by omega) (by omega) hs (by rw [← HR.out]; exact hts)).mono ?_
        rintro e w9 ⟨rfl, hw9⟩
        subst hw9
        go_wp2_with fail
        obtain ⟨hfw, hfb⟩ := c1.out.ended (.int .u64 0) (.int .i64 0) (.string ⟨#[]⟩)
        have e0 := hfw.cell 0
        have e1 := hfw.cell 1
        have e2 := hfw.cell 2
        exact bodyPost_ret (v := .tuple #[.agg #[.int .u64 0, .int .i64 0, .string ⟨#[]⟩], .int .i64 4]) (by simp [results, Try.results13, go_sem, e0, e1, e2]) rfl (HeadIs.no DP.out hfb)
      | false =>
        refine (text_yes A c B b 14 1 _ L1.out h14 (by omega) (by omega) hs hc hcm (by rw [← HR.out]; exact hts)).mono ?_
        rintro e w9 ⟨AT, cT, rfl, hlt, hle, hrest, hw9⟩
        subst hw9
        rw [← HR.out, ← HT.out] at hlt hle hrest ⊢
        have LT := Lib.hid hlt
        have HREST : Hid (r4 = b.drop (14 + 1 + T.length)) := Lib.hid (by rw [HR4.out, hrest])
        have cvT := run_octets_string (P := Try.prog) 26 9 5 Try.underlying26 Try.underlying5 Try.underlying9 hlt cT
        clear hlt hrest
        by_cases hT0 : T = []
        · have DP : Hid (P = none) := Lib.hid (by
            rw [PT.out, if_neg]
            rintro ⟨_, _, h, _⟩
            rw [hT0] at h
            have h2 := FT.out
            unfold hflags at h
            rw [if_pos rfl] at h
            have h3 := FE.out
            split at h <;> omega)
          have z0 : w1.cell? ⟨w.heap.size, 0, none⟩ = some (.int .u64 0) := c1.out.zr.cell 0
          have z1 : w1.cell? ⟨w.heap.size, 1, none⟩ = some (.int .i64 0) := c1.out.zr.cell 1
          have z2 : w1.cell? ⟨w.heap.size, 2, none⟩ = some (.string ⟨#[]⟩) := c1.out.zr.cell 2
          have y0 : w1.frozen? ⟨w.heap.size, 0, none⟩ = false := c1.out.zr.frozen 0
          have y1 : w1.frozen? ⟨w.heap.size, 1, none⟩ = false := c1.out.zr.frozen 1
          have y2 : w1.frozen? ⟨w.heap.size, 2, none⟩ = false := c1.out.zr.frozen 2
          have x0 : w1.cell? ⟨F, 0, none⟩ = some (.int .u64 s) := c1.out.hd.cell 0
          have x1 : w1.cell? ⟨F, 1, none⟩ = some (.int .i64 0) := c1.out.hd.cell 1
          have x2 : w1.cell? ⟨F, 2, none⟩ = some (.string ⟨#[]⟩) := c1.out.hd.cell 2
          have v1 : w1.frozen? ⟨F, 1, none⟩ = false := c1.out.hd.frozen 1
          have v2 : w1.frozen? ⟨F, 2, none⟩ = false := c1.out.hd.frozen 2
          subst hT0
          go_wp2_with fail
          obtain ⟨hfw, hfb⟩ := c1.out.ended (.int .u64 0) (.int .i64 0) (.string ⟨#[]⟩)
          have e0 := hfw.cell 0
          have e1 := hfw.cell 1
          have e2 := hfw.cell 2
          exact bodyPost_ret (v := .tuple #[.agg #[.int .u64 0, .int .i64 0, .string ⟨#[]⟩], .int .i64 4]) (by simp [results, Try.results13, go_sem, e0, e1, e2]) rfl (HeadIs.no DP.out hfb)
        · have hTl : 0 < T.length := List.length_pos_iff.2 hT0
          have hTn : ((T.length : Int) == 0) = false := beq_false_of_ne (by omega)
          have PQ3 : Hid (P = if hBad5 f r4 false = false ∧ hR5 f r4 = [] ∧ f = hflags T (hM f r4 : Nat) ∧ hM f r4 ≤ 2 then some (s, hM f r4, T) else none) := Lib.hid (by rw [PT.out, hts])
          obtain ⟨w2, hw2⟩ : ∃ w2, w2 = w1.setCell ⟨F, 2, none⟩ (.string ⟨T.toArray⟩) := ⟨_, rfl⟩
          have c2 : Hid (HAt w w2 F s 0 T) := Lib.hid (by rw [hw2]; exact c1.out.set 2 (.string ⟨T.toArray⟩) 0 T rfl)
          have L2 : Hid (Lies w2 B A (B8 b)) := Lib.hid (L1.out.below (by rw [hw2]; exact (Below.refl B w1).setCell (p := ⟨F, 2, none⟩) (by have := c1.out.lo; show B ≤ F; omega) _))
          obtain ⟨p, hp⟩ : ∃ p, p = 14 + 1 + T.length := ⟨_, rfl⟩
          have R4 : Hid (r4 = b.drop p) := Lib.hid (by rw [HREST.out, hp])
          have hpb : p ≤ b.length := by omega
          have HW2 := Lib.hid hw2
          rw [← hp]
          have f2 : w1.frozen? ⟨F, 2, none⟩ = false := c1.out.hd.frozen 2
          have t2 : w1.cell? ⟨F, 2, none⟩ = some (.string ⟨#[]⟩) := c1.out.hd.cell 2
          clear hw2 hp hle hts
          go_upto_region 14 with fail
          rw [← HW2.out]
          clear f2 t2
          have z0 : w2.cell? ⟨w.heap.size, 0, none⟩ = some (.int .u64 0) := c2.out.zr.cell 0
          have z1 : w2.cell? ⟨w.heap.size, 1, none⟩ = some (.int .i64 0) := c2.out.zr.cell 1
          have z2 : w2.cell? ⟨w.heap.size, 2, none⟩ = some (.string ⟨#[]⟩) := c2.out.zr.cell 2
          have y0 : w2.frozen? ⟨w.heap.size, 0, none⟩ = false := c2.out.zr.frozen 0
          have y1 : w2.frozen? ⟨w.heap.size, 1, none⟩ = false := c2.out.zr.frozen 1
          have y2 : w2.frozen? ⟨w.heap.size, 2, none⟩ = false := c2.out.zr.frozen 2
          have x0 : w2.cell? ⟨F, 0, none⟩ = some (.int .u64 s) := c2.out.hd.cell 0
          have x1 : w2.cell? ⟨F, 1, none⟩ = some (.int .i64 0) := c2.out.hd.cell 1
          have x2 : w2.cell? ⟨F, 2, none⟩ = some (.string ⟨T.toArray⟩) := c2.out.hd.cell 2
          have v1 : w2.frozen? ⟨F, 1, none⟩ = false := c2.out.hd.frozen 1
          have v2 : w2.frozen? ⟨F, 2, none⟩ = false := c2.out.hd.frozen 2
          by_cases hb12 : f / 4096 % 2 = 1
          · have e12 : bits .and .u64 (f : Int) 4096 = 4096 := by rw [B12.out, if_pos hb12]
            have PQ4 : Hid (P = if short 1 r4 = false ∧ rst 1 r4 = [] ∧ f = hflags T (nat (tk 1 r4) : Nat) ∧ nat (tk 1 r4) ≤ 2 then some (s, nat (tk 1 r4), T) else none) := Lib.hid (by rw [PQ3.out]; unfold hBad5 hR5 hM; simp only [if_pos hb12, Bool.false_or])
            have F12 : Hid (∀ x : Nat, f = hflags T (x : Int) ↔ x ≠ 0) := Lib.hid (by intro x; rw [FE.out, FT.out, hb12]; unfold hflags; rw [if_neg hT0]; split <;> omega)
            clear hb12
            have r4l : r4.length = b.length - (p) := by rw [R4.out, List.length_drop]
            by_cases hs1 : r4.length < 1
            · have DP : Hid (P = none) := Lib.hid (by rw [PQ4.out, short_yes hs1, if_neg (by simp)])
              have hout : b.length < (p) + 1 := by omega
              go_wp2_with fail
              refine (num_out2 A c b.length (p) 1 _ (by omega) hout (by omega)).mono ?_
              rintro e w9 ⟨rfl, hw9⟩
              subst hw9
              go_wp2_with fail
              obtain ⟨hfw, hfb⟩ := c2.out.ended (.int .u64 0) (.int .i64 0) (.string ⟨#[]⟩)
              have e0 := hfw.cell 0
              have e1 := hfw.cell 1
              have e2 := hfw.cell 2
              exact bodyPost_ret (v := .tuple #[.agg #[.int .u64 0, .int .i64 0, .string ⟨#[]⟩], .int .i64 4]) (by simp [results, Try.results13, go_sem, e0, e1, e2]) rfl (HeadIs.no DP.out hfb)
            · obtain ⟨v, hv⟩ : ∃ v, v = nat (tk 1 r4) := ⟨_, rfl⟩
              have hv256 : v < 256 := by rw [hv]; exact octet_lt r4
              have hvx : nat ((b.drop (p)).take 1) = v := by rw [hv, tk_yes (by omega), R4.out]
              have PQ5 : Hid (P = if rst 1 r4 = [] ∧ v ≠ 0 ∧ v ≤ 2 then some (s, v, T) else none) := Lib.hid (by rw [PQ4.out, short_no (by omega), ← hv]; simp only [F12.out v, true_and])
              have HVX := Lib.hid hvx
              have mw : IntKind.i64.wrap (v : Int) = (v : Int) := IntWalk.i64_in _ (by omega)
              have hin : (p) + 1 ≤ b.length := by omega
              clear hv hvx
              go_wp2_with fail
              refine (num_at' A c b.length B b (p) 1 v _ rfl L2.out hin (by omega) hs HVX.out).mono ?_
              rintro e w9 ⟨rfl, hw9⟩
              subst hw9
              by_cases hv0 : v = 0
              · have DP : Hid (P = none) := Lib.hid (by rw [PQ5.out, if_neg (fun h => h.2.1 hv0)])
                subst hv0
                go_wp2_with fail
                obtain ⟨hfw, hfb⟩ := c2.out.ended (.int .u64 0) (.int .i64 0) (.string ⟨#[]⟩)
                have e0 := hfw.cell 0
                have e1 := hfw.cell 1
                have e2 := hfw.cell 2
                exact bodyPost_ret (v := .tuple #[.agg #[.int .u64 0, .int .i64 0, .string ⟨#[]⟩], .int .i64 4]) (by simp [results, Try.results13, go_sem, e0, e1, e2]) rfl (HeadIs.no DP.out hfb)
              · by_cases hv2 : v ≤ 2
                · have hva : ¬ ((v : Int) < 1) := by omega
                  have hvb : (v : Int) ≤ 2 := by omega
                  obtain ⟨w5, hw5⟩ : ∃ w5, w5 = w2.setCell ⟨F, 1, none⟩ (.int .i64 v) := ⟨_, rfl⟩
                  have c5 : Hid (HAt w w5 F s v T) := Lib.hid (by rw [hw5]; exact c2.out.set 1 (.int .i64 v) v T rfl)
                  have HW5 := Lib.hid hw5
                  clear hw5
                  go_upto_region 20 with fail
                  rw [← HW5.out]
                  clear z0 z1 z2 y0 y1 y2 x0 x1 x2 v1 v2
                  have z0 : w5.cell? ⟨w.heap.size, 0, none⟩ = some (.int .u64 0) := c5.out.zr.cell 0
                  have z1 : w5.cell? ⟨w.heap.size, 1, none⟩ = some (.int .i64 0) := c5.out.zr.cell 1
                  have z2 : w5.cell? ⟨w.heap.size, 2, none⟩ = some (.string ⟨#[]⟩) := c5.out.zr.cell 2
                  have y0 : w5.frozen? ⟨w.heap.size, 0, none⟩ = false := c5.out.zr.frozen 0
                  have y1 : w5.frozen? ⟨w.heap.size, 1, none⟩ = false := c5.out.zr.frozen 1
                  have y2 : w5.frozen? ⟨w.heap.size, 2, none⟩ = false := c5.out.zr.frozen 2
                  have x0 : w5.cell? ⟨F, 0, none⟩ = some (.int .u64 s) := c5.out.hd.cell 0
                  have x1 : w5.cell? ⟨F, 1, none⟩ = some (.int .i64 v) := c5.out.hd.cell 1
                  have x2 : w5.cell? ⟨F, 2, none⟩ = some (.string ⟨T.toArray⟩) := c5.out.hd.cell 2
                  have v1 : w5.frozen? ⟨F, 1, none⟩ = false := c5.out.hd.frozen 1
                  have v2 : w5.frozen? ⟨F, 2, none⟩ = false := c5.out.hd.frozen 2
                  by_cases hend : (p) + 1 = b.length
                  · have DP : Hid (P = some (s, v, T)) := Lib.hid (by rw [PQ5.out, if_pos ⟨by rw [rst_yes (by omega), R4.out, List.drop_drop, hend]; exact List.drop_length, hv0, hv2⟩])
                    have hei : (((p : Nat) : Int) + 1 != (b.length : Int)) = false := by simp; omega
                    go_wp2_with fail
                    obtain ⟨hfw, hfb⟩ := c5.out.ended (.int .u64 s) (.int .i64 v) (.string ⟨T.toArray⟩)
                    have e0 := hfw.cell 0
                    have e1 := hfw.cell 1
                    have e2 := hfw.cell 2
                    exact bodyPost_ret (v := .tuple #[.agg #[.int .u64 s, .int .i64 v, .string ⟨T.toArray⟩], .int .i64 0]) (by simp [results, Try.results13, go_sem, e0, e1, e2]) rfl (HeadIs.yes DP.out hfb)
                  · have DP : Hid (P = none) := Lib.hid (by
                      rw [PQ5.out, if_neg]
                      rintro ⟨h, _⟩
                      have h2 := congrArg List.length h
                      rw [rst_yes (by omega), List.length_drop, List.length_nil] at h2
                      omega)
                    have hei : (((p : Nat) : Int) + 1 != (b.length : Int)) = true := by simp; omega
                    go_wp2_with fail
                    obtain ⟨hfw, hfb⟩ := c5.out.ended (.int .u64 0) (.int .i64 0) (.string ⟨#[]⟩)
                    have e0 := hfw.cell 0
                    have e1 := hfw.cell 1
                    have e2 := hfw.cell 2
                    exact bodyPost_ret (v := .tuple #[.agg #[.int .u64 0, .int .i64 0, .string ⟨#[]⟩], .int .i64 4]) (by simp [results, Try.results13, go_sem, e0, e1, e2]) rfl (HeadIs.no DP.out hfb)
                · have DP : Hid (P = none) := Lib.hid (by rw [PQ5.out, if_neg (fun h => hv2 h.2.2)])
                  have hva : ¬ ((v : Int) < 1) := by omega
                  have hvb : (2 : Int) < (v : Int) := by omega
                  go_wp2_with fail
                  obtain ⟨hfw, hfb⟩ := c2.out.ended (.int .u64 0) (.int .i64 0) (.string ⟨#[]⟩)
                  have e0 := hfw.cell 0
                  have e1 := hfw.cell 1
                  have e2 := hfw.cell 2
                  exact bodyPost_ret (v := .tuple #[.agg #[.int .u64 0, .int .i64 0, .string ⟨#[]⟩], .int .i64 4]) (by simp [results, Try.results13, go_sem, e0, e1, e2]) rfl (HeadIs.no DP.out hfb)
          · have e12 : bits .and .u64 (f : Int) 4096 = 0 := by rw [B12.out, if_neg hb12]
            have b0 : f / 4096 % 2 = 0 := by omega
            have PQ4 : Hid (P = if r4 = [] then some (s, 0, T) else none) := Lib.hid (by
              rw [PQ3.out]
              unfold hBad5 hR5 hM
              simp only [if_neg hb12, true_and]
              have h0 : f = hflags T ((0 : Nat) : Int) := by rw [FE.out, FT.out, b0]; unfold hflags; rw [if_neg hT0]; rfl
              simp only [← h0, Nat.zero_le, and_true])
            have r4l : r4.length = b.length - (p) := by rw [R4.out, List.length_drop]
            clear hb12 b0
            by_cases hend : (p) = b.length
            · have DP : Hid (P = some (s, 0, T)) := Lib.hid (by rw [PQ4.out, if_pos (List.eq_nil_of_length_eq_zero (by omega))])
              have hei : (((p : Nat) : Int) != (b.length : Int)) = false := by simp; omega
              go_wp2_with fail
              obtain ⟨hfw, hfb⟩ := c2.out.ended (.int .u64 s) (.int .i64 0) (.string ⟨T.toArray⟩)
              have e0 := hfw.cell 0
              have e1 := hfw.cell 1
              have e2 := hfw.cell 2
              exact bodyPost_ret (v := .tuple #[.agg #[.int .u64 s, .int .i64 0, .string ⟨T.toArray⟩], .int .i64 0]) (by simp [results, Try.results13, go_sem, e0, e1, e2]) rfl (HeadIs.yes DP.out hfb)
            · have DP : Hid (P = none) := Lib.hid (by
                rw [PQ4.out, if_neg]
                intro h
                rw [h] at r4l
                simp at r4l
                omega)
              have hei : (((p : Nat) : Int) != (b.length : Int)) = true := by simp; omega
              go_wp2_with fail
              obtain ⟨hfw, hfb⟩ := c2.out.ended (.int .u64 0) (.int .i64 0) (.string ⟨#[]⟩)
              have e0 := hfw.cell 0
              have e1 := hfw.cell 1
              have e2 := hfw.cell 2
              exact bodyPost_ret (v := .tuple #[.agg #[.int .u64 0, .int .i64 0, .string ⟨#[]⟩], .int .i64 4]) (by simp [results, Try.results13, go_sem, e0, e1, e2]) rfl (HeadIs.no DP.out hfb)
    · have e15 : bits .and .u64 (f : Int) 32768 = 0 := by rw [B15.out, if_neg hb15]
      have FT : Hid (32768 * (f / 32768 % 2) = 0) := Lib.hid (by omega)
      obtain ⟨r4, hr4⟩ : ∃ r4, r4 = r := ⟨_, rfl⟩
      have PQ3 : Hid (P = if hBad5 f r4 false = false ∧ hR5 f r4 = [] ∧ f = hflags [] (hM f r4 : Nat) ∧ hM f r4 ≤ 2 then some (s, hM f r4, []) else none) := Lib.hid (by rw [PQ2.out, hr4]; unfold hT hR4 hBad4; simp only [if_neg hb15])
      have R4 : Hid (r4 = b.drop 14) := Lib.hid (by rw [hr4, HR.out])
      clear hb15 hr4
      go_upto_region 15 with fail
      have z0 : w1.cell? ⟨w.heap.size, 0, none⟩ = some (.int .u64 0) := c1.out.zr.cell 0
      have z1 : w1.cell? ⟨w.heap.size, 1, none⟩ = some (.int .i64 0) := c1.out.zr.cell 1
      have z2 : w1.cell? ⟨w.heap.size, 2, none⟩ = some (.string ⟨#[]⟩) := c1.out.zr.cell 2
      have y0 : w1.frozen? ⟨w.heap.size, 0, none⟩ = false := c1.out.zr.frozen 0
      have y1 : w1.frozen? ⟨w.heap.size, 1, none⟩ = false := c1.out.zr.frozen 1
      have y2 : w1.frozen? ⟨w.heap.size, 2, none⟩ = false := c1.out.zr.frozen 2
      have x0 : w1.cell? ⟨F, 0, none⟩ = some (.int .u64 s) := c1.out.hd.cell 0
      have x1 : w1.cell? ⟨F, 1, none⟩ = some (.int .i64 0) := c1.out.hd.cell 1
      have x2 : w1.cell? ⟨F, 2, none⟩ = some (.string ⟨#[]⟩) := c1.out.hd.cell 2
      have v1 : w1.frozen? ⟨F, 1, none⟩ = false := c1.out.hd.frozen 1
      have v2 : w1.frozen? ⟨F, 2, none⟩ = false := c1.out.hd.frozen 2
      by_cases hb12 : f / 4096 % 2 = 1
      · have e12 : bits .and .u64 (f : Int) 4096 = 4096 := by rw [B12.out, if_pos hb12]
        have PQ4 : Hid (P = if short 1 r4 = false ∧ rst 1 r4 = [] ∧ f = hflags [] (nat (tk 1 r4) : Nat) ∧ nat (tk 1 r4) ≤ 2 then some (s, nat (tk 1 r4), []) else none) := Lib.hid (by rw [PQ3.out]; unfold hBad5 hR5 hM; simp only [if_pos hb12, Bool.false_or])
        have F12 : Hid (∀ x : Nat, f = hflags [] (x : Int) ↔ x ≠ 0) := Lib.hid (by intro x; rw [FE.out, FT.out, hb12]; unfold hflags; rw [if_pos rfl]; split <;> omega)
        clear hb12
        have r4l : r4.length = b.length - (14) := by rw [R4.out, List.length_drop]
        by_cases hs1 : r4.length < 1
        · have DP : Hid (P = none) := Lib.hid (by rw [PQ4.out, short_yes hs1, if_neg (by simp)])
          have hout : b.length < (14) + 1 := by omega
          go_wp2_with fail
          refine (num_out2 A c b.length (14) 1 _ (by omega) hout (by omega)).mono ?_
          rintro e w9 ⟨rfl, hw9⟩
          subst hw9
          go_wp2_with fail
          obtain ⟨hfw, hfb⟩ := c1.out.ended (.int .u64 0) (.int .i64 0) (.string ⟨#[]⟩)
          have e0 := hfw.cell 0
          have e1 := hfw.cell 1
          have e2 := hfw.cell 2
          exact bodyPost_ret (v := .tuple #[.agg #[.int .u64 0, .int .i64 0, .string ⟨#[]⟩], .int .i64 4]) (by simp [results, Try.results13, go_sem, e0, e1, e2]) rfl (HeadIs.no DP.out hfb)
        · obtain ⟨v, hv⟩ : ∃ v, v = nat (tk 1 r4) := ⟨_, rfl⟩
          have hv256 : v < 256 := by rw [hv]; exact octet_lt r4
          have hvx : nat ((b.drop (14)).take 1) = v := by rw [hv, tk_yes (by omega), R4.out]
          have PQ5 : Hid (P = if rst 1 r4 = [] ∧ v ≠ 0 ∧ v ≤ 2 then some (s, v, []) else none) := Lib.hid (by rw [PQ4.out, short_no (by omega), ← hv]; simp only [F12.out v, true_and])
          have HVX := Lib.hid hvx
          have mw : IntKind.i64.wrap (v : Int) = (v : Int) := IntWalk.i64_in _ (by omega)
          have hin : (14) + 1 ≤ b.length := by omega
          clear hv hvx
          go_wp2_with fail
          refine (num_at' A c b.length B b (14) 1 v _ rfl L1.out hin (by omega) hs HVX.out).mono ?_
          rintro e w9 ⟨rfl, hw9⟩
          subst hw9
          by_cases hv0 : v = 0
          · have DP : Hid (P = none) := Lib.hid (by rw [PQ5.out, if_neg (fun h => h.2.1 hv0)])
            subst hv0
            go_wp2_with fail
            obtain ⟨hfw, hfb⟩ := c1.out.ended (.int .u64 0) (.int .i64 0) (.string ⟨#[]⟩)
            have e0 := hfw.cell 0
            have e1 := hfw.cell 1
            have e2 := hfw.cell 2
            exact bodyPost_ret (v := .tuple #[.agg #[.int .u64 0, .int .i64 0, .string ⟨#[]⟩], .int .i64 4]) (by simp [results, Try.results13, go_sem, e0, e1, e2]) rfl (HeadIs.no DP.out hfb)
          · by_cases hv2 : v ≤ 2
            · have hva : ¬ ((v : Int) < 1) := by omega
              have hvb : (v : Int) ≤ 2 := by omega
              obtain ⟨w5, hw5⟩ : ∃ w5, w5 = w1.setCell ⟨F, 1, none⟩ (.int .i64 v) := ⟨_, rfl⟩
              have c5 : Hid (HAt w w5 F s v []) := Lib.hid (by rw [hw5]; exact c1.out.set 1 (.int .i64 v) v [] rfl)
              have HW5 := Lib.hid hw5
              clear hw5
              go_upto_region 20 with fail
              rw [← HW5.out]
              clear z0 z1 z2 y0 y1 y2 x0 x1 x2 v1 v2
              have z0 : w5.cell? ⟨w.heap.size, 0, none⟩ = some (.int .u64 0) := c5.out.zr.cell 0
              have z1 : w5.cell? ⟨w.heap.size, 1, none⟩ = some (.int .i64 0) := c5.out.zr.cell 1
              have z2 : w5.cell? ⟨w.heap.size, 2, none⟩ = some (.string ⟨#[]⟩) := c5.out.zr.cell 2
              have y0 : w5.frozen? ⟨w.heap.size, 0, none⟩ = false := c5.out.zr.frozen 0
              have y1 : w5.frozen? ⟨w.heap.size, 1, none⟩ = false := c5.out.zr.frozen 1
              have y2 : w5.frozen? ⟨w.heap.size, 2, none⟩ = false := c5.out.zr.frozen 2
              have x0 : w5.cell? ⟨F, 0, none⟩ = some (.int .u64 s) := c5.out.hd.cell 0
              have x1 : w5.cell? ⟨F, 1, none⟩ = some (.int .i64 v) := c5.out.hd.cell 1
              have x2 : w5.cell? ⟨F, 2, none⟩ = some (.string ⟨#[]⟩) := c5.out.hd.cell 2
              have v1 : w5.frozen? ⟨F, 1, none⟩ = false := c5.out.hd.frozen 1
              have v2 : w5.frozen? ⟨F, 2, none⟩ = false := c5.out.hd.frozen 2
              by_cases hend : (14) + 1 = b.length
              · have DP : Hid (P = some (s, v, [])) := Lib.hid (by rw [PQ5.out, if_pos ⟨by rw [rst_yes (by omega), R4.out, List.drop_drop, hend]; exact List.drop_length, hv0, hv2⟩])
                have hei : (((14 : Nat) : Int) + 1 != (b.length : Int)) = false := by simp; omega
                go_wp2_with fail
                obtain ⟨hfw, hfb⟩ := c5.out.ended (.int .u64 s) (.int .i64 v) (.string ⟨[].toArray⟩)
                have e0 := hfw.cell 0
                have e1 := hfw.cell 1
                have e2 := hfw.cell 2
                exact bodyPost_ret (v := .tuple #[.agg #[.int .u64 s, .int .i64 v, .string ⟨[].toArray⟩], .int .i64 0]) (by simp [results, Try.results13, go_sem, e0, e1, e2]) rfl (HeadIs.yes DP.out hfb)
              · have DP : Hid (P = none) := Lib.hid (by
                  rw [PQ5.out, if_neg]
                  rintro ⟨h, _⟩
                  have h2 := congrArg List.length h
                  rw [rst_yes (by omega), List.length_drop, List.length_nil] at h2
                  omega)
                have hei : (((14 : Nat) : Int) + 1 != (b.length : Int)) = true := by simp; omega
                go_wp2_with fail
                obtain ⟨hfw, hfb⟩ := c5.out.ended (.int .u64 0) (.int .i64 0) (.string ⟨#[]⟩)
                have e0 := hfw.cell 0
                have e1 := hfw.cell 1
                have e2 := hfw.cell 2
                exact bodyPost_ret (v := .tuple #[.agg #[.int .u64 0, .int .i64 0, .string ⟨#[]⟩], .int .i64 4]) (by simp [results, Try.results13, go_sem, e0, e1, e2]) rfl (HeadIs.no DP.out hfb)
            · have DP : Hid (P = none) := Lib.hid (by rw [PQ5.out, if_neg (fun h => hv2 h.2.2)])
              have hva : ¬ ((v : Int) < 1) := by omega
              have hvb : (2 : Int) < (v : Int) := by omega
              go_wp2_with fail
              obtain ⟨hfw, hfb⟩ := c1.out.ended (.int .u64 0) (.int .i64 0) (.string ⟨#[]⟩)
              have e0 := hfw.cell 0
              have e1 := hfw.cell 1
              have e2 := hfw.cell 2
              exact bodyPost_ret (v := .tuple #[.agg #[.int .u64 0, .int .i64 0, .string ⟨#[]⟩], .int .i64 4]) (by simp [results, Try.results13, go_sem, e0, e1, e2]) rfl (HeadIs.no DP.out hfb)
      · have e12 : bits .and .u64 (f : Int) 4096 = 0 := by rw [B12.out, if_neg hb12]
        have b0 : f / 4096 % 2 = 0 := by omega
        have PQ4 : Hid (P = if r4 = [] then some (s, 0, []) else none) := Lib.hid (by
          rw [PQ3.out]
          unfold hBad5 hR5 hM
          simp only [if_neg hb12, true_and]
          have h0 : f = hflags [] ((0 : Nat) : Int) := by rw [FE.out, FT.out, b0]; unfold hflags; rw [if_pos rfl]; rfl
          simp only [← h0, Nat.zero_le, and_true])
        have r4l : r4.length = b.length - (14) := by rw [R4.out, List.length_drop]
        clear hb12 b0
        by_cases hend : (14) = b.length
        · have DP : Hid (P = some (s, 0, [])) := Lib.hid (by rw [PQ4.out, if_pos (List.eq_nil_of_length_eq_zero (by omega))])
          have hei : (((14 : Nat) : Int) != (b.length : Int)) = false := by simp; omega
          go_wp2_with fail
          obtain ⟨hfw, hfb⟩ := c1.out.ended (.int .u64 s) (.int .i64 0) (.string ⟨[].toArray⟩)
          have e0 := hfw.cell 0
          have e1 := hfw.cell 1
          have e2 := hfw.cell 2
          exact bodyPost_ret (v := .tuple #[.agg #[.int .u64 s, .int .i64 0, .string ⟨[].toArray⟩], .int .i64 0]) (by simp [results, Try.results13, go_sem, e0, e1, e2]) rfl (HeadIs.yes DP.out hfb)
        · have DP : Hid (P = none) := Lib.hid (by
            rw [PQ4.out, if_neg]
            intro h
            rw [h] at r4l
            simp at r4l
            omega)
          have hei : (((14 : Nat) : Int) != (b.length : Int)) = true := by simp; omega
          go_wp2_with fail
          obtain ⟨hfw, hfb⟩ := c1.out.ended (.int .u64 0) (.int .i64 0) (.string ⟨#[]⟩)
          have e0 := hfw.cell 0
          have e1 := hfw.cell 1
          have e2 := hfw.cell 2
          exact bodyPost_ret (v := .tuple #[.agg #[.int .u64 0, .int .i64 0, .string ⟨#[]⟩], .int .i64 4]) (by simp [results, Try.results13, go_sem, e0, e1, e2]) rfl (HeadIs.no DP.out hfb)
end Go.Proofs.Ytfajkbegmmlmjaa
