/- Layer 12: the law on what any key, any text, any message and any octets are. -/
import Derived.Test.YtgdlgkbckblagaaKeyL
import Derived.Test.YtgdlgkbckblagaaLawKBack
import Derived.RegionTactic
namespace Go.Proofs.Ytgdlgkbckblagaa
open Go.RowKit
set_option maxRecDepth 100000
set_option linter.unusedSimpArgs false
set_option linter.unusedVariables false

/-- the law's own boxes: a key, the message -/
structure KT (w W : World) (k : Int) (A B C : List UInt8) (id : Nat) (E K T : List UInt8) (m : Int) (X : Option Addr) (cp : Nat) (l : List UInt8) : Prop where
  a : Whole W w.heap.size 28 (kyC k A B C id)
  m : Whole W (w.heap.size + 1) 32 (msC E K T m (.slice X l.length cp))
  bel : Below w.heap.size w W
section
variable {w W W' : World} {k : Int} {A B C : List UInt8} {id : Nat} {E K T : List UInt8} {m : Int} {X : Option Addr} {cp : Nat} {l : List UInt8}
theorem KT.below (h : KT w W k A B C id E K T m X cp l) (hb : Below W.heap.size W W') : KT w W' k A B C id E K T m X cp l :=
  ⟨h.a.below hb h.a.lt, h.m.below hb h.m.lt, h.bel.trans (hb.mono h.bel.size)⟩
theorem KT.belowB (h : KT w W k A B C id E K T m X cp l) {Bx : Nat} (hb : Below Bx W W') (hx : w.heap.size + 2 ≤ Bx) : KT w W' k A B C id E K T m X cp l :=
  ⟨h.a.below hb (by omega), h.m.below hb (by omega), h.bel.trans (hb.mono (by omega))⟩
theorem KT.drew (h : KT w W k A B C id E K T m X cp l) : KT w W.drew k A B C id E K T m X cp l := ⟨h.a, h.m, h.bel.drew⟩
theorem KT.lt (h : KT w W k A B C id E K T m X cp l) : w.heap.size + 2 ≤ W.heap.size := h.m.lt
theorem KT.new (w : World) (k : Int) (A B C : List UInt8) (id : Nat) (E K T : List UInt8) (m : Int) (X : Option Addr) (cp : Nat) (l : List UInt8) :
    KT w ((w.alloc (.cells (kyC k A B C id) 28)).alloc (.cells (msC E K T m (.slice X l.length cp)) 32)) k A B C id E K T m X cp l := by
  have h := Whole.new (w.alloc (.cells (kyC k A B C id) 28)) 32 (msC E K T m (.slice X l.length cp))
  rw [show (w.alloc (.cells (kyC k A B C id) 28)).heap.size = w.heap.size + 1 by simp] at h
  exact ⟨(Whole.new _ _ _).alloc _, h, ((Below.refl _ w).alloc (Nat.le_refl _) _).alloc (by simp) _⟩
theorem KT.put (h : KT w W k A B C id E K T m X cp l) (q : Int) (Y Z U : List UInt8) (j : Nat) :
    KT w (((((W.setCell ⟨w.heap.size, 0, none⟩ (.int .i64 q)).setCell ⟨w.heap.size, 1, none⟩ (.string ⟨Y.toArray⟩)).setCell ⟨w.heap.size, 2, none⟩ (.string ⟨Z.toArray⟩)).setCell ⟨w.heap.size, 3, none⟩ (.string ⟨U.toArray⟩)).setCell ⟨w.heap.size, 4, none⟩ (.int .u64 j)) q Y Z U j E K T m X cp l :=
  ⟨zero_put h.a, h.m.aside5 (by omega) _ _ _ _ _, below_put12 h.bel (Nat.le_refl _) _ _ _ _ _⟩
end
/-- a text that is one of four -/
def YIs (w wr : World) (BX : Nat) (AX : Option Addr) (x : List UInt8) (P : World → Prop) (v : Value) (wx : World) : Prop :=
  ∃ y : List UInt8, v = .string ⟨y.toArray⟩ ∧ y.length ≤ 1000 ∧ P wx ∧ Lies wx BX AX (B8 x) ∧ Below wr.heap.size wr wx
set_option maxHeartbeats 8000000 in
theorem ktells_law (k : Int) (A B C : List UInt8) (id : Nat) (s : List UInt8) (at_ : Int) (y : UInt8) (cut : Int) (E K T : List UInt8) (m : Int) (X : Option Addr) (cp : Nat) (l : List UInt8) (AR : Option Addr) (cR : Nat) (raw : List UInt8) (w : World)
    (hA : A.length ≤ maxLen) (hB : B.length ≤ maxLen) (hC : C.length ≤ maxLen) (hi : id < 18446744073709551616) (hs0 : s.length ≤ maxLen) (hE : E.length ≤ maxLen) (hK : K.length ≤ maxLen) (hT : T.length ≤ maxLen) (hlc : l.length ≤ cp) (hcm : cp ≤ maxLen) (hl : Lies w w.heap.size X (B8 l)) (hrc : raw.length ≤ cR) (hrm : cR ≤ maxLen) (hr : Lies w w.heap.size AR (B8 raw)) :
    Calls Try.prog 4 #[kyV k A B C id, .string ⟨s.toArray⟩, .int .i64 at_, .int .u8 (y.toNat : Int), .int .i64 cut, msV E K T m (.slice X l.length cp), .slice AR raw.length cR] w fun e w' => e = .returned (.bool true) ∧ Below w.heap.size w w' := by
  have hlm : l.length ≤ maxLen := Nat.le_trans hlc hcm
  have hrm' : raw.length ≤ maxLen := Nat.le_trans hrc hrm
  have T0 := Lib.hid (KT.new w k A B C id E K T m X cp l)
  have HLX := Lib.hid hl
  have HRX := Lib.hid hr
  have HHA := Lib.hid hA
  have HHB := Lib.hid hB
  have HHC := Lib.hid hC
  have HHE := Lib.hid hE
  have HHK := Lib.hid hK
  have HHT := Lib.hid hT
  have HHL := Lib.hid hlm
  have HHR := Lib.hid hrm
  have sS := key_size s
  have sA := key_size A
  have sB := key_size B
  have sC := key_size C
  have sE := key_size E
  have sK := key_size K
  have sT := key_size T
  unfold maxLen at hs0 hA hB hC hE hK hT hlm hrm'
  clear hl hr hcm hrm
  obtain ⟨W0, hW0⟩ : ∃ W, W = (w.alloc (.cells (kyC k A B C id) 28)).alloc (.cells (msC E K T m (.slice X l.length cp)) 32) := ⟨_, rfl⟩
  rw [← hW0] at T0
  unfold kyC msC at hW0
  unfold kyV msV
  go_enter Try.func4, Try.ntmps4
  go_upto_region 1 with fail
  rw [← hW0]
  clear hW0
  go_cut [78] (fun t wx => ∃ b, t = .bool b ∧ (b = false → s.length ≤ 400 ∧ raw.length ≤ 400) ∧ wx = W0)
  case first =>
    obtain ⟨c0, c1, c2, c3, c4⟩ := kyC_cells T0.out.a
    obtain ⟨d0, d1, d2, d3, d4⟩ := five12 T0.out.m
    obtain ⟨z1, hz1⟩ : ∃ z, IntKind.i64.wrap ((A.length : Int) + (B.length : Int)) = z := ⟨_, rfl⟩
    obtain ⟨z2, hz2⟩ : ∃ z, IntKind.i64.wrap (z1 + (C.length : Int)) = z := ⟨_, rfl⟩
    obtain ⟨z3, hz3⟩ : ∃ z, IntKind.i64.wrap ((E.length : Int) + (K.length : Int)) = z := ⟨_, rfl⟩
    obtain ⟨z4, hz4⟩ : ∃ z, IntKind.i64.wrap (z3 + (T.length : Int)) = z := ⟨_, rfl⟩
    clear T0
    by_cases q1 : (400 : Int) < (s.length : Int)
    · go_wp2_with fail
      go_meet
      exact ⟨true, rfl, (by intro h; cases h), rfl⟩
    by_cases q2 : (600 : Int) < z2
    · go_wp2_with fail
      go_meet
      exact ⟨true, rfl, (by intro h; cases h), rfl⟩
    by_cases q3 : (600 : Int) < z4
    · go_wp2_with fail
      go_meet
      exact ⟨true, rfl, (by intro h; cases h), rfl⟩
    by_cases q4 : (11000 : Int) < (l.length : Int)
    · go_wp2_with fail
      go_meet
      exact ⟨true, rfl, (by intro h; cases h), rfl⟩
    by_cases q5 : (400 : Int) < (raw.length : Int)
    · go_wp2_with fail
      go_meet
      exact ⟨true, rfl, (by intro h; cases h), rfl⟩
    go_wp2_with fail
    go_meet
    exact ⟨false, rfl, (fun _ => ⟨by omega, by omega⟩), rfl⟩
  case rest =>
  obtain ⟨b, rfl, hb, e0⟩ := hcut
  rw [e0]
  clear e0 sA sB sC sE sK sT hA hB hC hE hK hT hlm hrm' hs0
  cases b with
  | true =>
    go_wp2_with fail
    refine (awake12_any _).mono ?_
    rintro e w5 ⟨rfl, hb5⟩
    have T5 := Lib.hid (T0.out.below hb5)
    clear hb5
    go_wp2_with fail
    go_ret
    exact ⟨rfl, T5.out.bel⟩
  | false =>
  obtain ⟨hs, hr4⟩ := hb rfl
  clear hb
  go_wp2_with fail
  go_loopw [15] (fun i wr => ∃ (j : Nat) (k1 : Int) (A1 B1 C1 : List UInt8) (i1 : Nat), i = .int .i64 j ∧ j ≤ 2 ∧ A1.length ≤ maxLen ∧ B1.length ≤ maxLen ∧ C1.length ≤ maxLen ∧ i1 < 18446744073709551616 ∧ KT w wr k1 A1 B1 C1 i1 E K T m X cp l) (fun i _ => 2 - (intOf i).toNat)
  case atStart => exact ⟨0, k, A, B, C, id, rfl, by omega, HHA.out, HHB.out, HHC.out, hi, T0.out⟩
  case round =>
    obtain ⟨j, k1, A1, B1, C1, i1, rfl, hj, hA1, hB1, hC1, hi1, ht⟩ := hrel
    clear T0 HHA HHB HHC hi
    obtain ⟨wo, hwo⟩ : ∃ wo : World, wo = wr := ⟨_, rfl⟩
    subst hwo
    have T1 := Lib.hid ht
    clear ht
    by_cases hj2 : j < 2
    · have hj2' : (j : Int) < 2 := by omega
      have OA := Lib.hid hA1
      have OB := Lib.hid hB1
      have OC := Lib.hid hC1
      clear hA1 hB1 hC1
      obtain ⟨t, ht⟩ : ∃ t, t = if okK k1 A1 B1 C1 i1 then txK k1 A1 B1 C1 i1 else [] := ⟨_, rfl⟩
      obtain ⟨f, hf⟩ : ∃ f, f = okK k1 A1 B1 C1 i1 := ⟨_, rfl⟩
      have tl := tells_short ht
      have HTT := Lib.hid ht
      have HFF := Lib.hid hf
      have st := key_size t
      clear ht hf
      obtain ⟨c0, c1, c2, c3, c4⟩ := kyC_cells T1.out.a
      go_wp2_with fail
      refine (text_any k1 A1 B1 C1 i1 _ OA.out OB.out OC.out).mono ?_
      intro e w1 h1
      obtain ⟨rfl, hb1⟩ := tells_form HTT.out HFF.out h1
      have T2 := Lib.hid (T1.out.below hb1)
      clear c0 c1 c2 c3 c4 h1 hb1
      obtain ⟨c0, c1, c2, c3, c4⟩ := kyC_cells T2.out.a
      go_wp2_with fail
      refine (rkey_any k1 A1 B1 C1 i1 _ OA.out OB.out OC.out).mono ?_
      intro e w2 h2
      obtain ⟨rfl, hb2⟩ := tells_form HTT.out HFF.out h2
      have T3 := Lib.hid (T2.out.below hb2)
      clear c0 c1 c2 c3 c4 h2 hb2
      have cv := Lib.run_convert_string_bytes (P := Try.prog) w2 9 23 5 ⟨t.toArray⟩ Try.underlying9 Try.underlying23 Try.underlying5
      have ls := bytes_lie w2 5 t
      have bs := bytes_below w2 5 ⟨t.toArray⟩
      have fs := bytes_free w2 5 ⟨t.toArray⟩
      have y3 : (Lib.bytesWorld w2 5 ⟨t.toArray⟩).heap.size = w2.heap.size + 1 := Lib.bytesWorld_size _ _ _
      have hcap := hcap12 w2 t (room63 (by omega))
      generalize Lib.bytesWorld w2 5 ⟨t.toArray⟩ = w3 at *
      generalize grownCap w2 (ByteArray.size ⟨t.toArray⟩) 0 5 = ct at *
      rw [st] at fs cv
      have T4 := Lib.hid (T3.out.below bs)
      have LS := Lib.hid ls
      have FS := Lib.hid fs
      have Y3 := Lib.hid y3
      obtain ⟨hc1, hc2⟩ := hcap
      have HC2 := Lib.hid hc2
      unfold maxLen at hc2
      clear ls bs fs y3
      go_upto_if 106 with fail
      clear cv
      go_cut [] (fun wx => ∃ x : List UInt8, x.length = t.length ∧ KT w wx k1 A1 B1 C1 i1 E K T m X cp l ∧ Lies wx (w2.heap.size + 1) (some ⟨w2.heap.size, 0, none⟩) (B8 x) ∧ w2.heap.size + 1 ≤ wx.heap.size)
      case first =>
        by_cases hlen : t.length = 0
        · have hlt0 : ¬ (0 : Int) < (t.length : Int) := by omega
          have D : Hid (∃ x : List UInt8, x.length = t.length ∧ KT w w3 k1 A1 B1 C1 i1 E K T m X cp l ∧ Lies w3 (w2.heap.size + 1) (some ⟨w2.heap.size, 0, none⟩) (B8 x) ∧ w2.heap.size + 1 ≤ w3.heap.size) := Lib.hid ⟨t, rfl, T4.out, LS.out, by rw [Y3.out]; exact Nat.le_refl _⟩
          clear hlen
          go_wp2_with fail
          go_meet
          exact D.out
        · have hT0' : 0 < t.length := by omega
          have hlt0 : (0 : Int) < (t.length : Int) := by omega
          obtain ⟨J, hJ, hJe⟩ := turn_at at_ t.length hT0'
          have hc : w3.cell? ⟨w2.heap.size, 0 + J, none⟩ = some (.int .u8 ((t.getD J 0).toNat : Int)) := by
            rcases LS.out.octets with h | ⟨b, o, e, _, hc⟩
            · rw [h] at hT0'; simp at hT0'
            · injection e with e
              injection e with e1 e2 e3
              subst e1 e2
              rw [hc J hJ]
              simp [List.getD, hJ]
          rw [Nat.zero_add] at hc
          have hfz := FS.out J hJ
          have hx := u8_flip (t.getD J 0) y
          have D : Hid (∃ x : List UInt8, x.length = t.length ∧ KT w (w3.setCell ⟨w2.heap.size, J, none⟩ (.int .u8 ((t.getD J 0 ^^^ y).toNat : Int))) k1 A1 B1 C1 i1 E K T m X cp l ∧ Lies (w3.setCell ⟨w2.heap.size, J, none⟩ (.int .u8 ((t.getD J 0 ^^^ y).toNat : Int))) (w2.heap.size + 1) (some ⟨w2.heap.size, 0, none⟩) (B8 x) ∧ w2.heap.size + 1 ≤ (w3.setCell ⟨w2.heap.size, J, none⟩ (.int .u8 ((t.getD J 0 ^^^ y).toNat : Int))).heap.size) :=
            Lib.hid ⟨flip t J y, flip_length t J y, T4.out.belowB (Bx := w2.heap.size) ((Below.refl _ _).setCell (p := ⟨w2.heap.size, J, none⟩) (Nat.le_refl _) _) T3.out.lt, by
              rw [show (⟨w2.heap.size, J, none⟩ : Addr) = ⟨w2.heap.size, 0 + J, none⟩ from by rw [Nat.zero_add]]
              exact flip_lies LS.out J hJ y, by rw [show (w3.setCell ⟨w2.heap.size, J, none⟩ (.int .u8 ((t.getD J 0 ^^^ y).toNat : Int))).heap.size = w3.heap.size from by simp [World.setCell], Y3.out]; exact Nat.le_refl _⟩
          generalize t.getD J 0 = q at *
          generalize (q ^^^ y) = z' at *
          have hJ' : (J : Int) < (t.length : Int) := by omega
          have hJc : (J : Int) < (ct : Int) := by omega
          clear hlen
          go_wp2_with fail
          go_meet
          exact D.out
      case rest =>
      obtain ⟨x, hxl, ht5, hl5, hz5⟩ := hcut
      obtain ⟨w5, hw5⟩ : ∃ w5 : World, w5 = wc := ⟨_, rfl⟩
      rw [← hw5] at ht5 hl5 hz5
      rw [← hw5]
      have T5 := Lib.hid ht5
      have L5 := Lib.hid hl5
      have Z5 := Lib.hid hz5
      have XL := Lib.hid hxl
      clear ht5 hl5 hw5 hz5 hxl T1 T2 T3 T4 LS FS
      go_wp2_with fail
      go_loopw [21] (fun qv wr => ∃ q : Nat, q ≤ 4 ∧ qv = .int .i64 q ∧ Below w5.heap.size w5 wr) (fun qv _ => 4 - (intOf qv).toNat)
      case atStart => exact ⟨0, by omega, rfl, Below.refl _ _⟩
      case round =>
        obtain ⟨q, hq, rfl, hbq⟩ := hrel
        obtain ⟨wq, hwq⟩ : ∃ wo : World, wo = wr := ⟨_, rfl⟩
        subst hwq
        have BQ := Lib.hid hbq
        have T6 := Lib.hid (T5.out.below hbq)
        have L6 := Lib.hid (L5.out.below (hbq.mono Z5.out))
        clear hbq
        by_cases hq4 : q < 4
        · have hq4' : (q : Int) < 4 := by omega
          have cvx := run_octets_string (P := Try.prog) 23 9 5 Try.underlying23 Try.underlying5 Try.underlying9 (show Lies wq.drew (w2.heap.size + 1) (some ⟨w2.heap.size, 0, none⟩) (B8 x) from L6.out) ct
          rw [XL.out] at cvx
          obtain ⟨jc, hjc, hjce⟩ := turn_at cut (t.length + 1) (by omega)
          have hjz : (bits .and .i64 cut 65535).tmod ((t.length : Int) + 1) = (jc : Int) := by rw [← hjce, Int.natCast_add]; rfl
          have hjc' : jc ≤ t.length := by omega
          have hwl : IntKind.i64.wrap ((t.length : Int) + 1) = (t.length : Int) + 1 := IntWalk.i64_in _ (by omega)
          have hn0 : ¬ ((t.length : Int) + 1 = 0) := by omega
          have hj1 : (0 : Int) ≤ (jc : Int) := by omega
          have hj3 : (jc : Int) ≤ (t.length : Int) := by omega
          have ex := cut_list12 t jc
          have ap : (⟨t.toArray⟩ : ByteArray) ++ ⟨s.toArray⟩ = ⟨(t ++ s).toArray⟩ := by apply ByteArray.ext; simp [ByteArray.data_append]
          obtain ⟨y3, hy3⟩ : ∃ z, z = t.take jc := ⟨_, rfl⟩
          obtain ⟨y4, hy4⟩ : ∃ z, z = t ++ s := ⟨_, rfl⟩
          have ly3 : y3.length ≤ 1000 := by rw [hy3]; have := List.length_take_le jc t; have := List.length_take_le' jc t; omega
          have ly4 : y4.length ≤ 1000 := by rw [hy4, List.length_append]; omega
          have lx : x.length ≤ 1000 := by rw [XL.out]; omega
          have ls' : s.length ≤ 1000 := by omega
          rw [← hy3] at ex
          rw [← hy4] at ap
          have sy3 := key_size y3
          have sy4 := key_size y4
          clear hjce hy3 hy4
          go_upto_region 16 with fail
          go_cut [22] (fun v wx => YIs w wq (w2.heap.size + 1) (some ⟨w2.heap.size, 0, none⟩) x (fun wx => KT w wx k1 A1 B1 C1 i1 E K T m X cp l) v wx)
          case first =>
            have D : Hid (∀ z : List UInt8, z.length ≤ 1000 → ∀ cs, YIs w wq (w2.heap.size + 1) (some ⟨w2.heap.size, 0, none⟩) x (fun wx => KT w wx k1 A1 B1 C1 i1 E K T m X cp l) (.string ⟨z.toArray⟩) ((wq.alloc (.cells cs 9)).drew)) := Lib.hid (fun z hz cs => by
              have hb : Below wq.heap.size wq ((wq.alloc (.cells cs 9)).drew) := ((Below.refl _ _).alloc (Nat.le_refl _) _).drew
              exact ⟨z, rfl, hz, T6.out.below hb, L6.out.below (hb.mono (Nat.le_trans Z5.out BQ.out.size)), hb⟩)
            rcases (show q = 0 ∨ q = 1 ∨ q = 2 ∨ q = 3 by omega) with rfl | rfl | rfl | rfl
            · go_region
              all_goals (go_wp2_with fail; go_meet; exact D.out s ls' _)
            · go_region
              all_goals (go_wp2_with fail; go_meet; exact D.out x lx _)
            · go_region
              all_goals (go_wp2_with fail; go_meet; exact D.out y3 ly3 _)
            · go_region
              all_goals (go_wp2_with fail; go_meet; exact D.out y4 ly4 _)
          case rest =>
          clear cvx hjz hwl hn0 hj1 hj3 ex ap ly3 ly4 lx sy3 sy4 y3 y4 hjc hjc'
          obtain ⟨yy, rfl, hyl, ht7, hl7, hb7⟩ := hcut
          obtain ⟨w7, hw7⟩ : ∃ w7 : World, w7 = wc := ⟨_, rfl⟩
          rw [← hw7] at ht7 hl7 hb7
          rw [← hw7]
          have T7 := Lib.hid ht7
          have B7 := Lib.hid (BQ.out.trans (hb7.mono BQ.out.size))
          clear ht7 hl7 hb7 hw7
          obtain ⟨⟨kr, Ar, Br, Cr, ir⟩, hkr⟩ : ∃ v, v = kvOf (keyOf yy) := ⟨_, rfl⟩
          obtain ⟨fr, hfr⟩ : ∃ v, v = (keyOf yy).isSome := ⟨_, rfl⟩
          have HKR := Lib.hid hkr
          have HFR := Lib.hid hfr
          clear hkr hfr
          go_wp2_with fail
          refine (kparse_any yy _ (by omega)).mono ?_
          intro e w8 h8
          obtain ⟨rfl, hb8⟩ := parse_form HKR.out HFR.out h8
          have B8' := Lib.hid (B7.out.trans (hb8.mono B7.out.size))
          obtain ⟨W9, hW9⟩ : ∃ W, W = w8.alloc (.cells (kyC kr Ar Br Cr ir) 28) := ⟨_, rfl⟩
          have K9 : Hid (Whole W9 w8.heap.size 28 (kyC kr Ar Br Cr ir)) := Lib.hid (by rw [hW9]; exact Whole.new _ _ _)
          have B9 : Hid (Below w5.heap.size w5 W9) := Lib.hid (by rw [hW9]; exact B8'.out.alloc B8'.out.size _)
          clear h8 hb8
          unfold kyV
          go_upto_region 18 with fail
          unfold kyC at hW9
          rw [← hW9]
          clear hW9
          go_wp2_with fail
          refine (rkeyof_any yy _ (by omega)).mono ?_
          intro e w10 h10
          obtain ⟨rfl, hb10⟩ := parse_form HKR.out HFR.out h10
          have K10 := Lib.hid (K9.out.below hb10 K9.out.lt)
          have B10 := Lib.hid (B9.out.trans (hb10.mono B9.out.size))
          obtain ⟨W11, hW11⟩ : ∃ W, W = w10.alloc (.cells (kyC kr Ar Br Cr ir) 28) := ⟨_, rfl⟩
          have K11 : Hid (Whole W11 w10.heap.size 28 (kyC kr Ar Br Cr ir)) := Lib.hid (by rw [hW11]; exact Whole.new _ _ _)
          have K11' : Hid (Whole W11 w8.heap.size 28 (kyC kr Ar Br Cr ir)) := Lib.hid (by rw [hW11]; exact K10.out.alloc _)
          have B11 : Hid (Below w5.heap.size w5 W11) := Lib.hid (by rw [hW11]; exact B10.out.alloc B10.out.size _)
          clear h10 hb10
          unfold kyV
          go_upto_region 19 with fail
          unfold kyC at hW11
          rw [← hW11]
          clear hW11
          obtain ⟨c0, c1, c2, c3, c4⟩ := kyC_cells K11'.out
          obtain ⟨d0, d1, d2, d3, d4⟩ := kyC_cells K11.out
          go_wp2_with fail
          go_roundw
          case rel => exact ⟨q + 1, by omega, by go_num, B11.out⟩
          case measure => simp [intOf]; omega
        · obtain rfl : q = 4 := by omega
          clear L5
          obtain ⟨c0, c1, c2, c3, c4⟩ := kyC_cells T6.out.a
          have hk := fun w => ktame_any k1 A1 B1 C1 i1 w OA.out OB.out OC.out
          have HKT := Lib.hid hk
          clear hk
          go_wp2_with fail
          refine (HKT.out _).mono ?_
          rintro e w8 ⟨rfl, hb8⟩
          have T8 := Lib.hid (T6.out.below hb8)
          have h9 := T8.out.put (tmq k1 + 1 : Nat) (tmA k1 A1) (tmB k1 B1) (tmC k1 C1) (tmI k1 i1)
          have T9 := Lib.hid h9
          have okt := okK_less (tame_ok k1 A1 B1 C1 i1)
          have lt := tame_less k1 A1 B1 C1 i1 hi1
          obtain ⟨_, _, _, zA, zB, zC, _⟩ := okt
          generalize (tmq k1 + 1 : Nat) = nk at *
          generalize tmA k1 A1 = nA at *
          generalize tmB k1 B1 = nB at *
          generalize tmC k1 C1 = nC at *
          generalize tmI k1 i1 = ni at *
          clear c0 c1 c2 c3 c4 hb8 h9 HKT
          obtain ⟨c0, c1, c2, c3, c4⟩ := kyC_cells T8.out.a
          have fr := T8.out.a.frozen
          unfold kyV
          go_wp2_with fail
          go_roundw
          case rel => exact ⟨j + 1, nk, nA, nB, nC, ni, by go_num, by omega, room63 (by omega), room63 (by omega), room63 (by omega), lt, T9.out⟩
          case measure => simp [intOf]; omega
    · have hj2' : ¬ (j : Int) < 2 := by omega
      clear hj hi1
      obtain ⟨Z, hZ⟩ : ∃ Z, Z = if okM E.length K.length T.length m l.length then msB E K T m.toNat l else [] := ⟨_, rfl⟩
      obtain ⟨f, hf⟩ : ∃ f, f = okM E.length K.length T.length m l.length := ⟨_, rfl⟩
      have zl := msg_short hZ
      have HZ := Lib.hid hZ
      have HF := Lib.hid hf
      clear hZ hf
      obtain ⟨c0, c1, c2, c3, c4⟩ := five12 T1.out.m
      have zb := T1.out.bel.size
      have mm := fun W (hb : Below w.heap.size w W) => msg_any E K T m X l.length cp l w.heap.size W rfl (HLX.out.below hb) hb.size HHE.out HHK.out HHT.out HHL.out
      have rm := fun W (hb : Below w.heap.size w W) => rmsg_any E K T m X l.length cp l w.heap.size W rfl (HLX.out.below hb) hb.size HHE.out HHK.out HHT.out HHL.out
      have MM := Lib.hid mm
      have RM := Lib.hid rm
      clear mm rm
      go_wp2_with fail
      refine (MM.out _ T1.out.bel).mono ?_
      intro e w2 h2
      obtain ⟨A2, c2', rfl, g2, g2', l2, hb2⟩ := msg_form HZ.out HF.out h2
      have T2 := Lib.hid (T1.out.below hb2)
      have L2 := Lib.hid l2
      clear c0 c1 c2 c3 c4 h2 hb2 l2
      obtain ⟨c0, c1, c2, c3, c4⟩ := five12 T2.out.m
      go_wp2_with fail
      refine (RM.out _ T2.out.bel).mono ?_
      intro e w3 h3
      obtain ⟨A3, c3', rfl, g3, g3', l3, hb3⟩ := msg_form HZ.out HF.out h3
      have T3 := Lib.hid (T2.out.below hb3)
      have L3 := Lib.hid l3
      have L2' := L2.out.below hb3
      have cv2 := run_octets_string (P := Try.prog) 23 9 5 Try.underlying23 Try.underlying5 Try.underlying9 L2' c2'
      have cv3 := run_octets_string (P := Try.prog) 23 9 5 Try.underlying23 Try.underlying5 Try.underlying9 l3 c3'
      have G3' := Lib.hid g3'
      unfold maxLen at g3' g2'
      clear c0 c1 c2 c3 c4 h3 hb3 l3 L2' L2
      go_upto_region 26 with fail
      clear cv2 cv3
      go_wp2_with fail
      go_loopw [31] (fun qv wr => ∃ q : Nat, q ≤ 2 ∧ qv = .int .i64 q ∧ Below w3.heap.size w3 wr) (fun qv _ => 2 - (intOf qv).toNat)
      case atStart => exact ⟨0, by omega, rfl, Below.refl _ _⟩
      case round =>
        obtain ⟨q, hq, rfl, hbq⟩ := hrel
        obtain ⟨wq, hwq⟩ : ∃ wo : World, wo = wr := ⟨_, rfl⟩
        subst hwq
        have BQ := Lib.hid hbq
        have T6 := Lib.hid (T3.out.below hbq)
        have L6 := Lib.hid (L3.out.below hbq)
        have zq := hbq.size
        clear hbq
        by_cases hq2 : q < 2
        · have hq2' : (q : Int) < 2 := by omega
          obtain ⟨jc, hjc, hjce⟩ := turn_at cut (Z.length + 1) (by omega)
          have hjz : (bits .and .i64 cut 65535).tmod ((Z.length : Int) + 1) = (jc : Int) := by rw [← hjce, Int.natCast_add]; rfl
          have hjc' : jc ≤ Z.length := by omega
          have hwl : IntKind.i64.wrap ((Z.length : Int) + 1) = (Z.length : Int) + 1 := IntWalk.i64_in _ (by omega)
          have hn0 : ¬ ((Z.length : Int) + 1 = 0) := by omega
          have hj1 : (0 : Int) ≤ (jc : Int) := by omega
          have hj2x : (jc : Int) ≤ (c3' : Int) := by omega
          have hj3 : jc ≤ c3' := by omega
          go_upto_region 29 with fail
          go_cut [32] (fun v wx => ∃ (Ay : Option Addr) (yy : List UInt8) (cy : Nat), v = .slice Ay yy.length cy ∧ yy.length ≤ cy ∧ cy ≤ maxLen ∧ yy.length ≤ 30000 ∧ Lies wx wq.heap.size Ay (B8 yy) ∧ Below wq.heap.size wq wx)
          case first =>
            have D0 : Hid (∀ cs, ∃ (Ay : Option Addr) (yy : List UInt8) (cy : Nat), (Value.slice AR raw.length cR) = .slice Ay yy.length cy ∧ yy.length ≤ cy ∧ cy ≤ maxLen ∧ yy.length ≤ 30000 ∧ Lies (wq.alloc (.cells cs 23)) wq.heap.size Ay (B8 yy) ∧ Below wq.heap.size wq (wq.alloc (.cells cs 23))) := Lib.hid (fun cs => by
              have hb : Below wq.heap.size wq (wq.alloc (.cells cs 23)) := (Below.refl _ _).alloc (Nat.le_refl _) _
              exact ⟨AR, raw, cR, rfl, hrc, HHR.out, by omega, ((HRX.out.below T6.out.bel).more T6.out.bel.size).below hb, hb⟩)
            have D1 : Hid (∀ cs, ∃ (Ay : Option Addr) (yy : List UInt8) (cy : Nat), (Value.slice A3 jc c3') = .slice Ay yy.length cy ∧ yy.length ≤ cy ∧ cy ≤ maxLen ∧ yy.length ≤ 30000 ∧ Lies (wq.alloc (.cells cs 23)) wq.heap.size Ay (B8 yy) ∧ Below wq.heap.size wq (wq.alloc (.cells cs 23))) := Lib.hid (fun cs => by
              have hb : Below wq.heap.size wq (wq.alloc (.cells cs 23)) := (Below.refl _ _).alloc (Nat.le_refl _) _
              have ht : (Z.take jc).length = jc := by rw [List.length_take]; omega
              refine ⟨A3, Z.take jc, c3', by rw [ht], by rw [ht]; exact hj3, G3'.out, by rw [ht]; omega, ?_, hb⟩
              have h := L6.out.take jc
              rw [B8, ← List.map_take] at h
              exact (h.more zq).below hb)
            rcases (show q = 0 ∨ q = 1 by omega) with rfl | rfl
            · go_wp2_with fail
              go_meet
              exact D0.out _
            · go_wp2_with fail
              go_meet
              exact D1.out _
          case rest =>
          clear hjce hjz hjc hjc' hwl hn0 hj1 hj2x hj3
          obtain ⟨Ay, yy, cy, rfl, y1, y2, y3, hly, hby⟩ := hcut
          obtain ⟨w7, hw7⟩ : ∃ w7 : World, w7 = wc := ⟨_, rfl⟩
          rw [← hw7] at hly hby
          rw [← hw7]
          have LY := Lib.hid hly
          have B7 := Lib.hid (BQ.out.trans (hby.mono zq))
          have zy : wq.heap.size ≤ w7.heap.size := hby.size
          have Y2 := Lib.hid y2
          clear hly hby hw7 y2
          obtain ⟨⟨Er, Kr, Tr, mr, br⟩, hvr⟩ : ∃ v, v = mvOf (msgOf yy) := ⟨_, rfl⟩
          obtain ⟨fr, hfr⟩ : ∃ v, v = (msgOf yy).isSome := ⟨_, rfl⟩
          have HVR := Lib.hid hvr
          have HFR := Lib.hid hfr
          clear hvr hfr
          go_wp2_with fail
          refine (pmsg_any Ay _ cy yy wq.heap.size _ rfl LY.out zy (by omega)).mono ?_
          intro e w8 h8
          obtain ⟨A8, c8, rfl, l8, hb8⟩ := pmsg_form HVR.out HFR.out h8
          have B8' := Lib.hid (B7.out.trans (hb8.mono B7.out.size))
          have LY8 := Lib.hid (LY.out.below (hb8.mono zy))
          obtain ⟨W9, hW9⟩ : ∃ W, W = w8.alloc (.cells (msC Er Kr Tr (mr : Int) (.slice A8 br.length c8)) 32) := ⟨_, rfl⟩
          have hb9 : Below w8.heap.size w8 W9 := by rw [hW9]; exact (Below.refl _ _).alloc (Nat.le_refl _) _
          have K9 : Hid (Whole W9 w8.heap.size 32 (msC Er Kr Tr (mr : Int) (.slice A8 br.length c8))) := Lib.hid (by rw [hW9]; exact Whole.new _ _ _)
          have B9 := Lib.hid (B8'.out.trans (hb9.mono B8'.out.size))
          have L9 := Lib.hid (l8.below hb9)
          have z8 : wq.heap.size ≤ w8.heap.size := Nat.le_trans zy hb8.size
          have LY9 := Lib.hid (LY8.out.below (hb9.mono z8))
          clear h8 hb8 l8
          unfold msV
          go_upto_region 31 with fail
          unfold msC at hW9
          rw [← hW9]
          clear hW9
          have z9 : wq.heap.size ≤ W9.heap.size := Nat.le_trans z8 hb9.size
          clear hb9
          go_wp2_with fail
          refine (rmsgof_any Ay _ cy yy wq.heap.size _ rfl LY9.out z9 (by omega) y1 Y2.out).mono ?_
          intro e w10 h10
          obtain ⟨A10, c10, rfl, l10, hb10⟩ := rmsg_form HVR.out HFR.out h10
          have B10 := Lib.hid (B9.out.trans (hb10.mono B9.out.size))
          have K10 := Lib.hid (K9.out.below hb10 K9.out.lt)
          have L10 := Lib.hid (L9.out.below (hb10.mono (Nat.le_of_lt K9.out.lt)))
          obtain ⟨W11, hW11⟩ : ∃ W, W = w10.alloc (.cells (msC Er Kr Tr (mr : Int) (.slice A10 br.length c10)) 32) := ⟨_, rfl⟩
          have hb11 : Below w10.heap.size w10 W11 := by rw [hW11]; exact (Below.refl _ _).alloc (Nat.le_refl _) _
          have K11 : Hid (Whole W11 w10.heap.size 32 (msC Er Kr Tr (mr : Int) (.slice A10 br.length c10))) := Lib.hid (by rw [hW11]; exact Whole.new _ _ _)
          have K11' := Lib.hid (K10.out.below hb11 K10.out.lt)
          have B11 := Lib.hid (B10.out.trans (hb11.mono B10.out.size))
          have z10 : w8.heap.size ≤ w10.heap.size := Nat.le_of_lt K10.out.lt
          have z11 : w10.heap.size ≤ W11.heap.size := hb11.size
          have L11 := Lib.hid (L10.out.below (hb11.mono z10))
          have L11' := Lib.hid (l10.below (hb11.mono (Nat.le_trans z8 z10)))
          clear h10 hb10 l10 hb11
          unfold msV
          go_upto_region 32 with fail
          unfold msC at hW11
          rw [← hW11]
          clear hW11
          obtain ⟨c0, c1, c2, c3, c4⟩ := five12 K11'.out
          obtain ⟨d0, d1, d2, d3, d4⟩ := five12 K11.out
          go_wp2_with fail
          refine (same_any12 Er Kr Tr (mr : Int) A8 _ c8 br Er Kr Tr (mr : Int) A10 _ c10 br _ _ _ rfl rfl L11.out L11'.out (by omega) (by omega)).mono ?_
          rintro e w12 ⟨rfl, hb12⟩
          rw [show sameM Er Kr Tr (mr : Int) br Er Kr Tr (mr : Int) br = true by simp [sameM]]
          have B12 := Lib.hid (B11.out.trans (hb12.mono B11.out.size))
          clear hb12
          go_wp2_with fail
          go_roundw
          case rel => exact ⟨q + 1, by omega, by go_num, B12.out⟩
          case measure => simp [intOf]; omega
        · obtain rfl : q = 2 := by omega
          go_wp2_with fail
          refine (awake12_any _).mono ?_
          rintro e w13 ⟨rfl, hb13⟩
          have T13 := Lib.hid (T6.out.below hb13)
          clear hb13
          go_wp2_with fail
          go_ret
          exact ⟨rfl, T13.out.bel⟩
theorem ktells_all (k : Int) (A B C : List UInt8) (id : Nat) (s : ByteArray) (at_ : Int) (y : UInt8) (cut : Int) (E K T : List UInt8) (m : Int) (X : Option Addr) (cp : Nat) (l : List UInt8) (AR : Option Addr) (cR : Nat) (raw : List UInt8) (w : World)
    (hA : A.length ≤ maxLen) (hB : B.length ≤ maxLen) (hC : C.length ≤ maxLen) (hi : id < 18446744073709551616) (hs : s.size ≤ maxLen) (hE : E.length ≤ maxLen) (hK : K.length ≤ maxLen) (hT : T.length ≤ maxLen) (hlc : l.length ≤ cp) (hcm : cp ≤ maxLen) (hl : Lies w w.heap.size X (B8 l)) (hrc : raw.length ≤ cR) (hrm : cR ≤ maxLen) (hr : Lies w w.heap.size AR (B8 raw)) :
    Calls Try.prog 4 #[kyV k A B C id, .string s, .int .i64 at_, .int .u8 (y.toNat : Int), .int .i64 cut, msV E K T m (.slice X l.length cp), .slice AR raw.length cR] w fun e w' => e = .returned (.bool true) ∧ Below w.heap.size w w' := by
  have e : s.data.toList.length = s.size := by rw [Array.length_toList]; rfl
  exact ktells_law k A B C id s.data.toList at_ y cut E K T m X cp l AR cR raw w hA hB hC hi (by rw [e]; exact hs) hE hK hT hlc hcm hl hrc hrm hr
end Go.Proofs.Ytgdlgkbckblagaa
