/- Contracts of the writer of package meth: a flag. -/
import Derived.Test.YtlfppfknelddcaaDoorMethW2
import Derived.RegionTactic
namespace Go.Proofs.YtlfppfknelddcaaDoor
open Go.RowKit
set_option maxRecDepth 100000
set_option linter.unusedSimpArgs false
set_option linter.unusedVariables false

theorem B8_set (l : List UInt8) (j : Nat) (x : UInt8) : (B8 l).set j (.int .u8 (x.toNat : Int)) = B8 (l.set j x) := by
  simp [B8, List.map_set]
theorem orLast_set (b0 : List UInt8) (v : UInt8) (m : Nat) : orLast (b0 ++ [v]) m = (b0 ++ [v]).set b0.length (UInt8.ofNat (v.toNat ||| m)) := by
  simp [orLast]
theorem flag_done {base g rb n cp : Nat} {p : Parts} {c i : Int} {w w1 : World} {vN vS vF vT : Value} {b0 : List UInt8} {v : UInt8} {bad : Bool} (j m : Nat) (hw : Whole w1 g 85 #[.slice (some ⟨rb, 0, none⟩) n cp, .int .i64 c, .int .i64 i, vN, vS, vF, vT, .bool bad]) (hp : PartsAt w1 base p vN vS vF vT) (hbg : base ≤ g) (h1 : Below base w w1)
    (hn : n = b0.length + 1) (ho : w1.ownsRow base 5 1 (.slice (some ⟨rb, 0, none⟩) n cp) n (B8 (b0 ++ [v]))) (hj : j < 8) (hm : m = 2 ^ j) :
    Wrote base g { b := orLast (b0 ++ [v]) m, p := p, bad := bad } c i w (.returned (.tuple #[])) ((w1.setCell ⟨rb, n - 1, none⟩ (.int .u8 (bits .or .u8 (v.toNat : Int) (m : Int)))).drew) := by
  have hm8 : m < 256 := by
    have : 2 ^ j ≤ 2 ^ 7 := Nat.pow_le_pow_right (by omega) (by omega)
    omega
  have hor : bits .or .u8 (v.toNat : Int) (m : Int) = ((UInt8.ofNat (v.toNat ||| m)).toNat : Int) := by
    rw [u8_or_nat _ _ v.toNat_lt hm8, UInt8.toNat_ofNat', Nat.mod_eq_of_lt]
    exact Nat.or_lt_two_pow (n := 8) v.toNat_lt hm8
  rw [hor]
  have hrb := (ho.lt rb rfl).1
  have hne : rb ≠ g := by
    have := own_type ho hw (by decide)
    simpa [Value.ownBlock] using this
  obtain ⟨hst, _⟩ := ho.stored (n - 1) (.int .u8 ((UInt8.ofNat (v.toNat ||| m)).toNat : Int))
  rw [B8_set] at hst
  have hl : (orLast (b0 ++ [v]) m) = (b0 ++ [v]).set (n - 1) (UInt8.ofNat (v.toNat ||| m)) := by
    rw [orLast_set, hn]
    rfl
  have hlen : (orLast (b0 ++ [v]) m).length = n := by rw [hl, List.length_set, hn]; simp
  have hbb := (Below.refl base w1).setCell (p := ⟨rb, n - 1, none⟩) hrb (.int .u8 ((UInt8.ofNat (v.toNat ||| m)).toNat : Int))
  have hww : Whole ((w1.setCell ⟨rb, n - 1, none⟩ (.int .u8 ((UInt8.ofNat (v.toNat ||| m)).toNat : Int))).drew) g 85 #[.slice (some ⟨rb, 0, none⟩) n cp, .int .i64 c, .int .i64 i, vN, vS, vF, vT, .bool bad] := by
    show (w1.setCell ⟨rb, n - 1, none⟩ _).heap[g]? = _
    rw [Below.heap_setCell w1 ⟨rb, n - 1, none⟩ _ g (fun e => hne e.symm)]
    exact hw
  refine ⟨rfl, ⟨_, vN, vS, vF, vT, hww, ?_, hp.below hbb.drew, hbg⟩, (h1.trans hbb).drew⟩
  rw [hlen, hl]
  exact hst
theorem own_last {w : World} {base rb n cp : Nat} {b0 : List UInt8} {v : UInt8} (ho : w.ownsRow base 5 1 (.slice (some ⟨rb, 0, none⟩) n cp) n (B8 (b0 ++ [v]))) (hn : n = b0.length + 1) :
    w.cell? ⟨rb, n - 1, none⟩ = some (.int .u8 (v.toNat : Int)) ∧ w.frozen? ⟨rb, n - 1, none⟩ = false := by
  have h := Lies.own ho (Nat.le_refl _)
  refine ⟨?_, ho.frozenAt _⟩
  rcases h.octets with h | ⟨b, o, e, _, hc⟩
  · simp at h
  · injection e with e
    injection e with e1 e2 e3
    subst e1 e2
    have := hc b0.length (by simp)
    rw [hn]
    simpa using this
def flagB (b : List UInt8) (j : Nat) (f : Bool) : List UInt8 := if f then orLast (if j = 0 then b ++ be 1 0 else b) (2 ^ j) else (if j = 0 then b ++ be 1 0 else b)
theorem wflag_0 (base g : Nat) (st : WS) (c i : Int) (f : Bool) (w : World) (h : WAt w base g st c i) (hB : base ≤ w.heap.size) (hs : st.b.length + 264 ≤ 140737488355328) :
    Calls Tryd.prog 55 #[.pointer (some ⟨g, 0, none⟩), .bool f, .int .i64 0] w (Wrote base g { st with b := flagB st.b 0 f } c i w) := by
  obtain ⟨vb, vN, vS, vF, vT, hw, hown, hp, hbg⟩ := h
  obtain ⟨A, cp, rfl, hcp, hcm⟩ := own_form hown
  have hl := Lies.own hown (Nat.le_refl _)
  have c0 : w.cell? ⟨g, 0, none⟩ = some (.slice A st.b.length cp) := hw.cell 0
  have HW := Lib.hid hw
  have HO := Lib.hid hown
  have HP := Lib.hid hp
  have HL := Lib.hid hl
  have HZ : Hid (st.b ++ be (wid 1) 0 = st.b ++ [0]) := Lib.hid (by rw [show wid 1 = 1 from rfl, be_one_zero])
  clear hw hown hp hl hcp hcm
  cases f with
  | false =>
    have HF : Hid (flagB st.b 0 false = st.b ++ [0]) := Lib.hid (by unfold flagB; rw [be_one_zero]; rfl)
    rw [HF.out]
    go_enter Tryd.func55, Tryd.ntmps55
    go_wp2_with fail
    refine (int_any A cp st.b w.heap.size 1 0 _ HL.out (Nat.le_refl _) (by omega)).mono ?_
    rw [HZ.out]
    rintro e w2 ⟨v, rfl, ho, hb⟩
    obtain ⟨Av, cv, rfl, _, _⟩ := own_form ho
    have DD := Lib.hid (wnum_done (Z := st.b ++ [0]) (st := st) HW.out HP.out hbg (Below.refl _ w) hB hb ho)
    have hk2 := HW.out.below hb HW.out.lt
    have g0 : w2.cell? ⟨g, 0, none⟩ = some (.slice A st.b.length cp) := hk2.cell 0
    have fg := hk2.frozen 0
    clear ho hb hk2
    go_wp2_with fail
    go_end0
    have dd := DD.out
    rw [List.length_append] at dd
    exact dd
  | true =>
    have HF : Hid (flagB st.b 0 true = orLast (st.b ++ [0]) 1) := Lib.hid (by unfold flagB; rw [be_one_zero]; rfl)
    rw [HF.out]
    go_enter Tryd.func55, Tryd.ntmps55
    go_wp2_with fail
    refine (int_any A cp st.b w.heap.size 1 0 _ HL.out (Nat.le_refl _) (by omega)).mono ?_
    rw [HZ.out]
    rintro e w2 ⟨v, rfl, ho, hb⟩
    obtain ⟨Av, cv, rfl, hcv, hmv⟩ := own_form ho
    have hk2 := HW.out.below hb HW.out.lt
    have g0 : w2.cell? ⟨g, 0, none⟩ = some (.slice A st.b.length cp) := hk2.cell 0
    have fg := hk2.frozen 0
    obtain ⟨n, hn⟩ : ∃ n, n = (st.b ++ [0]).length := ⟨_, rfl⟩
    rw [← hn] at ho hcv ⊢
    have hn1 : n = st.b.length + 1 := by rw [hn]; simp
    obtain ⟨rb, rfl, _, _, _⟩ := own_head ho (by omega)
    have hne := own_type ho hk2 (by decide)
    have ho1 := ownsRow_setCell_other (a := ⟨g, 0, none⟩) ho hne (.slice (some ⟨rb, 0, none⟩) n cv)
    have hk3 := hk2.set8 0 (.slice (some ⟨rb, 0, none⟩) n cv) rfl
    have hbb := (hb.mono hB).setCell (p := ⟨g, 0, none⟩) hbg (.slice (some ⟨rb, 0, none⟩) n cv)
    obtain ⟨w3, hw3⟩ : ∃ w3, w3 = w2.setCell ⟨g, 0, none⟩ (.slice (some ⟨rb, 0, none⟩) n cv) := ⟨_, rfl⟩
    rw [← hw3] at ho1 hk3 hbb
    have ho2 := own_base ho1 hB
    obtain ⟨cl, fl⟩ := own_last ho2 hn1
    have cl' : w3.cell? ⟨rb, n - 1, none⟩ = some (.int .u8 0) := cl
    have k0 : w3.cell? ⟨g, 0, none⟩ = some (.slice (some ⟨rb, 0, none⟩) n cv) := hk3.cell 0
    have DD := Lib.hid (flag_done (v := 0) (b0 := st.b) 0 1 hk3 (HP.out.below hbb) hbg hbb hn1 ho2 (by omega) rfl)
    have HW3 := Lib.hid hw3
    have hn0 : 0 < n := by omega
    unfold maxLen at hmv
    clear ho hb hk2 hk3 ho1 ho2 hbb hne cl hn hn1 hw3
    rw [HW3.out] at cl' k0 fl
    go_wp2_with fail
    go_region
    go_wp2_with fail
    go_end0
    rw [← HW3.out]
    exact DD.out
theorem wflag_1 (base g : Nat) (st : WS) (c i : Int) (f : Bool) (w : World) (h : WAt w base g st c i) (hB : base ≤ w.heap.size) (hs : st.b.length + 264 ≤ 140737488355328) (h0 : st.b ≠ []) :
    Calls Tryd.prog 55 #[.pointer (some ⟨g, 0, none⟩), .bool f, .int .i64 1] w (Wrote base g { st with b := flagB st.b 1 f } c i w) := by
  cases f with
  | false =>
    have D : Hid (Wrote base g { st with b := flagB st.b 1 false } c i w (.returned (.tuple #[])) w) := Lib.hid ⟨rfl, h, Below.refl _ _⟩
    clear h h0
    go_enter Tryd.func55, Tryd.ntmps55
    go_wp2_with fail
    go_end0
    exact D.out
  | true =>
    obtain ⟨vb, vN, vS, vF, vT, hw, hown, hp, hbg⟩ := h
    obtain ⟨A, cp, rfl, hcp, hcm⟩ := own_form hown
    obtain ⟨b, p, bad⟩ := st
    simp only at hw hown hp hcp h0 hs ⊢
    obtain ⟨b0, v, rfl⟩ : ∃ b0 v, b = b0 ++ [v] := ⟨b.dropLast, b.getLast h0, (List.dropLast_concat_getLast h0).symm⟩
    have HF : Hid (flagB (b0 ++ [v]) 1 true = orLast (b0 ++ [v]) 2) := Lib.hid rfl
    rw [HF.out]
    obtain ⟨n, hn⟩ : ∃ n, n = (b0 ++ [v]).length := ⟨_, rfl⟩
    rw [← hn] at hown hcp hw
    have hn1 : n = b0.length + 1 := by rw [hn]; simp
    obtain ⟨rb, rfl, _, _, _⟩ := own_head hown (by omega)
    obtain ⟨cl, fl⟩ := own_last hown hn1
    have k0 : w.cell? ⟨g, 0, none⟩ = some (.slice (some ⟨rb, 0, none⟩) n cp) := hw.cell 0
    have DD := Lib.hid (flag_done (v := v) (b0 := b0) 1 2 hw hp hbg (Below.refl _ w) hn1 hown (by omega) rfl)
    have hn0 : 0 < n := by omega
    unfold maxLen at hcm
    clear hown hw hp hn hn1 h0
    go_enter Tryd.func55, Tryd.ntmps55
    go_wp2_with fail
    go_region
    go_wp2_with fail
    go_end0
    exact DD.out
theorem wflag_2 (base g : Nat) (st : WS) (c i : Int) (f : Bool) (w : World) (h : WAt w base g st c i) (hB : base ≤ w.heap.size) (hs : st.b.length + 264 ≤ 140737488355328) (h0 : st.b ≠ []) :
    Calls Tryd.prog 55 #[.pointer (some ⟨g, 0, none⟩), .bool f, .int .i64 2] w (Wrote base g { st with b := flagB st.b 2 f } c i w) := by
  cases f with
  | false =>
    have D : Hid (Wrote base g { st with b := flagB st.b 2 false } c i w (.returned (.tuple #[])) w) := Lib.hid ⟨rfl, h, Below.refl _ _⟩
    clear h h0
    go_enter Tryd.func55, Tryd.ntmps55
    go_wp2_with fail
    go_end0
    exact D.out
  | true =>
    obtain ⟨vb, vN, vS, vF, vT, hw, hown, hp, hbg⟩ := h
    obtain ⟨A, cp, rfl, hcp, hcm⟩ := own_form hown
    obtain ⟨b, p, bad⟩ := st
    simp only at hw hown hp hcp h0 hs ⊢
    obtain ⟨b0, v, rfl⟩ : ∃ b0 v, b = b0 ++ [v] := ⟨b.dropLast, b.getLast h0, (List.dropLast_concat_getLast h0).symm⟩
    have HF : Hid (flagB (b0 ++ [v]) 2 true = orLast (b0 ++ [v]) 4) := Lib.hid rfl
    rw [HF.out]
    obtain ⟨n, hn⟩ : ∃ n, n = (b0 ++ [v]).length := ⟨_, rfl⟩
    rw [← hn] at hown hcp hw
    have hn1 : n = b0.length + 1 := by rw [hn]; simp
    obtain ⟨rb, rfl, _, _, _⟩ := own_head hown (by omega)
    obtain ⟨cl, fl⟩ := own_last hown hn1
    have k0 : w.cell? ⟨g, 0, none⟩ = some (.slice (some ⟨rb, 0, none⟩) n cp) := hw.cell 0
    have DD := Lib.hid (flag_done (v := v) (b0 := b0) 2 4 hw hp hbg (Below.refl _ w) hn1 hown (by omega) rfl)
    have hn0 : 0 < n := by omega
    unfold maxLen at hcm
    clear hown hw hp hn hn1 h0
    go_enter Tryd.func55, Tryd.ntmps55
    go_wp2_with fail
    go_region
    go_wp2_with fail
    go_end0
    exact DD.out
theorem wflag_3 (base g : Nat) (st : WS) (c i : Int) (f : Bool) (w : World) (h : WAt w base g st c i) (hB : base ≤ w.heap.size) (hs : st.b.length + 264 ≤ 140737488355328) (h0 : st.b ≠ []) :
    Calls Tryd.prog 55 #[.pointer (some ⟨g, 0, none⟩), .bool f, .int .i64 3] w (Wrote base g { st with b := flagB st.b 3 f } c i w) := by
  cases f with
  | false =>
    have D : Hid (Wrote base g { st with b := flagB st.b 3 false } c i w (.returned (.tuple #[])) w) := Lib.hid ⟨rfl, h, Below.refl _ _⟩
    clear h h0
    go_enter Tryd.func55, Tryd.ntmps55
    go_wp2_with fail
    go_end0
    exact D.out
  | true =>
    obtain ⟨vb, vN, vS, vF, vT, hw, hown, hp, hbg⟩ := h
    obtain ⟨A, cp, rfl, hcp, hcm⟩ := own_form hown
    obtain ⟨b, p, bad⟩ := st
    simp only at hw hown hp hcp h0 hs ⊢
    obtain ⟨b0, v, rfl⟩ : ∃ b0 v, b = b0 ++ [v] := ⟨b.dropLast, b.getLast h0, (List.dropLast_concat_getLast h0).symm⟩
    have HF : Hid (flagB (b0 ++ [v]) 3 true = orLast (b0 ++ [v]) 8) := Lib.hid rfl
    rw [HF.out]
    obtain ⟨n, hn⟩ : ∃ n, n = (b0 ++ [v]).length := ⟨_, rfl⟩
    rw [← hn] at hown hcp hw
    have hn1 : n = b0.length + 1 := by rw [hn]; simp
    obtain ⟨rb, rfl, _, _, _⟩ := own_head hown (by omega)
    obtain ⟨cl, fl⟩ := own_last hown hn1
    have k0 : w.cell? ⟨g, 0, none⟩ = some (.slice (some ⟨rb, 0, none⟩) n cp) := hw.cell 0
    have DD := Lib.hid (flag_done (v := v) (b0 := b0) 3 8 hw hp hbg (Below.refl _ w) hn1 hown (by omega) rfl)
    have hn0 : 0 < n := by omega
    unfold maxLen at hcm
    clear hown hw hp hn hn1 h0
    go_enter Tryd.func55, Tryd.ntmps55
    go_wp2_with fail
    go_region
    go_wp2_with fail
    go_end0
    exact DD.out
theorem wflag_4 (base g : Nat) (st : WS) (c i : Int) (f : Bool) (w : World) (h : WAt w base g st c i) (hB : base ≤ w.heap.size) (hs : st.b.length + 264 ≤ 140737488355328) (h0 : st.b ≠ []) :
    Calls Tryd.prog 55 #[.pointer (some ⟨g, 0, none⟩), .bool f, .int .i64 4] w (Wrote base g { st with b := flagB st.b 4 f } c i w) := by
  cases f with
  | false =>
    have D : Hid (Wrote base g { st with b := flagB st.b 4 false } c i w (.returned (.tuple #[])) w) := Lib.hid ⟨rfl, h, Below.refl _ _⟩
    clear h h0
    go_enter Tryd.func55, Tryd.ntmps55
    go_wp2_with fail
    go_end0
    exact D.out
  | true =>
    obtain ⟨vb, vN, vS, vF, vT, hw, hown, hp, hbg⟩ := h
    obtain ⟨A, cp, rfl, hcp, hcm⟩ := own_form hown
    obtain ⟨b, p, bad⟩ := st
    simp only at hw hown hp hcp h0 hs ⊢
    obtain ⟨b0, v, rfl⟩ : ∃ b0 v, b = b0 ++ [v] := ⟨b.dropLast, b.getLast h0, (List.dropLast_concat_getLast h0).symm⟩
    have HF : Hid (flagB (b0 ++ [v]) 4 true = orLast (b0 ++ [v]) 16) := Lib.hid rfl
    rw [HF.out]
    obtain ⟨n, hn⟩ : ∃ n, n = (b0 ++ [v]).length := ⟨_, rfl⟩
    rw [← hn] at hown hcp hw
    have hn1 : n = b0.length + 1 := by rw [hn]; simp
    obtain ⟨rb, rfl, _, _, _⟩ := own_head hown (by omega)
    obtain ⟨cl, fl⟩ := own_last hown hn1
    have k0 : w.cell? ⟨g, 0, none⟩ = some (.slice (some ⟨rb, 0, none⟩) n cp) := hw.cell 0
    have DD := Lib.hid (flag_done (v := v) (b0 := b0) 4 16 hw hp hbg (Below.refl _ w) hn1 hown (by omega) rfl)
    have hn0 : 0 < n := by omega
    unfold maxLen at hcm
    clear hown hw hp hn hn1 h0
    go_enter Tryd.func55, Tryd.ntmps55
    go_wp2_with fail
    go_region
    go_wp2_with fail
    go_end0
    exact DD.out
theorem wflag_5 (base g : Nat) (st : WS) (c i : Int) (f : Bool) (w : World) (h : WAt w base g st c i) (hB : base ≤ w.heap.size) (hs : st.b.length + 264 ≤ 140737488355328) (h0 : st.b ≠ []) :
    Calls Tryd.prog 55 #[.pointer (some ⟨g, 0, none⟩), .bool f, .int .i64 5] w (Wrote base g { st with b := flagB st.b 5 f } c i w) := by
  cases f with
  | false =>
    have D : Hid (Wrote base g { st with b := flagB st.b 5 false } c i w (.returned (.tuple #[])) w) := Lib.hid ⟨rfl, h, Below.refl _ _⟩
    clear h h0
    go_enter Tryd.func55, Tryd.ntmps55
    go_wp2_with fail
    go_end0
    exact D.out
  | true =>
    obtain ⟨vb, vN, vS, vF, vT, hw, hown, hp, hbg⟩ := h
    obtain ⟨A, cp, rfl, hcp, hcm⟩ := own_form hown
    obtain ⟨b, p, bad⟩ := st
    simp only at hw hown hp hcp h0 hs ⊢
    obtain ⟨b0, v, rfl⟩ : ∃ b0 v, b = b0 ++ [v] := ⟨b.dropLast, b.getLast h0, (List.dropLast_concat_getLast h0).symm⟩
    have HF : Hid (flagB (b0 ++ [v]) 5 true = orLast (b0 ++ [v]) 32) := Lib.hid rfl
    rw [HF.out]
    obtain ⟨n, hn⟩ : ∃ n, n = (b0 ++ [v]).length := ⟨_, rfl⟩
    rw [← hn] at hown hcp hw
    have hn1 : n = b0.length + 1 := by rw [hn]; simp
    obtain ⟨rb, rfl, _, _, _⟩ := own_head hown (by omega)
    obtain ⟨cl, fl⟩ := own_last hown hn1
    have k0 : w.cell? ⟨g, 0, none⟩ = some (.slice (some ⟨rb, 0, none⟩) n cp) := hw.cell 0
    have DD := Lib.hid (flag_done (v := v) (b0 := b0) 5 32 hw hp hbg (Below.refl _ w) hn1 hown (by omega) rfl)
    have hn0 : 0 < n := by omega
    unfold maxLen at hcm
    clear hown hw hp hn hn1 h0
    go_enter Tryd.func55, Tryd.ntmps55
    go_wp2_with fail
    go_region
    go_wp2_with fail
    go_end0
    exact DD.out
theorem wflag_6 (base g : Nat) (st : WS) (c i : Int) (f : Bool) (w : World) (h : WAt w base g st c i) (hB : base ≤ w.heap.size) (hs : st.b.length + 264 ≤ 140737488355328) (h0 : st.b ≠ []) :
    Calls Tryd.prog 55 #[.pointer (some ⟨g, 0, none⟩), .bool f, .int .i64 6] w (Wrote base g { st with b := flagB st.b 6 f } c i w) := by
  cases f with
  | false =>
    have D : Hid (Wrote base g { st with b := flagB st.b 6 false } c i w (.returned (.tuple #[])) w) := Lib.hid ⟨rfl, h, Below.refl _ _⟩
    clear h h0
    go_enter Tryd.func55, Tryd.ntmps55
    go_wp2_with fail
    go_end0
    exact D.out
  | true =>
    obtain ⟨vb, vN, vS, vF, vT, hw, hown, hp, hbg⟩ := h
    obtain ⟨A, cp, rfl, hcp, hcm⟩ := own_form hown
    obtain ⟨b, p, bad⟩ := st
    simp only at hw hown hp hcp h0 hs ⊢
    obtain ⟨b0, v, rfl⟩ : ∃ b0 v, b = b0 ++ [v] := ⟨b.dropLast, b.getLast h0, (List.dropLast_concat_getLast h0).symm⟩
    have HF : Hid (flagB (b0 ++ [v]) 6 true = orLast (b0 ++ [v]) 64) := Lib.hid rfl
    rw [HF.out]
    obtain ⟨n, hn⟩ : ∃ n, n = (b0 ++ [v]).length := ⟨_, rfl⟩
    rw [← hn] at hown hcp hw
    have hn1 : n = b0.length + 1 := by rw [hn]; simp
    obtain ⟨rb, rfl, _, _, _⟩ := own_head hown (by omega)
    obtain ⟨cl, fl⟩ := own_last hown hn1
    have k0 : w.cell? ⟨g, 0, none⟩ = some (.slice (some ⟨rb, 0, none⟩) n cp) := hw.cell 0
    have DD := Lib.hid (flag_done (v := v) (b0 := b0) 6 64 hw hp hbg (Below.refl _ w) hn1 hown (by omega) rfl)
    have hn0 : 0 < n := by omega
    unfold maxLen at hcm
    clear hown hw hp hn hn1 h0
    go_enter Tryd.func55, Tryd.ntmps55
    go_wp2_with fail
    go_region
    go_wp2_with fail
    go_end0
    exact DD.out
theorem wflag_7 (base g : Nat) (st : WS) (c i : Int) (f : Bool) (w : World) (h : WAt w base g st c i) (hB : base ≤ w.heap.size) (hs : st.b.length + 264 ≤ 140737488355328) (h0 : st.b ≠ []) :
    Calls Tryd.prog 55 #[.pointer (some ⟨g, 0, none⟩), .bool f, .int .i64 7] w (Wrote base g { st with b := flagB st.b 7 f } c i w) := by
  cases f with
  | false =>
    have D : Hid (Wrote base g { st with b := flagB st.b 7 false } c i w (.returned (.tuple #[])) w) := Lib.hid ⟨rfl, h, Below.refl _ _⟩
    clear h h0
    go_enter Tryd.func55, Tryd.ntmps55
    go_wp2_with fail
    go_end0
    exact D.out
  | true =>
    obtain ⟨vb, vN, vS, vF, vT, hw, hown, hp, hbg⟩ := h
    obtain ⟨A, cp, rfl, hcp, hcm⟩ := own_form hown
    obtain ⟨b, p, bad⟩ := st
    simp only at hw hown hp hcp h0 hs ⊢
    obtain ⟨b0, v, rfl⟩ : ∃ b0 v, b = b0 ++ [v] := ⟨b.dropLast, b.getLast h0, (List.dropLast_concat_getLast h0).symm⟩
    have HF : Hid (flagB (b0 ++ [v]) 7 true = orLast (b0 ++ [v]) 128) := Lib.hid rfl
    rw [HF.out]
    obtain ⟨n, hn⟩ : ∃ n, n = (b0 ++ [v]).length := ⟨_, rfl⟩
    rw [← hn] at hown hcp hw
    have hn1 : n = b0.length + 1 := by rw [hn]; simp
    obtain ⟨rb, rfl, _, _, _⟩ := own_head hown (by omega)
    obtain ⟨cl, fl⟩ := own_last hown hn1
    have k0 : w.cell? ⟨g, 0, none⟩ = some (.slice (some ⟨rb, 0, none⟩) n cp) := hw.cell 0
    have DD := Lib.hid (flag_done (v := v) (b0 := b0) 7 128 hw hp hbg (Below.refl _ w) hn1 hown (by omega) rfl)
    have hn0 : 0 < n := by omega
    unfold maxLen at hcm
    clear hown hw hp hn hn1 h0
    go_enter Tryd.func55, Tryd.ntmps55
    go_wp2_with fail
    go_region
    go_wp2_with fail
    go_end0
    exact DD.out
theorem wflag_any (base g : Nat) (st : WS) (c i : Int) (f : Bool) (j : Nat) (w : World) (h : WAt w base g st c i) (hB : base ≤ w.heap.size) (hs : st.b.length + 264 ≤ 140737488355328) (h0 : j ≠ 0 → st.b ≠ []) (hj : j < 8) :
    Calls Tryd.prog 55 #[.pointer (some ⟨g, 0, none⟩), .bool f, .int .i64 j] w (Wrote base g { st with b := flagB st.b j f } c i w) := by
  rcases (by omega : j = 0 ∨ j = 1 ∨ j = 2 ∨ j = 3 ∨ j = 4 ∨ j = 5 ∨ j = 6 ∨ j = 7) with rfl | rfl | rfl | rfl | rfl | rfl | rfl | rfl
  · exact wflag_0 base g st c i f w h hB hs
  · exact wflag_1 base g st c i f w h hB hs (h0 (by omega))
  · exact wflag_2 base g st c i f w h hB hs (h0 (by omega))
  · exact wflag_3 base g st c i f w h hB hs (h0 (by omega))
  · exact wflag_4 base g st c i f w h hB hs (h0 (by omega))
  · exact wflag_5 base g st c i f w h hB hs (h0 (by omega))
  · exact wflag_6 base g st c i f w h hB hs (h0 (by omega))
  · exact wflag_7 base g st c i f w h hB hs (h0 (by omega))
end Go.Proofs.YtlfppfknelddcaaDoor
