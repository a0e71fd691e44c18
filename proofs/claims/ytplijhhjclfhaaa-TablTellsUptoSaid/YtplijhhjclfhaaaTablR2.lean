/- Contracts of package tabl: a table's octets. -/
import Derived.Test.YtplijhhjclfhaaaTablR
namespace Go.Proofs.Ytplijhhjclfhaaa
open Go.RowKit

theorem may_parts (f : Fld) (h : mayB f = true) : 1 ≤ f.name.length ∧ f.name.length ≤ 128 := by
  unfold mayB at h
  simp only [Bool.and_eq_true, decide_eq_true_eq] at h
  exact h.1
theorem row_any (k : Nat) (HI : RowsOf 25 k) (f : Fld) (A : Option Addr) (c d B : Nat) (w : World) (hf : Held f) (hm : mayB f = true) (hk : f.kind = 70 → formedB k f.t = true) (ht : TabAt d w B f.t A c) (hB : B ≤ w.heap.size)
    (hx : (rowOf (rowsD k) f).length ≤ 70368744177664) : Calls Try.prog 41 #[aggF (.slice A f.t.length c) f] w (NewOcts w.heap.size (rowOf (rowsD k) f) w) := by
  have hp := may_parts f hm
  have hl := rowOf_length (rowsD k) f
  have hkk := may_kind f hm
  obtain ⟨nm, kd, n, s, t⟩ := f
  simp only [Fld.name, Fld.kind, Fld.n, Fld.s, Fld.t, sizeN] at hp hk hl hkk hx ht ⊢
  unfold kindB at hkk
  rcases kind_cases kd with hc | hc | hc | hc | hc | hc | hc
  · subst hc
    exact row_t nm s n t A c w (by omega) _ (Lib.hid (by simp [rowOf, tailOf, Fld.name, Fld.kind, Fld.n]))
  · subst hc
    exact row_I nm s n t A c w (by omega) _ (Lib.hid (by simp [rowOf, tailOf, Fld.name, Fld.kind, Fld.n]))
  · subst hc
    exact row_l nm s n t A c w (by omega) _ (Lib.hid (by simp [rowOf, tailOf, Fld.name, Fld.kind, Fld.n]))
  · subst hc
    exact row_S nm s n t A c w (by omega) (by simp [sizeK] at hl; omega) _ (Lib.hid (by simp [rowOf, tailOf, Fld.name, Fld.kind, Fld.s]))
  · subst hc
    exact row_F nm s n t A c w (by omega) k d B (Lib.hid HI) (Lib.hid (hk rfl)) (Lib.hid ht) hB (Lib.hid (by simp at hl; omega)) _ (Lib.hid (by simp [rowOf, tailOf, Fld.name, Fld.kind, Fld.t]))
  · subst hc
    exact row_V nm s n t A c w (by omega) _ (Lib.hid (by simp [rowOf, tailOf, Fld.name, Fld.kind]))
  · obtain ⟨a1, a2, a3, a4, a5, a6⟩ := hc
    simp [a1, a2, a3, a4, a5, a6] at hkk

theorem own_below {w w1 : World} {b : Nat} {e : TypeId} {size n : Nat} {v : Value} {xs : List Value} (h : w.ownsRow b e size v n xs) (hb : Below w.heap.size w w1) : w1.ownsRow b e size v n xs :=
  h.kept (only_below hb none) (by cases hv : v.ownBlock <;> simp)
theorem allB_at {sub : List Fld → Bool} : ∀ (l : List Fld) (seen : List (List UInt8)), allB sub seen l = true → ∀ (i : Nat) (hi : i < l.length), mayB l[i] = true ∧ (l[i].kind = 70 → sub l[i].t = true) := by
  intro l
  induction l with
  | nil => intro seen _ i hi; simp at hi
  | cons f l ih =>
    intro seen h i hi
    obtain ⟨h1, h2, h3⟩ := allB_cons h
    cases i with
    | zero => exact ⟨h1, h2⟩
    | succ i => exact ih _ h3 i (by simpa using hi)
theorem flat_take (g : Fld → List UInt8) (l : List Fld) (j : Nat) (h : j < l.length) : (l.take (j + 1)).flatMap g = (l.take j).flatMap g ++ g l[j] := by
  rw [List.take_succ_eq_append_getElem h, List.flatMap_append]
  simp
theorem flat_len (g : Fld → List UInt8) (l : List Fld) (j : Nat) : ((l.take j).flatMap g).length ≤ (l.flatMap g).length := by
  have h : l.flatMap g = (l.take j).flatMap g ++ (l.drop j).flatMap g := by rw [← List.flatMap_append, List.take_append_drop]
  rw [h, List.length_append]
  omega

set_option maxHeartbeats 1000000 in
set_option maxRecDepth 100000 in
theorem rows_any (k : Nat) : RowsOf 25 k := by
  induction k with
  | zero => intro l A c d B w hf; simp [formedB] at hf
  | succ k ih =>
    intro l A c d B w hform ht hB hx
    have ht1 := TabH.succ _ _ _ _ ht
    obtain ⟨hlc, hcm⟩ := ht.cap
    have hat := allB_at l [] hform
    have hxx : ∀ j, ((l.take j).flatMap (rowOf (rowsD k))).length ≤ 70368744177664 := fun j => Nat.le_trans (flat_len _ l j) hx
    obtain ⟨i0, hi, hz0, hz1, hz2⟩ := info_parts u8_info
    have HI := Lib.hid hi
    have H0 := Lib.hid hz0
    have H1 := Lib.hid hz1
    have H2 := Lib.hid hz2
    have HT := Lib.hid ht1
    have IH := Lib.hid ih
    have HA := Lib.hid hat
    have HX := Lib.hid hxx
    have D : ∀ v wr, wr.ownsRow w.heap.size 5 1 v ((l.take l.length).flatMap (rowOf (rowsD k))).length (B8 ((l.take l.length).flatMap (rowOf (rowsD k)))) → Below w.heap.size w wr → NewOcts w.heap.size (rowsD (k + 1) l) w (.returned v) wr := by
      intro v wr h1 h2
      rw [List.take_length] at h1
      exact ⟨v, rfl, h1, h2⟩
    have HD := Lib.hid D
    obtain ⟨Z, hZ⟩ : ∃ Z, Z = rowsD (k + 1) l := ⟨_, rfl⟩
    rw [← hZ] at HD ⊢
    unfold maxLen at hcm
    clear ht ht1 ih hform hx hat hxx hi hz0 hz1 hz2 D hZ
    go_enter Try.func25, Try.ntmps25
    go_wp2_with fail
    go_loopw [3, 8] (fun v i wr => ∃ j : Nat, j ≤ l.length ∧ i = .int .i64 j ∧ Below w.heap.size w wr ∧ wr.ownsRow w.heap.size 5 1 v ((l.take j).flatMap (rowOf (rowsD k))).length (B8 ((l.take j).flatMap (rowOf (rowsD k))))) (fun _ i _ => l.length - (intOf i).toNat)
    case atStart => exact ⟨0, Nat.zero_le _, rfl, Below.refl _ _, World.ownsRow_nil _ _ _ _⟩
    case round =>
      obtain ⟨j, hj, rfl, hbel, hown⟩ := hrel
      have HB := Lib.hid hbel
      have HO := Lib.hid hown
      have hsz := hbel.size
      clear hbel hown
      by_cases hlt : j < l.length
      · obtain ⟨b, o, A', c', rfl, hb, hheld, htab, hcell⟩ := (HT.out.below (HB.out.mono hB)).at j hlt
        obtain ⟨hm, hk⟩ := HA.out j hlt
        have hfl := flat_take (rowOf (rowsD k)) l j hlt
        have hx1 := HX.out (j + 1)
        rw [hfl, List.length_append] at hx1
        obtain ⟨f, hf⟩ : ∃ f, f = l[j] := ⟨_, rfl⟩
        obtain ⟨R, hR⟩ : ∃ R, R = (l.take j).flatMap (rowOf (rowsD k)) := ⟨_, rfl⟩
        obtain ⟨S, hS⟩ : ∃ S, S = rowOf (rowsD k) f := ⟨_, rfl⟩
        rw [← hf] at hheld htab hcell hm hk hfl hx1
        rw [← hR] at HO hfl hx1
        rw [← hS] at hfl hx1
        have c0 : wr.cell? ⟨b, o + j * 5, none⟩ = some (.string ⟨f.name.toArray⟩) := hcell 0 _ rfl
        have c1 : wr.cell? ⟨b, o + j * 5 + 1, none⟩ = some (.int .u8 (f.kind.toNat : Int)) := hcell 1 _ rfl
        have c2 : wr.cell? ⟨b, o + j * 5 + 2, none⟩ = some (.int .i64 f.n) := hcell 2 _ rfl
        have c3 : wr.cell? ⟨b, o + j * 5 + 3, none⟩ = some (.string ⟨f.s.toArray⟩) := hcell 3 _ rfl
        have c4 : wr.cell? ⟨b, o + j * 5 + 4, none⟩ = some (.slice A' f.t.length c') := hcell 4 _ rfl
        have hb0 : Below wr.heap.size wr (wr.alloc (.cells #[.string ⟨f.name.toArray⟩, .int .u8 (f.kind.toNat : Int), .int .i64 f.n, .string ⟨f.s.toArray⟩, .slice A' f.t.length c'] 54)) := (Below.refl _ _).alloc (Nat.le_refl _) _
        have HB0 := Lib.hid hb0
        have HE := Lib.hid hheld
        have HTB := Lib.hid htab
        have HM := Lib.hid hm
        have HK := Lib.hid hk
        have HS := Lib.hid hS
        have HFL := Lib.hid hfl
        have hx2 : S.length ≤ 70368744177664 := by omega
        have hft := htab.cap
        unfold maxLen at hft
        clear hcell hb0 hheld htab hm hk hS hfl hf hR
        go_wp2_with fail
        refine (row_any k IH.out f A' c' d B _ HE.out HM.out HK.out (HTB.out.below (HB0.out.mono (by omega))) (by simp; omega) (by rw [← HS.out]; exact hx2)).mono ?_
        rw [← HS.out]
        rintro e w1 ⟨v1, rfl, hown1, hbel1⟩
        obtain ⟨A1, c1', rfl, _, _⟩ := own_form hown1
        have L1 := Lib.hid (Lies.own hown1 (Nat.le_refl _))
        have hb1 := HB0.out.trans (hbel1.mono (by simp))
        have HO1 := Lib.hid (own_below HO.out hb1)
        have HB1 := Lib.hid (HB.out.trans (hb1.mono hsz))
        have hsz1 := HB1.out.size
        have hs' : R.length + S.length ≤ 140737488355328 := by omega
        clear hown1 hbel1 hb1 c0 c1 c2 c3 c4
        go_wp2_with (at_builtin; refine wpList_append_cells rfl _ _ 22 rfl w.heap.size 5 i0 (.int .u8 0) 1 1 Try.underlying22 HI.out H0.out H1.out H2.out rfl (by omega) _ R.length _ rfl HO1.out _ A1 S.length c1' (B8 S) rfl L1.out (B8_len1 S) (B8_one S) (room63 hs') (room1 hs') hsz1 ?_; intro v2 w2 hown2 hbel2; have HO2 := Lib.hid hown2; have HB2 := Lib.hid (HB1.out.trans hbel2); clear hown2 hbel2)
        go_roundw
        case rel =>
          refine ⟨j + 1, by omega, by go_num, HB2.out, ?_⟩
          rw [HFL.out, List.length_append, B8_append]
          exact HO2.out
        case measure => simp [intOf]; omega
      · obtain rfl : j = l.length := by omega
        go_wp2_with fail
        go_ret
        exact HD.out _ _ HO.out HB.out
end Go.Proofs.Ytplijhhjclfhaaa
