/- Contracts of package tabl: a row that is read, kind by kind. -/
import Derived.Test.YtplijhhjclfhaaaTablQ
namespace Go.Proofs.Ytplijhhjclfhaaa
open Go.RowKit

set_option maxHeartbeats 1000000 in
set_option maxRecDepth 100000 in
theorem parse_t (g k : Nat) (c : UInt8) (nm l r : List UInt8) (deep : Int) (w : World) (P : Option (Fld × List UInt8)) (h : InAt w g l false) (HSH : Hid (txtShort 1 l = false)) (HR : Hid (txtRest 1 l = c :: r)) (HNM : Hid (nm = txt 1 l)) (hs : l.length ≤ 1048576) (HC : Hid (c = 116)) (HP : Hid (P = if short 1 r then none else some (.mk nm c (s64 (nat (tk 1 r))) [] [], rst 1 r))) :
    Calls Try.prog 47 #[.pointer (some ⟨g, 0, none⟩), .int .i64 deep] w (RowIs P k g w) := by
  have hg := h.lt
  have h0 := h.below (Below.alloc (Below.refl w.heap.size w) (Nat.le_refl _) (.cells #[.string ⟨#[]⟩, .int .u8 0, .int .i64 0, .string ⟨#[]⟩, .slice none 0 0] 54)) hg
  have hsub : (txtRest 1 l).length ≤ l.length := txtRest_sub 1 l
  have hnl : nm.length ≤ l.length := by rw [HNM.out]; exact txt_sub 1 l
  rw [HR.out, List.length_cons] at hsub
  have H := Lib.hid h0
  clear h h0
  go_enter Try.func47, Try.ntmps47
  go_wp2_with fail
  refine (in_short g l false _ H.out).mono ?_
  rintro e w1 ⟨rfl, hi, hb⟩
  rw [HR.out, HSH.out, Bool.false_or] at hi
  rw [← HNM.out]
  have hsz := hb.size
  rw [show (w.alloc (.cells #[.string ⟨#[]⟩, .int .u8 0, .int .i64 0, .string ⟨#[]⟩, .slice none 0 0] 54)).heap.size = w.heap.size + 1 from by simp] at hsz
  have hg1 : w.grownBy w1 (some g) := only_trans (only_below ((Below.refl w.heap.size w).alloc (Nat.le_refl _) _) _) hb
  have hw0 : Whole w1 w.heap.size 54 #[.string ⟨#[]⟩, .int .u8 0, .int .i64 0, .string ⟨#[]⟩, .slice none 0 0] := (Whole.new w 54 _).grown hb (by simp; omega)
  have hi1 := hi.below (Below.alloc (Below.refl w1.heap.size w1) (Nat.le_refl _) (.cells #[.string ⟨nm.toArray⟩, .int .u8 0, .int .i64 0, .string ⟨#[]⟩, .slice none 0 0] 54)) hi.lt
  have H1 := Lib.hid hi1
  have G1 := Lib.hid hg1
  have W0 := Lib.hid hw0
  clear hi hi1 hg1 hw0 hb
  go_wp2_with fail
  refine (in_int g 1 (c :: r) false _ H1.out).mono ?_
  rintro e w2 ⟨rfl, hi, hb⟩
  rw [show wid 1 = 1 from rfl, show rst 1 (c :: r) = r from by rw [rst_yes (by simp)]; rfl, show (false || short 1 (c :: r)) = false from by rw [short_no (by simp)]; rfl] at hi
  rw [show wid 1 = 1 from rfl, show tk 1 (c :: r) = [c] from by rw [tk_yes (by simp)]; rfl, show ((nat [c] : Nat) : Int) = 116 from by rw [HC.out]; rfl]
  have hsz2 := hb.size
  rw [show (w1.alloc (.cells #[.string ⟨nm.toArray⟩, .int .u8 0, .int .i64 0, .string ⟨#[]⟩, .slice none 0 0] 54)).heap.size = w1.heap.size + 1 from by simp] at hsz2
  have hg2 : w.grownBy w2 (some g) := only_trans G1.out (only_trans (only_below ((Below.refl w1.heap.size w1).alloc (Nat.le_refl _) _) _) hb)
  have hw1 : Whole w2 w1.heap.size 54 #[.string ⟨nm.toArray⟩, .int .u8 0, .int .i64 0, .string ⟨#[]⟩, .slice none 0 0] := (Whole.new w1 54 _).grown hb (by simp; omega)
  have hw0 : Whole w2 w.heap.size 54 #[.string ⟨#[]⟩, .int .u8 0, .int .i64 0, .string ⟨#[]⟩, .slice none 0 0] := (W0.out.alloc _).grown hb (by simp; omega)
  have ne1 : w.heap.size < w1.heap.size := by omega
  have c256 := c.toNat_lt
  have W00 := Lib.hid hw0
  have WF := Lib.hid (hw1.put 1 (.int .u8 116))
  have HI2 := Lib.hid (hi.below ((Below.refl w1.heap.size w2).setCell (p := ⟨w1.heap.size, 1, none⟩) (Nat.le_refl _) (.int .u8 116)) (by omega))
  have G2 := Lib.hid (grown_below hg2 ((Below.refl w.heap.size w2).setCell (p := ⟨w1.heap.size, 1, none⟩) (by show w.heap.size ≤ w1.heap.size; omega) (.int .u8 116)))
  have W01 := Lib.hid (W00.out.set (b := w1.heap.size) (by omega) (i := 1) (.int .u8 116))
  have hz2' : (w2.setCell ⟨w1.heap.size, 1, none⟩ (.int .u8 116)).heap.size = w2.heap.size := by simp [World.setCell]
  have HZ2 := Lib.hid hz2'
  have y1 : w2.cell? ⟨w1.heap.size, 1, none⟩ = some (.int .u8 0) := hw1.cell 1
  have f1 : w2.frozen? ⟨w1.heap.size, 1, none⟩ = false := hw1.frozen 1
  clear hi hb hg2 hw0 hw1 hz2'
  have HCK : Hid ((c.toNat : Int) = 116) := Lib.hid (by rw [HC.out]; rfl)
  obtain ⟨wa, hwa⟩ : ∃ wa, wa = w2.setCell ⟨w1.heap.size, 1, none⟩ (.int .u8 116) := ⟨_, rfl⟩
  have WA : Hid (Whole wa w1.heap.size 54 #[.string ⟨nm.toArray⟩, .int .u8 116, .int .i64 0, .string ⟨#[]⟩, .slice none 0 0]) := by rw [hwa]; exact WF
  have WY : Hid (Whole wa w.heap.size 54 #[.string ⟨#[]⟩, .int .u8 0, .int .i64 0, .string ⟨#[]⟩, .slice none 0 0]) := by rw [hwa]; exact W01
  have HIA : Hid (InAt wa g r false) := by rw [hwa]; exact HI2
  have GA : Hid (w.grownBy wa (some g)) := by rw [hwa]; exact G2
  have HWA := Lib.hid hwa
  have HSA : Hid (wa.heap.size = w2.heap.size) := by rw [hwa]; exact HZ2
  clear hwa
  go_wp2_with fail
  rw [← HWA.out]
  refine (in_int g 1 r false _ HIA.out).mono ?_
  rintro e w3 ⟨rfl, hi3, hb3⟩
  rw [show wid 1 = 1 from rfl, Bool.false_or] at hi3
  rw [show wid 1 = 1 from rfl]
  obtain ⟨x, hx⟩ : ∃ x, x = nat (tk 1 r) := ⟨_, rfl⟩
  have hx8 : x < 256 := by
    rw [hx]
    have h1 := nat_lt (tk 1 r)
    have h2 : 256 ^ (tk 1 r).length ≤ 256 ^ 1 := Nat.pow_le_pow_right (by omega) (tk_le 1 r)
    have h3 : (256 : Nat) ^ 1 = 256 := by decide
    omega
  obtain ⟨sh, hsh⟩ : ∃ sh, sh = short 1 r := ⟨_, rfl⟩
  rw [← hx]
  rw [← hsh] at hi3
  have HX := Lib.hid hx
  have HSHN := Lib.hid hsh
  have hz3 := hb3.size
  have hza : w2.heap.size ≤ wa.heap.size := Nat.le_of_eq HSA.out.symm
  have hw3 := WA.out.grown hb3 (by simp; omega)
  have hy3 := WY.out.grown hb3 (by simp; omega)
  obtain ⟨V, hV⟩ : ∃ V : Int, V = (x : Int) := ⟨_, rfl⟩
  have HV : Hid (I64 V) := Lib.hid (by rw [hV]; unfold I64; omega)
  have HVV : Hid (V = s64 (nat (tk 1 r))) := Lib.hid (by rw [hV, ← hx]; unfold s64; rw [if_pos (by omega)])
  have hVx : (x : Int) = V := hV.symm
  clear hV
  have WE := Lib.hid (hw3.put 2 (.int .i64 V))
  have WZ := Lib.hid (hy3.set (b := w1.heap.size) (by omega) (i := 2) (.int .i64 V))
  have HIE := Lib.hid (hi3.below ((Below.refl w1.heap.size w3).setCell (p := ⟨w1.heap.size, 2, none⟩) (Nat.le_refl _) (.int .i64 V)) (by omega))
  have GE := Lib.hid (grown_below (only_trans GA.out hb3) ((Below.refl w.heap.size w3).setCell (p := ⟨w1.heap.size, 2, none⟩) (by show w.heap.size ≤ w1.heap.size; omega) (.int .i64 V)))
  have v2 : w3.cell? ⟨w1.heap.size, 2, none⟩ = some (.int .i64 0) := hw3.cell 2
  have g2 := hw3.frozen 2
  obtain ⟨wb, hwb⟩ : ∃ wb, wb = w3.setCell ⟨w1.heap.size, 2, none⟩ (.int .i64 V) := ⟨_, rfl⟩
  rw [← hwb] at WE WZ HIE GE
  have HWB := Lib.hid hwb
  clear hi3 hb3 hw3 hy3 hx hsh hwb hza
  go_wp2_with fail
  rw [← HWB.out]
  have z0 : wb.cell? ⟨w.heap.size, 0, none⟩ = some (.string ⟨#[]⟩) := WZ.out.cell 0
  have z1 : wb.cell? ⟨w.heap.size, 1, none⟩ = some (.int .u8 0) := WZ.out.cell 1
  have z2 : wb.cell? ⟨w.heap.size, 2, none⟩ = some (.int .i64 0) := WZ.out.cell 2
  have z3 : wb.cell? ⟨w.heap.size, 3, none⟩ = some (.string ⟨#[]⟩) := WZ.out.cell 3
  have z4 : wb.cell? ⟨w.heap.size, 4, none⟩ = some (.slice none 0 0) := WZ.out.cell 4
  have x0 := WZ.out.frozen
  have u0 : wb.cell? ⟨w1.heap.size, 0, none⟩ = some (.string ⟨nm.toArray⟩) := WE.out.cell 0
  have u1 : wb.cell? ⟨w1.heap.size, 1, none⟩ = some (.int .u8 116) := WE.out.cell 1
  have u2 : wb.cell? ⟨w1.heap.size, 2, none⟩ = some (.int .i64 V) := WE.out.cell 2
  have u3 : wb.cell? ⟨w1.heap.size, 3, none⟩ = some (.string ⟨#[]⟩) := WE.out.cell 3
  have u4 : wb.cell? ⟨w1.heap.size, 4, none⟩ = some (.slice none 0 0) := WE.out.cell 4
  have HE := Lib.hid (HIE.out.below ((Below.refl (g + 1) wb).drew) (by omega))
  go_region_with ((go_at_call 36; refine (in_ok g (rst 1 r) sh _ HE.out).mono ?_; rintro e w' ⟨rfl, rfl⟩))
  all_goals
    go_wp2_with fail
    obtain ⟨W, hW⟩ : ∃ W, W = (((((wb.setCell ⟨w.heap.size, 0, none⟩ (.string ⟨nm.toArray⟩)).setCell ⟨w.heap.size, 1, none⟩ (.int .u8 116)).setCell ⟨w.heap.size, 2, none⟩ (.int .i64 V)).setCell ⟨w.heap.size, 3, none⟩ (.string ⟨#[]⟩)).setCell ⟨w.heap.size, 4, none⟩ (.slice none 0 0)).drew := ⟨_, rfl⟩
    rw [← hW]
    have hE : Whole W w.heap.size 54 #[.string ⟨nm.toArray⟩, .int .u8 116, .int .i64 V, .string ⟨#[]⟩, .slice none 0 0] := by
      rw [hW]
      exact Whole.put5 WZ.out _ _ _ _ _
    have hG : w.grownBy W (some g) := by
      rw [hW]
      exact grown_below GE.out (below5 (Below.refl w.heap.size wb) (Nat.le_refl _) _ _ _ _ _)
    have hI : Hid (InAt W g (rst 1 r) sh) := by
      rw [hW]
      exact Lib.hid (HIE.out.below (below5 (Below.refl w.heap.size wb) (Nat.le_refl _) _ _ _ _ _) (by omega))
    have e0 : W.cell? ⟨w.heap.size, 0, none⟩ = some (.string ⟨nm.toArray⟩) := hE.cell 0
    have e1 : W.cell? ⟨w.heap.size, 1, none⟩ = some (.int .u8 116) := hE.cell 1
    have e2 : W.cell? ⟨w.heap.size, 2, none⟩ = some (.int .i64 V) := hE.cell 2
    have e3 : W.cell? ⟨w.heap.size, 3, none⟩ = some (.string ⟨#[]⟩) := hE.cell 3
    have e4 : W.cell? ⟨w.heap.size, 4, none⟩ = some (.slice none 0 0) := hE.cell 4
    clear hW hE
    refine bodyPost_ret (v := .tuple #[.agg #[.string ⟨nm.toArray⟩, .int .u8 116, .int .i64 V, .string ⟨#[]⟩, .slice none 0 0], .bool (!sh)]) (by simp [results, Try.results47, go_sem, e0, e1, e2, e3, e4]) rfl ?_
    cases sh with
    | true => exact .inl ⟨by rw [HP.out, ← HSHN.out]; rfl, ⟨_, _, _, _, _, _, _, rfl⟩, hG⟩
    | false =>
      refine .inr ⟨.mk nm c V [] [], rst 1 r, none, 0, by rw [HP.out, ← HSHN.out, ← HVV.out]; rfl, ?_, ⟨HV.out, by show nm.length ≤ _; omega, by simp [Fld.s]⟩, TabS.nil _ _ _ _ _ (Nat.zero_le _), hI.out, hG⟩
      simp [aggF, Fld.name, Fld.kind, Fld.n, Fld.s, Fld.t, HCK.out]
set_option maxHeartbeats 1000000 in
set_option maxRecDepth 100000 in
theorem parse_l (g k : Nat) (c : UInt8) (nm l r : List UInt8) (deep : Int) (w : World) (P : Option (Fld × List UInt8)) (h : InAt w g l false) (HSH : Hid (txtShort 1 l = false)) (HR : Hid (txtRest 1 l = c :: r)) (HNM : Hid (nm = txt 1 l)) (hs : l.length ≤ 1048576) (HC : Hid (c = 108)) (HP : Hid (P = if short 8 r then none else some (.mk nm c (s64 (nat (tk 8 r))) [] [], rst 8 r))) :
    Calls Try.prog 47 #[.pointer (some ⟨g, 0, none⟩), .int .i64 deep] w (RowIs P k g w) := by
  have hg := h.lt
  have h0 := h.below (Below.alloc (Below.refl w.heap.size w) (Nat.le_refl _) (.cells #[.string ⟨#[]⟩, .int .u8 0, .int .i64 0, .string ⟨#[]⟩, .slice none 0 0] 54)) hg
  have hsub : (txtRest 1 l).length ≤ l.length := txtRest_sub 1 l
  have hnl : nm.length ≤ l.length := by rw [HNM.out]; exact txt_sub 1 l
  rw [HR.out, List.length_cons] at hsub
  have H := Lib.hid h0
  clear h h0
  go_enter Try.func47, Try.ntmps47
  go_wp2_with fail
  refine (in_short g l false _ H.out).mono ?_
  rintro e w1 ⟨rfl, hi, hb⟩
  rw [HR.out, HSH.out, Bool.false_or] at hi
  rw [← HNM.out]
  have hsz := hb.size
  rw [show (w.alloc (.cells #[.string ⟨#[]⟩, .int .u8 0, .int .i64 0, .string ⟨#[]⟩, .slice none 0 0] 54)).heap.size = w.heap.size + 1 from by simp] at hsz
  have hg1 : w.grownBy w1 (some g) := only_trans (only_below ((Below.refl w.heap.size w).alloc (Nat.le_refl _) _) _) hb
  have hw0 : Whole w1 w.heap.size 54 #[.string ⟨#[]⟩, .int .u8 0, .int .i64 0, .string ⟨#[]⟩, .slice none 0 0] := (Whole.new w 54 _).grown hb (by simp; omega)
  have hi1 := hi.below (Below.alloc (Below.refl w1.heap.size w1) (Nat.le_refl _) (.cells #[.string ⟨nm.toArray⟩, .int .u8 0, .int .i64 0, .string ⟨#[]⟩, .slice none 0 0] 54)) hi.lt
  have H1 := Lib.hid hi1
  have G1 := Lib.hid hg1
  have W0 := Lib.hid hw0
  clear hi hi1 hg1 hw0 hb
  go_wp2_with fail
  refine (in_int g 1 (c :: r) false _ H1.out).mono ?_
  rintro e w2 ⟨rfl, hi, hb⟩
  rw [show wid 1 = 1 from rfl, show rst 1 (c :: r) = r from by rw [rst_yes (by simp)]; rfl, show (false || short 1 (c :: r)) = false from by rw [short_no (by simp)]; rfl] at hi
  rw [show wid 1 = 1 from rfl, show tk 1 (c :: r) = [c] from by rw [tk_yes (by simp)]; rfl, show ((nat [c] : Nat) : Int) = 108 from by rw [HC.out]; rfl]
  have hsz2 := hb.size
  rw [show (w1.alloc (.cells #[.string ⟨nm.toArray⟩, .int .u8 0, .int .i64 0, .string ⟨#[]⟩, .slice none 0 0] 54)).heap.size = w1.heap.size + 1 from by simp] at hsz2
  have hg2 : w.grownBy w2 (some g) := only_trans G1.out (only_trans (only_below ((Below.refl w1.heap.size w1).alloc (Nat.le_refl _) _) _) hb)
  have hw1 : Whole w2 w1.heap.size 54 #[.string ⟨nm.toArray⟩, .int .u8 0, .int .i64 0, .string ⟨#[]⟩, .slice none 0 0] := (Whole.new w1 54 _).grown hb (by simp; omega)
  have hw0 : Whole w2 w.heap.size 54 #[.string ⟨#[]⟩, .int .u8 0, .int .i64 0, .string ⟨#[]⟩, .slice none 0 0] := (W0.out.alloc _).grown hb (by simp; omega)
  have ne1 : w.heap.size < w1.heap.size := by omega
  have c256 := c.toNat_lt
  have W00 := Lib.hid hw0
  have WF := Lib.hid (hw1.put 1 (.int .u8 108))
  have HI2 := Lib.hid (hi.below ((Below.refl w1.heap.size w2).setCell (p := ⟨w1.heap.size, 1, none⟩) (Nat.le_refl _) (.int .u8 108)) (by omega))
  have G2 := Lib.hid (grown_below hg2 ((Below.refl w.heap.size w2).setCell (p := ⟨w1.heap.size, 1, none⟩) (by show w.heap.size ≤ w1.heap.size; omega) (.int .u8 108)))
  have W01 := Lib.hid (W00.out.set (b := w1.heap.size) (by omega) (i := 1) (.int .u8 108))
  have hz2' : (w2.setCell ⟨w1.heap.size, 1, none⟩ (.int .u8 108)).heap.size = w2.heap.size := by simp [World.setCell]
  have HZ2 := Lib.hid hz2'
  have y1 : w2.cell? ⟨w1.heap.size, 1, none⟩ = some (.int .u8 0) := hw1.cell 1
  have f1 : w2.frozen? ⟨w1.heap.size, 1, none⟩ = false := hw1.frozen 1
  clear hi hb hg2 hw0 hw1 hz2'
  have HCK : Hid ((c.toNat : Int) = 108) := Lib.hid (by rw [HC.out]; rfl)
  obtain ⟨wa, hwa⟩ : ∃ wa, wa = w2.setCell ⟨w1.heap.size, 1, none⟩ (.int .u8 108) := ⟨_, rfl⟩
  have WA : Hid (Whole wa w1.heap.size 54 #[.string ⟨nm.toArray⟩, .int .u8 108, .int .i64 0, .string ⟨#[]⟩, .slice none 0 0]) := by rw [hwa]; exact WF
  have WY : Hid (Whole wa w.heap.size 54 #[.string ⟨#[]⟩, .int .u8 0, .int .i64 0, .string ⟨#[]⟩, .slice none 0 0]) := by rw [hwa]; exact W01
  have HIA : Hid (InAt wa g r false) := by rw [hwa]; exact HI2
  have GA : Hid (w.grownBy wa (some g)) := by rw [hwa]; exact G2
  have HWA := Lib.hid hwa
  have HSA : Hid (wa.heap.size = w2.heap.size) := by rw [hwa]; exact HZ2
  clear hwa
  go_wp2_with fail
  rw [← HWA.out]
  refine (in_int g 8 r false _ HIA.out).mono ?_
  rintro e w3 ⟨rfl, hi3, hb3⟩
  rw [show wid 8 = 8 from rfl, Bool.false_or] at hi3
  rw [show wid 8 = 8 from rfl]
  obtain ⟨x, hx⟩ : ∃ x, x = nat (tk 8 r) := ⟨_, rfl⟩
  have hx8 : x < 18446744073709551616 := by
    rw [hx]
    have h1 := nat_lt (tk 8 r)
    have h2 : 256 ^ (tk 8 r).length ≤ 256 ^ 8 := Nat.pow_le_pow_right (by omega) (tk_le 8 r)
    have h3 : (256 : Nat) ^ 8 = 18446744073709551616 := by decide
    omega
  obtain ⟨sh, hsh⟩ : ∃ sh, sh = short 8 r := ⟨_, rfl⟩
  rw [← hx]
  rw [← hsh] at hi3
  have HX := Lib.hid hx
  have HSHN := Lib.hid hsh
  have hz3 := hb3.size
  have hza : w2.heap.size ≤ wa.heap.size := Nat.le_of_eq HSA.out.symm
  have hw3 := WA.out.grown hb3 (by simp; omega)
  have hy3 := WY.out.grown hb3 (by simp; omega)
  obtain ⟨V, hV⟩ : ∃ V : Int, V = wrap64 (x : Int) := ⟨_, rfl⟩
  have HVV : Hid (V = s64 (nat (tk 8 r))) := Lib.hid (by rw [hV, ← hx]; unfold wrap64 s64; split <;> omega)
  have HV : Hid (I64 V) := Lib.hid (by rw [HVV.out, ← hx]; exact s64_range x hx8)
  have hVx : wrap64 (x : Int) = V := hV.symm
  clear hV
  have WE := Lib.hid (hw3.put 2 (.int .i64 V))
  have WZ := Lib.hid (hy3.set (b := w1.heap.size) (by omega) (i := 2) (.int .i64 V))
  have HIE := Lib.hid (hi3.below ((Below.refl w1.heap.size w3).setCell (p := ⟨w1.heap.size, 2, none⟩) (Nat.le_refl _) (.int .i64 V)) (by omega))
  have GE := Lib.hid (grown_below (only_trans GA.out hb3) ((Below.refl w.heap.size w3).setCell (p := ⟨w1.heap.size, 2, none⟩) (by show w.heap.size ≤ w1.heap.size; omega) (.int .i64 V)))
  have v2 : w3.cell? ⟨w1.heap.size, 2, none⟩ = some (.int .i64 0) := hw3.cell 2
  have g2 := hw3.frozen 2
  obtain ⟨wb, hwb⟩ : ∃ wb, wb = w3.setCell ⟨w1.heap.size, 2, none⟩ (.int .i64 V) := ⟨_, rfl⟩
  rw [← hwb] at WE WZ HIE GE
  have HWB := Lib.hid hwb
  clear hi3 hb3 hw3 hy3 hx hsh hwb hza
  go_wp2_with fail
  rw [← HWB.out]
  have z0 : wb.cell? ⟨w.heap.size, 0, none⟩ = some (.string ⟨#[]⟩) := WZ.out.cell 0
  have z1 : wb.cell? ⟨w.heap.size, 1, none⟩ = some (.int .u8 0) := WZ.out.cell 1
  have z2 : wb.cell? ⟨w.heap.size, 2, none⟩ = some (.int .i64 0) := WZ.out.cell 2
  have z3 : wb.cell? ⟨w.heap.size, 3, none⟩ = some (.string ⟨#[]⟩) := WZ.out.cell 3
  have z4 : wb.cell? ⟨w.heap.size, 4, none⟩ = some (.slice none 0 0) := WZ.out.cell 4
  have x0 := WZ.out.frozen
  have u0 : wb.cell? ⟨w1.heap.size, 0, none⟩ = some (.string ⟨nm.toArray⟩) := WE.out.cell 0
  have u1 : wb.cell? ⟨w1.heap.size, 1, none⟩ = some (.int .u8 108) := WE.out.cell 1
  have u2 : wb.cell? ⟨w1.heap.size, 2, none⟩ = some (.int .i64 V) := WE.out.cell 2
  have u3 : wb.cell? ⟨w1.heap.size, 3, none⟩ = some (.string ⟨#[]⟩) := WE.out.cell 3
  have u4 : wb.cell? ⟨w1.heap.size, 4, none⟩ = some (.slice none 0 0) := WE.out.cell 4
  have HE := Lib.hid (HIE.out.below ((Below.refl (g + 1) wb).drew) (by omega))
  go_region_with ((go_at_call 36; refine (in_ok g (rst 8 r) sh _ HE.out).mono ?_; rintro e w' ⟨rfl, rfl⟩))
  all_goals
    go_wp2_with fail
    obtain ⟨W, hW⟩ : ∃ W, W = (((((wb.setCell ⟨w.heap.size, 0, none⟩ (.string ⟨nm.toArray⟩)).setCell ⟨w.heap.size, 1, none⟩ (.int .u8 108)).setCell ⟨w.heap.size, 2, none⟩ (.int .i64 V)).setCell ⟨w.heap.size, 3, none⟩ (.string ⟨#[]⟩)).setCell ⟨w.heap.size, 4, none⟩ (.slice none 0 0)).drew := ⟨_, rfl⟩
    rw [← hW]
    have hE : Whole W w.heap.size 54 #[.string ⟨nm.toArray⟩, .int .u8 108, .int .i64 V, .string ⟨#[]⟩, .slice none 0 0] := by
      rw [hW]
      exact Whole.put5 WZ.out _ _ _ _ _
    have hG : w.grownBy W (some g) := by
      rw [hW]
      exact grown_below GE.out (below5 (Below.refl w.heap.size wb) (Nat.le_refl _) _ _ _ _ _)
    have hI : Hid (InAt W g (rst 8 r) sh) := by
      rw [hW]
      exact Lib.hid (HIE.out.below (below5 (Below.refl w.heap.size wb) (Nat.le_refl _) _ _ _ _ _) (by omega))
    have e0 : W.cell? ⟨w.heap.size, 0, none⟩ = some (.string ⟨nm.toArray⟩) := hE.cell 0
    have e1 : W.cell? ⟨w.heap.size, 1, none⟩ = some (.int .u8 108) := hE.cell 1
    have e2 : W.cell? ⟨w.heap.size, 2, none⟩ = some (.int .i64 V) := hE.cell 2
    have e3 : W.cell? ⟨w.heap.size, 3, none⟩ = some (.string ⟨#[]⟩) := hE.cell 3
    have e4 : W.cell? ⟨w.heap.size, 4, none⟩ = some (.slice none 0 0) := hE.cell 4
    clear hW hE
    refine bodyPost_ret (v := .tuple #[.agg #[.string ⟨nm.toArray⟩, .int .u8 108, .int .i64 V, .string ⟨#[]⟩, .slice none 0 0], .bool (!sh)]) (by simp [results, Try.results47, go_sem, e0, e1, e2, e3, e4]) rfl ?_
    cases sh with
    | true => exact .inl ⟨by rw [HP.out, ← HSHN.out]; rfl, ⟨_, _, _, _, _, _, _, rfl⟩, hG⟩
    | false =>
      refine .inr ⟨.mk nm c V [] [], rst 8 r, none, 0, by rw [HP.out, ← HSHN.out, ← HVV.out]; rfl, ?_, ⟨HV.out, by show nm.length ≤ _; omega, by simp [Fld.s]⟩, TabS.nil _ _ _ _ _ (Nat.zero_le _), hI.out, hG⟩
      simp [aggF, Fld.name, Fld.kind, Fld.n, Fld.s, Fld.t, HCK.out]
end Go.Proofs.Ytplijhhjclfhaaa
