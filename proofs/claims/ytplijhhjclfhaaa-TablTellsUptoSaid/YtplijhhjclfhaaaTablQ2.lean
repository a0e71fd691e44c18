/- Contracts of package tabl: a row that is read, kind by kind. -/
import Derived.Test.YtplijhhjclfhaaaTablQ
namespace Go.Proofs.Ytplijhhjclfhaaa
open Go.RowKit

set_option maxHeartbeats 1000000 in
set_option maxRecDepth 100000 in
theorem parse_V (g k : Nat) (c : UInt8) (nm l r : List UInt8) (deep : Int) (w : World) (P : Option (Fld × List UInt8)) (h : InAt w g l false) (HSH : Hid (txtShort 1 l = false)) (HR : Hid (txtRest 1 l = c :: r)) (HNM : Hid (nm = txt 1 l)) (hs : l.length ≤ 1048576) (HC : Hid (c = 86)) (HP : Hid (P = some (.mk nm c 0 [] [], r))) :
    Calls Try.prog 47 #[.pointer (some ⟨g, 0, none⟩), .int .i64 deep] w (RowIs P k g w) := by
  have hg := h.lt
  have h0 := h.below (Below.alloc (Below.refl w.heap.size w) (Nat.le_refl _) (.cells #[.string ⟨#[]⟩, .int .u8 0, .int .i64 0, .string ⟨#[]⟩, .slice none 0 0] 54)) hg
  have hsub : (txtRest 1 l).length ≤ l.length := txtRest_sub 1 l
  have hnl : nm.length ≤ l.length := by rw [HNM.out]; exact txt_sub 1 l
  rw [HR.out, List.length_cons] at hsub
  have H := Lib.hid h0
  clear h h0
  go_enter Try.func47, Try.ntmps47
  go_wp2_with fail
  refine (in_short g l false _ H.out).mono ?_
  rintro e w1 ⟨rfl, hi, hb⟩
  rw [HR.out, HSH.out, Bool.false_or] at hi
  rw [← HNM.out]
  have hsz := hb.size
  rw [show (w.alloc (.cells #[.string ⟨#[]⟩, .int .u8 0, .int .i64 0, .string ⟨#[]⟩, .slice none 0 0] 54)).heap.size = w.heap.size + 1 from by simp] at hsz
  have hg1 : w.grownBy w1 (some g) := only_trans (only_below ((Below.refl w.heap.size w).alloc (Nat.le_refl _) _) _) hb
  have hw0 : Whole w1 w.heap.size 54 #[.string ⟨#[]⟩, .int .u8 0, .int .i64 0, .string ⟨#[]⟩, .slice none 0 0] := (Whole.new w 54 _).grown hb (by simp; omega)
  have hi1 := hi.below (Below.alloc (Below.refl w1.heap.size w1) (Nat.le_refl _) (.cells #[.string ⟨nm.toArray⟩, .int .u8 0, .int .i64 0, .string ⟨#[]⟩, .slice none 0 0] 54)) hi.lt
  have H1 := Lib.hid hi1
  have G1 := Lib.hid hg1
  have W0 := Lib.hid hw0
  clear hi hi1 hg1 hw0 hb
  go_wp2_with fail
  refine (in_int g 1 (c :: r) false _ H1.out).mono ?_
  rintro e w2 ⟨rfl, hi, hb⟩
  rw [show wid 1 = 1 from rfl, show rst 1 (c :: r) = r from by rw [rst_yes (by simp)]; rfl, show (false || short 1 (c :: r)) = false from by rw [short_no (by simp)]; rfl] at hi
  rw [show wid 1 = 1 from rfl, show tk 1 (c :: r) = [c] from by rw [tk_yes (by simp)]; rfl, show ((nat [c] : Nat) : Int) = 86 from by rw [HC.out]; rfl]
  have hsz2 := hb.size
  rw [show (w1.alloc (.cells #[.string ⟨nm.toArray⟩, .int .u8 0, .int .i64 0, .string ⟨#[]⟩, .slice none 0 0] 54)).heap.size = w1.heap.size + 1 from by simp] at hsz2
  have hg2 : w.grownBy w2 (some g) := only_trans G1.out (only_trans (only_below ((Below.refl w1.heap.size w1).alloc (Nat.le_refl _) _) _) hb)
  have hw1 : Whole w2 w1.heap.size 54 #[.string ⟨nm.toArray⟩, .int .u8 0, .int .i64 0, .string ⟨#[]⟩, .slice none 0 0] := (Whole.new w1 54 _).grown hb (by simp; omega)
  have hw0 : Whole w2 w.heap.size 54 #[.string ⟨#[]⟩, .int .u8 0, .int .i64 0, .string ⟨#[]⟩, .slice none 0 0] := (W0.out.alloc _).grown hb (by simp; omega)
  have ne1 : w.heap.size < w1.heap.size := by omega
  have c256 := c.toNat_lt
  have W00 := Lib.hid hw0
  have WF := Lib.hid (hw1.put 1 (.int .u8 86))
  have HI2 := Lib.hid (hi.below ((Below.refl w1.heap.size w2).setCell (p := ⟨w1.heap.size, 1, none⟩) (Nat.le_refl _) (.int .u8 86)) (by omega))
  have G2 := Lib.hid (grown_below hg2 ((Below.refl w.heap.size w2).setCell (p := ⟨w1.heap.size, 1, none⟩) (by show w.heap.size ≤ w1.heap.size; omega) (.int .u8 86)))
  have W01 := Lib.hid (W00.out.set (b := w1.heap.size) (by omega) (i := 1) (.int .u8 86))
  have hz2' : (w2.setCell ⟨w1.heap.size, 1, none⟩ (.int .u8 86)).heap.size = w2.heap.size := by simp [World.setCell]
  have HZ2 := Lib.hid hz2'
  have y1 : w2.cell? ⟨w1.heap.size, 1, none⟩ = some (.int .u8 0) := hw1.cell 1
  have f1 : w2.frozen? ⟨w1.heap.size, 1, none⟩ = false := hw1.frozen 1
  clear hi hb hg2 hw0 hw1 hz2'
  have HCK : Hid ((c.toNat : Int) = 86) := Lib.hid (by rw [HC.out]; rfl)
  obtain ⟨wa, hwa⟩ : ∃ wa, wa = w2.setCell ⟨w1.heap.size, 1, none⟩ (.int .u8 86) := ⟨_, rfl⟩
  have WE : Hid (Whole wa w1.heap.size 54 #[.string ⟨nm.toArray⟩, .int .u8 86, .int .i64 0, .string ⟨#[]⟩, .slice none 0 0]) := by rw [hwa]; exact WF
  have WZ : Hid (Whole wa w.heap.size 54 #[.string ⟨#[]⟩, .int .u8 0, .int .i64 0, .string ⟨#[]⟩, .slice none 0 0]) := by rw [hwa]; exact W01
  have HIE : Hid (InAt wa g r false) := by rw [hwa]; exact HI2
  have GE : Hid (w.grownBy wa (some g)) := by rw [hwa]; exact G2
  have HWA := Lib.hid hwa
  clear hwa
  go_wp2_with fail
  rw [← HWA.out]
  have z0 : wa.cell? ⟨w.heap.size, 0, none⟩ = some (.string ⟨#[]⟩) := WZ.out.cell 0
  have z1 : wa.cell? ⟨w.heap.size, 1, none⟩ = some (.int .u8 0) := WZ.out.cell 1
  have z2 : wa.cell? ⟨w.heap.size, 2, none⟩ = some (.int .i64 0) := WZ.out.cell 2
  have z3 : wa.cell? ⟨w.heap.size, 3, none⟩ = some (.string ⟨#[]⟩) := WZ.out.cell 3
  have z4 : wa.cell? ⟨w.heap.size, 4, none⟩ = some (.slice none 0 0) := WZ.out.cell 4
  have x0 := WZ.out.frozen
  have u0 : wa.cell? ⟨w1.heap.size, 0, none⟩ = some (.string ⟨nm.toArray⟩) := WE.out.cell 0
  have u1 : wa.cell? ⟨w1.heap.size, 1, none⟩ = some (.int .u8 86) := WE.out.cell 1
  have u2 : wa.cell? ⟨w1.heap.size, 2, none⟩ = some (.int .i64 0) := WE.out.cell 2
  have u3 : wa.cell? ⟨w1.heap.size, 3, none⟩ = some (.string ⟨#[]⟩) := WE.out.cell 3
  have u4 : wa.cell? ⟨w1.heap.size, 4, none⟩ = some (.slice none 0 0) := WE.out.cell 4
  have HE := Lib.hid (HIE.out.below ((Below.refl (g + 1) wa).drew) (by omega))
  go_region_with ((go_at_call 36; refine (in_ok g r false _ HE.out).mono ?_; rintro e w' ⟨rfl, rfl⟩))
  all_goals
    go_wp2_with fail
    obtain ⟨W, hW⟩ : ∃ W, W = (((((wa.setCell ⟨w.heap.size, 0, none⟩ (.string ⟨nm.toArray⟩)).setCell ⟨w.heap.size, 1, none⟩ (.int .u8 86)).setCell ⟨w.heap.size, 2, none⟩ (.int .i64 0)).setCell ⟨w.heap.size, 3, none⟩ (.string ⟨#[]⟩)).setCell ⟨w.heap.size, 4, none⟩ (.slice none 0 0)).drew := ⟨_, rfl⟩
    rw [← hW]
    have hE : Whole W w.heap.size 54 #[.string ⟨nm.toArray⟩, .int .u8 86, .int .i64 0, .string ⟨#[]⟩, .slice none 0 0] := by
      rw [hW]
      exact Whole.put5 WZ.out _ _ _ _ _
    have hG : w.grownBy W (some g) := by
      rw [hW]
      exact grown_below GE.out (below5 (Below.refl w.heap.size wa) (Nat.le_refl _) _ _ _ _ _)
    have hI : Hid (InAt W g r false) := by
      rw [hW]
      exact Lib.hid (HIE.out.below (below5 (Below.refl w.heap.size wa) (Nat.le_refl _) _ _ _ _ _) (by omega))
    have e0 : W.cell? ⟨w.heap.size, 0, none⟩ = some (.string ⟨nm.toArray⟩) := hE.cell 0
    have e1 : W.cell? ⟨w.heap.size, 1, none⟩ = some (.int .u8 86) := hE.cell 1
    have e2 : W.cell? ⟨w.heap.size, 2, none⟩ = some (.int .i64 0) := hE.cell 2
    have e3 : W.cell? ⟨w.heap.size, 3, none⟩ = some (.string ⟨#[]⟩) := hE.cell 3
    have e4 : W.cell? ⟨w.heap.size, 4, none⟩ = some (.slice none 0 0) := hE.cell 4
    clear hW hE
    refine bodyPost_ret (v := .tuple #[.agg #[.string ⟨nm.toArray⟩, .int .u8 86, .int .i64 0, .string ⟨#[]⟩, .slice none 0 0], .bool true]) (by simp [results, Try.results47, go_sem, e0, e1, e2, e3, e4]) rfl ?_
    exact by
      refine .inr ⟨.mk nm c 0 [] [], r, none, 0, HP.out, ?_, ⟨by unfold I64; simp [Fld.n], by show nm.length ≤ _; omega, by simp [Fld.s]⟩, TabS.nil _ _ _ _ _ (Nat.zero_le _), hI.out, hG⟩
      simp [aggF, Fld.name, Fld.kind, Fld.n, Fld.s, Fld.t, HCK.out]
set_option maxHeartbeats 1000000 in
set_option maxRecDepth 100000 in
theorem parse_other (g k : Nat) (c : UInt8) (nm l r : List UInt8) (deep : Int) (w : World) (P : Option (Fld × List UInt8)) (h : InAt w g l false) (HSH : Hid (txtShort 1 l = false)) (HR : Hid (txtRest 1 l = c :: r)) (HNM : Hid (nm = txt 1 l)) (hs : l.length ≤ 1048576) (HC : Hid (c ≠ 116 ∧ c ≠ 73 ∧ c ≠ 108 ∧ c ≠ 83 ∧ c ≠ 70 ∧ c ≠ 86)) (HP : Hid (P = some (.mk nm c 0 [] [], r))) :
    Calls Try.prog 47 #[.pointer (some ⟨g, 0, none⟩), .int .i64 deep] w (RowIs P k g w) := by
  have hg := h.lt
  have h0 := h.below (Below.alloc (Below.refl w.heap.size w) (Nat.le_refl _) (.cells #[.string ⟨#[]⟩, .int .u8 0, .int .i64 0, .string ⟨#[]⟩, .slice none 0 0] 54)) hg
  have hsub : (txtRest 1 l).length ≤ l.length := txtRest_sub 1 l
  have hnl : nm.length ≤ l.length := by rw [HNM.out]; exact txt_sub 1 l
  rw [HR.out, List.length_cons] at hsub
  have H := Lib.hid h0
  clear h h0
  go_enter Try.func47, Try.ntmps47
  go_wp2_with fail
  refine (in_short g l false _ H.out).mono ?_
  rintro e w1 ⟨rfl, hi, hb⟩
  rw [HR.out, HSH.out, Bool.false_or] at hi
  rw [← HNM.out]
  have hsz := hb.size
  rw [show (w.alloc (.cells #[.string ⟨#[]⟩, .int .u8 0, .int .i64 0, .string ⟨#[]⟩, .slice none 0 0] 54)).heap.size = w.heap.size + 1 from by simp] at hsz
  have hg1 : w.grownBy w1 (some g) := only_trans (only_below ((Below.refl w.heap.size w).alloc (Nat.le_refl _) _) _) hb
  have hw0 : Whole w1 w.heap.size 54 #[.string ⟨#[]⟩, .int .u8 0, .int .i64 0, .string ⟨#[]⟩, .slice none 0 0] := (Whole.new w 54 _).grown hb (by simp; omega)
  have hi1 := hi.below (Below.alloc (Below.refl w1.heap.size w1) (Nat.le_refl _) (.cells #[.string ⟨nm.toArray⟩, .int .u8 0, .int .i64 0, .string ⟨#[]⟩, .slice none 0 0] 54)) hi.lt
  have H1 := Lib.hid hi1
  have G1 := Lib.hid hg1
  have W0 := Lib.hid hw0
  clear hi hi1 hg1 hw0 hb
  go_wp2_with fail
  refine (in_int g 1 (c :: r) false _ H1.out).mono ?_
  rintro e w2 ⟨rfl, hi, hb⟩
  rw [show wid 1 = 1 from rfl, show rst 1 (c :: r) = r from by rw [rst_yes (by simp)]; rfl, show (false || short 1 (c :: r)) = false from by rw [short_no (by simp)]; rfl] at hi
  rw [show wid 1 = 1 from rfl, show tk 1 (c :: r) = [c] from by rw [tk_yes (by simp)]; rfl, show ((nat [c] : Nat) : Int) = (c.toNat : Int) from by simp [nat]]
  have hsz2 := hb.size
  rw [show (w1.alloc (.cells #[.string ⟨nm.toArray⟩, .int .u8 0, .int .i64 0, .string ⟨#[]⟩, .slice none 0 0] 54)).heap.size = w1.heap.size + 1 from by simp] at hsz2
  have hg2 : w.grownBy w2 (some g) := only_trans G1.out (only_trans (only_below ((Below.refl w1.heap.size w1).alloc (Nat.le_refl _) _) _) hb)
  have hw1 : Whole w2 w1.heap.size 54 #[.string ⟨nm.toArray⟩, .int .u8 0, .int .i64 0, .string ⟨#[]⟩, .slice none 0 0] := (Whole.new w1 54 _).grown hb (by simp; omega)
  have hw0 : Whole w2 w.heap.size 54 #[.string ⟨#[]⟩, .int .u8 0, .int .i64 0, .string ⟨#[]⟩, .slice none 0 0] := (W0.out.alloc _).grown hb (by simp; omega)
  have ne1 : w.heap.size < w1.heap.size := by omega
  have c256 := c.toNat_lt
  have W00 := Lib.hid hw0
  have WF := Lib.hid (hw1.put 1 (.int .u8 (c.toNat : Int)))
  have HI2 := Lib.hid (hi.below ((Below.refl w1.heap.size w2).setCell (p := ⟨w1.heap.size, 1, none⟩) (Nat.le_refl _) (.int .u8 (c.toNat : Int))) (by omega))
  have G2 := Lib.hid (grown_below hg2 ((Below.refl w.heap.size w2).setCell (p := ⟨w1.heap.size, 1, none⟩) (by show w.heap.size ≤ w1.heap.size; omega) (.int .u8 (c.toNat : Int))))
  have W01 := Lib.hid (W00.out.set (b := w1.heap.size) (by omega) (i := 1) (.int .u8 (c.toNat : Int)))
  have hz2' : (w2.setCell ⟨w1.heap.size, 1, none⟩ (.int .u8 (c.toNat : Int))).heap.size = w2.heap.size := by simp [World.setCell]
  have HZ2 := Lib.hid hz2'
  have y1 : w2.cell? ⟨w1.heap.size, 1, none⟩ = some (.int .u8 0) := hw1.cell 1
  have f1 : w2.frozen? ⟨w1.heap.size, 1, none⟩ = false := hw1.frozen 1
  clear hi hb hg2 hw0 hw1 hz2'
  have ne : ∀ q : UInt8, c ≠ q → ((c.toNat : Int) == (q.toNat : Int)) = false := by
    intro q hq
    simp only [beq_eq_false_iff_ne]
    intro h
    exact hq (UInt8.toNat_inj.1 (by omega))
  have b0 := ne 116 HC.out.1
  rw [show ((UInt8.toNat 116 : Nat) : Int) = 116 from rfl] at b0
  have b1 := ne 73 HC.out.2.1
  rw [show ((UInt8.toNat 73 : Nat) : Int) = 73 from rfl] at b1
  have b2 := ne 108 HC.out.2.2.1
  rw [show ((UInt8.toNat 108 : Nat) : Int) = 108 from rfl] at b2
  have b3 := ne 83 HC.out.2.2.2.1
  rw [show ((UInt8.toNat 83 : Nat) : Int) = 83 from rfl] at b3
  have b4 := ne 70 HC.out.2.2.2.2.1
  rw [show ((UInt8.toNat 70 : Nat) : Int) = 70 from rfl] at b4
  clear ne
  obtain ⟨wa, hwa⟩ : ∃ wa, wa = w2.setCell ⟨w1.heap.size, 1, none⟩ (.int .u8 (c.toNat : Int)) := ⟨_, rfl⟩
  have WE : Hid (Whole wa w1.heap.size 54 #[.string ⟨nm.toArray⟩, .int .u8 (c.toNat : Int), .int .i64 0, .string ⟨#[]⟩, .slice none 0 0]) := by rw [hwa]; exact WF
  have WZ : Hid (Whole wa w.heap.size 54 #[.string ⟨#[]⟩, .int .u8 0, .int .i64 0, .string ⟨#[]⟩, .slice none 0 0]) := by rw [hwa]; exact W01
  have HIE : Hid (InAt wa g r false) := by rw [hwa]; exact HI2
  have GE : Hid (w.grownBy wa (some g)) := by rw [hwa]; exact G2
  have HWA := Lib.hid hwa
  clear hwa
  go_wp2_with fail
  rw [← HWA.out]
  have z0 : wa.cell? ⟨w.heap.size, 0, none⟩ = some (.string ⟨#[]⟩) := WZ.out.cell 0
  have z1 : wa.cell? ⟨w.heap.size, 1, none⟩ = some (.int .u8 0) := WZ.out.cell 1
  have z2 : wa.cell? ⟨w.heap.size, 2, none⟩ = some (.int .i64 0) := WZ.out.cell 2
  have z3 : wa.cell? ⟨w.heap.size, 3, none⟩ = some (.string ⟨#[]⟩) := WZ.out.cell 3
  have z4 : wa.cell? ⟨w.heap.size, 4, none⟩ = some (.slice none 0 0) := WZ.out.cell 4
  have x0 := WZ.out.frozen
  have u0 : wa.cell? ⟨w1.heap.size, 0, none⟩ = some (.string ⟨nm.toArray⟩) := WE.out.cell 0
  have u1 : wa.cell? ⟨w1.heap.size, 1, none⟩ = some (.int .u8 (c.toNat : Int)) := WE.out.cell 1
  have u2 : wa.cell? ⟨w1.heap.size, 2, none⟩ = some (.int .i64 0) := WE.out.cell 2
  have u3 : wa.cell? ⟨w1.heap.size, 3, none⟩ = some (.string ⟨#[]⟩) := WE.out.cell 3
  have u4 : wa.cell? ⟨w1.heap.size, 4, none⟩ = some (.slice none 0 0) := WE.out.cell 4
  have HE := Lib.hid (HIE.out.below ((Below.refl (g + 1) wa).drew) (by omega))
  go_region_with ((go_at_call 36; refine (in_ok g r false _ HE.out).mono ?_; rintro e w' ⟨rfl, rfl⟩))
  all_goals
    go_wp2_with fail
    obtain ⟨W, hW⟩ : ∃ W, W = (((((wa.setCell ⟨w.heap.size, 0, none⟩ (.string ⟨nm.toArray⟩)).setCell ⟨w.heap.size, 1, none⟩ (.int .u8 (c.toNat : Int))).setCell ⟨w.heap.size, 2, none⟩ (.int .i64 0)).setCell ⟨w.heap.size, 3, none⟩ (.string ⟨#[]⟩)).setCell ⟨w.heap.size, 4, none⟩ (.slice none 0 0)).drew := ⟨_, rfl⟩
    rw [← hW]
    have hE : Whole W w.heap.size 54 #[.string ⟨nm.toArray⟩, .int .u8 (c.toNat : Int), .int .i64 0, .string ⟨#[]⟩, .slice none 0 0] := by
      rw [hW]
      exact Whole.put5 WZ.out _ _ _ _ _
    have hG : w.grownBy W (some g) := by
      rw [hW]
      exact grown_below GE.out (below5 (Below.refl w.heap.size wa) (Nat.le_refl _) _ _ _ _ _)
    have hI : Hid (InAt W g r false) := by
      rw [hW]
      exact Lib.hid (HIE.out.below (below5 (Below.refl w.heap.size wa) (Nat.le_refl _) _ _ _ _ _) (by omega))
    have e0 : W.cell? ⟨w.heap.size, 0, none⟩ = some (.string ⟨nm.toArray⟩) := hE.cell 0
    have e1 : W.cell? ⟨w.heap.size, 1, none⟩ = some (.int .u8 (c.toNat : Int)) := hE.cell 1
    have e2 : W.cell? ⟨w.heap.size, 2, none⟩ = some (.int .i64 0) := hE.cell 2
    have e3 : W.cell? ⟨w.heap.size, 3, none⟩ = some (.string ⟨#[]⟩) := hE.cell 3
    have e4 : W.cell? ⟨w.heap.size, 4, none⟩ = some (.slice none 0 0) := hE.cell 4
    clear hW hE
    refine bodyPost_ret (v := .tuple #[.agg #[.string ⟨nm.toArray⟩, .int .u8 (c.toNat : Int), .int .i64 0, .string ⟨#[]⟩, .slice none 0 0], .bool true]) (by simp [results, Try.results47, go_sem, e0, e1, e2, e3, e4]) rfl ?_
    exact by
      refine .inr ⟨.mk nm c 0 [] [], r, none, 0, HP.out, ?_, ⟨by unfold I64; simp [Fld.n], by show nm.length ≤ _; omega, by simp [Fld.s]⟩, TabS.nil _ _ _ _ _ (Nat.zero_le _), hI.out, hG⟩
      simp [aggF, Fld.name, Fld.kind, Fld.n, Fld.s, Fld.t]
end Go.Proofs.Ytplijhhjclfhaaa
