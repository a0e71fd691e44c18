/- Contracts of package tabl: a row that is read, kind by kind. Contracts of package tabl: a row that is read, kind by kind. Contracts of package tabl: a row that is read, kind by kind. Contracts of package tabl: a row that is read, kind by kind. Contracts of package tabl: a row that is read, kind by kind. -/
import Derived.Test.YtlfppfknelddcaaDoorOctsL
import Derived.Test.YtlfppfknelddcaaDoorTablQ
namespace Go.Proofs.YtlfppfknelddcaaDoor
section
open Go.RowKit
set_option maxRecDepth 100000

set_option maxHeartbeats 1000000 in
set_option maxRecDepth 100000 in
theorem parse_V (g k : Nat) (c : UInt8) (nm l r : List UInt8) (deep : Int) (w : World) (P : Option (Fld × List UInt8)) (h : InAt w g l false) (HSH : Hid (txtShort 1 l = false)) (HR : Hid (txtRest 1 l = c :: r)) (HNM : Hid (nm = txt 1 l)) (hs : l.length ≤ 1048576) (HC : Hid (c = 86)) (HP : Hid (P = some (.mk nm c 0 [] [], r))) :
    Calls Tryd.prog 92 #[.pointer (some ⟨g, 0, none⟩), .int .i64 deep] w (RowIs P k g w) := by
  have hg := h.lt
  have h0 := h.below (Below.alloc (Below.refl w.heap.size w) (Nat.le_refl _) (.cells #[.string ⟨#[]⟩, .int .u8 0, .int .i64 0, .string ⟨#[]⟩, .slice none 0 0] 50)) hg
  have hsub : (txtRest 1 l).length ≤ l.length := txtRest_sub 1 l
  have hnl : nm.length ≤ l.length := by rw [HNM.out]; exact txt_sub 1 l
  rw [HR.out, List.length_cons] at hsub
  have H := Lib.hid h0
  clear h h0
  go_enter Tryd.func92, Tryd.ntmps92
  go_wp2_with fail
  refine (in_short g l false _ H.out).mono ?_
  rintro e w1 ⟨rfl, hi, hb⟩
  rw [HR.out, HSH.out, Bool.false_or] at hi
  rw [← HNM.out]
  have hsz := hb.size
  rw [show (w.alloc (.cells #[.string ⟨#[]⟩, .int .u8 0, .int .i64 0, .string ⟨#[]⟩, .slice none 0 0] 50)).heap.size = w.heap.size + 1 from by simp] at hsz
  have hg1 : w.grownBy w1 (some g) := only_trans (only_below ((Below.refl w.heap.size w).alloc (Nat.le_refl _) _) _) hb
  have hw0 : Whole w1 w.heap.size 50 #[.string ⟨#[]⟩, .int .u8 0, .int .i64 0, .string ⟨#[]⟩, .slice none 0 0] := (Whole.new w 50 _).grown hb (by simp; omega)
  have hi1 := hi.below (Below.alloc (Below.refl w1.heap.size w1) (Nat.le_refl _) (.cells #[.string ⟨nm.toArray⟩, .int .u8 0, .int .i64 0, .string ⟨#[]⟩, .slice none 0 0] 50)) hi.lt
  have H1 := Lib.hid hi1
  have G1 := Lib.hid hg1
  have W0 := Lib.hid hw0
  clear hi hi1 hg1 hw0 hb
  go_wp2_with fail
  refine (in_int g 1 (c :: r) false _ H1.out).mono ?_
  rintro e w2 ⟨rfl, hi, hb⟩
  rw [show wid 1 = 1 from rfl, show rst 1 (c :: r) = r from by rw [rst_yes (by simp)]; rfl, show (false || short 1 (c :: r)) = false from by rw [short_no (by simp)]; rfl] at hi
  rw [show wid 1 = 1 from rfl, show tk 1 (c :: r) = [c] from by rw [tk_yes (by simp)]; rfl, show ((nat [c] : Nat) : Int) = 86 from by rw [HC.out]; rfl]
  have hsz2 := hb.size
  rw [show (w1.alloc (.cells #[.string ⟨nm.toArray⟩, .int .u8 0, .int .i64 0, .string ⟨#[]⟩, .slice none 0 0] 50)).heap.size = w1.heap.size + 1 from by simp] at hsz2
  have hg2 : w.grownBy w2 (some g) := only_trans G1.out (only_trans (only_below ((Below.refl w1.heap.size w1).alloc (Nat.le_refl _) _) _) hb)
  have hw1 : Whole w2 w1.heap.size 50 #[.string ⟨nm.toArray⟩, .int .u8 0, .int .i64 0, .string ⟨#[]⟩, .slice none 0 0] := (Whole.new w1 50 _).grown hb (by simp; omega)
  have hw0 : Whole w2 w.heap.size 50 #[.string ⟨#[]⟩, .int .u8 0, .int .i64 0, .string ⟨#[]⟩, .slice none 0 0] := (W0.out.alloc _).grown hb (by simp; omega)
  have ne1 : w.heap.size < w1.heap.size := by omega
  have c256 := c.toNat_lt
  have W00 := Lib.hid hw0
  have WF := Lib.hid (hw1.put 1 (.int .u8 86))
  have HI2 := Lib.hid (hi.below ((Below.refl w1.heap.size w2).setCell (p := ⟨w1.heap.size, 1, none⟩) (Nat.le_refl _) (.int .u8 86)) (by omega))
  have G2 := Lib.hid (grown_below hg2 ((Below.refl w.heap.size w2).setCell (p := ⟨w1.heap.size, 1, none⟩) (by show w.heap.size ≤ w1.heap.size; omega) (.int .u8 86)))
  have W01 := Lib.hid (W00.out.set (b := w1.heap.size) (by omega) (i := 1) (.int .u8 86))
  have hz2' : (w2.setCell ⟨w1.heap.size, 1, none⟩ (.int .u8 86)).heap.size = w2.heap.size := by simp [World.setCell]
  have HZ2 := Lib.hid hz2'
  have y1 : w2.cell? ⟨w1.heap.size, 1, none⟩ = some (.int .u8 0) := hw1.cell 1
  have f1 : w2.frozen? ⟨w1.heap.size, 1, none⟩ = false := hw1.frozen 1
  clear hi hb hg2 hw0 hw1 hz2'
  have HCK : Hid ((c.toNat : Int) = 86) := Lib.hid (by rw [HC.out]; rfl)
  obtain ⟨wa, hwa⟩ : ∃ wa, wa = w2.setCell ⟨w1.heap.size, 1, none⟩ (.int .u8 86) := ⟨_, rfl⟩
  have WE : Hid (Whole wa w1.heap.size 50 #[.string ⟨nm.toArray⟩, .int .u8 86, .int .i64 0, .string ⟨#[]⟩, .slice none 0 0]) := by rw [hwa]; exact WF
  have WZ : Hid (Whole wa w.heap.size 50 #[.string ⟨#[]⟩, .int .u8 0, .int .i64 0, .string ⟨#[]⟩, .slice none 0 0]) := by rw [hwa]; exact W01
  have HIE : Hid (InAt wa g r false) := by rw [hwa]; exact HI2
  have GE : Hid (w.grownBy wa (some g)) := by rw [hwa]; exact G2
  have HWA := Lib.hid hwa
  clear hwa
  go_wp2_with fail
  rw [← HWA.out]
  have z0 : wa.cell? ⟨w.heap.size, 0, none⟩ = some (.string ⟨#[]⟩) := WZ.out.cell 0
  have z1 : wa.cell? ⟨w.heap.size, 1, none⟩ = some (.int .u8 0) := WZ.out.cell 1
  have z2 : wa.cell? ⟨w.heap.size, 2, none⟩ = some (.int .i64 0) := WZ.out.cell 2
  have z3 : wa.cell? ⟨w.heap.size, 3, none⟩ = some (.string ⟨#[]⟩) := WZ.out.cell 3
  have z4 : wa.cell? ⟨w.heap.size, 4, none⟩ = some (.slice none 0 0) := WZ.out.cell 4
  have x0 := WZ.out.frozen
  have u0 : wa.cell? ⟨w1.heap.size, 0, none⟩ = some (.string ⟨nm.toArray⟩) := WE.out.cell 0
  have u1 : wa.cell? ⟨w1.heap.size, 1, none⟩ = some (.int .u8 86) := WE.out.cell 1
  have u2 : wa.cell? ⟨w1.heap.size, 2, none⟩ = some (.int .i64 0) := WE.out.cell 2
  have u3 : wa.cell? ⟨w1.heap.size, 3, none⟩ = some (.string ⟨#[]⟩) := WE.out.cell 3
  have u4 : wa.cell? ⟨w1.heap.size, 4, none⟩ = some (.slice none 0 0) := WE.out.cell 4
  have HE := Lib.hid (HIE.out.below ((Below.refl (g + 1) wa).drew) (by omega))
  go_region_with ((go_at_call 23; refine (in_ok g r false _ HE.out).mono ?_; rintro e w' ⟨rfl, rfl⟩))
  all_goals
    go_wp2_with fail
    obtain ⟨W, hW⟩ : ∃ W, W = (((((wa.setCell ⟨w.heap.size, 0, none⟩ (.string ⟨nm.toArray⟩)).setCell ⟨w.heap.size, 1, none⟩ (.int .u8 86)).setCell ⟨w.heap.size, 2, none⟩ (.int .i64 0)).setCell ⟨w.heap.size, 3, none⟩ (.string ⟨#[]⟩)).setCell ⟨w.heap.size, 4, none⟩ (.slice none 0 0)).drew := ⟨_, rfl⟩
    rw [← hW]
    have hE : Whole W w.heap.size 50 #[.string ⟨nm.toArray⟩, .int .u8 86, .int .i64 0, .string ⟨#[]⟩, .slice none 0 0] := by
      rw [hW]
      exact Whole.put5 WZ.out _ _ _ _ _
    have hG : w.grownBy W (some g) := by
      rw [hW]
      exact grown_below GE.out (below5 (Below.refl w.heap.size wa) (Nat.le_refl _) _ _ _ _ _)
    have hI : Hid (InAt W g r false) := by
      rw [hW]
      exact Lib.hid (HIE.out.below (below5 (Below.refl w.heap.size wa) (Nat.le_refl _) _ _ _ _ _) (by omega))
    have e0 : W.cell? ⟨w.heap.size, 0, none⟩ = some (.string ⟨nm.toArray⟩) := hE.cell 0
    have e1 : W.cell? ⟨w.heap.size, 1, none⟩ = some (.int .u8 86) := hE.cell 1
    have e2 : W.cell? ⟨w.heap.size, 2, none⟩ = some (.int .i64 0) := hE.cell 2
    have e3 : W.cell? ⟨w.heap.size, 3, none⟩ = some (.string ⟨#[]⟩) := hE.cell 3
    have e4 : W.cell? ⟨w.heap.size, 4, none⟩ = some (.slice none 0 0) := hE.cell 4
    clear hW hE
    refine bodyPost_ret (v := .tuple #[.agg #[.string ⟨nm.toArray⟩, .int .u8 86, .int .i64 0, .string ⟨#[]⟩, .slice none 0 0], .bool true]) (by simp [results, Tryd.results92, go_sem, e0, e1, e2, e3, e4]) rfl ?_
    exact by
      refine .inr ⟨.mk nm c 0 [] [], r, none, 0, HP.out, ?_, ⟨by unfold I64; simp [Fld.n], by show nm.length ≤ _; omega, by simp [Fld.s]⟩, TabS.nil _ _ _ _ _ (Nat.zero_le _), hI.out, hG⟩
      simp [aggF, Fld.name, Fld.kind, Fld.n, Fld.s, Fld.t, HCK.out]
set_option maxHeartbeats 1000000 in
set_option maxRecDepth 100000 in
theorem parse_other (g k : Nat) (c : UInt8) (nm l r : List UInt8) (deep : Int) (w : World) (P : Option (Fld × List UInt8)) (h : InAt w g l false) (HSH : Hid (txtShort 1 l = false)) (HR : Hid (txtRest 1 l = c :: r)) (HNM : Hid (nm = txt 1 l)) (hs : l.length ≤ 1048576) (HC : Hid (c ≠ 116 ∧ c ≠ 73 ∧ c ≠ 108 ∧ c ≠ 83 ∧ c ≠ 70 ∧ c ≠ 86)) (HP : Hid (P = some (.mk nm c 0 [] [], r))) :
    Calls Tryd.prog 92 #[.pointer (some ⟨g, 0, none⟩), .int .i64 deep] w (RowIs P k g w) := by
  have hg := h.lt
  have h0 := h.below (Below.alloc (Below.refl w.heap.size w) (Nat.le_refl _) (.cells #[.string ⟨#[]⟩, .int .u8 0, .int .i64 0, .string ⟨#[]⟩, .slice none 0 0] 50)) hg
  have hsub : (txtRest 1 l).length ≤ l.length := txtRest_sub 1 l
  have hnl : nm.length ≤ l.length := by rw [HNM.out]; exact txt_sub 1 l
  rw [HR.out, List.length_cons] at hsub
  have H := Lib.hid h0
  clear h h0
  go_enter Tryd.func92, Tryd.ntmps92
  go_wp2_with fail
  refine (in_short g l false _ H.out).mono ?_
  rintro e w1 ⟨rfl, hi, hb⟩
  rw [HR.out, HSH.out, Bool.false_or] at hi
  rw [← HNM.out]
  have hsz := hb.size
  rw [show (w.alloc (.cells #[.string ⟨#[]⟩, .int .u8 0, .int .i64 0, .string ⟨#[]⟩, .slice none 0 0] 50)).heap.size = w.heap.size + 1 from by simp] at hsz
  have hg1 : w.grownBy w1 (some g) := only_trans (only_below ((Below.refl w.heap.size w).alloc (Nat.le_refl _) _) _) hb
  have hw0 : Whole w1 w.heap.size 50 #[.string ⟨#[]⟩, .int .u8 0, .int .i64 0, .string ⟨#[]⟩, .slice none 0 0] := (Whole.new w 50 _).grown hb (by simp; omega)
  have hi1 := hi.below (Below.alloc (Below.refl w1.heap.size w1) (Nat.le_refl _) (.cells #[.string ⟨nm.toArray⟩, .int .u8 0, .int .i64 0, .string ⟨#[]⟩, .slice none 0 0] 50)) hi.lt
  have H1 := Lib.hid hi1
  have G1 := Lib.hid hg1
  have W0 := Lib.hid hw0
  clear hi hi1 hg1 hw0 hb
  go_wp2_with fail
  refine (in_int g 1 (c :: r) false _ H1.out).mono ?_
  rintro e w2 ⟨rfl, hi, hb⟩
  rw [show wid 1 = 1 from rfl, show rst 1 (c :: r) = r from by rw [rst_yes (by simp)]; rfl, show (false || short 1 (c :: r)) = false from by rw [short_no (by simp)]; rfl] at hi
  rw [show wid 1 = 1 from rfl, show tk 1 (c :: r) = [c] from by rw [tk_yes (by simp)]; rfl, show ((nat [c] : Nat) : Int) = (c.toNat : Int) from by simp [nat]]
  have hsz2 := hb.size
  rw [show (w1.alloc (.cells #[.string ⟨nm.toArray⟩, .int .u8 0, .int .i64 0, .string ⟨#[]⟩, .slice none 0 0] 50)).heap.size = w1.heap.size + 1 from by simp] at hsz2
  have hg2 : w.grownBy w2 (some g) := only_trans G1.out (only_trans (only_below ((Below.refl w1.heap.size w1).alloc (Nat.le_refl _) _) _) hb)
  have hw1 : Whole w2 w1.heap.size 50 #[.string ⟨nm.toArray⟩, .int .u8 0, .int .i64 0, .string ⟨#[]⟩, .slice none 0 0] := (Whole.new w1 50 _).grown hb (by simp; omega)
  have hw0 : Whole w2 w.heap.size 50 #[.string ⟨#[]⟩, .int .u8 0, .int .i64 0, .string ⟨#[]⟩, .slice none 0 0] := (W0.out.alloc _).grown hb (by simp; omega)
  have ne1 : w.heap.size < w1.heap.size := by omega
  have c256 := c.toNat_lt
  have W00 := Lib.hid hw0
  have WF := Lib.hid (hw1.put 1 (.int .u8 (c.toNat : Int)))
  have HI2 := Lib.hid (hi.below ((Below.refl w1.heap.size w2).setCell (p := ⟨w1.heap.size, 1, none⟩) (Nat.le_refl _) (.int .u8 (c.toNat : Int))) (by omega))
  have G2 := Lib.hid (grown_below hg2 ((Below.refl w.heap.size w2).setCell (p := ⟨w1.heap.size, 1, none⟩) (by show w.heap.size ≤ w1.heap.size; omega) (.int .u8 (c.toNat : Int))))
  have W01 := Lib.hid (W00.out.set (b := w1.heap.size) (by omega) (i := 1) (.int .u8 (c.toNat : Int)))
  have hz2' : (w2.setCell ⟨w1.heap.size, 1, none⟩ (.int .u8 (c.toNat : Int))).heap.size = w2.heap.size := by simp [World.setCell]
  have HZ2 := Lib.hid hz2'
  have y1 : w2.cell? ⟨w1.heap.size, 1, none⟩ = some (.int .u8 0) := hw1.cell 1
  have f1 : w2.frozen? ⟨w1.heap.size, 1, none⟩ = false := hw1.frozen 1
  clear hi hb hg2 hw0 hw1 hz2'
  have ne : ∀ q : UInt8, c ≠ q → ((c.toNat : Int) == (q.toNat : Int)) = false := by
    intro q hq
    simp only [beq_eq_false_iff_ne]
    intro h
    exact hq (UInt8.toNat_inj.1 (by omega))
  have b0 := ne 116 HC.out.1
  rw [show ((UInt8.toNat 116 : Nat) : Int) = 116 from rfl] at b0
  have b1 := ne 73 HC.out.2.1
  rw [show ((UInt8.toNat 73 : Nat) : Int) = 73 from rfl] at b1
  have b2 := ne 108 HC.out.2.2.1
  rw [show ((UInt8.toNat 108 : Nat) : Int) = 108 from rfl] at b2
  have b3 := ne 83 HC.out.2.2.2.1
  rw [show ((UInt8.toNat 83 : Nat) : Int) = 83 from rfl] at b3
  have b4 := ne 70 HC.out.2.2.2.2.1
  rw [show ((UInt8.toNat 70 : Nat) : Int) = 70 from rfl] at b4
  clear ne
  obtain ⟨wa, hwa⟩ : ∃ wa, wa = w2.setCell ⟨w1.heap.size, 1, none⟩ (.int .u8 (c.toNat : Int)) := ⟨_, rfl⟩
  have WE : Hid (Whole wa w1.heap.size 50 #[.string ⟨nm.toArray⟩, .int .u8 (c.toNat : Int), .int .i64 0, .string ⟨#[]⟩, .slice none 0 0]) := by rw [hwa]; exact WF
  have WZ : Hid (Whole wa w.heap.size 50 #[.string ⟨#[]⟩, .int .u8 0, .int .i64 0, .string ⟨#[]⟩, .slice none 0 0]) := by rw [hwa]; exact W01
  have HIE : Hid (InAt wa g r false) := by rw [hwa]; exact HI2
  have GE : Hid (w.grownBy wa (some g)) := by rw [hwa]; exact G2
  have HWA := Lib.hid hwa
  clear hwa
  go_wp2_with fail
  rw [← HWA.out]
  have z0 : wa.cell? ⟨w.heap.size, 0, none⟩ = some (.string ⟨#[]⟩) := WZ.out.cell 0
  have z1 : wa.cell? ⟨w.heap.size, 1, none⟩ = some (.int .u8 0) := WZ.out.cell 1
  have z2 : wa.cell? ⟨w.heap.size, 2, none⟩ = some (.int .i64 0) := WZ.out.cell 2
  have z3 : wa.cell? ⟨w.heap.size, 3, none⟩ = some (.string ⟨#[]⟩) := WZ.out.cell 3
  have z4 : wa.cell? ⟨w.heap.size, 4, none⟩ = some (.slice none 0 0) := WZ.out.cell 4
  have x0 := WZ.out.frozen
  have u0 : wa.cell? ⟨w1.heap.size, 0, none⟩ = some (.string ⟨nm.toArray⟩) := WE.out.cell 0
  have u1 : wa.cell? ⟨w1.heap.size, 1, none⟩ = some (.int .u8 (c.toNat : Int)) := WE.out.cell 1
  have u2 : wa.cell? ⟨w1.heap.size, 2, none⟩ = some (.int .i64 0) := WE.out.cell 2
  have u3 : wa.cell? ⟨w1.heap.size, 3, none⟩ = some (.string ⟨#[]⟩) := WE.out.cell 3
  have u4 : wa.cell? ⟨w1.heap.size, 4, none⟩ = some (.slice none 0 0) := WE.out.cell 4
  have HE := Lib.hid (HIE.out.below ((Below.refl (g + 1) wa).drew) (by omega))
  go_region_with ((go_at_call 23; refine (in_ok g r false _ HE.out).mono ?_; rintro e w' ⟨rfl, rfl⟩))
  all_goals
    go_wp2_with fail
    obtain ⟨W, hW⟩ : ∃ W, W = (((((wa.setCell ⟨w.heap.size, 0, none⟩ (.string ⟨nm.toArray⟩)).setCell ⟨w.heap.size, 1, none⟩ (.int .u8 (c.toNat : Int))).setCell ⟨w.heap.size, 2, none⟩ (.int .i64 0)).setCell ⟨w.heap.size, 3, none⟩ (.string ⟨#[]⟩)).setCell ⟨w.heap.size, 4, none⟩ (.slice none 0 0)).drew := ⟨_, rfl⟩
    rw [← hW]
    have hE : Whole W w.heap.size 50 #[.string ⟨nm.toArray⟩, .int .u8 (c.toNat : Int), .int .i64 0, .string ⟨#[]⟩, .slice none 0 0] := by
      rw [hW]
      exact Whole.put5 WZ.out _ _ _ _ _
    have hG : w.grownBy W (some g) := by
      rw [hW]
      exact grown_below GE.out (below5 (Below.refl w.heap.size wa) (Nat.le_refl _) _ _ _ _ _)
    have hI : Hid (InAt W g r false) := by
      rw [hW]
      exact Lib.hid (HIE.out.below (below5 (Below.refl w.heap.size wa) (Nat.le_refl _) _ _ _ _ _) (by omega))
    have e0 : W.cell? ⟨w.heap.size, 0, none⟩ = some (.string ⟨nm.toArray⟩) := hE.cell 0
    have e1 : W.cell? ⟨w.heap.size, 1, none⟩ = some (.int .u8 (c.toNat : Int)) := hE.cell 1
    have e2 : W.cell? ⟨w.heap.size, 2, none⟩ = some (.int .i64 0) := hE.cell 2
    have e3 : W.cell? ⟨w.heap.size, 3, none⟩ = some (.string ⟨#[]⟩) := hE.cell 3
    have e4 : W.cell? ⟨w.heap.size, 4, none⟩ = some (.slice none 0 0) := hE.cell 4
    clear hW hE
    refine bodyPost_ret (v := .tuple #[.agg #[.string ⟨nm.toArray⟩, .int .u8 (c.toNat : Int), .int .i64 0, .string ⟨#[]⟩, .slice none 0 0], .bool true]) (by simp [results, Tryd.results92, go_sem, e0, e1, e2, e3, e4]) rfl ?_
    exact by
      refine .inr ⟨.mk nm c 0 [] [], r, none, 0, HP.out, ?_, ⟨by unfold I64; simp [Fld.n], by show nm.length ≤ _; omega, by simp [Fld.s]⟩, TabS.nil _ _ _ _ _ (Nat.zero_le _), hI.out, hG⟩
      simp [aggF, Fld.name, Fld.kind, Fld.n, Fld.s, Fld.t]
end
section
open Go.RowKit
set_option maxRecDepth 100000

set_option maxHeartbeats 1000000 in
set_option maxRecDepth 100000 in
theorem parse_t (g k : Nat) (c : UInt8) (nm l r : List UInt8) (deep : Int) (w : World) (P : Option (Fld × List UInt8)) (h : InAt w g l false) (HSH : Hid (txtShort 1 l = false)) (HR : Hid (txtRest 1 l = c :: r)) (HNM : Hid (nm = txt 1 l)) (hs : l.length ≤ 1048576) (HC : Hid (c = 116)) (HP : Hid (P = if short 1 r then none else some (.mk nm c (s64 (nat (tk 1 r))) [] [], rst 1 r))) :
    Calls Tryd.prog 92 #[.pointer (some ⟨g, 0, none⟩), .int .i64 deep] w (RowIs P k g w) := by
  have hg := h.lt
  have h0 := h.below (Below.alloc (Below.refl w.heap.size w) (Nat.le_refl _) (.cells #[.string ⟨#[]⟩, .int .u8 0, .int .i64 0, .string ⟨#[]⟩, .slice none 0 0] 50)) hg
  have hsub : (txtRest 1 l).length ≤ l.length := txtRest_sub 1 l
  have hnl : nm.length ≤ l.length := by rw [HNM.out]; exact txt_sub 1 l
  rw [HR.out, List.length_cons] at hsub
  have H := Lib.hid h0
  clear h h0
  go_enter Tryd.func92, Tryd.ntmps92
  go_wp2_with fail
  refine (in_short g l false _ H.out).mono ?_
  rintro e w1 ⟨rfl, hi, hb⟩
  rw [HR.out, HSH.out, Bool.false_or] at hi
  rw [← HNM.out]
  have hsz := hb.size
  rw [show (w.alloc (.cells #[.string ⟨#[]⟩, .int .u8 0, .int .i64 0, .string ⟨#[]⟩, .slice none 0 0] 50)).heap.size = w.heap.size + 1 from by simp] at hsz
  have hg1 : w.grownBy w1 (some g) := only_trans (only_below ((Below.refl w.heap.size w).alloc (Nat.le_refl _) _) _) hb
  have hw0 : Whole w1 w.heap.size 50 #[.string ⟨#[]⟩, .int .u8 0, .int .i64 0, .string ⟨#[]⟩, .slice none 0 0] := (Whole.new w 50 _).grown hb (by simp; omega)
  have hi1 := hi.below (Below.alloc (Below.refl w1.heap.size w1) (Nat.le_refl _) (.cells #[.string ⟨nm.toArray⟩, .int .u8 0, .int .i64 0, .string ⟨#[]⟩, .slice none 0 0] 50)) hi.lt
  have H1 := Lib.hid hi1
  have G1 := Lib.hid hg1
  have W0 := Lib.hid hw0
  clear hi hi1 hg1 hw0 hb
  go_wp2_with fail
  refine (in_int g 1 (c :: r) false _ H1.out).mono ?_
  rintro e w2 ⟨rfl, hi, hb⟩
  rw [show wid 1 = 1 from rfl, show rst 1 (c :: r) = r from by rw [rst_yes (by simp)]; rfl, show (false || short 1 (c :: r)) = false from by rw [short_no (by simp)]; rfl] at hi
  rw [show wid 1 = 1 from rfl, show tk 1 (c :: r) = [c] from by rw [tk_yes (by simp)]; rfl, show ((nat [c] : Nat) : Int) = 116 from by rw [HC.out]; rfl]
  have hsz2 := hb.size
  rw [show (w1.alloc (.cells #[.string ⟨nm.toArray⟩, .int .u8 0, .int .i64 0, .string ⟨#[]⟩, .slice none 0 0] 50)).heap.size = w1.heap.size + 1 from by simp] at hsz2
  have hg2 : w.grownBy w2 (some g) := only_trans G1.out (only_trans (only_below ((Below.refl w1.heap.size w1).alloc (Nat.le_refl _) _) _) hb)
  have hw1 : Whole w2 w1.heap.size 50 #[.string ⟨nm.toArray⟩, .int .u8 0, .int .i64 0, .string ⟨#[]⟩, .slice none 0 0] := (Whole.new w1 50 _).grown hb (by simp; omega)
  have hw0 : Whole w2 w.heap.size 50 #[.string ⟨#[]⟩, .int .u8 0, .int .i64 0, .string ⟨#[]⟩, .slice none 0 0] := (W0.out.alloc _).grown hb (by simp; omega)
  have ne1 : w.heap.size < w1.heap.size := by omega
  have c256 := c.toNat_lt
  have W00 := Lib.hid hw0
  have WF := Lib.hid (hw1.put 1 (.int .u8 116))
  have HI2 := Lib.hid (hi.below ((Below.refl w1.heap.size w2).setCell (p := ⟨w1.heap.size, 1, none⟩) (Nat.le_refl _) (.int .u8 116)) (by omega))
  have G2 := Lib.hid (grown_below hg2 ((Below.refl w.heap.size w2).setCell (p := ⟨w1.heap.size, 1, none⟩) (by show w.heap.size ≤ w1.heap.size; omega) (.int .u8 116)))
  have W01 := Lib.hid (W00.out.set (b := w1.heap.size) (by omega) (i := 1) (.int .u8 116))
  have hz2' : (w2.setCell ⟨w1.heap.size, 1, none⟩ (.int .u8 116)).heap.size = w2.heap.size := by simp [World.setCell]
  have HZ2 := Lib.hid hz2'
  have y1 : w2.cell? ⟨w1.heap.size, 1, none⟩ = some (.int .u8 0) := hw1.cell 1
  have f1 : w2.frozen? ⟨w1.heap.size, 1, none⟩ = false := hw1.frozen 1
  clear hi hb hg2 hw0 hw1 hz2'
  have HCK : Hid ((c.toNat : Int) = 116) := Lib.hid (by rw [HC.out]; rfl)
  obtain ⟨wa, hwa⟩ : ∃ wa, wa = w2.setCell ⟨w1.heap.size, 1, none⟩ (.int .u8 116) := ⟨_, rfl⟩
  have WA : Hid (Whole wa w1.heap.size 50 #[.string ⟨nm.toArray⟩, .int .u8 116, .int .i64 0, .string ⟨#[]⟩, .slice none 0 0]) := by rw [hwa]; exact WF
  have WY : Hid (Whole wa w.heap.size 50 #[.string ⟨#[]⟩, .int .u8 0, .int .i64 0, .string ⟨#[]⟩, .slice none 0 0]) := by rw [hwa]; exact W01
  have HIA : Hid (InAt wa g r false) := by rw [hwa]; exact HI2
  have GA : Hid (w.grownBy wa (some g)) := by rw [hwa]; exact G2
  have HWA := Lib.hid hwa
  have HSA : Hid (wa.heap.size = w2.heap.size) := by rw [hwa]; exact HZ2
  clear hwa
  go_wp2_with fail
  rw [← HWA.out]
  refine (in_int g 1 r false _ HIA.out).mono ?_
  rintro e w3 ⟨rfl, hi3, hb3⟩
  rw [show wid 1 = 1 from rfl, Bool.false_or] at hi3
  rw [show wid 1 = 1 from rfl]
  obtain ⟨x, hx⟩ : ∃ x, x = nat (tk 1 r) := ⟨_, rfl⟩
  have hx8 : x < 256 := by
    rw [hx]
    have h1 := nat_lt (tk 1 r)
    have h2 : 256 ^ (tk 1 r).length ≤ 256 ^ 1 := Nat.pow_le_pow_right (by omega) (tk_le 1 r)
    have h3 : (256 : Nat) ^ 1 = 256 := by decide
    omega
  obtain ⟨sh, hsh⟩ : ∃ sh, sh = short 1 r := ⟨_, rfl⟩
  rw [← hx]
  rw [← hsh] at hi3
  have HX := Lib.hid hx
  have HSHN := Lib.hid hsh
  have hz3 := hb3.size
  have hza : w2.heap.size ≤ wa.heap.size := Nat.le_of_eq HSA.out.symm
  have hw3 := WA.out.grown hb3 (by simp; omega)
  have hy3 := WY.out.grown hb3 (by simp; omega)
  obtain ⟨V, hV⟩ : ∃ V : Int, V = (x : Int) := ⟨_, rfl⟩
  have HV : Hid (I64 V) := Lib.hid (by rw [hV]; unfold I64; omega)
  have HVV : Hid (V = s64 (nat (tk 1 r))) := Lib.hid (by rw [hV, ← hx]; unfold s64; rw [if_pos (by omega)])
  have hVx : (x : Int) = V := hV.symm
  clear hV
  have WE := Lib.hid (hw3.put 2 (.int .i64 V))
  have WZ := Lib.hid (hy3.set (b := w1.heap.size) (by omega) (i := 2) (.int .i64 V))
  have HIE := Lib.hid (hi3.below ((Below.refl w1.heap.size w3).setCell (p := ⟨w1.heap.size, 2, none⟩) (Nat.le_refl _) (.int .i64 V)) (by omega))
  have GE := Lib.hid (grown_below (only_trans GA.out hb3) ((Below.refl w.heap.size w3).setCell (p := ⟨w1.heap.size, 2, none⟩) (by show w.heap.size ≤ w1.heap.size; omega) (.int .i64 V)))
  have v2 : w3.cell? ⟨w1.heap.size, 2, none⟩ = some (.int .i64 0) := hw3.cell 2
  have g2 := hw3.frozen 2
  obtain ⟨wb, hwb⟩ : ∃ wb, wb = w3.setCell ⟨w1.heap.size, 2, none⟩ (.int .i64 V) := ⟨_, rfl⟩
  rw [← hwb] at WE WZ HIE GE
  have HWB := Lib.hid hwb
  clear hi3 hb3 hw3 hy3 hx hsh hwb hza
  go_wp2_with fail
  rw [← HWB.out]
  have z0 : wb.cell? ⟨w.heap.size, 0, none⟩ = some (.string ⟨#[]⟩) := WZ.out.cell 0
  have z1 : wb.cell? ⟨w.heap.size, 1, none⟩ = some (.int .u8 0) := WZ.out.cell 1
  have z2 : wb.cell? ⟨w.heap.size, 2, none⟩ = some (.int .i64 0) := WZ.out.cell 2
  have z3 : wb.cell? ⟨w.heap.size, 3, none⟩ = some (.string ⟨#[]⟩) := WZ.out.cell 3
  have z4 : wb.cell? ⟨w.heap.size, 4, none⟩ = some (.slice none 0 0) := WZ.out.cell 4
  have x0 := WZ.out.frozen
  have u0 : wb.cell? ⟨w1.heap.size, 0, none⟩ = some (.string ⟨nm.toArray⟩) := WE.out.cell 0
  have u1 : wb.cell? ⟨w1.heap.size, 1, none⟩ = some (.int .u8 116) := WE.out.cell 1
  have u2 : wb.cell? ⟨w1.heap.size, 2, none⟩ = some (.int .i64 V) := WE.out.cell 2
  have u3 : wb.cell? ⟨w1.heap.size, 3, none⟩ = some (.string ⟨#[]⟩) := WE.out.cell 3
  have u4 : wb.cell? ⟨w1.heap.size, 4, none⟩ = some (.slice none 0 0) := WE.out.cell 4
  have HE := Lib.hid (HIE.out.below ((Below.refl (g + 1) wb).drew) (by omega))
  go_region_with ((go_at_call 23; refine (in_ok g (rst 1 r) sh _ HE.out).mono ?_; rintro e w' ⟨rfl, rfl⟩))
  all_goals
    go_wp2_with fail
    obtain ⟨W, hW⟩ : ∃ W, W = (((((wb.setCell ⟨w.heap.size, 0, none⟩ (.string ⟨nm.toArray⟩)).setCell ⟨w.heap.size, 1, none⟩ (.int .u8 116)).setCell ⟨w.heap.size, 2, none⟩ (.int .i64 V)).setCell ⟨w.heap.size, 3, none⟩ (.string ⟨#[]⟩)).setCell ⟨w.heap.size, 4, none⟩ (.slice none 0 0)).drew := ⟨_, rfl⟩
    rw [← hW]
    have hE : Whole W w.heap.size 50 #[.string ⟨nm.toArray⟩, .int .u8 116, .int .i64 V, .string ⟨#[]⟩, .slice none 0 0] := by
      rw [hW]
      exact Whole.put5 WZ.out _ _ _ _ _
    have hG : w.grownBy W (some g) := by
      rw [hW]
      exact grown_below GE.out (below5 (Below.refl w.heap.size wb) (Nat.le_refl _) _ _ _ _ _)
    have hI : Hid (InAt W g (rst 1 r) sh) := by
      rw [hW]
      exact Lib.hid (HIE.out.below (below5 (Below.refl w.heap.size wb) (Nat.le_refl _) _ _ _ _ _) (by omega))
    have e0 : W.cell? ⟨w.heap.size, 0, none⟩ = some (.string ⟨nm.toArray⟩) := hE.cell 0
    have e1 : W.cell? ⟨w.heap.size, 1, none⟩ = some (.int .u8 116) := hE.cell 1
    have e2 : W.cell? ⟨w.heap.size, 2, none⟩ = some (.int .i64 V) := hE.cell 2
    have e3 : W.cell? ⟨w.heap.size, 3, none⟩ = some (.string ⟨#[]⟩) := hE.cell 3
    have e4 : W.cell? ⟨w.heap.size, 4, none⟩ = some (.slice none 0 0) := hE.cell 4
    clear hW hE
    refine bodyPost_ret (v := .tuple #[.agg #[.string ⟨nm.toArray⟩, .int .u8 116, .int .i64 V, .string ⟨#[]⟩, .slice none 0 0], .bool (!sh)]) (by simp [results, Tryd.results92, go_sem, e0, e1, e2, e3, e4]) rfl ?_
    cases sh with
    | true => exact .inl ⟨by rw [HP.out, ← HSHN.out]; rfl, ⟨_, _, _, _, _, _, _, rfl⟩, hG⟩
    | false =>
      refine .inr ⟨.mk nm c V [] [], rst 1 r, none, 0, by rw [HP.out, ← HSHN.out, ← HVV.out]; rfl, ?_, ⟨HV.out, by show nm.length ≤ _; omega, by simp [Fld.s]⟩, TabS.nil _ _ _ _ _ (Nat.zero_le _), hI.out, hG⟩
      simp [aggF, Fld.name, Fld.kind, Fld.n, Fld.s, Fld.t, HCK.out]
set_option maxHeartbeats 1000000 in
set_option maxRecDepth 100000 in
theorem parse_l (g k : Nat) (c : UInt8) (nm l r : List UInt8) (deep : Int) (w : World) (P : Option (Fld × List UInt8)) (h : InAt w g l false) (HSH : Hid (txtShort 1 l = false)) (HR : Hid (txtRest 1 l = c :: r)) (HNM : Hid (nm = txt 1 l)) (hs : l.length ≤ 1048576) (HC : Hid (c = 108)) (HP : Hid (P = if short 8 r then none else some (.mk nm c (s64 (nat (tk 8 r))) [] [], rst 8 r))) :
    Calls Tryd.prog 92 #[.pointer (some ⟨g, 0, none⟩), .int .i64 deep] w (RowIs P k g w) := by
  have hg := h.lt
  have h0 := h.below (Below.alloc (Below.refl w.heap.size w) (Nat.le_refl _) (.cells #[.string ⟨#[]⟩, .int .u8 0, .int .i64 0, .string ⟨#[]⟩, .slice none 0 0] 50)) hg
  have hsub : (txtRest 1 l).length ≤ l.length := txtRest_sub 1 l
  have hnl : nm.length ≤ l.length := by rw [HNM.out]; exact txt_sub 1 l
  rw [HR.out, List.length_cons] at hsub
  have H := Lib.hid h0
  clear h h0
  go_enter Tryd.func92, Tryd.ntmps92
  go_wp2_with fail
  refine (in_short g l false _ H.out).mono ?_
  rintro e w1 ⟨rfl, hi, hb⟩
  rw [HR.out, HSH.out, Bool.false_or] at hi
  rw [← HNM.out]
  have hsz := hb.size
  rw [show (w.alloc (.cells #[.string ⟨#[]⟩, .int .u8 0, .int .i64 0, .string ⟨#[]⟩, .slice none 0 0] 50)).heap.size = w.heap.size + 1 from by simp] at hsz
  have hg1 : w.grownBy w1 (some g) := only_trans (only_below ((Below.refl w.heap.size w).alloc (Nat.le_refl _) _) _) hb
  have hw0 : Whole w1 w.heap.size 50 #[.string ⟨#[]⟩, .int .u8 0, .int .i64 0, .string ⟨#[]⟩, .slice none 0 0] := (Whole.new w 50 _).grown hb (by simp; omega)
  have hi1 := hi.below (Below.alloc (Below.refl w1.heap.size w1) (Nat.le_refl _) (.cells #[.string ⟨nm.toArray⟩, .int .u8 0, .int .i64 0, .string ⟨#[]⟩, .slice none 0 0] 50)) hi.lt
  have H1 := Lib.hid hi1
  have G1 := Lib.hid hg1
  have W0 := Lib.hid hw0
  clear hi hi1 hg1 hw0 hb
  go_wp2_with fail
  refine (in_int g 1 (c :: r) false _ H1.out).mono ?_
  rintro e w2 ⟨rfl, hi, hb⟩
  rw [show wid 1 = 1 from rfl, show rst 1 (c :: r) = r from by rw [rst_yes (by simp)]; rfl, show (false || short 1 (c :: r)) = false from by rw [short_no (by simp)]; rfl] at hi
  rw [show wid 1 = 1 from rfl, show tk 1 (c :: r) = [c] from by rw [tk_yes (by simp)]; rfl, show ((nat [c] : Nat) : Int) = 108 from by rw [HC.out]; rfl]
  have hsz2 := hb.size
  rw [show (w1.alloc (.cells #[.string ⟨nm.toArray⟩, .int .u8 0, .int .i64 0, .string ⟨#[]⟩, .slice none 0 0] 50)).heap.size = w1.heap.size + 1 from by simp] at hsz2
  have hg2 : w.grownBy w2 (some g) := only_trans G1.out (only_trans (only_below ((Below.refl w1.heap.size w1).alloc (Nat.le_refl _) _) _) hb)
  have hw1 : Whole w2 w1.heap.size 50 #[.string ⟨nm.toArray⟩, .int .u8 0, .int .i64 0, .string ⟨#[]⟩, .slice none 0 0] := (Whole.new w1 50 _).grown hb (by simp; omega)
  have hw0 : Whole w2 w.heap.size 50 #[.string ⟨#[]⟩, .int .u8 0, .int .i64 0, .string ⟨#[]⟩, .slice none 0 0] := (W0.out.alloc _).grown hb (by simp; omega)
  have ne1 : w.heap.size < w1.heap.size := by omega
  have c256 := c.toNat_lt
  have W00 := Lib.hid hw0
  have WF := Lib.hid (hw1.put 1 (.int .u8 108))
  have HI2 := Lib.hid (hi.below ((Below.refl w1.heap.size w2).setCell (p := ⟨w1.heap.size, 1, none⟩) (Nat.le_refl _) (.int .u8 108)) (by omega))
  have G2 := Lib.hid (grown_below hg2 ((Below.refl w.heap.size w2).setCell (p := ⟨w1.heap.size, 1, none⟩) (by show w.heap.size ≤ w1.heap.size; omega) (.int .u8 108)))
  have W01 := Lib.hid (W00.out.set (b := w1.heap.size) (by omega) (i := 1) (.int .u8 108))
  have hz2' : (w2.setCell ⟨w1.heap.size, 1, none⟩ (.int .u8 108)).heap.size = w2.heap.size := by simp [World.setCell]
  have HZ2 := Lib.hid hz2'
  have y1 : w2.cell? ⟨w1.heap.size, 1, none⟩ = some (.int .u8 0) := hw1.cell 1
  have f1 : w2.frozen? ⟨w1.heap.size, 1, none⟩ = false := hw1.frozen 1
  clear hi hb hg2 hw0 hw1 hz2'
  have HCK : Hid ((c.toNat : Int) = 108) := Lib.hid (by rw [HC.out]; rfl)
  obtain ⟨wa, hwa⟩ : ∃ wa, wa = w2.setCell ⟨w1.heap.size, 1, none⟩ (.int .u8 108) := ⟨_, rfl⟩
  have WA : Hid (Whole wa w1.heap.size 50 #[.string ⟨nm.toArray⟩, .int .u8 108, .int .i64 0, .string ⟨#[]⟩, .slice none 0 0]) := by rw [hwa]; exact WF
  have WY : Hid (Whole wa w.heap.size 50 #[.string ⟨#[]⟩, .int .u8 0, .int .i64 0, .string ⟨#[]⟩, .slice none 0 0]) := by rw [hwa]; exact W01
  have HIA : Hid (InAt wa g r false) := by rw [hwa]; exact HI2
  have GA : Hid (w.grownBy wa (some g)) := by rw [hwa]; exact G2
  have HWA := Lib.hid hwa
  have HSA : Hid (wa.heap.size = w2.heap.size) := by rw [hwa]; exact HZ2
  clear hwa
  go_wp2_with fail
  rw [← HWA.out]
  refine (in_int g 8 r false _ HIA.out).mono ?_
  rintro e w3 ⟨rfl, hi3, hb3⟩
  rw [show wid 8 = 8 from rfl, Bool.false_or] at hi3
  rw [show wid 8 = 8 from rfl]
  obtain ⟨x, hx⟩ : ∃ x, x = nat (tk 8 r) := ⟨_, rfl⟩
  have hx8 : x < 18446744073709551616 := by
    rw [hx]
    have h1 := nat_lt (tk 8 r)
    have h2 : 256 ^ (tk 8 r).length ≤ 256 ^ 8 := Nat.pow_le_pow_right (by omega) (tk_le 8 r)
    have h3 : (256 : Nat) ^ 8 = 18446744073709551616 := by decide
    omega
  obtain ⟨sh, hsh⟩ : ∃ sh, sh = short 8 r := ⟨_, rfl⟩
  rw [← hx]
  rw [← hsh] at hi3
  have HX := Lib.hid hx
  have HSHN := Lib.hid hsh
  have hz3 := hb3.size
  have hza : w2.heap.size ≤ wa.heap.size := Nat.le_of_eq HSA.out.symm
  have hw3 := WA.out.grown hb3 (by simp; omega)
  have hy3 := WY.out.grown hb3 (by simp; omega)
  obtain ⟨V, hV⟩ : ∃ V : Int, V = wrap64 (x : Int) := ⟨_, rfl⟩
  have HVV : Hid (V = s64 (nat (tk 8 r))) := Lib.hid (by rw [hV, ← hx]; unfold wrap64 s64; split <;> omega)
  have HV : Hid (I64 V) := Lib.hid (by rw [HVV.out, ← hx]; exact s64_range x hx8)
  have hVx : wrap64 (x : Int) = V := hV.symm
  clear hV
  have WE := Lib.hid (hw3.put 2 (.int .i64 V))
  have WZ := Lib.hid (hy3.set (b := w1.heap.size) (by omega) (i := 2) (.int .i64 V))
  have HIE := Lib.hid (hi3.below ((Below.refl w1.heap.size w3).setCell (p := ⟨w1.heap.size, 2, none⟩) (Nat.le_refl _) (.int .i64 V)) (by omega))
  have GE := Lib.hid (grown_below (only_trans GA.out hb3) ((Below.refl w.heap.size w3).setCell (p := ⟨w1.heap.size, 2, none⟩) (by show w.heap.size ≤ w1.heap.size; omega) (.int .i64 V)))
  have v2 : w3.cell? ⟨w1.heap.size, 2, none⟩ = some (.int .i64 0) := hw3.cell 2
  have g2 := hw3.frozen 2
  obtain ⟨wb, hwb⟩ : ∃ wb, wb = w3.setCell ⟨w1.heap.size, 2, none⟩ (.int .i64 V) := ⟨_, rfl⟩
  rw [← hwb] at WE WZ HIE GE
  have HWB := Lib.hid hwb
  clear hi3 hb3 hw3 hy3 hx hsh hwb hza
  go_wp2_with fail
  rw [← HWB.out]
  have z0 : wb.cell? ⟨w.heap.size, 0, none⟩ = some (.string ⟨#[]⟩) := WZ.out.cell 0
  have z1 : wb.cell? ⟨w.heap.size, 1, none⟩ = some (.int .u8 0) := WZ.out.cell 1
  have z2 : wb.cell? ⟨w.heap.size, 2, none⟩ = some (.int .i64 0) := WZ.out.cell 2
  have z3 : wb.cell? ⟨w.heap.size, 3, none⟩ = some (.string ⟨#[]⟩) := WZ.out.cell 3
  have z4 : wb.cell? ⟨w.heap.size, 4, none⟩ = some (.slice none 0 0) := WZ.out.cell 4
  have x0 := WZ.out.frozen
  have u0 : wb.cell? ⟨w1.heap.size, 0, none⟩ = some (.string ⟨nm.toArray⟩) := WE.out.cell 0
  have u1 : wb.cell? ⟨w1.heap.size, 1, none⟩ = some (.int .u8 108) := WE.out.cell 1
  have u2 : wb.cell? ⟨w1.heap.size, 2, none⟩ = some (.int .i64 V) := WE.out.cell 2
  have u3 : wb.cell? ⟨w1.heap.size, 3, none⟩ = some (.string ⟨#[]⟩) := WE.out.cell 3
  have u4 : wb.cell? ⟨w1.heap.size, 4, none⟩ = some (.slice none 0 0) := WE.out.cell 4
  have HE := Lib.hid (HIE.out.below ((Below.refl (g + 1) wb).drew) (by omega))
  go_region_with ((go_at_call 23; refine (in_ok g (rst 8 r) sh _ HE.out).mono ?_; rintro e w' ⟨rfl, rfl⟩))
  all_goals
    go_wp2_with fail
    obtain ⟨W, hW⟩ : ∃ W, W = (((((wb.setCell ⟨w.heap.size, 0, none⟩ (.string ⟨nm.toArray⟩)).setCell ⟨w.heap.size, 1, none⟩ (.int .u8 108)).setCell ⟨w.heap.size, 2, none⟩ (.int .i64 V)).setCell ⟨w.heap.size, 3, none⟩ (.string ⟨#[]⟩)).setCell ⟨w.heap.size, 4, none⟩ (.slice none 0 0)).drew := ⟨_, rfl⟩
    rw [← hW]
    have hE : Whole W w.heap.size 50 #[.string ⟨nm.toArray⟩, .int .u8 108, .int .i64 V, .string ⟨#[]⟩, .slice none 0 0] := by
      rw [hW]
      exact Whole.put5 WZ.out _ _ _ _ _
    have hG : w.grownBy W (some g) := by
      rw [hW]
      exact grown_below GE.out (below5 (Below.refl w.heap.size wb) (Nat.le_refl _) _ _ _ _ _)
    have hI : Hid (InAt W g (rst 8 r) sh) := by
      rw [hW]
      exact Lib.hid (HIE.out.below (below5 (Below.refl w.heap.size wb) (Nat.le_refl _) _ _ _ _ _) (by omega))
    have e0 : W.cell? ⟨w.heap.size, 0, none⟩ = some (.string ⟨nm.toArray⟩) := hE.cell 0
    have e1 : W.cell? ⟨w.heap.size, 1, none⟩ = some (.int .u8 108) := hE.cell 1
    have e2 : W.cell? ⟨w.heap.size, 2, none⟩ = some (.int .i64 V) := hE.cell 2
    have e3 : W.cell? ⟨w.heap.size, 3, none⟩ = some (.string ⟨#[]⟩) := hE.cell 3
    have e4 : W.cell? ⟨w.heap.size, 4, none⟩ = some (.slice none 0 0) := hE.cell 4
    clear hW hE
    refine bodyPost_ret (v := .tuple #[.agg #[.string ⟨nm.toArray⟩, .int .u8 108, .int .i64 V, .string ⟨#[]⟩, .slice none 0 0], .bool (!sh)]) (by simp [results, Tryd.results92, go_sem, e0, e1, e2, e3, e4]) rfl ?_
    cases sh with
    | true => exact .inl ⟨by rw [HP.out, ← HSHN.out]; rfl, ⟨_, _, _, _, _, _, _, rfl⟩, hG⟩
    | false =>
      refine .inr ⟨.mk nm c V [] [], rst 8 r, none, 0, by rw [HP.out, ← HSHN.out, ← HVV.out]; rfl, ?_, ⟨HV.out, by show nm.length ≤ _; omega, by simp [Fld.s]⟩, TabS.nil _ _ _ _ _ (Nat.zero_le _), hI.out, hG⟩
      simp [aggF, Fld.name, Fld.kind, Fld.n, Fld.s, Fld.t, HCK.out]
end
section
open Go.RowKit
set_option maxRecDepth 100000

theorem i32_i64 {V : Int} (h : I32 V) : I64 V := by unfold I32 at h; unfold I64; omega
theorem wrap_i32_64 {V : Int} (h : I32 V) : wrap64 V = V := by unfold I32 at h; exact IntWalk.wrap64_in V ⟨by omega, by omega⟩

set_option maxHeartbeats 1000000 in
set_option maxRecDepth 100000 in
theorem parse_I (g k : Nat) (c : UInt8) (nm l r : List UInt8) (deep : Int) (w : World) (P : Option (Fld × List UInt8)) (h : InAt w g l false) (HSH : Hid (txtShort 1 l = false)) (HR : Hid (txtRest 1 l = c :: r)) (HNM : Hid (nm = txt 1 l)) (hs : l.length ≤ 1048576) (HC : Hid (c = 73)) (HP : Hid (P = if short 4 r then none else some (.mk nm c (s32 (nat (tk 4 r))) [] [], rst 4 r))) :
    Calls Tryd.prog 92 #[.pointer (some ⟨g, 0, none⟩), .int .i64 deep] w (RowIs P k g w) := by
  have hg := h.lt
  have h0 := h.below (Below.alloc (Below.refl w.heap.size w) (Nat.le_refl _) (.cells #[.string ⟨#[]⟩, .int .u8 0, .int .i64 0, .string ⟨#[]⟩, .slice none 0 0] 50)) hg
  have hsub : (txtRest 1 l).length ≤ l.length := txtRest_sub 1 l
  have hnl : nm.length ≤ l.length := by rw [HNM.out]; exact txt_sub 1 l
  rw [HR.out, List.length_cons] at hsub
  have H := Lib.hid h0
  clear h h0
  go_enter Tryd.func92, Tryd.ntmps92
  go_wp2_with fail
  refine (in_short g l false _ H.out).mono ?_
  rintro e w1 ⟨rfl, hi, hb⟩
  rw [HR.out, HSH.out, Bool.false_or] at hi
  rw [← HNM.out]
  have hsz := hb.size
  rw [show (w.alloc (.cells #[.string ⟨#[]⟩, .int .u8 0, .int .i64 0, .string ⟨#[]⟩, .slice none 0 0] 50)).heap.size = w.heap.size + 1 from by simp] at hsz
  have hg1 : w.grownBy w1 (some g) := only_trans (only_below ((Below.refl w.heap.size w).alloc (Nat.le_refl _) _) _) hb
  have hw0 : Whole w1 w.heap.size 50 #[.string ⟨#[]⟩, .int .u8 0, .int .i64 0, .string ⟨#[]⟩, .slice none 0 0] := (Whole.new w 50 _).grown hb (by simp; omega)
  have hi1 := hi.below (Below.alloc (Below.refl w1.heap.size w1) (Nat.le_refl _) (.cells #[.string ⟨nm.toArray⟩, .int .u8 0, .int .i64 0, .string ⟨#[]⟩, .slice none 0 0] 50)) hi.lt
  have H1 := Lib.hid hi1
  have G1 := Lib.hid hg1
  have W0 := Lib.hid hw0
  clear hi hi1 hg1 hw0 hb
  go_wp2_with fail
  refine (in_int g 1 (c :: r) false _ H1.out).mono ?_
  rintro e w2 ⟨rfl, hi, hb⟩
  rw [show wid 1 = 1 from rfl, show rst 1 (c :: r) = r from by rw [rst_yes (by simp)]; rfl, show (false || short 1 (c :: r)) = false from by rw [short_no (by simp)]; rfl] at hi
  rw [show wid 1 = 1 from rfl, show tk 1 (c :: r) = [c] from by rw [tk_yes (by simp)]; rfl, show ((nat [c] : Nat) : Int) = 73 from by rw [HC.out]; rfl]
  have hsz2 := hb.size
  rw [show (w1.alloc (.cells #[.string ⟨nm.toArray⟩, .int .u8 0, .int .i64 0, .string ⟨#[]⟩, .slice none 0 0] 50)).heap.size = w1.heap.size + 1 from by simp] at hsz2
  have hg2 : w.grownBy w2 (some g) := only_trans G1.out (only_trans (only_below ((Below.refl w1.heap.size w1).alloc (Nat.le_refl _) _) _) hb)
  have hw1 : Whole w2 w1.heap.size 50 #[.string ⟨nm.toArray⟩, .int .u8 0, .int .i64 0, .string ⟨#[]⟩, .slice none 0 0] := (Whole.new w1 50 _).grown hb (by simp; omega)
  have hw0 : Whole w2 w.heap.size 50 #[.string ⟨#[]⟩, .int .u8 0, .int .i64 0, .string ⟨#[]⟩, .slice none 0 0] := (W0.out.alloc _).grown hb (by simp; omega)
  have ne1 : w.heap.size < w1.heap.size := by omega
  have c256 := c.toNat_lt
  have W00 := Lib.hid hw0
  have WF := Lib.hid (hw1.put 1 (.int .u8 73))
  have HI2 := Lib.hid (hi.below ((Below.refl w1.heap.size w2).setCell (p := ⟨w1.heap.size, 1, none⟩) (Nat.le_refl _) (.int .u8 73)) (by omega))
  have G2 := Lib.hid (grown_below hg2 ((Below.refl w.heap.size w2).setCell (p := ⟨w1.heap.size, 1, none⟩) (by show w.heap.size ≤ w1.heap.size; omega) (.int .u8 73)))
  have W01 := Lib.hid (W00.out.set (b := w1.heap.size) (by omega) (i := 1) (.int .u8 73))
  have hz2' : (w2.setCell ⟨w1.heap.size, 1, none⟩ (.int .u8 73)).heap.size = w2.heap.size := by simp [World.setCell]
  have HZ2 := Lib.hid hz2'
  have y1 : w2.cell? ⟨w1.heap.size, 1, none⟩ = some (.int .u8 0) := hw1.cell 1
  have f1 : w2.frozen? ⟨w1.heap.size, 1, none⟩ = false := hw1.frozen 1
  clear hi hb hg2 hw0 hw1 hz2'
  have HCK : Hid ((c.toNat : Int) = 73) := Lib.hid (by rw [HC.out]; rfl)
  obtain ⟨wa, hwa⟩ : ∃ wa, wa = w2.setCell ⟨w1.heap.size, 1, none⟩ (.int .u8 73) := ⟨_, rfl⟩
  have WA : Hid (Whole wa w1.heap.size 50 #[.string ⟨nm.toArray⟩, .int .u8 73, .int .i64 0, .string ⟨#[]⟩, .slice none 0 0]) := by rw [hwa]; exact WF
  have WY : Hid (Whole wa w.heap.size 50 #[.string ⟨#[]⟩, .int .u8 0, .int .i64 0, .string ⟨#[]⟩, .slice none 0 0]) := by rw [hwa]; exact W01
  have HIA : Hid (InAt wa g r false) := by rw [hwa]; exact HI2
  have GA : Hid (w.grownBy wa (some g)) := by rw [hwa]; exact G2
  have HWA := Lib.hid hwa
  have HSA : Hid (wa.heap.size = w2.heap.size) := by rw [hwa]; exact HZ2
  clear hwa
  go_wp2_with fail
  rw [← HWA.out]
  refine (in_int g 4 r false _ HIA.out).mono ?_
  rintro e w3 ⟨rfl, hi3, hb3⟩
  rw [show wid 4 = 4 from rfl, Bool.false_or] at hi3
  rw [show wid 4 = 4 from rfl]
  obtain ⟨x, hx⟩ : ∃ x, x = nat (tk 4 r) := ⟨_, rfl⟩
  have hx8 : x < 4294967296 := by
    rw [hx]
    have h1 := nat_lt (tk 4 r)
    have h2 : 256 ^ (tk 4 r).length ≤ 256 ^ 4 := Nat.pow_le_pow_right (by omega) (tk_le 4 r)
    have h3 : (256 : Nat) ^ 4 = 4294967296 := by decide
    omega
  obtain ⟨sh, hsh⟩ : ∃ sh, sh = short 4 r := ⟨_, rfl⟩
  rw [← hx]
  rw [← hsh] at hi3
  have HX := Lib.hid hx
  have HSHN := Lib.hid hsh
  have hz3 := hb3.size
  have hza : w2.heap.size ≤ wa.heap.size := Nat.le_of_eq HSA.out.symm
  have hw3 := WA.out.grown hb3 (by simp; omega)
  have hy3 := WY.out.grown hb3 (by simp; omega)
  obtain ⟨V, hV⟩ : ∃ V : Int, V = wrap32 (x : Int) := ⟨_, rfl⟩
  have HVV : Hid (V = s32 (nat (tk 4 r))) := Lib.hid (by rw [hV, ← hx]; unfold wrap32 s32; split <;> omega)
  have hr32 : I32 V := by rw [HVV.out, ← hx]; exact s32_range x hx8
  have HV : Hid (I64 V) := Lib.hid (i32_i64 hr32)
  have hVw : wrap64 V = V := wrap_i32_64 hr32
  clear hr32
  have hVx : wrap32 (x : Int) = V := hV.symm
  clear hV
  have WE := Lib.hid (hw3.put 2 (.int .i64 V))
  have WZ := Lib.hid (hy3.set (b := w1.heap.size) (by omega) (i := 2) (.int .i64 V))
  have HIE := Lib.hid (hi3.below ((Below.refl w1.heap.size w3).setCell (p := ⟨w1.heap.size, 2, none⟩) (Nat.le_refl _) (.int .i64 V)) (by omega))
  have GE := Lib.hid (grown_below (only_trans GA.out hb3) ((Below.refl w.heap.size w3).setCell (p := ⟨w1.heap.size, 2, none⟩) (by show w.heap.size ≤ w1.heap.size; omega) (.int .i64 V)))
  have v2 : w3.cell? ⟨w1.heap.size, 2, none⟩ = some (.int .i64 0) := hw3.cell 2
  have g2 := hw3.frozen 2
  obtain ⟨wb, hwb⟩ : ∃ wb, wb = w3.setCell ⟨w1.heap.size, 2, none⟩ (.int .i64 V) := ⟨_, rfl⟩
  rw [← hwb] at WE WZ HIE GE
  have HWB := Lib.hid hwb
  clear hi3 hb3 hw3 hy3 hx hsh hwb hza
  go_wp2_with fail
  rw [← HWB.out]
  have z0 : wb.cell? ⟨w.heap.size, 0, none⟩ = some (.string ⟨#[]⟩) := WZ.out.cell 0
  have z1 : wb.cell? ⟨w.heap.size, 1, none⟩ = some (.int .u8 0) := WZ.out.cell 1
  have z2 : wb.cell? ⟨w.heap.size, 2, none⟩ = some (.int .i64 0) := WZ.out.cell 2
  have z3 : wb.cell? ⟨w.heap.size, 3, none⟩ = some (.string ⟨#[]⟩) := WZ.out.cell 3
  have z4 : wb.cell? ⟨w.heap.size, 4, none⟩ = some (.slice none 0 0) := WZ.out.cell 4
  have x0 := WZ.out.frozen
  have u0 : wb.cell? ⟨w1.heap.size, 0, none⟩ = some (.string ⟨nm.toArray⟩) := WE.out.cell 0
  have u1 : wb.cell? ⟨w1.heap.size, 1, none⟩ = some (.int .u8 73) := WE.out.cell 1
  have u2 : wb.cell? ⟨w1.heap.size, 2, none⟩ = some (.int .i64 V) := WE.out.cell 2
  have u3 : wb.cell? ⟨w1.heap.size, 3, none⟩ = some (.string ⟨#[]⟩) := WE.out.cell 3
  have u4 : wb.cell? ⟨w1.heap.size, 4, none⟩ = some (.slice none 0 0) := WE.out.cell 4
  have HE := Lib.hid (HIE.out.below ((Below.refl (g + 1) wb).drew) (by omega))
  go_region_with ((go_at_call 23; refine (in_ok g (rst 4 r) sh _ HE.out).mono ?_; rintro e w' ⟨rfl, rfl⟩))
  all_goals
    go_wp2_with fail
    obtain ⟨W, hW⟩ : ∃ W, W = (((((wb.setCell ⟨w.heap.size, 0, none⟩ (.string ⟨nm.toArray⟩)).setCell ⟨w.heap.size, 1, none⟩ (.int .u8 73)).setCell ⟨w.heap.size, 2, none⟩ (.int .i64 V)).setCell ⟨w.heap.size, 3, none⟩ (.string ⟨#[]⟩)).setCell ⟨w.heap.size, 4, none⟩ (.slice none 0 0)).drew := ⟨_, rfl⟩
    rw [← hW]
    have hE : Whole W w.heap.size 50 #[.string ⟨nm.toArray⟩, .int .u8 73, .int .i64 V, .string ⟨#[]⟩, .slice none 0 0] := by
      rw [hW]
      exact Whole.put5 WZ.out _ _ _ _ _
    have hG : w.grownBy W (some g) := by
      rw [hW]
      exact grown_below GE.out (below5 (Below.refl w.heap.size wb) (Nat.le_refl _) _ _ _ _ _)
    have hI : Hid (InAt W g (rst 4 r) sh) := by
      rw [hW]
      exact Lib.hid (HIE.out.below (below5 (Below.refl w.heap.size wb) (Nat.le_refl _) _ _ _ _ _) (by omega))
    have e0 : W.cell? ⟨w.heap.size, 0, none⟩ = some (.string ⟨nm.toArray⟩) := hE.cell 0
    have e1 : W.cell? ⟨w.heap.size, 1, none⟩ = some (.int .u8 73) := hE.cell 1
    have e2 : W.cell? ⟨w.heap.size, 2, none⟩ = some (.int .i64 V) := hE.cell 2
    have e3 : W.cell? ⟨w.heap.size, 3, none⟩ = some (.string ⟨#[]⟩) := hE.cell 3
    have e4 : W.cell? ⟨w.heap.size, 4, none⟩ = some (.slice none 0 0) := hE.cell 4
    clear hW hE
    refine bodyPost_ret (v := .tuple #[.agg #[.string ⟨nm.toArray⟩, .int .u8 73, .int .i64 V, .string ⟨#[]⟩, .slice none 0 0], .bool (!sh)]) (by simp [results, Tryd.results92, go_sem, e0, e1, e2, e3, e4]) rfl ?_
    cases sh with
    | true => exact .inl ⟨by rw [HP.out, ← HSHN.out]; rfl, ⟨_, _, _, _, _, _, _, rfl⟩, hG⟩
    | false =>
      refine .inr ⟨.mk nm c V [] [], rst 4 r, none, 0, by rw [HP.out, ← HSHN.out, ← HVV.out]; rfl, ?_, ⟨HV.out, by show nm.length ≤ _; omega, by simp [Fld.s]⟩, TabS.nil _ _ _ _ _ (Nat.zero_le _), hI.out, hG⟩
      simp [aggF, Fld.name, Fld.kind, Fld.n, Fld.s, Fld.t, HCK.out]
end
section
open Go.RowKit
set_option maxRecDepth 100000

set_option maxHeartbeats 1000000 in
set_option maxRecDepth 100000 in
theorem parse_S (g k : Nat) (c : UInt8) (nm l r : List UInt8) (deep : Int) (w : World) (P : Option (Fld × List UInt8)) (h : InAt w g l false) (HSH : Hid (txtShort 1 l = false)) (HR : Hid (txtRest 1 l = c :: r)) (HNM : Hid (nm = txt 1 l)) (hs : l.length ≤ 1048576) (HC : Hid (c = 83)) (HP : Hid (P = if txtShort 4 r then none else some (.mk nm c 0 (txt 4 r) [], txtRest 4 r))) :
    Calls Tryd.prog 92 #[.pointer (some ⟨g, 0, none⟩), .int .i64 deep] w (RowIs P k g w) := by
  have hg := h.lt
  have h0 := h.below (Below.alloc (Below.refl w.heap.size w) (Nat.le_refl _) (.cells #[.string ⟨#[]⟩, .int .u8 0, .int .i64 0, .string ⟨#[]⟩, .slice none 0 0] 50)) hg
  have hsub : (txtRest 1 l).length ≤ l.length := txtRest_sub 1 l
  have hnl : nm.length ≤ l.length := by rw [HNM.out]; exact txt_sub 1 l
  rw [HR.out, List.length_cons] at hsub
  have H := Lib.hid h0
  clear h h0
  go_enter Tryd.func92, Tryd.ntmps92
  go_wp2_with fail
  refine (in_short g l false _ H.out).mono ?_
  rintro e w1 ⟨rfl, hi, hb⟩
  rw [HR.out, HSH.out, Bool.false_or] at hi
  rw [← HNM.out]
  have hsz := hb.size
  rw [show (w.alloc (.cells #[.string ⟨#[]⟩, .int .u8 0, .int .i64 0, .string ⟨#[]⟩, .slice none 0 0] 50)).heap.size = w.heap.size + 1 from by simp] at hsz
  have hg1 : w.grownBy w1 (some g) := only_trans (only_below ((Below.refl w.heap.size w).alloc (Nat.le_refl _) _) _) hb
  have hw0 : Whole w1 w.heap.size 50 #[.string ⟨#[]⟩, .int .u8 0, .int .i64 0, .string ⟨#[]⟩, .slice none 0 0] := (Whole.new w 50 _).grown hb (by simp; omega)
  have hi1 := hi.below (Below.alloc (Below.refl w1.heap.size w1) (Nat.le_refl _) (.cells #[.string ⟨nm.toArray⟩, .int .u8 0, .int .i64 0, .string ⟨#[]⟩, .slice none 0 0] 50)) hi.lt
  have H1 := Lib.hid hi1
  have G1 := Lib.hid hg1
  have W0 := Lib.hid hw0
  clear hi hi1 hg1 hw0 hb
  go_wp2_with fail
  refine (in_int g 1 (c :: r) false _ H1.out).mono ?_
  rintro e w2 ⟨rfl, hi, hb⟩
  rw [show wid 1 = 1 from rfl, show rst 1 (c :: r) = r from by rw [rst_yes (by simp)]; rfl, show (false || short 1 (c :: r)) = false from by rw [short_no (by simp)]; rfl] at hi
  rw [show wid 1 = 1 from rfl, show tk 1 (c :: r) = [c] from by rw [tk_yes (by simp)]; rfl, show ((nat [c] : Nat) : Int) = 83 from by rw [HC.out]; rfl]
  have hsz2 := hb.size
  rw [show (w1.alloc (.cells #[.string ⟨nm.toArray⟩, .int .u8 0, .int .i64 0, .string ⟨#[]⟩, .slice none 0 0] 50)).heap.size = w1.heap.size + 1 from by simp] at hsz2
  have hg2 : w.grownBy w2 (some g) := only_trans G1.out (only_trans (only_below ((Below.refl w1.heap.size w1).alloc (Nat.le_refl _) _) _) hb)
  have hw1 : Whole w2 w1.heap.size 50 #[.string ⟨nm.toArray⟩, .int .u8 0, .int .i64 0, .string ⟨#[]⟩, .slice none 0 0] := (Whole.new w1 50 _).grown hb (by simp; omega)
  have hw0 : Whole w2 w.heap.size 50 #[.string ⟨#[]⟩, .int .u8 0, .int .i64 0, .string ⟨#[]⟩, .slice none 0 0] := (W0.out.alloc _).grown hb (by simp; omega)
  have ne1 : w.heap.size < w1.heap.size := by omega
  have c256 := c.toNat_lt
  have W00 := Lib.hid hw0
  have WF := Lib.hid (hw1.put 1 (.int .u8 83))
  have HI2 := Lib.hid (hi.below ((Below.refl w1.heap.size w2).setCell (p := ⟨w1.heap.size, 1, none⟩) (Nat.le_refl _) (.int .u8 83)) (by omega))
  have G2 := Lib.hid (grown_below hg2 ((Below.refl w.heap.size w2).setCell (p := ⟨w1.heap.size, 1, none⟩) (by show w.heap.size ≤ w1.heap.size; omega) (.int .u8 83)))
  have W01 := Lib.hid (W00.out.set (b := w1.heap.size) (by omega) (i := 1) (.int .u8 83))
  have hz2' : (w2.setCell ⟨w1.heap.size, 1, none⟩ (.int .u8 83)).heap.size = w2.heap.size := by simp [World.setCell]
  have HZ2 := Lib.hid hz2'
  have y1 : w2.cell? ⟨w1.heap.size, 1, none⟩ = some (.int .u8 0) := hw1.cell 1
  have f1 : w2.frozen? ⟨w1.heap.size, 1, none⟩ = false := hw1.frozen 1
  clear hi hb hg2 hw0 hw1 hz2'
  have HCK : Hid ((c.toNat : Int) = 83) := Lib.hid (by rw [HC.out]; rfl)
  obtain ⟨wa, hwa⟩ : ∃ wa, wa = w2.setCell ⟨w1.heap.size, 1, none⟩ (.int .u8 83) := ⟨_, rfl⟩
  have WA : Hid (Whole wa w1.heap.size 50 #[.string ⟨nm.toArray⟩, .int .u8 83, .int .i64 0, .string ⟨#[]⟩, .slice none 0 0]) := by rw [hwa]; exact WF
  have WY : Hid (Whole wa w.heap.size 50 #[.string ⟨#[]⟩, .int .u8 0, .int .i64 0, .string ⟨#[]⟩, .slice none 0 0]) := by rw [hwa]; exact W01
  have HIA : Hid (InAt wa g r false) := by rw [hwa]; exact HI2
  have GA : Hid (w.grownBy wa (some g)) := by rw [hwa]; exact G2
  have HWA := Lib.hid hwa
  have HSA : Hid (wa.heap.size = w2.heap.size) := by rw [hwa]; exact HZ2
  clear hwa
  go_wp2_with fail
  rw [← HWA.out]
  refine (in_long g r false _ HIA.out (by omega)).mono ?_
  rintro e w3 ⟨v3, rfl, ho3, hi3, hb3⟩
  rw [Bool.false_or] at hi3
  have hxl := txt_sub 4 r
  obtain ⟨X, hX⟩ : ∃ X, X = txt 4 r := ⟨_, rfl⟩
  obtain ⟨sh, hsh⟩ : ∃ sh, sh = txtShort 4 r := ⟨_, rfl⟩
  rw [← hX] at ho3 hxl
  rw [← hsh] at hi3
  have HX := Lib.hid hX
  have HSHN := Lib.hid hsh
  obtain ⟨A3, c3, rfl, _, _⟩ := own_form ho3
  have L3 := Lies.own ho3 (Nat.le_refl _)
  have hz3 := hb3.size
  have hza : w2.heap.size ≤ wa.heap.size := Nat.le_of_eq HSA.out.symm
  have hw3 := WA.out.grown hb3 (by simp; omega)
  have hy3 := WY.out.grown hb3 (by simp; omega)
  have cv := run_octets_string (P := Tryd.prog) 24 9 5 Tryd.underlying24 Tryd.underlying5 Tryd.underlying9 L3 c3
  have WE := Lib.hid (hw3.put 3 (.string ⟨X.toArray⟩))
  have WZ := Lib.hid (hy3.set (b := w1.heap.size) (by omega) (i := 3) (.string ⟨X.toArray⟩))
  have HIE := Lib.hid (hi3.below ((Below.refl w1.heap.size w3).setCell (p := ⟨w1.heap.size, 3, none⟩) (Nat.le_refl _) (.string ⟨X.toArray⟩)) (by omega))
  have GE := Lib.hid (grown_below (only_trans GA.out hb3) ((Below.refl w.heap.size w3).setCell (p := ⟨w1.heap.size, 3, none⟩) (by show w.heap.size ≤ w1.heap.size; omega) (.string ⟨X.toArray⟩)))
  have v3c : w3.cell? ⟨w1.heap.size, 3, none⟩ = some (.string ⟨#[]⟩) := hw3.cell 3
  have g3 := hw3.frozen 3
  obtain ⟨wb, hwb⟩ : ∃ wb, wb = w3.setCell ⟨w1.heap.size, 3, none⟩ (.string ⟨X.toArray⟩) := ⟨_, rfl⟩
  rw [← hwb] at WE WZ HIE GE
  have HWB := Lib.hid hwb
  clear hi3 hb3 hw3 hy3 hX hsh hwb hza ho3 L3
  go_wp2_with fail
  rw [← HWB.out]
  have z0 : wb.cell? ⟨w.heap.size, 0, none⟩ = some (.string ⟨#[]⟩) := WZ.out.cell 0
  have z1 : wb.cell? ⟨w.heap.size, 1, none⟩ = some (.int .u8 0) := WZ.out.cell 1
  have z2 : wb.cell? ⟨w.heap.size, 2, none⟩ = some (.int .i64 0) := WZ.out.cell 2
  have z3 : wb.cell? ⟨w.heap.size, 3, none⟩ = some (.string ⟨#[]⟩) := WZ.out.cell 3
  have z4 : wb.cell? ⟨w.heap.size, 4, none⟩ = some (.slice none 0 0) := WZ.out.cell 4
  have x0 := WZ.out.frozen
  have u0 : wb.cell? ⟨w1.heap.size, 0, none⟩ = some (.string ⟨nm.toArray⟩) := WE.out.cell 0
  have u1 : wb.cell? ⟨w1.heap.size, 1, none⟩ = some (.int .u8 83) := WE.out.cell 1
  have u2 : wb.cell? ⟨w1.heap.size, 2, none⟩ = some (.int .i64 0) := WE.out.cell 2
  have u3 : wb.cell? ⟨w1.heap.size, 3, none⟩ = some (.string ⟨X.toArray⟩) := WE.out.cell 3
  have u4 : wb.cell? ⟨w1.heap.size, 4, none⟩ = some (.slice none 0 0) := WE.out.cell 4
  have HE := Lib.hid (HIE.out.below ((Below.refl (g + 1) wb).drew) (by omega))
  go_region_with ((go_at_call 23; refine (in_ok g (txtRest 4 r) sh _ HE.out).mono ?_; rintro e w' ⟨rfl, rfl⟩))
  all_goals
    go_wp2_with fail
    obtain ⟨W, hW⟩ : ∃ W, W = (((((wb.setCell ⟨w.heap.size, 0, none⟩ (.string ⟨nm.toArray⟩)).setCell ⟨w.heap.size, 1, none⟩ (.int .u8 83)).setCell ⟨w.heap.size, 2, none⟩ (.int .i64 0)).setCell ⟨w.heap.size, 3, none⟩ (.string ⟨X.toArray⟩)).setCell ⟨w.heap.size, 4, none⟩ (.slice none 0 0)).drew := ⟨_, rfl⟩
    rw [← hW]
    have hE : Whole W w.heap.size 50 #[.string ⟨nm.toArray⟩, .int .u8 83, .int .i64 0, .string ⟨X.toArray⟩, .slice none 0 0] := by
      rw [hW]
      exact Whole.put5 WZ.out _ _ _ _ _
    have hG : w.grownBy W (some g) := by
      rw [hW]
      exact grown_below GE.out (below5 (Below.refl w.heap.size wb) (Nat.le_refl _) _ _ _ _ _)
    have hI : Hid (InAt W g (txtRest 4 r) sh) := by
      rw [hW]
      exact Lib.hid (HIE.out.below (below5 (Below.refl w.heap.size wb) (Nat.le_refl _) _ _ _ _ _) (by omega))
    have e0 : W.cell? ⟨w.heap.size, 0, none⟩ = some (.string ⟨nm.toArray⟩) := hE.cell 0
    have e1 : W.cell? ⟨w.heap.size, 1, none⟩ = some (.int .u8 83) := hE.cell 1
    have e2 : W.cell? ⟨w.heap.size, 2, none⟩ = some (.int .i64 0) := hE.cell 2
    have e3 : W.cell? ⟨w.heap.size, 3, none⟩ = some (.string ⟨X.toArray⟩) := hE.cell 3
    have e4 : W.cell? ⟨w.heap.size, 4, none⟩ = some (.slice none 0 0) := hE.cell 4
    clear hW hE
    refine bodyPost_ret (v := .tuple #[.agg #[.string ⟨nm.toArray⟩, .int .u8 83, .int .i64 0, .string ⟨X.toArray⟩, .slice none 0 0], .bool (!sh)]) (by simp [results, Tryd.results92, go_sem, e0, e1, e2, e3, e4]) rfl ?_
    cases sh with
    | true => exact .inl ⟨by rw [HP.out, ← HSHN.out]; rfl, ⟨_, _, _, _, _, _, _, rfl⟩, hG⟩
    | false =>
      refine .inr ⟨.mk nm c 0 X [], txtRest 4 r, none, 0, by rw [HP.out, ← HSHN.out, HX.out]; rfl, ?_, ⟨by unfold I64; simp [Fld.n], by show nm.length ≤ _; omega, by show X.length ≤ _; omega⟩, TabS.nil _ _ _ _ _ (Nat.zero_le _), hI.out, hG⟩
      simp [aggF, Fld.name, Fld.kind, Fld.n, Fld.s, Fld.t, HCK.out]
end
section
open Go.RowKit
set_option maxRecDepth 100000

theorem grown_drew {a w : World} {row : Option Nat} (h : a.grownBy w row) : a.grownBy w.drew row := ⟨h.os, h.tape, h.output, h.size, h.block⟩
theorem grown5 (w : World) (g : Nat) (v0 v1 v2 v3 v4 : Value) : w.grownBy ((((((w.setCell ⟨g, 0, none⟩ v0).setCell ⟨g, 1, none⟩ v1).setCell ⟨g, 2, none⟩ v2).setCell ⟨g, 3, none⟩ v3).setCell ⟨g, 4, none⟩ v4).drew) (some g) := by
  exact grown_drew (only_set (only_set (only_set (only_set (only_set (only_refl w (some g)) 0 v0) 1 v1) 2 v2) 3 v3) 4 v4)

set_option maxHeartbeats 2000000 in
set_option maxRecDepth 100000 in
theorem parse_F (g k : Nat) (c : UInt8) (nm l r : List UInt8) (deep : Int) (w : World) (P : Option (Fld × List UInt8)) (h : InAt w g l false) (HSH : Hid (txtShort 1 l = false)) (HR : Hid (txtRest 1 l = c :: r)) (HNM : Hid (nm = txt 1 l)) (hs : l.length ≤ 1048576) (HC : Hid (c = 70)) (hd1 : 1 ≤ deep) (hd8 : deep ≤ 8) (hdk : deep + k = 8) (HPS : Hid (ParsesOf 82 k)) (HP : Hid (P = if txtShort 4 r then none else match codeP k (txt 4 r) with | none => none | some t => some (.mk nm c 0 [] t, txtRest 4 r))) :
    Calls Tryd.prog 92 #[.pointer (some ⟨g, 0, none⟩), .int .i64 deep] w (RowIs P k g w) := by
  have hg := h.lt
  have h0 := h.below (Below.alloc (Below.refl w.heap.size w) (Nat.le_refl _) (.cells #[.string ⟨#[]⟩, .int .u8 0, .int .i64 0, .string ⟨#[]⟩, .slice none 0 0] 50)) hg
  have hsub : (txtRest 1 l).length ≤ l.length := txtRest_sub 1 l
  have hnl : nm.length ≤ l.length := by rw [HNM.out]; exact txt_sub 1 l
  rw [HR.out, List.length_cons] at hsub
  have H := Lib.hid h0
  clear h h0
  go_enter Tryd.func92, Tryd.ntmps92
  go_wp2_with fail
  refine (in_short g l false _ H.out).mono ?_
  rintro e w1 ⟨rfl, hi, hb⟩
  rw [HR.out, HSH.out, Bool.false_or] at hi
  rw [← HNM.out]
  have hsz := hb.size
  rw [show (w.alloc (.cells #[.string ⟨#[]⟩, .int .u8 0, .int .i64 0, .string ⟨#[]⟩, .slice none 0 0] 50)).heap.size = w.heap.size + 1 from by simp] at hsz
  have hg1 : w.grownBy w1 (some g) := only_trans (only_below ((Below.refl w.heap.size w).alloc (Nat.le_refl _) _) _) hb
  have hw0 : Whole w1 w.heap.size 50 #[.string ⟨#[]⟩, .int .u8 0, .int .i64 0, .string ⟨#[]⟩, .slice none 0 0] := (Whole.new w 50 _).grown hb (by simp; omega)
  have hi1 := hi.below (Below.alloc (Below.refl w1.heap.size w1) (Nat.le_refl _) (.cells #[.string ⟨nm.toArray⟩, .int .u8 0, .int .i64 0, .string ⟨#[]⟩, .slice none 0 0] 50)) hi.lt
  have H1 := Lib.hid hi1
  have G1 := Lib.hid hg1
  have W0 := Lib.hid hw0
  clear hi hi1 hg1 hw0 hb
  go_wp2_with fail
  refine (in_int g 1 (c :: r) false _ H1.out).mono ?_
  rintro e w2 ⟨rfl, hi, hb⟩
  rw [show wid 1 = 1 from rfl, show rst 1 (c :: r) = r from by rw [rst_yes (by simp)]; rfl, show (false || short 1 (c :: r)) = false from by rw [short_no (by simp)]; rfl] at hi
  rw [show wid 1 = 1 from rfl, show tk 1 (c :: r) = [c] from by rw [tk_yes (by simp)]; rfl, show ((nat [c] : Nat) : Int) = 70 from by rw [HC.out]; rfl]
  have hsz2 := hb.size
  rw [show (w1.alloc (.cells #[.string ⟨nm.toArray⟩, .int .u8 0, .int .i64 0, .string ⟨#[]⟩, .slice none 0 0] 50)).heap.size = w1.heap.size + 1 from by simp] at hsz2
  have hg2 : w.grownBy w2 (some g) := only_trans G1.out (only_trans (only_below ((Below.refl w1.heap.size w1).alloc (Nat.le_refl _) _) _) hb)
  have hw1 : Whole w2 w1.heap.size 50 #[.string ⟨nm.toArray⟩, .int .u8 0, .int .i64 0, .string ⟨#[]⟩, .slice none 0 0] := (Whole.new w1 50 _).grown hb (by simp; omega)
  have hw0 : Whole w2 w.heap.size 50 #[.string ⟨#[]⟩, .int .u8 0, .int .i64 0, .string ⟨#[]⟩, .slice none 0 0] := (W0.out.alloc _).grown hb (by simp; omega)
  have ne1 : w.heap.size < w1.heap.size := by omega
  have c256 := c.toNat_lt
  have W00 := Lib.hid hw0
  have WF := Lib.hid (hw1.put 1 (.int .u8 70))
  have HI2 := Lib.hid (hi.below ((Below.refl w1.heap.size w2).setCell (p := ⟨w1.heap.size, 1, none⟩) (Nat.le_refl _) (.int .u8 70)) (by omega))
  have G2 := Lib.hid (grown_below hg2 ((Below.refl w.heap.size w2).setCell (p := ⟨w1.heap.size, 1, none⟩) (by show w.heap.size ≤ w1.heap.size; omega) (.int .u8 70)))
  have W01 := Lib.hid (W00.out.set (b := w1.heap.size) (by omega) (i := 1) (.int .u8 70))
  have hz2' : (w2.setCell ⟨w1.heap.size, 1, none⟩ (.int .u8 70)).heap.size = w2.heap.size := by simp [World.setCell]
  have HZ2 := Lib.hid hz2'
  have y1 : w2.cell? ⟨w1.heap.size, 1, none⟩ = some (.int .u8 0) := hw1.cell 1
  have f1 : w2.frozen? ⟨w1.heap.size, 1, none⟩ = false := hw1.frozen 1
  clear hi hb hg2 hw0 hw1 hz2'
  have HCK : Hid ((c.toNat : Int) = 70) := Lib.hid (by rw [HC.out]; rfl)
  obtain ⟨wa, hwa⟩ : ∃ wa, wa = w2.setCell ⟨w1.heap.size, 1, none⟩ (.int .u8 70) := ⟨_, rfl⟩
  have WA : Hid (Whole wa w1.heap.size 50 #[.string ⟨nm.toArray⟩, .int .u8 70, .int .i64 0, .string ⟨#[]⟩, .slice none 0 0]) := by rw [hwa]; exact WF
  have WY : Hid (Whole wa w.heap.size 50 #[.string ⟨#[]⟩, .int .u8 0, .int .i64 0, .string ⟨#[]⟩, .slice none 0 0]) := by rw [hwa]; exact W01
  have HIA : Hid (InAt wa g r false) := by rw [hwa]; exact HI2
  have GA : Hid (w.grownBy wa (some g)) := by rw [hwa]; exact G2
  have HWA := Lib.hid hwa
  have HSA : Hid (wa.heap.size = w2.heap.size) := by rw [hwa]; exact HZ2
  clear hwa
  go_wp2_with fail
  rw [← HWA.out]
  refine (in_long g r false _ HIA.out (by omega)).mono ?_
  rintro e w3 ⟨v3, rfl, ho3, hi3, hb3⟩
  rw [Bool.false_or] at hi3
  have hxl := txt_sub 4 r
  obtain ⟨X, hX⟩ : ∃ X, X = txt 4 r := ⟨_, rfl⟩
  obtain ⟨sh, hsh⟩ : ∃ sh, sh = txtShort 4 r := ⟨_, rfl⟩
  rw [← hX] at ho3 hxl
  rw [← hsh] at hi3
  have HX := Lib.hid hX
  have HSHN := Lib.hid hsh
  obtain ⟨A3, c3, rfl, _, _⟩ := own_form ho3
  have L3 := Lies.own ho3 (Nat.le_refl _)
  have hz3 := hb3.size
  have hza : w2.heap.size ≤ wa.heap.size := Nat.le_of_eq HSA.out.symm
  have hw3 := WA.out.grown hb3 (by simp; omega)
  have hy3 := WY.out.grown hb3 (by simp; omega)
  have L3' := Lib.hid L3
  have HI3 := Lib.hid hi3
  have HB3 := Lib.hid hb3
  have HW3 := Lib.hid hw3
  have HY3 := Lib.hid hy3
  clear hi3 hb3 hw3 hy3 hX hsh ho3 L3
  go_wp2_with fail
  refine (HPS.out A3 c3 X w3.heap.size (deep + 1) _ (by omega) (by omega) L3'.out (Nat.le_refl _) (by omega)).mono ?_
  rintro e w4 hp
  have HP4 := Lib.hid hp
  rcases hp with ⟨hn, rfl, hb4⟩ | ⟨t, A4, c4, hn, rfl, ht4, hb4⟩
  · have hz4 := hb4.size
    have hw4 := HW3.out.below hb4 (by omega)
    have hy4 := HY3.out.below hb4 (by omega)
    have hi4 := HI3.out.below hb4 HI3.out.lt
    have WE := Lib.hid (hw4.put 4 (.slice none 0 0))
    have WZ := Lib.hid (hy4.set (b := w1.heap.size) (by omega) (i := 4) (.slice none 0 0))
    have HIE := Lib.hid (hi4.below ((Below.refl w1.heap.size w4).setCell (p := ⟨w1.heap.size, 4, none⟩) (Nat.le_refl _) (.slice none 0 0)) (by omega))
    have GE := Lib.hid (grown_below (only_trans GA.out (only_trans HB3.out (only_below hb4 _))) ((Below.refl w.heap.size w4).setCell (p := ⟨w1.heap.size, 4, none⟩) (by show w.heap.size ≤ w1.heap.size; omega) (.slice none 0 0)))
    have v4c : w4.cell? ⟨w1.heap.size, 4, none⟩ = some (.slice none 0 0) := hw4.cell 4
    have g4 := hw4.frozen 4
    obtain ⟨wb, hwb⟩ : ∃ wb, wb = w4.setCell ⟨w1.heap.size, 4, none⟩ (.slice none 0 0) := ⟨_, rfl⟩
    rw [← hwb] at WE WZ HIE GE
    have HWB := Lib.hid hwb
    have HN := Lib.hid hn
    clear hw4 hy4 hi4 hb4 hwb hn
    go_wp2_with fail
    rw [← HWB.out]
    have z0 : wb.cell? ⟨w.heap.size, 0, none⟩ = some (.string ⟨#[]⟩) := WZ.out.cell 0
    have z1 : wb.cell? ⟨w.heap.size, 1, none⟩ = some (.int .u8 0) := WZ.out.cell 1
    have z2 : wb.cell? ⟨w.heap.size, 2, none⟩ = some (.int .i64 0) := WZ.out.cell 2
    have z3 : wb.cell? ⟨w.heap.size, 3, none⟩ = some (.string ⟨#[]⟩) := WZ.out.cell 3
    have z4 : wb.cell? ⟨w.heap.size, 4, none⟩ = some (.slice none 0 0) := WZ.out.cell 4
    have x0 := WZ.out.frozen
    have u0 : wb.cell? ⟨w1.heap.size, 0, none⟩ = some (.string ⟨nm.toArray⟩) := WE.out.cell 0
    have u1 : wb.cell? ⟨w1.heap.size, 1, none⟩ = some (.int .u8 70) := WE.out.cell 1
    have u2 : wb.cell? ⟨w1.heap.size, 2, none⟩ = some (.int .i64 0) := WE.out.cell 2
    have u3 : wb.cell? ⟨w1.heap.size, 3, none⟩ = some (.string ⟨#[]⟩) := WE.out.cell 3
    have u4 : wb.cell? ⟨w1.heap.size, 4, none⟩ = some (.slice none 0 0) := WE.out.cell 4
    have HE := Lib.hid (HIE.out.below ((Below.refl (g + 1) wb).drew) (by omega))
    go_region
    all_goals
      go_wp2_with fail
      obtain ⟨W, hW⟩ : ∃ W, W = (((((wb.setCell ⟨w.heap.size, 0, none⟩ (.string ⟨nm.toArray⟩)).setCell ⟨w.heap.size, 1, none⟩ (.int .u8 70)).setCell ⟨w.heap.size, 2, none⟩ (.int .i64 0)).setCell ⟨w.heap.size, 3, none⟩ (.string ⟨#[]⟩)).setCell ⟨w.heap.size, 4, none⟩ (.slice none 0 0)).drew := ⟨_, rfl⟩
      rw [← hW]
      have hE : Whole W w.heap.size 50 #[.string ⟨nm.toArray⟩, .int .u8 70, .int .i64 0, .string ⟨#[]⟩, .slice none 0 0] := by
        rw [hW]
        exact Whole.put5 WZ.out _ _ _ _ _
      have hG : w.grownBy W (some g) := by
        rw [hW]
        exact grown_below GE.out (below5 (Below.refl w.heap.size wb) (Nat.le_refl _) _ _ _ _ _)
      have hI : Hid (InAt W g (txtRest 4 r) sh) := by
        rw [hW]
        exact Lib.hid (HIE.out.below (below5 (Below.refl w.heap.size wb) (Nat.le_refl _) _ _ _ _ _) (by omega))
      have e0 : W.cell? ⟨w.heap.size, 0, none⟩ = some (.string ⟨nm.toArray⟩) := hE.cell 0
      have e1 : W.cell? ⟨w.heap.size, 1, none⟩ = some (.int .u8 70) := hE.cell 1
      have e2 : W.cell? ⟨w.heap.size, 2, none⟩ = some (.int .i64 0) := hE.cell 2
      have e3 : W.cell? ⟨w.heap.size, 3, none⟩ = some (.string ⟨#[]⟩) := hE.cell 3
      have e4 : W.cell? ⟨w.heap.size, 4, none⟩ = some (.slice none 0 0) := hE.cell 4
      clear hW hE
      refine bodyPost_ret (v := .tuple #[.agg #[.string ⟨nm.toArray⟩, .int .u8 70, .int .i64 0, .string ⟨#[]⟩, .slice none 0 0], .bool false]) (by simp [results, Tryd.results92, go_sem, e0, e1, e2, e3, e4]) rfl ?_
      exact .inl ⟨by rw [HP.out, ← HX.out, HN.out]; split <;> rfl, ⟨_, _, _, _, _, _, _, rfl⟩, hG⟩
  · have hz4 := hb4.size
    have hw4 := HW3.out.below hb4 (by omega)
    have hy4 := HY3.out.below hb4 (by omega)
    have hi4 := HI3.out.below hb4 HI3.out.lt
    have WE := Lib.hid (hw4.put 4 (.slice A4 t.length c4))
    have WZ := Lib.hid (hy4.set (b := w1.heap.size) (by omega) (i := 4) (.slice A4 t.length c4))
    have HIE := Lib.hid (hi4.below ((Below.refl w1.heap.size w4).setCell (p := ⟨w1.heap.size, 4, none⟩) (Nat.le_refl _) (.slice A4 t.length c4)) (by omega))
    have GE := Lib.hid (grown_below (only_trans GA.out (only_trans HB3.out (only_below hb4 _))) ((Below.refl w.heap.size w4).setCell (p := ⟨w1.heap.size, 4, none⟩) (by show w.heap.size ≤ w1.heap.size; omega) (.slice A4 t.length c4)))
    have v4c : w4.cell? ⟨w1.heap.size, 4, none⟩ = some (.slice none 0 0) := hw4.cell 4
    have g4 := hw4.frozen 4
    have TN := Lib.hid (TabNew.grown ht4 (only_set (only_refl w4 _) (g := w1.heap.size) 4 (.slice A4 t.length c4)) (fun q hq => by cases hq; omega))
    obtain ⟨wb, hwb⟩ : ∃ wb, wb = w4.setCell ⟨w1.heap.size, 4, none⟩ (.slice A4 t.length c4) := ⟨_, rfl⟩
    rw [← hwb] at WE WZ HIE GE TN
    have HWB := Lib.hid hwb
    have HN := Lib.hid hn
    clear hw4 hy4 hi4 hb4 hwb hn ht4
    go_wp2_with fail
    rw [← HWB.out]
    have z0 : wb.cell? ⟨w.heap.size, 0, none⟩ = some (.string ⟨#[]⟩) := WZ.out.cell 0
    have z1 : wb.cell? ⟨w.heap.size, 1, none⟩ = some (.int .u8 0) := WZ.out.cell 1
    have z2 : wb.cell? ⟨w.heap.size, 2, none⟩ = some (.int .i64 0) := WZ.out.cell 2
    have z3 : wb.cell? ⟨w.heap.size, 3, none⟩ = some (.string ⟨#[]⟩) := WZ.out.cell 3
    have z4 : wb.cell? ⟨w.heap.size, 4, none⟩ = some (.slice none 0 0) := WZ.out.cell 4
    have x0 := WZ.out.frozen
    have u0 : wb.cell? ⟨w1.heap.size, 0, none⟩ = some (.string ⟨nm.toArray⟩) := WE.out.cell 0
    have u1 : wb.cell? ⟨w1.heap.size, 1, none⟩ = some (.int .u8 70) := WE.out.cell 1
    have u2 : wb.cell? ⟨w1.heap.size, 2, none⟩ = some (.int .i64 0) := WE.out.cell 2
    have u3 : wb.cell? ⟨w1.heap.size, 3, none⟩ = some (.string ⟨#[]⟩) := WE.out.cell 3
    have u4 : wb.cell? ⟨w1.heap.size, 4, none⟩ = some (.slice A4 t.length c4) := WE.out.cell 4
    have HE := Lib.hid (HIE.out.below ((Below.refl (g + 1) wb).drew) (by omega))
    go_region_with ((go_at_call 23; refine (in_ok g (txtRest 4 r) sh _ HE.out).mono ?_; rintro e w' ⟨rfl, rfl⟩))
    all_goals
      go_wp2_with fail
      obtain ⟨W, hW⟩ : ∃ W, W = (((((wb.setCell ⟨w.heap.size, 0, none⟩ (.string ⟨nm.toArray⟩)).setCell ⟨w.heap.size, 1, none⟩ (.int .u8 70)).setCell ⟨w.heap.size, 2, none⟩ (.int .i64 0)).setCell ⟨w.heap.size, 3, none⟩ (.string ⟨#[]⟩)).setCell ⟨w.heap.size, 4, none⟩ (.slice A4 t.length c4)).drew := ⟨_, rfl⟩
      rw [← hW]
      have hE : Whole W w.heap.size 50 #[.string ⟨nm.toArray⟩, .int .u8 70, .int .i64 0, .string ⟨#[]⟩, .slice A4 t.length c4] := by
        rw [hW]
        exact Whole.put5 WZ.out _ _ _ _ _
      have hG : w.grownBy W (some g) := by
        rw [hW]
        exact grown_below GE.out (below5 (Below.refl w.heap.size wb) (Nat.le_refl _) _ _ _ _ _)
      have hI : Hid (InAt W g (txtRest 4 r) sh) := by
        rw [hW]
        exact Lib.hid (HIE.out.below (below5 (Below.refl w.heap.size wb) (Nat.le_refl _) _ _ _ _ _) (by omega))
      have e0 : W.cell? ⟨w.heap.size, 0, none⟩ = some (.string ⟨nm.toArray⟩) := hE.cell 0
      have e1 : W.cell? ⟨w.heap.size, 1, none⟩ = some (.int .u8 70) := hE.cell 1
      have e2 : W.cell? ⟨w.heap.size, 2, none⟩ = some (.int .i64 0) := hE.cell 2
      have e3 : W.cell? ⟨w.heap.size, 3, none⟩ = some (.string ⟨#[]⟩) := hE.cell 3
      have e4 : W.cell? ⟨w.heap.size, 4, none⟩ = some (.slice A4 t.length c4) := hE.cell 4
      have hT : Hid (TabNew k W w3.heap.size t A4 c4) := by
        rw [hW]
        exact Lib.hid (TabNew.grown TN.out (grown5 wb w.heap.size _ _ _ _ _) (fun q hq => by cases hq; omega))
      clear hW hE
      refine bodyPost_ret (v := .tuple #[.agg #[.string ⟨nm.toArray⟩, .int .u8 70, .int .i64 0, .string ⟨#[]⟩, .slice A4 t.length c4], .bool (!sh)]) (by simp [results, Tryd.results92, go_sem, e0, e1, e2, e3, e4]) rfl ?_
      cases sh with
      | true => exact .inl ⟨by rw [HP.out, ← HSHN.out]; rfl, ⟨_, _, _, _, _, _, _, rfl⟩, hG⟩
      | false =>
        refine .inr ⟨.mk nm c 0 [] t, txtRest 4 r, A4, c4, by rw [HP.out, ← HSHN.out, ← HX.out, HN.out]; rfl, ?_, ⟨by unfold I64; simp [Fld.n], by show nm.length ≤ _; omega, by simp [Fld.s]⟩, hT.out.low (by omega), hI.out, hG⟩
        simp [aggF, Fld.name, Fld.kind, Fld.n, Fld.s, Fld.t, HCK.out]
end
end Go.Proofs.YtlfppfknelddcaaDoor
