/- Layer 16: Copy. -/
import Derived.Test.YtocombacjpjdbaaDoorRoR
namespace Go.Proofs.YtocombacjpjdbaaDoor
open Go.RowKit Go.Maps Go.Sort Go.Shelf
set_option maxRecDepth 100000
set_option linter.unusedSimpArgs false
set_option linter.unusedVariables false
theorem clone_x {w : World} {b : Nat} {f : List UInt8 → Option Value} (h : MapF Tryd.prog 9 rsOk rsL w b f) :
    Calls Tryd.prog 28 #[.map (some b)] w fun e w' => e = .returned (.map (some w.heap.size)) ∧ MapF Tryd.prog 9 rsOk rsL w' w.heap.size f ∧ Below w.heap.size w w' ∧ w'.heap.size = w.heap.size + 1 := by
  obtain ⟨es, clock, h1, h2⟩ := h.copied
  refine (AnyW.maps_Clone ro_cloneX b es clock w h1).mono ?_
  rintro e w' ⟨r1, rfl⟩
  exact ⟨r1, h2, (Below.refl _ _).alloc (Nat.le_refl _) _, by simp⟩
theorem clone_b {w : World} {b : Nat} {f : Bnd → Option Value} (h : MapF Tryd.prog 33 bdOk bdL w b f) :
    Calls Tryd.prog 29 #[.map (some b)] w fun e w' => e = .returned (.map (some w.heap.size)) ∧ MapF Tryd.prog 33 bdOk bdL w' w.heap.size f ∧ Below w.heap.size w w' ∧ w'.heap.size = w.heap.size + 1 := by
  obtain ⟨es, clock, h1, h2⟩ := h.copied
  refine (AnyW.maps_Clone ro_cloneB b es clock w h1).mono ?_
  rintro e w' ⟨r1, rfl⟩
  exact ⟨r1, h2, (Below.refl _ _).alloc (Nat.le_refl _) _, by simp⟩
section
variable {w w' W : World} {g bx bb : Nat} {S : Rt}
set_option maxHeartbeats 4000000 in
theorem r_copy (h : RoAt W g bx bb S) :
    Calls Tryd.prog 14 #[ptrR g] W fun e w' => ∃ g2 bx2 bb2, e = .returned (ptrR g2) ∧ RoAt w' g2 bx2 bb2 S ∧ Below W.heap.size W w' ∧ W.heap.size ≤ g2 ∧ W.heap.size ≤ bx2 ∧ W.heap.size ≤ bb2 := by
  have H := Lib.hid h
  have HD := Lib.hid (h.below (w' := W.drew) (Below.refl _ W).drew)
  obtain ⟨c0, c1⟩ := HD.out.cell
  clear h
  go_enter Tryd.func14, Tryd.ntmps14
  go_upto_region 1 with fail
  go_region_held3 (fun w' => w'.cell? ⟨g, 0, none⟩ = some (.map (some bx)) ∧ w'.cell? ⟨g, 1, none⟩ = some (.map (some bb))) (first | exact ⟨c0, c1⟩ | go_keep) (first
    | (go_at_call 28; go_must (refine (clone_x HD.out.ex).mono ?_); rintro e w2 ⟨rfl, hm2, hb2, hs2⟩; have M2 := Lib.hid hm2; have S2 := Lib.hid hs2; have R2 := Lib.hid (HD.out.below hb2); have B2 := Lib.hid hb2; obtain ⟨c0, c1⟩ := R2.out.cell; clear hm2 hb2 hs2)
    | (go_at_call 29; go_must (refine (clone_b R2.out.bd).mono ?_); rintro e w3 ⟨rfl, hm3, hb3, hs3⟩; have M3 := Lib.hid hm3; have S3 := Lib.hid hs3; have R3 := Lib.hid (R2.out.below hb3); have B3 := Lib.hid hb3; obtain ⟨c0, c1⟩ := R3.out.cell; clear hm3 hb3 hs3))
  go_wp2_with fail
  go_ret
  have s2 : w2.heap.size = W.heap.size + 1 := S2.out
  have s3 := S3.out
  have m2 : MapF Tryd.prog 9 rsOk rsL w2 W.heap.size (fX S.X) := M2.out
  have hb : Below W.heap.size W w3 := (Below.refl _ W).drew.trans (((show Below W.heap.size W.drew w2 from B2.out)).trans (B3.out.mono (by omega)))
  refine ⟨_, W.heap.size, w2.heap.size, rfl, ⟨H.out.ok, Whole.new _ _ _, (m2.block (B3.out.block _ (by omega))).block (Below.heap_alloc _ _ _ (by omega)), M3.out.block (Below.heap_alloc _ _ _ (by omega)), by omega⟩, hb.alloc (by omega) _, by omega, Nat.le_refl _, by omega⟩
end
end Go.Proofs.YtocombacjpjdbaaDoor
