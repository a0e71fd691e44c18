/- Contracts of package unit: Parse, Places. -/
import Derived.Test.YtflbjmpbkcjdhaaUnG
namespace Go.Proofs.Ytflbjmpbkcjdhaa
open Go.RowKit
set_option maxRecDepth 100000
set_option linter.unusedSimpArgs false
set_option linter.unusedVariables false

def ParseU (r : Option (List Tl)) (w : World) (e : Ending) (w' : World) : Prop :=
  Below w.heap.size w w' ∧ match r with
  | none => e = .returned (.tuple #[.slice none 0 0, .bool false])
  | some ts => ∃ acc A c, pl acc = ts.map (·.o) ∧ e = .returned (.tuple #[.slice A acc.length c, .bool true]) ∧ OpsAt w' w'.heap.size acc A c
def PlacesU (r : Option (List Tl)) (w : World) (e : Ending) (w' : World) : Prop :=
  Below w.heap.size w w' ∧ match r with
  | none => e = .returned (.tuple #[.slice none 0 0, .bool false])
  | some ts => ∃ A c, e = .returned (.tuple #[.slice A ts.length c, .bool true]) ∧ ts.length ≤ c ∧ c ≤ maxLen ∧ Lies w' w'.heap.size A (cellsPls ts)
theorem ParseU.no {r : Option (List Tl)} {w w' : World} (h : r = none) (hb : Below w.heap.size w w') : ParseU r w (.returned (.tuple #[.slice none 0 0, .bool false])) w' := by
  subst h
  exact ⟨hb, rfl⟩
theorem ParseU.yes {r : Option (List Tl)} {ts : List Tl} {acc : List Om} {A : Option Addr} {c : Nat} {w w' : World} (h : r = some ts) (hb : Below w.heap.size w w') (he : pl acc = ts.map (·.o)) (ho : OpsAt w' w'.heap.size acc A c) : ParseU r w (.returned (.tuple #[.slice A acc.length c, .bool true])) w' := by
  subst h
  exact ⟨hb, acc, A, c, he, rfl, ho⟩
theorem PlacesU.no {r : Option (List Tl)} {w w' : World} (h : r = none) (hb : Below w.heap.size w w') : PlacesU r w (.returned (.tuple #[.slice none 0 0, .bool false])) w' := by
  subst h
  exact ⟨hb, rfl⟩
theorem PlacesU.yes {r : Option (List Tl)} {ts : List Tl} {A : Option Addr} {c : Nat} {w w' : World} (h : r = some ts) (hb : Below w.heap.size w w') (ho : ts.length ≤ c ∧ c ≤ maxLen ∧ Lies w' w'.heap.size A (cellsPls ts)) : PlacesU r w (.returned (.tuple #[.slice A ts.length c, .bool true])) w' := by
  subst h
  exact ⟨hb, A, c, rfl, ho⟩
theorem uparse_any (A : Option Addr) (n c B : Nat) (b : List UInt8) (w : World) (hn : n = b.length) (hl : Lies w B A (B8 b)) (hB : B ≤ w.heap.size) (hc : n ≤ c) (hm : c ≤ maxLen) :
    Calls Try.prog 11 #[.slice A n c] w (ParseU (unitP b) w) := by
  subst hn
  have HL := Lib.hid hl
  obtain ⟨WA, hWA⟩ : ∃ W, W = w.alloc (.cells #[.slice none 0 0] 25) := ⟨_, rfl⟩
  have b1 : Below w.heap.size w WA := by rw [hWA]; exact (Below.refl _ _).alloc (Nat.le_refl _) _
  have x1 : Whole WA w.heap.size 25 #[.slice none 0 0] := by rw [hWA]; exact Whole.new _ _ _
  have z1 : WA.heap.size = w.heap.size + 1 := by rw [hWA]; simp
  have HC := Lib.hid (clo_parse w.heap.size)
  have HE := Lib.hid (each_parse w.heap.size (fun g ts w' => JP w.heap.size g ts w') HC A b.length c B b WA rfl (hl.below (b1.mono hB)) (by omega) hc hm (by omega) (fun g w' hg hb => JP.start (x1.below hb (by omega)) (by omega)))
  have HB1 := Lib.hid b1
  clear hl b1 x1 HC z1
  go_enter Try.func11, Try.ntmps11
  go_upto_region 2 with fail
  rw [← hWA]
  clear hWA
  go_wp2_with fail
  refine HE.out.mono ?_
  intro e w2 hE
  obtain ⟨hb2, hE⟩ := hE
  have B2 := Lib.hid (HB1.out.trans hb2)
  obtain ⟨r, hr⟩ : ∃ r, r = unitP b := ⟨_, rfl⟩
  rw [← hr] at hE
  have HR := Lib.hid hr
  clear hb2 hr
  rcases r with _ | ts
  · obtain rfl := hE
    go_wp2_with fail
    go_ret2
    exact ParseU.no HR.out.symm B2.out
  · obtain ⟨rfl, g, hJ⟩ := hE
    obtain ⟨acc, A7, c7, e7, h1, h2, h3⟩ := hJ.ex
    have c1 : w2.cell? ⟨w.heap.size, 0, none⟩ = some (.slice A7 acc.length c7) := h1.cell 0
    obtain ⟨A8, c8, e8, hc8, hm8⟩ := own_form h2
    injection e8 with ea eb ec
    subst ea ec
    have D : Hid (OpsAt w2 w2.heap.size acc A7 c7) := Lib.hid ⟨hc8, hm8, own_lies h2 (Nat.le_refl _), fun m hm => by
      obtain ⟨A9, c9, e9, hc9, hm9⟩ := own_form (h3 m hm)
      injection e9 with ea eb ec
      subst ec
      exact ⟨own_lies (h3 m hm) (Nat.le_refl _), hc9, hm9⟩⟩
    have E7 := Lib.hid e7
    clear h1 h2 h3 hJ e7
    go_wp2_with fail
    go_ret2
    exact ParseU.yes HR.out.symm B2.out E7.out D.out
theorem uplaces_any (A : Option Addr) (n c B : Nat) (b : List UInt8) (w : World) (hn : n = b.length) (hl : Lies w B A (B8 b)) (hB : B ≤ w.heap.size) (hc : n ≤ c) (hm : c ≤ maxLen) :
    Calls Try.prog 13 #[.slice A n c] w (PlacesU (unitP b) w) := by
  subst hn
  have HL := Lib.hid hl
  obtain ⟨WA, hWA⟩ : ∃ W, W = w.alloc (.cells #[.slice none 0 0] 34) := ⟨_, rfl⟩
  have b1 : Below w.heap.size w WA := by rw [hWA]; exact (Below.refl _ _).alloc (Nat.le_refl _) _
  have x1 : Whole WA w.heap.size 34 #[.slice none 0 0] := by rw [hWA]; exact Whole.new _ _ _
  have z1 : WA.heap.size = w.heap.size + 1 := by rw [hWA]; simp
  have HC := Lib.hid (clo_places w.heap.size)
  have HE := Lib.hid (each_places w.heap.size (fun g ts w' => JQ w.heap.size g ts w') HC A b.length c B b WA rfl (hl.below (b1.mono hB)) (by omega) hc hm (by omega) (fun g w' hg hb => JQ.start (x1.below hb (by omega)) (by omega)))
  have HB1 := Lib.hid b1
  clear hl b1 x1 HC z1
  go_enter Try.func13, Try.ntmps13
  go_upto_region 2 with fail
  rw [← hWA]
  clear hWA
  go_wp2_with fail
  refine HE.out.mono ?_
  intro e w2 hE
  obtain ⟨hb2, hE⟩ := hE
  have B2 := Lib.hid (HB1.out.trans hb2)
  obtain ⟨r, hr⟩ : ∃ r, r = unitP b := ⟨_, rfl⟩
  rw [← hr] at hE
  have HR := Lib.hid hr
  clear hb2 hr
  rcases r with _ | ts
  · obtain rfl := hE
    go_wp2_with fail
    go_ret2
    exact PlacesU.no HR.out.symm B2.out
  · obtain ⟨rfl, g, hJ⟩ := hE
    obtain ⟨A7, c7, h1, h2⟩ := hJ.ex
    have c1 : w2.cell? ⟨w.heap.size, 0, none⟩ = some (.slice A7 ts.length c7) := h1.cell 0
    obtain ⟨A8, c8, e8, hc8, hm8⟩ := own_form h2
    injection e8 with ea eb ec
    subst ea ec
    have D : Hid (ts.length ≤ c7 ∧ c7 ≤ maxLen ∧ Lies w2 w2.heap.size A7 (cellsPls ts)) := Lib.hid ⟨hc8, hm8, own_lies h2 (Nat.le_refl _)⟩
    clear h1 h2 hJ
    go_wp2_with fail
    go_ret2
    exact PlacesU.yes HR.out.symm B2.out D.out
end Go.Proofs.Ytflbjmpbkcjdhaa
