/- Tables that stand in memory as literals; what is told is read back. -/
import Derived.Test.YtlfppfknelddcaaDoorTablU
namespace Go.Proofs.YtlfppfknelddcaaDoor
open Go.RowKit

def tabC : Fld := .mk [99] 83 0 [120] []
def tabW : List Fld := [.mk [97] 73 (-1) [] [], .mk [98] 70 0 [] [tabC]]
def tabX : List Fld := [.mk [97] 120 0 [] []]
theorem tabW_ok : okB tabW = true := by rfl
theorem tabX_no : okB tabX = false := by rfl
theorem one_no : parseB [1] = none := by rfl
theorem parse_app (t : List Fld) (h : okB t = true) : parseB (appB [] t) = some t := by
  obtain ⟨h1, h2⟩ := okB_parts h
  unfold parseB appB
  rw [h, if_pos rfl, List.nil_append, if_pos h2]
  exact parsed_of_ok codeP code_complete t h
theorem held_lit (nm s : List UInt8) (k : UInt8) (n : Int) (t : List Fld) (hn : I64 n) (h1 : nm.length ≤ 140737488355328) (h2 : s.length ≤ 140737488355328) : Held (.mk nm k n s t) := ⟨hn, h1, h2⟩
/-- cells of the call's own that are a table -/
theorem tab_lit {d : Nat} {w : World} {S : Nat → Prop} {l : List Fld} {xs : List Value} {A : Option Addr} (hd : DescL Held (TabS Held d w S) l xs) (hl : LiesS w S A xs) (c : Nat) (hc : l.length ≤ c) (hm : c ≤ maxLen) : TabS Held (d + 1) w S l A c := ⟨hc, hm, xs, hl, hd⟩
theorem lies_lit (w : World) (t : TypeId) (cs : List Value) : LiesS (w.alloc (.cells cs.toArray t)) (fun b => b < w.heap.size + 1) (some ⟨w.heap.size, 0, none⟩) cs := Lies.lit w t cs
theorem desc_cons {H : Fld → Prop} {P : List Fld → Option Addr → Nat → Prop} {f : Fld} {l : List Fld} {A : Option Addr} {c : Nat} {ys : List Value} (hf : H f) (hp : P f.t A c) (hd : DescL H P l ys) : DescL H P (f :: l) (cellsF (.slice A f.t.length c) f ++ ys) := ⟨A, c, ys, rfl, hf, hp, hd⟩
theorem tabC_at (w : World) : TabAt 1 (w.alloc (.cells (cellsF (.slice none 0 0) tabC).toArray 50)) (w.heap.size + 1) [tabC] (some ⟨w.heap.size, 0, none⟩) 1 := by
  have hd : DescL Held (TabS Held 0 (w.alloc (.cells (cellsF (.slice none 0 0) tabC).toArray 50)) (fun b => b < w.heap.size + 1)) [tabC] (cellsF (.slice none 0 0) tabC ++ []) :=
    desc_cons (f := tabC) (A := none) (c := 0) (held_lit _ _ _ _ _ (by decide) (by decide) (by decide)) ⟨rfl, Nat.zero_le _⟩ rfl
  rw [List.append_nil] at hd
  exact tab_lit hd (lies_lit w 50 _) 1 (Nat.le_refl _) (by decide)
def twoC (w : World) : List Value := cellsF (.slice none 0 0) (.mk [97] 73 (-1) [] []) ++ cellsF (.slice (some ⟨w.heap.size, 0, none⟩) 1 1) (.mk [98] 70 0 [] [tabC])
theorem tabW_at (w : World) : TabAt 2 ((w.alloc (.cells (cellsF (.slice none 0 0) tabC).toArray 50)).alloc (.cells (twoC w).toArray 50)) (w.heap.size + 2) tabW (some ⟨w.heap.size + 1, 0, none⟩) 2 := by
  have h2 := TabH.below (tabC_at w) (Below.alloc (Below.refl (w.heap.size + 1) (w.alloc (.cells (cellsF (.slice none 0 0) tabC).toArray 50))) (by simp) (.cells (twoC w).toArray 50))
  have h3 := lies_lit (w.alloc (.cells (cellsF (.slice none 0 0) tabC).toArray 50)) 50 (twoC w)
  rw [show (w.alloc (.cells (cellsF (.slice none 0 0) tabC).toArray 50)).heap.size = w.heap.size + 1 from by simp] at h3
  have h4 := TabH.more (show w.heap.size + 1 ≤ w.heap.size + 2 by omega) _ _ _ _ h2
  have hd : DescL Held (TabS Held 1 ((w.alloc (.cells (cellsF (.slice none 0 0) tabC).toArray 50)).alloc (.cells (twoC w).toArray 50)) (fun b => b < w.heap.size + 2)) tabW (cellsF (.slice none 0 0) (.mk [97] 73 (-1) [] []) ++ (cellsF (.slice (some ⟨w.heap.size, 0, none⟩) 1 1) (.mk [98] 70 0 [] [tabC]) ++ [])) :=
    desc_cons (f := .mk [97] 73 (-1) [] []) (A := none) (c := 0) (held_lit _ _ _ _ _ (by decide) (by decide) (by decide)) (TabS.nil _ _ _ _ _ (Nat.zero_le _)) (desc_cons (f := .mk [98] 70 0 [] [tabC]) (A := some ⟨w.heap.size, 0, none⟩) (c := 1) (held_lit _ _ _ _ _ (by decide) (by decide) (by decide)) h4 rfl)
  rw [List.append_nil] at hd
  exact tab_lit hd h3 2 (Nat.le_refl _) (by decide)
theorem tabX_at (w : World) : TabAt 1 (w.alloc (.cells (cellsF (.slice none 0 0) (.mk [97] 120 0 [] [])).toArray 50)) (w.heap.size + 1) tabX (some ⟨w.heap.size, 0, none⟩) 1 := by
  have hd : DescL Held (TabS Held 0 (w.alloc (.cells (cellsF (.slice none 0 0) (.mk [97] 120 0 [] [])).toArray 50)) (fun b => b < w.heap.size + 1)) tabX (cellsF (.slice none 0 0) (.mk [97] 120 0 [] []) ++ []) :=
    desc_cons (f := .mk [97] 120 0 [] []) (A := none) (c := 0) (held_lit _ _ _ _ _ (by decide) (by decide) (by decide)) ⟨rfl, Nat.zero_le _⟩ rfl
  rw [List.append_nil] at hd
  exact tab_lit hd (lies_lit w 50 _) 1 (Nat.le_refl _) (by decide)
end Go.Proofs.YtlfppfknelddcaaDoor
