/- Layer 16: New, Names; the closed call of layer 16. -/
import Derived.Test.YtocombacjpjdbaaDoorRoR
import Derived.Sort.KeysCollected
namespace Go.Proofs.YtocombacjpjdbaaDoor
open Go.RowKit Go.Maps Go.Sort Go.Shelf
set_option maxRecDepth 100000
set_option linter.unusedSimpArgs false
set_option linter.unusedVariables false
def rtE : Rt := ⟨[], []⟩
theorem rtE_ok : rtE.Ok where
  rx := List.Pairwise.nil
  rb := List.Pairwise.nil
  sx x hx := by cases hx
  kx x hx := by cases hx
  sb b hb := by cases hb
  fx := by simp [rtE]
  fb := by simp [rtE]
def xc0 : Xc := ⟨[], 1, true⟩
def xc1 : Xc := ⟨nDirect, 1, true⟩
def xc2 : Xc := ⟨nFanout, 2, true⟩
def xc3 : Xc := ⟨nTopic, 3, true⟩
def rtA : Rt := ⟨[xc0], []⟩
def rtB : Rt := ⟨[xc0, xc1], []⟩
def rtC : Rt := ⟨[xc0, xc1, xc2], []⟩
theorem add_a : rtE.adds xc0 = true ∧ rtE.add xc0 = rtA := ⟨by decide, rfl⟩
theorem add_b : rtA.adds xc1 = true ∧ rtA.add xc1 = rtB := ⟨by decide, by rw [Rt.add, if_pos (by decide)]; rfl⟩
theorem add_c : rtB.adds xc2 = true ∧ rtB.add xc2 = rtC := ⟨by decide, by rw [Rt.add, if_pos (by decide)]; rfl⟩
theorem add_d : rtC.adds xc3 = true ∧ rtC.add xc3 = rt0 := ⟨by decide, by rw [Rt.add, if_pos (by decide)]; rfl⟩
theorem ro_start (w : World) : RoAt (((w.alloc (.map #[] 0)).alloc (.map #[] 0)).alloc (.cells #[.map (some w.heap.size), .map (some (w.heap.size + 1))] 46)) (w.heap.size + 2) w.heap.size (w.heap.size + 1) rtE := by
  refine ⟨rtE_ok, ?_, ?_, ?_, by omega⟩
  · have := Whole.new ((w.alloc (.map #[] 0)).alloc (.map #[] 0)) 46 #[.map (some w.heap.size), .map (some (w.heap.size + 1))]
    simpa using this
  · have h0 := MapF.made (P := Tryd.prog) (kt := 9) (ok := rsOk) (kl := rsL) w
    have h1 := h0.block (w' := ((w.alloc (.map #[] 0)).alloc (.map #[] 0)).alloc (.cells #[.map (some w.heap.size), .map (some (w.heap.size + 1))] 46)) ((Below.heap_alloc _ _ _ (by simp; omega)).trans (Below.heap_alloc _ _ _ (by simp)))
    exact h1.same (fun x => rfl)
  · have h0 := MapF.made (P := Tryd.prog) (kt := 33) (ok := bdOk) (kl := bdL) (w.alloc (.map #[] 0))
    have h1 := h0.block (w' := ((w.alloc (.map #[] 0)).alloc (.map #[] 0)).alloc (.cells #[.map (some w.heap.size), .map (some (w.heap.size + 1))] 46)) (Below.heap_alloc _ _ _ (by simp))
    have h2 := h1.same (f' := fB rtE.B) (fun x => by simp [fB, rtE])
    simpa using h2
set_option maxHeartbeats 4000000 in
theorem r_new (W : World) : Calls Tryd.prog 6 #[] W fun e w' => ∃ g bx bb, e = .returned (ptrR g) ∧ RoAt w' g bx bb rt0 ∧ Below W.heap.size W w' ∧ W.heap.size ≤ g ∧ W.heap.size ≤ bx ∧ W.heap.size ≤ bb := by
  have hmm := @run_makeMap Tryd.prog
  go_enter Tryd.func6, Tryd.ntmps6
  go_upto_region 2 with fail
  obtain ⟨g, hg⟩ : ∃ g, g = W.heap.size + 1 + 1 := ⟨_, rfl⟩
  rw [← hg]
  refine wp_renR (fun W' => RoAt W' g W.heap.size (W.heap.size + 1) rtE ∧ Below W.heap.size W W') ⟨?_, ?_⟩ ?_
  · rw [hg]; exact ro_start W
  · exact (((Below.refl _ _).alloc (Nat.le_refl _) _).alloc (by simp) _).alloc (by simp; omega) _
  rintro W1 ⟨hr1, hb1⟩
  have R1 := Lib.hid hr1
  have B1 := Lib.hid hb1
  have HG := Lib.hid (show W.heap.size ≤ g by omega)
  clear hr1 hb1 hg hmm
  have HC2 := Lib.hid (r_add R1.out (x := xc0) (by decide) (by decide))
  go_wp2_with fail
  refine HC2.out.mono ?_
  rintro e W2 ⟨rfl, hr2, hg2⟩
  rw [add_a.1]
  rw [add_a.2] at hr2
  have R2 := Lib.hid hr2
  have B2 := Lib.hid (B1.out.grown hg2 B1.out.size (fun k hk => by cases hk; omega))
  clear hr2 hg2 HC2
  have HC3 := Lib.hid (r_add R2.out (x := xc1) (by decide) (by decide))
  go_wp2_with fail
  refine HC3.out.mono ?_
  rintro e W3 ⟨rfl, hr3, hg3⟩
  rw [add_b.1]
  rw [add_b.2] at hr3
  have R3 := Lib.hid hr3
  have B3 := Lib.hid (B2.out.grown hg3 B2.out.size (fun k hk => by cases hk; omega))
  clear hr3 hg3 HC3
  have HC4 := Lib.hid (r_add R3.out (x := xc2) (by decide) (by decide))
  go_wp2_with fail
  refine HC4.out.mono ?_
  rintro e W4 ⟨rfl, hr4, hg4⟩
  rw [add_c.1]
  rw [add_c.2] at hr4
  have R4 := Lib.hid hr4
  have B4 := Lib.hid (B3.out.grown hg4 B3.out.size (fun k hk => by cases hk; omega))
  clear hr4 hg4 HC4
  have HC5 := Lib.hid (r_add R4.out (x := xc3) (by decide) (by decide))
  go_wp2_with fail
  refine HC5.out.mono ?_
  rintro e W5 ⟨rfl, hr5, hg5⟩
  rw [add_d.1]
  rw [add_d.2] at hr5
  have R5 := Lib.hid hr5
  have B5 := Lib.hid (B4.out.grown hg5 B4.out.size (fun k hk => by cases hk; omega))
  clear hr5 hg5 HC5
  go_wp2_with fail
  go_ret
  exact ⟨g, _, _, rfl, R5.out, B5.out, HG.out, Nat.le_refl _, by omega⟩
/-! ### Names -/
theorem sorts_str16 (m : Nat) : AnyZ.SortsIn Tryd.prog ro_sortedX_ren Fence.wide m :=
  ⟨fun blk off cap ss W hH hblk hsz => callsIn_wide.2 (AnyM.slices_Sort_string ro_sortS blk off cap ss W hH hblk hsz),
   fun p cap W => callsIn_wide.2 (AnyM.slices_Sort_string_none ro_sortS p cap W)⟩
theorem keysX_call (mb : Option Nat) (W : World) : Calls Tryd.prog 34 #[.map mb] W fun e w' =>
    e = .returned (.func (.func 45) #[] #[ptrR W.heap.size]) ∧ w' = W.alloc (.cells #[.map mb] 43) :=
  (callsIn_wide (n := 5)).1 (AnyZ.keys_in ro_keysX Fence.wide 5 trivial rfl mb W)
set_option maxHeartbeats 1000000 in
theorem sortedX_call (b nn : Nat) (D0 : DataW Value) (w : World) (hown : w.ownsMap Tryd.prog 9 rid b nn D0) (hmax : Maps.size D0 ≤ maxLen) (hbytes : Maps.size D0 * 16 ≤ 140737488355328) :
    Calls Tryd.prog 33 #[.func (.func 45) #[] #[ptrR w.heap.size]] (w.alloc (.cells #[.map (some b)] 43)) fun e w' => ∃ (v : Value) (ss : List (List UInt8)), e = .returned v ∧ ss.Perm (strKeys D0) ∧
      w'.ownsRow (w.alloc (.cells #[.map (some b)] 43)).heap.size 9 1 v ss.length ((ss.mergeSort (fun x y => decide (x ≤ y))).map encStr) ∧ (v = .slice none 0 0 ↔ ss = []) ∧ Below (w.alloc (.cells #[.map (some b)] 43)).heap.size (w.alloc (.cells #[.map (some b)] 43)) w' := by
  have hbl := hown.lt
  have hseq : SeqGives Fence.wide 2 Tryd.prog 45 #[ptrR w.heap.size] encStr (fun ss => ss.Perm (strKeys D0)) (Maps.size D0) (w.alloc (.cells #[.map (some b)] 43)) :=
    AnyZ.keys_gives (ρ := ro_keysX_ren) { ro_keysX with } Fence.wide _ trivial rfl (by omega) w.heap.size b nn D0 _ (by simp) (by simp) (by
      obtain ⟨es, clock, hb, Ft, hs, hD⟩ := hown
      exact ⟨es, clock, (Below.heap_alloc _ _ b hbl).trans hb, Ft, hs, hD⟩)
  exact (callsIn_wide (n := 5)).1 (AnyZ.sorted_in ro_sortedX Fence.wide 5 trivial trivial trivial trivial rfl (by omega) (sorts_str16 _) (enters_of Tryd.func20 (by kernel_rfl) rfl) 45 #[ptrR w.heap.size] trivial (enters_of Tryd.func45 (by kernel_rfl) rfl) _ _ hmax hbytes _ hseq)
section
variable {w w' : World} {g bx bb : Nat} {S : Rt}
theorem namesX_sorted (hr : RisX S.X) {D : DataW Value} {b n : Nat} (hown : w.ownsMap Tryd.prog 9 rid b n D) (f : List UInt8 → Option Value) (hf : ∀ x, (f x).isSome = (fndX S.X x).isSome)
    (h2 : ∀ x, rsOk x → Maps.has D (rsL x) = (f x).isSome) (h3 : ∀ l, Maps.has D l = true → ∃ x, rsOk x ∧ l = rsL x) (hnm : ∀ x ∈ S.X, rsOk x.name) {ss : List (List UInt8)} (hp : ss.Perm (strKeys D)) :
    ss.mergeSort (fun x y => decide (x ≤ y)) = S.X.map (·.name) := by
  obtain ⟨es, rfl, hpw, hk⟩ := hown.entries rs_kind.law
  have hstr : ∀ p ∈ es, ∃ x, p.1 = .string x := by
    intro p hp'
    obtain ⟨x, _, e⟩ := h3 p.1 (by rw [Maps.has_eq]; exact List.any_eq_true.2 ⟨p, hp', WideAt.sameKey_self (hk p hp')⟩)
    exact ⟨x, e⟩
  have hnd : (S.X.map (·.name)).Nodup := Ris.nodup linS hr
  have hmem : ∀ x, x ∈ S.X.map (·.name) ↔ Maps.has (.map es) (.string x) = true := by
    intro x
    constructor
    · intro hx
      obtain ⟨u, hu, rfl⟩ := List.mem_map.1 hx
      have := h2 u.name (hnm u hu)
      rw [hf, fndX_mem hr hu] at this
      exact this
    · intro hx
      obtain ⟨y, hy, e⟩ := h3 _ hx
      have e' : x = y := by injection e
      subst e'
      have := h2 x hy
      unfold rsL at this
      rw [hx, hf] at this
      obtain ⟨u, hu⟩ := Option.isSome_iff_exists.1 this.symm
      exact List.mem_map.2 ⟨u, (fndX_name hu).2, (fndX_name hu).1⟩
  have hq := perm_strKeys hpw hstr hnd hmem
  rw [mergeSort_of_perm (hp.trans hq.symm)]
  refine List.mergeSort_of_pairwise ?_
  refine List.Pairwise.imp (R := fun a b => ltS a b = true) (fun {a b} h => ?_) hr
  exact decide_eq_true (List.le_of_lt (by simpa [ltS] using h))
set_option maxHeartbeats 4000000 in
theorem r_names (h : RoAt w g bx bb S) :
    Calls Tryd.prog 17 #[ptrR g] w fun e w' => ∃ v, e = .returned v ∧ w'.ownsRow w.heap.size 9 1 v S.X.length (rsC (S.X.map (·.name))) ∧ Below w.heap.size w w' := by
  obtain ⟨c0, c1⟩ := h.cell
  obtain ⟨D, d1, d2, d3, d4⟩ := h.ex
  have hO := h.ok
  have hsz : Maps.size D ≤ 1000 := by
    have := size_bound rs_kind d1 (S.X.map (·.name)) (fun l hl => by
      obtain ⟨x, hx, e⟩ := d3 l hl
      have h1 := (d2 x hx).1
      rw [← e, hl] at h1
      unfold fX at h1
      rw [Option.isSome_map] at h1
      obtain ⟨u, hu⟩ := Option.isSome_iff_exists.1 h1.symm
      exact ⟨x, List.mem_map.2 ⟨u, (fndX_name hu).2, (fndX_name hu).1⟩, e⟩)
    have := hO.fx
    simp at *
    omega
  have hs : ∀ ss : List (List UInt8), ss.Perm (strKeys D) → ss.mergeSort (fun x y => decide (x ≤ y)) = S.X.map (·.name) := fun ss hp =>
    namesX_sorted hO.rx d1 (fX S.X) (fun x => by simp [fX]) (fun x hx => (d2 x hx).1) d3 (fun x hx => hO.sx x hx) hp
  have HS := Lib.hid hs
  have hmax : Maps.size D ≤ maxLen := by unfold maxLen; omega
  have HD := Lib.hid d1
  have HM := Lib.hid hmax
  have HM2 : Hid (Maps.size D * 16 ≤ 140737488355328) := Lib.hid (by omega)
  clear h hO d1 d2 d3 d4 hsz hs hmax
  go_enter Tryd.func17, Tryd.ntmps17
  go_wp2_with (first
    | (go_at_call 34; go_must (refine (keysX_call _ _).mono ?_); rintro e w' ⟨rfl, rfl⟩)
    | (go_at_call 33; go_must (refine (sortedX_call bx _ D w HD.out HM.out HM2.out).mono ?_); rintro e w' ⟨v, ss, rfl, hS, hrow, hnil, hb⟩; have HP := Lib.hid hS; have HR := Lib.hid hrow; have HB := Lib.hid hb; clear hS hrow hnil hb))
  go_ret
  refine ⟨v, rfl, ?_, ((Below.refl _ w).alloc (Nat.le_refl _) _).trans (HB.out.mono (by simp))⟩
  have h1 := HR.out
  rw [HS.out ss HP.out] at h1
  have hlen : ss.length = S.X.length := by
    have := congrArg List.length (HS.out ss HP.out)
    simpa using this
  rw [hlen] at h1
  exact own_low16 h1 (by simp)
end
end Go.Proofs.YtocombacjpjdbaaDoor
