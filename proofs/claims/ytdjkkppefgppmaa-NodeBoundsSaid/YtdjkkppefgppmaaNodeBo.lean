/- The law on bounds of nodes, walked. -/
import Derived.Test.YtdjkkppefgppmaaNodeK
import Derived.Deep.DeepCutAuto
import Derived.Deep.DeepMust
namespace Go.Proofs.Ytdjkkppefgppmaa
open Go.RowKit
set_option maxRecDepth 100000
set_option linter.unusedSimpArgs false
set_option linter.unusedVariables false

def rep (n : Nat) (c : UInt8) : List UInt8 := List.replicate n c
theorem rep_length (n : Nat) (c : UInt8) : (rep n c).length = n := List.length_replicate
theorem rep_snoc (n : Nat) (c : UInt8) : (⟨(rep n c).toArray⟩ : ByteArray) ++ ⟨#[c]⟩ = ⟨(rep (n + 1) c).toArray⟩ := by
  have e : rep (n + 1) c = rep n c ++ [c] := List.replicate_succ' 
  rw [e]
  apply ByteArray.ext
  simp [ByteArray.data_append]
def RepAt (n : Nat) (c : UInt8) (s i : Value) : Prop := ∃ j : Nat, j ≤ n ∧ i = .int .i64 j ∧ s = .string ⟨(rep j c).toArray⟩
theorem Lies.whole {w : World} {g : Nat} {t : TypeId} {cs : List Value} (h : Whole w g t cs.toArray) : Lies w w.heap.size (some ⟨g, 0, none⟩) cs := by
  refine .inr ⟨g, 0, rfl, h.lt, fun j x hx => ?_⟩
  rw [Nat.zero_add, h.cell j]
  simpa using hx
/-- what the node of the law is, before anything is asked -/
structure BoAt (w wx : World) (leaf : Bool) (r : Rw) : Prop where
  row : Whole wx w.heap.size 23 (cellsRw r).toArray
  box : Whole wx (w.heap.size + 1) 26 #[.bool leaf, .slice (some ⟨w.heap.size, 0, none⟩) 1 1]
  bel : Below w.heap.size w wx
theorem BoAt.alloc {w wx : World} {leaf : Bool} {r : Rw} (h : BoAt w wx leaf r) (o : Obj) : BoAt w (wx.alloc o) leaf r := ⟨h.row.alloc o, h.box.alloc o, h.bel.alloc h.bel.size o⟩
theorem BoAt.room {w wx : World} {leaf : Bool} {r : Rw} (h : BoAt w wx leaf r) : w.heap.size + 2 ≤ wx.heap.size := h.box.lt
theorem BoAt.grown {w wx w' : World} {leaf : Bool} {r : Rw} (h : BoAt w wx leaf r) (hb : Below (w.heap.size + 2) wx w') : BoAt w w' leaf r := ⟨h.row.below hb (by omega), h.box.below hb (by omega), h.bel.trans (hb.mono (by omega))⟩
theorem own_not {w : World} {base g n : Nat} {v : Value} {xs : List Value} {cs : Array Value} (ht : Whole w g 26 cs) (ho : w.ownsRow base 23 3 v n xs) : v.ownBlock = none ∨ v.ownBlock ≠ some g := by
  rcases ho.2 with ⟨hv, hn⟩ | ⟨b, cap, cur, hv, _, hg, _⟩
  · subst hv
    exact .inl rfl
  · subst hv
    right
    intro e
    have e' : b = g := by injection e
    subst e'
    have e2 := ht.symm.trans hg
    injection e2 with e3
    injection e3 with _ e4
    exact absurd e4 (by decide)
theorem box_apart {w w' : World} {base g n : Nat} {v : Value} {xs : List Value} {cs : Array Value} (ht : Whole w g 26 cs) (ho : w.ownsRow base 23 3 v n xs) (hg : w.grownBy w' v.ownBlock) : Whole w' g 26 cs := by
  rcases own_not ht ho with h | h
  · rw [h] at hg
    exact ht.grown hg (by simp)
  · exact ht.grown hg (fun e => h e.symm)
/-- the node of the same row twice -/
def BoTwo (w : World) (leaf : Bool) (r : Rw) (v : Value) (wx : World) : Prop :=
  ∃ (T : Nat) (A : Option Addr) (c : Nat), v = .pointer (some ⟨T, 0, none⟩) ∧ Whole wx T 26 #[.bool leaf, .slice A 2 c] ∧ wx.ownsRow (w.heap.size + 2) 23 3 (.slice A 2 c) 2 (cellsRws [r, r]) ∧ BoAt w wx leaf r
theorem BoTwo.mk {w wx : World} {leaf : Bool} {r : Rw} {T c : Nat} {A : Option Addr} {a b : Value} (hT : w.heap.size + 2 ≤ T) (ht : Whole wx T 26 #[a, b]) (ho : wx.ownsRow (w.heap.size + 2) 23 3 (.slice A 2 c) 2 (cellsRws [r, r])) (hd : BoAt w wx leaf r) :
    BoTwo w leaf r (.pointer (some ⟨T, 0, none⟩)) ((wx.setCell ⟨T, 0, none⟩ (.bool leaf)).setCell ⟨T, 1, none⟩ (.slice A 2 c)) := by
  have k1 := own_not ht ho
  have o1 := ho.kept (only_set (only_refl wx (some T)) 0 (.bool leaf)) k1
  have t1 := ht.put 0 (.bool leaf)
  have o2 := o1.kept (only_set (only_refl _ (some T)) 1 (.slice A 2 c)) k1
  exact ⟨T, A, c, rfl, t1.put 1 _, o2, ⟨(hd.row.other (by omega)).other (by omega), (hd.box.other (by omega)).other (by omega), (hd.bel.setCell (by show w.heap.size ≤ T; omega) _).setCell (by show w.heap.size ≤ T; omega) _⟩⟩
theorem BoTwo.box {w wx : World} {leaf : Bool} {r : Rw} {v : Value} (h : BoTwo w leaf r v wx) : wx.cell? ⟨w.heap.size + 1, 1, none⟩ = some (.slice (some ⟨w.heap.size, 0, none⟩) 1 1) := by
  obtain ⟨_, _, _, _, _, _, h⟩ := h
  exact h.box.cell 1
def BoIf (w : World) (leaf : Bool) (v : Value) (wx : World) : Prop :=
  ∃ (r : Rw) (g : Bool), v = .bool g ∧ okN leaf [r] = g ∧ okN leaf [r, r] = false ∧ Few [r, r] ∧ BoAt w wx leaf r

set_option maxHeartbeats 1000000 in
theorem bounds_law (key val page : Int) (leaf : Bool) (w : World) :
    Calls Try.prog 3 #[.int .i64 key, .int .i64 val, .int .i64 page, .bool leaf] w fun e w' => e = .returned (.bool true) ∧ Below w.heap.size w w' := by
  obtain ⟨km, hkm, _, hk⟩ := mask_is key 7 3 (by omega) (by decide)
  obtain ⟨vm, hvm, _, hv⟩ := mask_is val 7 3 (by omega) (by decide)
  go_enter Try.func3, Try.ntmps3
  go_wp2_with fail
  go_loop [9, 11] (fun s i => RepAt (125 + km) 107 s i) (fun _ i => 125 + km - (intOf i).toNat)
  case atStart => exact ⟨0, Nat.zero_le _, rfl, rfl⟩
  case round =>
    obtain ⟨j, hj, rfl, rfl⟩ := hrel
    have RS := rep_snoc j 107
    have sz : (⟨(rep j 107).toArray⟩ : ByteArray).size = j := by rw [size_arr, rep_length]
    by_cases hlt : j < 125 + km
    · have hi : (j : Int) < 125 + (km : Int) := by omega
      go_wp2_with fail
      go_round
      case rel => exact ⟨j + 1, by omega, by go_num, rfl⟩
      case measure => simp [intOf]; omega
    · obtain rfl : j = 125 + km := by omega
      clear RS sz
      have hi : ¬ (((125 + km : Nat) : Int) < 125 + (km : Int)) := by omega
      go_wp2_with fail
      go_loop [10, 12] (fun s i => RepAt (16 + vm) 118 s i) (fun _ i => 16 + vm - (intOf i).toNat)
      case atStart => exact ⟨0, Nat.zero_le _, rfl, rfl⟩
      case round =>
        obtain ⟨j, hj, rfl, rfl⟩ := hrel
        have RS := rep_snoc j 118
        have sz : (⟨(rep j 118).toArray⟩ : ByteArray).size = j := by rw [size_arr, rep_length]
        by_cases hlt : j < 16 + vm
        · have hi : (j : Int) < 16 + (vm : Int) := by omega
          go_wp2_with fail
          go_round
          case rel => exact ⟨j + 1, by omega, by go_num, rfl⟩
          case measure => simp [intOf]; omega
        · obtain rfl : j = 16 + vm := by omega
          have hi2 : ¬ (((16 + vm : Nat) : Int) < 16 + (vm : Int)) := by omega
          obtain ⟨K, hK⟩ : ∃ K, K = rep (125 + km) 107 := ⟨_, rfl⟩
          obtain ⟨V, hV⟩ : ∃ V, V = rep (16 + vm) 118 := ⟨_, rfl⟩
          have hKl : K.length = 125 + km := by rw [hK, rep_length]
          have hVl : V.length = 16 + vm := by rw [hV, rep_length]
          rw [← hK, ← hV]
          have HKl := Lib.hid hKl
          have HVl := Lib.hid hVl
          clear RS sz hK hV hKl hVl
          obtain ⟨g1, hg1⟩ : ∃ g1, g1 = (decide (K.length ≤ 130) && (decide (2 ≤ page) && decide (page ≤ 4294967295))) := ⟨_, rfl⟩
          have HG1 := Lib.hid hg1
          clear hg1
          go_upto_region 12 with fail
          obtain ⟨W, hW⟩ : ∃ W, W = ((w.alloc (.cells #[.string ⟨K.toArray⟩, .string ⟨#[]⟩, .int .i64 page] 23)).alloc (.cells #[.bool leaf, .slice (some ⟨w.heap.size, 0, none⟩) 1 1] 26)) := ⟨_, rfl⟩
          have BA : BoAt w W leaf ⟨K, [], page⟩ := by
            have z0 : (w.alloc (.cells #[.string ⟨K.toArray⟩, .string ⟨#[]⟩, .int .i64 page] 23)).heap.size = w.heap.size + 1 := by simp
            have h2 := Whole.new (w.alloc (.cells #[.string ⟨K.toArray⟩, .string ⟨#[]⟩, .int .i64 page] 23)) 26 #[.bool leaf, .slice (some ⟨w.heap.size, 0, none⟩) 1 1]
            rw [z0] at h2
            rw [hW]
            exact ⟨(Whole.new w 23 _).alloc _, h2, ((Below.refl _ w).alloc (Nat.le_refl _) _).alloc (by simp) _⟩
          have HBA := Lib.hid BA
          rw [← hW]
          clear hW BA
          go_cut [14] (fun v wx => v = .bool g1 ∧ wx = W)
          case first =>
            have k1 := HKl.out
            by_cases a1 : K.length ≤ 130
            · have a1' : (125 : Int) + (km : Int) ≤ 130 := by omega
              by_cases a2 : 2 ≤ page
              · by_cases a3 : page ≤ 4294967295
                · have e : Hid (g1 = true) := Lib.hid (by rw [HG1.out, decide_eq_true a1, decide_eq_true a2, decide_eq_true a3]; rfl)
                  clear k1 a1
                  go_wp2_with fail
                  go_meet
                  exact ⟨by rw [e.out], rfl⟩
                · have e : Hid (g1 = false) := Lib.hid (by rw [HG1.out, decide_eq_true a1, decide_eq_true a2, decide_eq_false a3]; rfl)
                  clear k1 a1
                  go_wp2_with fail
                  go_meet
                  exact ⟨by rw [e.out], rfl⟩
              · have e : Hid (g1 = false) := Lib.hid (by rw [HG1.out, decide_eq_true a1, decide_eq_false a2]; rfl)
                clear k1 a1
                go_wp2_with fail
                go_meet
                exact ⟨by rw [e.out], rfl⟩
            · have a1' : ¬ ((125 : Int) + (km : Int) ≤ 130) := by omega
              have e : Hid (g1 = false) := Lib.hid (by rw [HG1.out, decide_eq_false a1]; rfl)
              clear k1 a1
              go_wp2_with fail
              go_meet
              exact ⟨by rw [e.out], rfl⟩
          case rest =>
            obtain ⟨rfl, rfl⟩ := hcut
            have k1 := HKl.out
            have v1 := HVl.out
            have hin : okN false [⟨K, [], page⟩] = g1 := by
              rw [HG1.out]
              have e : ltL [] K = true := by rw [ltL_nil]; exact decide_eq_true (by omega)
              have e2 : ¬ (512 < 3 + (5 + K.length)) := by omega
              simp [okN, okR, sizeN, rowN, fitR, e, e2]
            have htwo : ∀ (lf : Bool) (r : Rw), okN lf [r, r] = false := fun lf r => by simp [okN, okR, ltL_self]
            have hfew : ∀ v p, v.length ≤ 1000 → Few [⟨K, v, p⟩, ⟨K, v, p⟩] := fun v p hv => ⟨by simp, fun r hr => by
              simp only [List.mem_cons, List.not_mem_nil, or_false] at hr
              rcases hr with rfl | rfl <;> exact ⟨by show K.length ≤ _; omega, by show v.length ≤ _; omega⟩⟩
            have HIN := Lib.hid hin
            have HTW := Lib.hid htwo
            have HFW := Lib.hid hfew
            clear hin htwo hfew
            go_upto_if 54 with fail
            go_cut [14] (fun v wx => BoIf w leaf v wx)
            case first =>
              have x1 : wc.cell? ⟨w.heap.size + 1, 1, none⟩ = some (.slice (some ⟨w.heap.size, 0, none⟩) 1 1) := HBA.out.box.cell 1
              have r0 : wc.cell? ⟨w.heap.size, 0, none⟩ = some (.string ⟨K.toArray⟩) := HBA.out.row.cell 0
              have r1 : wc.cell? ⟨w.heap.size, 1, none⟩ = some (.string ⟨#[]⟩) := HBA.out.row.cell 1
              have r2 : wc.cell? ⟨w.heap.size, 2, none⟩ = some (.int .i64 page) := HBA.out.row.cell 2
              have f1 := HBA.out.row.frozen 1
              have f2 := HBA.out.row.frozen 2
              cases leaf with
              | true =>
                go_upto_region 14 with fail
                go_region
                obtain ⟨WX, hWX⟩ : ∃ WX, WX = ((wc.setCell ⟨w.heap.size, 2, none⟩ (.int .i64 0)).setCell ⟨w.heap.size, 1, none⟩ (.string ⟨V.toArray⟩)).drew := ⟨_, rfl⟩
                have BV : BoAt w WX true ⟨K, V, 0⟩ := by
                  rw [hWX]
                  refine ⟨?_, ?_, ?_⟩
                  · exact (HBA.out.row.put 2 (.int .i64 0)).put 1 (.string ⟨V.toArray⟩)
                  · exact (Whole.other (i := 1) (u := .string ⟨V.toArray⟩) (Whole.other (i := 2) (u := .int .i64 0) HBA.out.box (by omega)) (by omega))
                  · exact ((HBA.out.bel.setCell (Nat.le_refl _) _).setCell (Nat.le_refl _) _).drew
                rw [← hWX]
                have HBV := Lib.hid BV
                have hle : okN true [⟨K, V, 0⟩] = (decide (K.length ≤ 130) && decide (V.length ≤ 20)) := by
                  have e : ltL [] K = true := by rw [ltL_nil]; exact decide_eq_true (by omega)
                  have e2 : ¬ (512 < 3 + (2 + K.length + V.length)) := by omega
                  simp [okN, okR, sizeN, rowN, fitR, e, e2]
                have D : ∀ g, okN true [⟨K, V, 0⟩] = g → BoIf w true (.bool g) WX := fun g hg => ⟨⟨K, V, 0⟩, g, rfl, hg, HTW.out _ _, HFW.out _ _ (by omega), BV⟩
                have HD := Lib.hid D
                clear hWX BV D x1 r0 r1 r2 f1 f2
                by_cases a1 : K.length ≤ 130
                · have a1' : (125 : Int) + (km : Int) ≤ 130 := by omega
                  by_cases a2 : V.length ≤ 20
                  · have a2' : (16 : Int) + (vm : Int) ≤ 20 := by omega
                    have d := Lib.hid (HD.out true (by rw [hle, decide_eq_true a1, decide_eq_true a2]; rfl))
                    clear k1 v1 a1 a2 hle
                    go_wp2_with fail
                    go_meet
                    exact d.out
                  · have a2' : ¬ ((16 : Int) + (vm : Int) ≤ 20) := by omega
                    have d := Lib.hid (HD.out false (by rw [hle, decide_eq_true a1, decide_eq_false a2]; rfl))
                    clear k1 v1 a1 a2 hle
                    go_wp2_with fail
                    go_meet
                    exact d.out
                · have a1' : ¬ ((125 : Int) + (km : Int) ≤ 130) := by omega
                  have d := Lib.hid (HD.out false (by rw [hle, decide_eq_false a1]; rfl))
                  clear k1 v1 a1 hle
                  go_wp2_with fail
                  go_meet
                  exact d.out
              | false =>
                have D : Hid (BoIf w false (.bool g1) wc) := Lib.hid ⟨⟨K, [], page⟩, g1, rfl, HIN.out, HTW.out _ _, HFW.out _ _ (by simp), HBA.out⟩
                clear k1 v1
                go_wp2_with fail
                go_meet
                exact D.out
            case rest =>
              obtain ⟨r, g, rfl, hg, h2, hf, ba⟩ := hcut
              obtain ⟨i0, hi, hz0, hz1, hz2⟩ := info_parts rw_info
              have HI := Lib.hid hi
              have H0 := Lib.hid hz0
              have H1 := Lib.hid hz1
              have H2 := Lib.hid hz2
              have HG := Lib.hid hg
              have HG2 := Lib.hid h2
              have HF2 := Lib.hid hf
              clear hi hz0 hz1 hz2 hg h2 hf k1 v1
              go_upto_region 16 with fail
              go_cut [15] (fun v wx => BoTwo w leaf r v wx)
              case first =>
                refine wp_region_held_drew (S := (fun w' => w'.cell? ⟨w.heap.size + 1, 1, none⟩ = some (.slice (some ⟨w.heap.size, 0, none⟩) 1 1))) (by kernel_rfl) (ba.box.cell 1) (fun hS0 => ?_)
                refine wpAnyH_take (i := 0) (oi := ⟨some 70, _, _, _, _, _⟩) (v := ?_) rfl (by kernel_rfl) (by kernel_rfl) (by kernel_rfl) (fun _ _ _ h => h) (Or.inl ⟨by rfl, ?_⟩) hS0 ?_
                rotate_left
                · (intro wS hSw; (try dsimp only at hSw); go_simp); all_goals (with_reducible rfl)
                try simp only [Act.put, List.setIfInBounds_toArray, List.set_cons_zero, List.set_cons_succ]
                refine wpAnyH_take (i := 2) (oi := ⟨some 72, _, _, _, _, _⟩) (v := ?_) rfl (by kernel_rfl) (by kernel_rfl) (by kernel_rfl) (fun _ _ _ h => h) (Or.inl ⟨by rfl, ?_⟩) hS0 ?_
                rotate_left
                · (intro wS hSw; (try dsimp only at hSw); go_simp); all_goals (with_reducible rfl)
                try simp only [Act.put, List.setIfInBounds_toArray, List.set_cons_zero, List.set_cons_succ]
                refine wpAnyH_take (i := 3) (oi := ⟨some 73, _, _, _, _, _⟩) (v := ?_) rfl (by kernel_rfl) (by kernel_rfl) (by kernel_rfl) (fun _ _ _ h => h) (Or.inl ⟨by rfl, ?_⟩) hS0 ?_
                rotate_left
                · (intro wS hSw; (try dsimp only at hSw); go_simp); all_goals (with_reducible rfl)
                try simp only [Act.put, List.setIfInBounds_toArray, List.set_cons_zero, List.set_cons_succ]
                refine wpAnyH_take (i := 5) (oi := ⟨some 75, _, _, _, _, _⟩) (v := ?_) rfl (by kernel_rfl) (by kernel_rfl) (by kernel_rfl) (fun _ _ _ h => h) (Or.inl ⟨by rfl, ?_⟩) hS0 ?_
                rotate_left
                · (intro wS hSw; (try dsimp only at hSw); go_simp); all_goals (with_reducible rfl)
                try simp only [Act.put, List.setIfInBounds_toArray, List.set_cons_zero, List.set_cons_succ]
                refine wpAnyH_take (i := 6) (oi := ⟨some 76, _, _, _, _, _⟩) (v := ?_) rfl (by kernel_rfl) (by kernel_rfl) (by kernel_rfl) (fun _ _ _ h => h) (Or.inl ⟨by rfl, ?_⟩) hS0 ?_
                rotate_left
                · (intro wS hSw; (try dsimp only at hSw); go_simp); all_goals (with_reducible rfl)
                try simp only [Act.put, List.setIfInBounds_toArray, List.set_cons_zero, List.set_cons_succ]
                obtain ⟨wd, hwd⟩ : ∃ wd, wd = wc.drew := ⟨_, rfl⟩
                have DD : Hid (BoAt w wd leaf r) := Lib.hid (by rw [hwd]; exact ⟨ba.row, ba.box, ba.bel.drew⟩)
                rw [← hwd] at hS0 ⊢
                clear hwd
                refine wpAnyH_ready (rs := [1, 9]) (by kernel_rfl) (by simp) ?_
                refine (AllReadyH.cons (o := ⟨some 71, _, _, _, _, _⟩) rfl (fun K hK => ?_) (AllReadyH.cons (o := ⟨some 15, _, _, _, _, _⟩) rfl (fun K hK => ?_) AllReadyH.nil))
                · have D1 := Lib.hid (DD.out.alloc (.cells #[] 23))
                  have O1 : Hid ((wd.alloc (.cells #[] 23)).ownsRow (w.heap.size + 2) 23 3 (.slice (some ⟨wd.heap.size, 0, none⟩) 0 0) 0 []) := Lib.hid (World.ownsRow_made wd #[] 0 DD.out.room (Nat.zero_le _) rfl)
                  go_simp
                  go_wp2_with fail
                  refine hK.out _ _ (D1.out.box.cell 1) (fun hS1 => ?_)
                  clear hK K
                  try simp only [Act.put, List.setIfInBounds_toArray, List.set_cons_zero, List.set_cons_succ]
                  obtain ⟨wn1, hwn1⟩ : ∃ wn, wn = wd.alloc (.cells #[] 23) := ⟨_, rfl⟩
                  obtain ⟨g1, hg1⟩ : ∃ g, g = wd.heap.size := ⟨_, rfl⟩
                  rw [← hwn1] at D1 hS1 O1 ⊢
                  rw [← hg1] at O1 ⊢
                  clear hwn1 hg1
                  refine wpAnyH_ready (rs := [4, 9]) (by kernel_rfl) (by simp) ?_
                  refine (AllReadyH.cons (o := ⟨some 74, _, _, _, _, _⟩) rfl (fun K hK => ?_) (AllReadyH.cons (o := ⟨some 15, _, _, _, _, _⟩) rfl (fun K hK => ?_) AllReadyH.nil))
                  · refine step_append_own (by rfl) _ _ 24 (by rfl) (w.heap.size + 2) 23 i0 _ 3 40 Try.underlying24 HI.out H0.out H1.out H2.out rfl (by omega) (.slice (some ⟨g1, 0, none⟩) 0 0) 0 [] (by rfl) O1.out _ _ 1 1 (cellsRw r) (by rfl) (Lies.whole D1.out.row) rfl (cellsRw_one _) (by unfold maxLen; omega) (by omega) D1.out.room ?_
                    intro v2 w2 o2 b2 q2
                    have D2 := Lib.hid (D1.out.grown b2)
                    have O2 : Hid (w2.ownsRow (w.heap.size + 2) 23 3 v2 1 (cellsRw r)) := Lib.hid (by simpa using o2)
                    clear o2 b2 q2
                    refine hK.out _ _ (D2.out.box.cell 1) (fun hS2 => ?_)
                    clear hK K
                    try simp only [Act.put, List.setIfInBounds_toArray, List.set_cons_zero, List.set_cons_succ]
                    refine wpAnyH_ready (rs := [7, 9]) (by kernel_rfl) (by simp) ?_
                    refine (AllReadyH.cons (o := ⟨some 77, _, _, _, _, _⟩) rfl (fun K hK => ?_) (AllReadyH.cons (o := ⟨some 15, _, _, _, _, _⟩) rfl (fun K hK => ?_) AllReadyH.nil))
                    · refine step_append_own (by rfl) _ _ 24 (by rfl) (w.heap.size + 2) 23 i0 _ 3 40 Try.underlying24 HI.out H0.out H1.out H2.out rfl (by omega) _ 1 (cellsRw r) (by rfl) O2.out _ _ 1 1 (cellsRw r) (by rfl) (Lies.whole D2.out.row) rfl (cellsRw_one _) (by unfold maxLen; omega) (by omega) D2.out.room ?_
                      intro v3 w3 o3 b3 q3
                      have D3 := Lib.hid (D2.out.grown b3)
                      obtain ⟨A3, c3, rfl, _, _⟩ := own_form o3
                      have O3 : Hid (w3.ownsRow (w.heap.size + 2) 23 3 (.slice A3 2 c3) 2 (cellsRws [r, r])) := Lib.hid (by simpa [cellsRws] using o3)
                      clear o3 b3 q3
                      refine hK.out _ _ (D3.out.box.cell 1) (fun hS3 => ?_)
                      clear hK K
                      try simp only [Act.put, List.setIfInBounds_toArray, List.set_cons_zero, List.set_cons_succ]
                      refine wpAnyH_take (i := 8) (oi := ⟨some 78, _, _, _, _, _⟩) (v := ?_) rfl (by kernel_rfl) (by kernel_rfl) (by kernel_rfl) (fun _ _ _ h => h) (Or.inl ⟨by rfl, ?_⟩) hS3 ?_
                      rotate_left
                      · (intro wS hSw; (try dsimp only at hSw); go_simp); all_goals (with_reducible rfl)
                      try simp only [Act.put, List.setIfInBounds_toArray, List.set_cons_zero, List.set_cons_succ]
                      refine wpAnyH_ready (rs := [9]) (by kernel_rfl) (by simp) ?_
                      refine (AllReadyH.cons (o := ⟨some 15, _, _, _, _, _⟩) rfl (fun K hK => ?_) AllReadyH.nil)
                      have D4 := Lib.hid (D3.out.alloc (.cells #[.bool false, .slice none 0 0] 26))
                      have O4 := Lib.hid (O3.out.alloc (.cells #[.bool false, .slice none 0 0] 26))
                      have T4 : Hid (Whole (w3.alloc (.cells #[.bool false, .slice none 0 0] 26)) w3.heap.size 26 #[.bool false, .slice none 0 0]) := Lib.hid (Whole.new _ _ _)
                      have TL4 : Hid (w.heap.size + 2 ≤ w3.heap.size) := Lib.hid D3.out.room
                      go_simp
                      go_wp2_with fail
                      refine hK.out _ _ (D4.out.box.cell 1) (fun hS4 => ?_)
                      clear hK K
                      try simp only [Act.put, List.setIfInBounds_toArray, List.set_cons_zero, List.set_cons_succ]
                      obtain ⟨wn4, hwn4⟩ : ∃ wn, wn = w3.alloc (.cells #[.bool false, .slice none 0 0] 26) := ⟨_, rfl⟩
                      obtain ⟨g4, hg4⟩ : ∃ g, g = w3.heap.size := ⟨_, rfl⟩
                      rw [← hwn4] at D4 hS4 O4 T4 ⊢
                      rw [← hg4] at T4 TL4 ⊢
                      clear hwn4 hg4
                      refine wpAnyH_ready (rs := [10]) (by kernel_rfl) (by simp) ?_
                      refine (AllReadyH.cons (o := ⟨none, _, _, _, _, _⟩) rfl (fun K hK => ?_) AllReadyH.nil)
                      have FIN : Hid (BoTwo w leaf r (.pointer (some ⟨g4, 0, none⟩)) _) := Lib.hid (BoTwo.mk (T := g4) TL4.out T4.out O4.out D4.out)
                      have SS := Lib.hid (BoTwo.box FIN.out)
                      have t0 : wn4.cell? ⟨g4, 0, none⟩ = some (.bool false) := T4.out.cell 0
                      have t1 : wn4.cell? ⟨g4, 1, none⟩ = some (.slice none 0 0) := T4.out.cell 1
                      have tf0 := T4.out.frozen 0
                      have tf1 := T4.out.frozen 1
                      go_simp
                      go_wp2_with fail
                      refine hK.out _ _ SS.out (fun hS5 => ?_)
                      clear hK K
                      try simp only [Act.put, List.setIfInBounds_toArray, List.set_cons_zero, List.set_cons_succ]
                      refine wpAnyH_done (by kernel_rfl) ?_ _
                      go_wp2_with fail
                      go_meet
                      exact FIN.out
                    · have D6 := Lib.hid (D2.out.alloc (.cells #[.bool false, .slice none 0 0] 26))
                      have O6 := Lib.hid (O2.out.alloc (.cells #[.bool false, .slice none 0 0] 26))
                      have T6 : Hid (Whole (w2.alloc (.cells #[.bool false, .slice none 0 0] 26)) w2.heap.size 26 #[.bool false, .slice none 0 0]) := Lib.hid (Whole.new _ _ _)
                      have TL6 : Hid (w.heap.size + 2 ≤ w2.heap.size) := Lib.hid D2.out.room
                      go_simp
                      go_wp2_with fail
                      refine hK.out _ _ (D6.out.box.cell 1) (fun hS6 => ?_)
                      clear hK K
                      try simp only [Act.put, List.setIfInBounds_toArray, List.set_cons_zero, List.set_cons_succ]
                      obtain ⟨wn6, hwn6⟩ : ∃ wn, wn = w2.alloc (.cells #[.bool false, .slice none 0 0] 26) := ⟨_, rfl⟩
                      obtain ⟨g6, hg6⟩ : ∃ g, g = w2.heap.size := ⟨_, rfl⟩
                      rw [← hwn6] at D6 hS6 O6 T6 ⊢
                      rw [← hg6] at T6 TL6 ⊢
                      clear hwn6 hg6
                      refine wpAnyH_ready (rs := [7]) (by kernel_rfl) (by simp) ?_
                      refine (AllReadyH.cons (o := ⟨some 77, _, _, _, _, _⟩) rfl (fun K hK => ?_) AllReadyH.nil)
                      refine step_append_own (by rfl) _ _ 24 (by rfl) (w.heap.size + 2) 23 i0 _ 3 40 Try.underlying24 HI.out H0.out H1.out H2.out rfl (by omega) _ 1 (cellsRw r) (by rfl) O6.out _ _ 1 1 (cellsRw r) (by rfl) (Lies.whole D6.out.row) rfl (cellsRw_one _) (by unfold maxLen; omega) (by omega) D6.out.room ?_
                      intro v7 w7 o7 b7 q7
                      have D7 := Lib.hid (D6.out.grown b7)
                      have T7 := Lib.hid (box_apart T6.out O6.out q7)
                      obtain ⟨A7, c7, rfl, _, _⟩ := own_form o7
                      have O7 : Hid (w7.ownsRow (w.heap.size + 2) 23 3 (.slice A7 2 c7) 2 (cellsRws [r, r])) := Lib.hid (by simpa [cellsRws] using o7)
                      clear o7 b7 q7
                      refine hK.out _ _ (D7.out.box.cell 1) (fun hS7 => ?_)
                      clear hK K
                      try simp only [Act.put, List.setIfInBounds_toArray, List.set_cons_zero, List.set_cons_succ]
                      refine wpAnyH_take (i := 8) (oi := ⟨some 78, _, _, _, _, _⟩) (v := ?_) rfl (by kernel_rfl) (by kernel_rfl) (by kernel_rfl) (fun _ _ _ h => h) (Or.inl ⟨by rfl, ?_⟩) hS7 ?_
                      rotate_left
                      · (intro wS hSw; (try dsimp only at hSw); go_simp); all_goals (with_reducible rfl)
                      try simp only [Act.put, List.setIfInBounds_toArray, List.set_cons_zero, List.set_cons_succ]
                      refine wpAnyH_ready (rs := [10]) (by kernel_rfl) (by simp) ?_
                      refine (AllReadyH.cons (o := ⟨none, _, _, _, _, _⟩) rfl (fun K hK => ?_) AllReadyH.nil)
                      have FIN : Hid (BoTwo w leaf r (.pointer (some ⟨g6, 0, none⟩)) _) := Lib.hid (BoTwo.mk (T := g6) TL6.out T7.out O7.out D7.out)
                      have SS := Lib.hid (BoTwo.box FIN.out)
                      have t0 : w7.cell? ⟨g6, 0, none⟩ = some (.bool false) := T7.out.cell 0
                      have t1 : w7.cell? ⟨g6, 1, none⟩ = some (.slice none 0 0) := T7.out.cell 1
                      have tf0 := T7.out.frozen 0
                      have tf1 := T7.out.frozen 1
                      go_simp
                      go_wp2_with fail
                      refine hK.out _ _ SS.out (fun hS8 => ?_)
                      clear hK K
                      try simp only [Act.put, List.setIfInBounds_toArray, List.set_cons_zero, List.set_cons_succ]
                      refine wpAnyH_done (by kernel_rfl) ?_ _
                      go_wp2_with fail
                      go_meet
                      exact FIN.out
                  · have D9 := Lib.hid (D1.out.alloc (.cells #[.bool false, .slice none 0 0] 26))
                    have O9 := Lib.hid (O1.out.alloc (.cells #[.bool false, .slice none 0 0] 26))
                    have T9 : Hid (Whole (wn1.alloc (.cells #[.bool false, .slice none 0 0] 26)) wn1.heap.size 26 #[.bool false, .slice none 0 0]) := Lib.hid (Whole.new _ _ _)
                    have TL9 : Hid (w.heap.size + 2 ≤ wn1.heap.size) := Lib.hid D1.out.room
                    go_simp
                    go_wp2_with fail
                    refine hK.out _ _ (D9.out.box.cell 1) (fun hS9 => ?_)
                    clear hK K
                    try simp only [Act.put, List.setIfInBounds_toArray, List.set_cons_zero, List.set_cons_succ]
                    obtain ⟨wn9, hwn9⟩ : ∃ wn, wn = wn1.alloc (.cells #[.bool false, .slice none 0 0] 26) := ⟨_, rfl⟩
                    obtain ⟨g9, hg9⟩ : ∃ g, g = wn1.heap.size := ⟨_, rfl⟩
                    rw [← hwn9] at D9 hS9 O9 T9 ⊢
                    rw [← hg9] at T9 TL9 ⊢
                    clear hwn9 hg9
                    refine wpAnyH_ready (rs := [4]) (by kernel_rfl) (by simp) ?_
                    refine (AllReadyH.cons (o := ⟨some 74, _, _, _, _, _⟩) rfl (fun K hK => ?_) AllReadyH.nil)
                    refine step_append_own (by rfl) _ _ 24 (by rfl) (w.heap.size + 2) 23 i0 _ 3 40 Try.underlying24 HI.out H0.out H1.out H2.out rfl (by omega) (.slice (some ⟨g1, 0, none⟩) 0 0) 0 [] (by rfl) O9.out _ _ 1 1 (cellsRw r) (by rfl) (Lies.whole D9.out.row) rfl (cellsRw_one _) (by unfold maxLen; omega) (by omega) D9.out.room ?_
                    intro v10 w10 o10 b10 q10
                    have D10 := Lib.hid (D9.out.grown b10)
                    have T10 := Lib.hid (box_apart T9.out O9.out q10)
                    have O10 : Hid (w10.ownsRow (w.heap.size + 2) 23 3 v10 1 (cellsRw r)) := Lib.hid (by simpa using o10)
                    clear o10 b10 q10
                    refine hK.out _ _ (D10.out.box.cell 1) (fun hS10 => ?_)
                    clear hK K
                    try simp only [Act.put, List.setIfInBounds_toArray, List.set_cons_zero, List.set_cons_succ]
                    refine wpAnyH_ready (rs := [7]) (by kernel_rfl) (by simp) ?_
                    refine (AllReadyH.cons (o := ⟨some 77, _, _, _, _, _⟩) rfl (fun K hK => ?_) AllReadyH.nil)
                    refine step_append_own (by rfl) _ _ 24 (by rfl) (w.heap.size + 2) 23 i0 _ 3 40 Try.underlying24 HI.out H0.out H1.out H2.out rfl (by omega) _ 1 (cellsRw r) (by rfl) O10.out _ _ 1 1 (cellsRw r) (by rfl) (Lies.whole D10.out.row) rfl (cellsRw_one _) (by unfold maxLen; omega) (by omega) D10.out.room ?_
                    intro v11 w11 o11 b11 q11
                    have D11 := Lib.hid (D10.out.grown b11)
                    have T11 := Lib.hid (box_apart T10.out O10.out q11)
                    obtain ⟨A11, c11, rfl, _, _⟩ := own_form o11
                    have O11 : Hid (w11.ownsRow (w.heap.size + 2) 23 3 (.slice A11 2 c11) 2 (cellsRws [r, r])) := Lib.hid (by simpa [cellsRws] using o11)
                    clear o11 b11 q11
                    refine hK.out _ _ (D11.out.box.cell 1) (fun hS11 => ?_)
                    clear hK K
                    try simp only [Act.put, List.setIfInBounds_toArray, List.set_cons_zero, List.set_cons_succ]
                    refine wpAnyH_take (i := 8) (oi := ⟨some 78, _, _, _, _, _⟩) (v := ?_) rfl (by kernel_rfl) (by kernel_rfl) (by kernel_rfl) (fun _ _ _ h => h) (Or.inl ⟨by rfl, ?_⟩) hS11 ?_
                    rotate_left
                    · (intro wS hSw; (try dsimp only at hSw); go_simp); all_goals (with_reducible rfl)
                    try simp only [Act.put, List.setIfInBounds_toArray, List.set_cons_zero, List.set_cons_succ]
                    refine wpAnyH_ready (rs := [10]) (by kernel_rfl) (by simp) ?_
                    refine (AllReadyH.cons (o := ⟨none, _, _, _, _, _⟩) rfl (fun K hK => ?_) AllReadyH.nil)
                    have FIN : Hid (BoTwo w leaf r (.pointer (some ⟨g9, 0, none⟩)) _) := Lib.hid (BoTwo.mk (T := g9) TL9.out T11.out O11.out D11.out)
                    have SS := Lib.hid (BoTwo.box FIN.out)
                    have t0 : w11.cell? ⟨g9, 0, none⟩ = some (.bool false) := T11.out.cell 0
                    have t1 : w11.cell? ⟨g9, 1, none⟩ = some (.slice none 0 0) := T11.out.cell 1
                    have tf0 := T11.out.frozen 0
                    have tf1 := T11.out.frozen 1
                    go_simp
                    go_wp2_with fail
                    refine hK.out _ _ SS.out (fun hS12 => ?_)
                    clear hK K
                    try simp only [Act.put, List.setIfInBounds_toArray, List.set_cons_zero, List.set_cons_succ]
                    refine wpAnyH_done (by kernel_rfl) ?_ _
                    go_wp2_with fail
                    go_meet
                    exact FIN.out
                · have D13 := Lib.hid (DD.out.alloc (.cells #[.bool false, .slice none 0 0] 26))
                  have T13 : Hid (Whole (wd.alloc (.cells #[.bool false, .slice none 0 0] 26)) wd.heap.size 26 #[.bool false, .slice none 0 0]) := Lib.hid (Whole.new _ _ _)
                  have TL13 : Hid (w.heap.size + 2 ≤ wd.heap.size) := Lib.hid DD.out.room
                  go_simp
                  go_wp2_with fail
                  refine hK.out _ _ (D13.out.box.cell 1) (fun hS13 => ?_)
                  clear hK K
                  try simp only [Act.put, List.setIfInBounds_toArray, List.set_cons_zero, List.set_cons_succ]
                  obtain ⟨wn13, hwn13⟩ : ∃ wn, wn = wd.alloc (.cells #[.bool false, .slice none 0 0] 26) := ⟨_, rfl⟩
                  obtain ⟨g13, hg13⟩ : ∃ g, g = wd.heap.size := ⟨_, rfl⟩
                  rw [← hwn13] at D13 hS13 T13 ⊢
                  rw [← hg13] at T13 TL13 ⊢
                  clear hwn13 hg13
                  refine wpAnyH_ready (rs := [1]) (by kernel_rfl) (by simp) ?_
                  refine (AllReadyH.cons (o := ⟨some 71, _, _, _, _, _⟩) rfl (fun K hK => ?_) AllReadyH.nil)
                  have D14 := Lib.hid (D13.out.alloc (.cells #[] 23))
                  have T14 := Lib.hid (T13.out.alloc (.cells #[] 23))
                  have O14 : Hid ((wn13.alloc (.cells #[] 23)).ownsRow (w.heap.size + 2) 23 3 (.slice (some ⟨wn13.heap.size, 0, none⟩) 0 0) 0 []) := Lib.hid (World.ownsRow_made wn13 #[] 0 D13.out.room (Nat.zero_le _) rfl)
                  go_simp
                  go_wp2_with fail
                  refine hK.out _ _ (D14.out.box.cell 1) (fun hS14 => ?_)
                  clear hK K
                  try simp only [Act.put, List.setIfInBounds_toArray, List.set_cons_zero, List.set_cons_succ]
                  obtain ⟨wn14, hwn14⟩ : ∃ wn, wn = wn13.alloc (.cells #[] 23) := ⟨_, rfl⟩
                  obtain ⟨g14, hg14⟩ : ∃ g, g = wn13.heap.size := ⟨_, rfl⟩
                  rw [← hwn14] at D14 hS14 O14 T14 ⊢
                  rw [← hg14] at O14 ⊢
                  clear hwn14 hg14
                  refine wpAnyH_ready (rs := [4]) (by kernel_rfl) (by simp) ?_
                  refine (AllReadyH.cons (o := ⟨some 74, _, _, _, _, _⟩) rfl (fun K hK => ?_) AllReadyH.nil)
                  refine step_append_own (by rfl) _ _ 24 (by rfl) (w.heap.size + 2) 23 i0 _ 3 40 Try.underlying24 HI.out H0.out H1.out H2.out rfl (by omega) (.slice (some ⟨g14, 0, none⟩) 0 0) 0 [] (by rfl) O14.out _ _ 1 1 (cellsRw r) (by rfl) (Lies.whole D14.out.row) rfl (cellsRw_one _) (by unfold maxLen; omega) (by omega) D14.out.room ?_
                  intro v15 w15 o15 b15 q15
                  have D15 := Lib.hid (D14.out.grown b15)
                  have T15 := Lib.hid (box_apart T14.out O14.out q15)
                  have O15 : Hid (w15.ownsRow (w.heap.size + 2) 23 3 v15 1 (cellsRw r)) := Lib.hid (by simpa using o15)
                  clear o15 b15 q15
                  refine hK.out _ _ (D15.out.box.cell 1) (fun hS15 => ?_)
                  clear hK K
                  try simp only [Act.put, List.setIfInBounds_toArray, List.set_cons_zero, List.set_cons_succ]
                  refine wpAnyH_ready (rs := [7]) (by kernel_rfl) (by simp) ?_
                  refine (AllReadyH.cons (o := ⟨some 77, _, _, _, _, _⟩) rfl (fun K hK => ?_) AllReadyH.nil)
                  refine step_append_own (by rfl) _ _ 24 (by rfl) (w.heap.size + 2) 23 i0 _ 3 40 Try.underlying24 HI.out H0.out H1.out H2.out rfl (by omega) _ 1 (cellsRw r) (by rfl) O15.out _ _ 1 1 (cellsRw r) (by rfl) (Lies.whole D15.out.row) rfl (cellsRw_one _) (by unfold maxLen; omega) (by omega) D15.out.room ?_
                  intro v16 w16 o16 b16 q16
                  have D16 := Lib.hid (D15.out.grown b16)
                  have T16 := Lib.hid (box_apart T15.out O15.out q16)
                  obtain ⟨A16, c16, rfl, _, _⟩ := own_form o16
                  have O16 : Hid (w16.ownsRow (w.heap.size + 2) 23 3 (.slice A16 2 c16) 2 (cellsRws [r, r])) := Lib.hid (by simpa [cellsRws] using o16)
                  clear o16 b16 q16
                  refine hK.out _ _ (D16.out.box.cell 1) (fun hS16 => ?_)
                  clear hK K
                  try simp only [Act.put, List.setIfInBounds_toArray, List.set_cons_zero, List.set_cons_succ]
                  refine wpAnyH_take (i := 8) (oi := ⟨some 78, _, _, _, _, _⟩) (v := ?_) rfl (by kernel_rfl) (by kernel_rfl) (by kernel_rfl) (fun _ _ _ h => h) (Or.inl ⟨by rfl, ?_⟩) hS16 ?_
                  rotate_left
                  · (intro wS hSw; (try dsimp only at hSw); go_simp); all_goals (with_reducible rfl)
                  try simp only [Act.put, List.setIfInBounds_toArray, List.set_cons_zero, List.set_cons_succ]
                  refine wpAnyH_ready (rs := [10]) (by kernel_rfl) (by simp) ?_
                  refine (AllReadyH.cons (o := ⟨none, _, _, _, _, _⟩) rfl (fun K hK => ?_) AllReadyH.nil)
                  have FIN : Hid (BoTwo w leaf r (.pointer (some ⟨g13, 0, none⟩)) _) := Lib.hid (BoTwo.mk (T := g13) TL13.out T16.out O16.out D16.out)
                  have SS := Lib.hid (BoTwo.box FIN.out)
                  have t0 : w16.cell? ⟨g13, 0, none⟩ = some (.bool false) := T16.out.cell 0
                  have t1 : w16.cell? ⟨g13, 1, none⟩ = some (.slice none 0 0) := T16.out.cell 1
                  have tf0 := T16.out.frozen 0
                  have tf1 := T16.out.frozen 1
                  go_simp
                  go_wp2_with fail
                  refine hK.out _ _ SS.out (fun hS17 => ?_)
                  clear hK K
                  try simp only [Act.put, List.setIfInBounds_toArray, List.set_cons_zero, List.set_cons_succ]
                  refine wpAnyH_done (by kernel_rfl) ?_ _
                  go_wp2_with fail
                  go_meet
                  exact FIN.out
              case rest =>
                obtain ⟨T, A, c, rfl, tb, ow, ba⟩ := hcut
                have hT : w.heap.size + 2 ≤ T ∨ T < w.heap.size + 2 := by omega
                have X1 := Lib.hid ba.box
                have X2 := Lib.hid tb
                have R1 := Lib.hid (show RowsAt wc wc.heap.size [r] (some ⟨w.heap.size, 0, none⟩) 1 from ⟨by simp, by unfold maxLen; omega, by
                  have h := Lies.whole ba.row
                  simpa [cellsRws] using h⟩)
                have R2 := Lib.hid (own_rows (l := [r, r]) ow)
                have BX := Lib.hid ba.bel
                have HF1 := Lib.hid (show Few [r] from ⟨by simp, fun x hx => HF2.out.2 x (by simp at hx ⊢; exact hx)⟩)
                have x0 : wc.cell? ⟨w.heap.size + 1, 0, none⟩ = some (.bool leaf) := ba.box.cell 0
                have x1 : wc.cell? ⟨w.heap.size + 1, 1, none⟩ = some (.slice (some ⟨w.heap.size, 0, none⟩) 1 1) := ba.box.cell 1
                clear hT tb ow ba
                go_wp2_with fail
                refine (nappend_is leaf [r] _ g _ 1 1 _ _ rfl HG.out rfl R1.out (Nat.le_refl _) HF1.out).mono ?_
                rintro e W2 ⟨A2, c2, rfl, hc2, hm2, o2, b2⟩
                have X12 := Lib.hid (X1.out.below b2 X1.out.lt)
                have X22 := Lib.hid (X2.out.below b2 X2.out.lt)
                have R12 := Lib.hid ((R1.out.below b2).more b2.size)
                have R22 := Lib.hid ((R2.out.below b2).more b2.size)
                have BX2 := Lib.hid (BX.out.trans (b2.mono BX.out.size))
                have x0 : W2.cell? ⟨w.heap.size + 1, 0, none⟩ = some (.bool leaf) := X12.out.cell 0
                have x1 : W2.cell? ⟨w.heap.size + 1, 1, none⟩ = some (.slice (some ⟨w.heap.size, 0, none⟩) 1 1) := X12.out.cell 1
                obtain ⟨O, hO⟩ : ∃ O, O = (if g = true then nodeB leaf [r] else []) := ⟨_, rfl⟩
                rw [← hO] at hc2 o2 ⊢
                clear b2 o2 hO
                go_wp2_with fail
                refine (ok_is leaf [r] g _ 1 1 _ _ rfl HG.out R12.out (Nat.le_refl _) HF1.out).mono ?_
                rintro e W3 ⟨rfl, b3⟩
                have X23 := Lib.hid (X22.out.below b3 X22.out.lt)
                have R23 := Lib.hid ((R22.out.below b3).more b3.size)
                have BX3 := Lib.hid (BX2.out.trans (b3.mono BX2.out.size))
                have y0 : W3.cell? ⟨T, 0, none⟩ = some (.bool leaf) := X23.out.cell 0
                have y1 : W3.cell? ⟨T, 1, none⟩ = some (.slice A 2 c) := X23.out.cell 1
                clear b3 x0 x1
                go_wp2_with fail
                refine (ok_is leaf [r, r] false _ 2 c _ _ rfl HG2.out R23.out (Nat.le_refl _) HF2.out).mono ?_
                rintro e W4 ⟨rfl, b4⟩
                have BX4 := Lib.hid (BX3.out.trans (b4.mono BX3.out.size))
                clear b4 y0 y1
                go_wp2_with fail
                refine (ok_is true [] true none 0 0 0 _ rfl (by decide) (rowsAt_nil _ _) (Nat.zero_le _) few_nil).mono ?_
                rintro e W5 ⟨rfl, b5⟩
                have BX5 := Lib.hid (BX4.out.trans (b5.mono BX4.out.size))
                clear b5
                go_wp2_with fail
                refine (ok_is false [] false none 0 0 0 _ rfl (by decide) (rowsAt_nil _ _) (Nat.zero_le _) few_nil).mono ?_
                rintro e W6 ⟨rfl, b6⟩
                have BX6 := Lib.hid (BX5.out.trans (b6.mono BX5.out.size))
                clear b6
                go_wp2_with fail
                refine (awake10_any _).mono ?_
                rintro e W7 ⟨rfl, b7⟩
                have BX7 := Lib.hid (BX6.out.trans (b7.mono BX6.out.size))
                clear b7
                go_wp2_with fail
                go_ret
                exact ⟨rfl, BX7.out⟩
end Go.Proofs.Ytdjkkppefgppmaa
