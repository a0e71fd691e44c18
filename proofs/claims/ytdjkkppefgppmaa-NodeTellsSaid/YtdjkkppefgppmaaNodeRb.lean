/- The document's own answer to a node's octets. -/
import Derived.Test.YtdjkkppefgppmaaNodeRa
import Derived.Test.YtdjkkppefgppmaaNodeD
import Derived.Test.YtdjkkppefgppmaaRef
import Derived.Deep.RegionHeld3
namespace Go.Proofs.Ytdjkkppefgppmaa
open Go.RowKit
set_option maxRecDepth 100000
set_option linter.unusedSimpArgs false
set_option linter.unusedVariables false

theorem nput_at (A : Option Addr) (c m : Nat) (l : List UInt8) (B n x : Nat) (xv : Int) (w : World) (hm : m = l.length) (hx : xv = (x : Int)) (hl : Lies w B A (B8 l)) (hB : B ≤ w.heap.size) (hn1 : 1 ≤ n) (hn8 : n ≤ 8) (hs : l.length + 8 ≤ 140737488355328) :
    Calls Try.prog 24 #[.slice A m c, .int .i64 n, .int .u64 xv] w (NewOcts w.heap.size (l ++ be n x) w) := by
  subst hm
  subst hx
  exact put_any A c l B n x w hl hB hn1 hn8 hs
set_option maxHeartbeats 400000 in
theorem nrshort_any (A : Option Addr) (c n : Nat) (l : List UInt8) (B : Nat) (t : List UInt8) (w : World) (hn : n = l.length) (hl : Lies w B A (B8 l)) (hB : B ≤ w.heap.size) (hs : l.length ≤ 70368744177664) (ht : t.length ≤ 255) :
    Calls Try.prog 25 #[.slice A n c, .string ⟨t.toArray⟩] w (NewOcts w.heap.size (l ++ be 1 t.length ++ t) w) := by
  subst hn
  obtain ⟨i0, hi, hz0, hz1, hz2⟩ := info_parts u8_info
  have HI := Lib.hid hi
  have H0 := Lib.hid hz0
  have H1 := Lib.hid hz1
  have H2 := Lib.hid hz2
  have HL := Lib.hid hl
  have kw := nu64 t.length (by omega)
  have e1 : (⟨t.toArray⟩ : ByteArray).size = t.length := by simp [ByteArray.size]
  have E1 := Lib.hid e1
  clear hi hz0 hz1 hz2 hl e1
  go_enter Try.func25, Try.ntmps25
  go_wp2_with fail
  refine (nput_at A c l.length l B 1 t.length _ _ rfl rfl HL.out hB (by omega) (by omega) (by omega)).mono ?_
  rintro e w2 ⟨v2, rfl, hown2, hbel2⟩
  have HO2 := Lib.hid hown2
  have HB2 := Lib.hid hbel2
  have hsz3 : w.heap.size ≤ w2.heap.size := hbel2.size
  have hlen : (l ++ be 1 t.length).length + (⟨t.toArray⟩ : ByteArray).size ≤ 140737488355328 := by rw [E1.out, List.length_append, be_length]; omega
  have HLen := Lib.hid hlen
  clear hown2 hbel2 hlen
  go_wp2_with (at_builtin; refine Lib.wpList_append_own_string _ rfl _ _ 27 9 rfl w.heap.size 5 i0 Try.underlying27 Try.underlying9 HI.out H0.out H1.out H2.out _ _ _ rfl HO2.out ⟨t.toArray⟩ rfl (room63 HLen.out) HLen.out hsz3 ?_; intro v3 w3 hown3 hg _)
  rw [strCells_B8, ← B8_append, E1.out, ← List.length_append] at hown3
  have hbel3 := HB2.out.grown hg hsz3 (fun k hk => (HO2.out.lt k hk).1)
  go_ret
  exact ⟨_, rfl, hown3, hbel3⟩

/-- the octets so far -/
structure RnAt (w wr : World) (leaf : Bool) (l : List Rw) (A : Option Addr) (c j : Nat) (P : List UInt8) (v : Value) : Prop where
  box : Whole wr w.heap.size 26 #[.bool leaf, .slice A l.length c]
  own : wr.ownsRow (w.heap.size + 1) 5 1 v P.length (B8 P)
  bel : Below w.heap.size w wr
theorem RnAt.next {w wr w' : World} {leaf : Bool} {l : List Rw} {A : Option Addr} {c j j' : Nat} {P P' : List UInt8} {v : Value} {e : Ending} (h : RnAt w wr leaf l A c j P v) (hn : NewOcts wr.heap.size P' wr e w') :
    ∃ A' c', e = .returned (.slice A' P'.length c') ∧ P'.length ≤ c' ∧ RnAt w w' leaf l A c j' P' (.slice A' P'.length c') := by
  obtain ⟨v', rfl, ho, hb⟩ := hn
  obtain ⟨A', c', rfl, h1, h2⟩ := own_form ho
  exact ⟨A', c', rfl, h1, ⟨h.box.below hb h.box.lt, own_less ho h.box.lt, h.bel.trans (hb.mono h.bel.size)⟩⟩

set_option maxHeartbeats 2000000 in
theorem rnode_any (leaf : Bool) (l : List Rw) (A : Option Addr) (c B : Nat) (w : World) (ht : RowsAt w B l A c) (hB : B ≤ w.heap.size) (hok : okN leaf l = true) (hf : Few l) :
    Calls Try.prog 14 #[.agg #[.bool leaf, .slice A l.length c]] w (NewOcts w.heap.size (nodeB leaf l) w) := by
  have hb0 := (Below.refl w.heap.size w).alloc (Nat.le_refl _) (.cells #[.bool leaf, .slice A l.length c] 26)
  have BX := Lib.hid hb0
  have WX := Lib.hid (Whole.new w 26 #[.bool leaf, .slice A l.length c])
  have HT := Lib.hid ht
  have HF := Lib.hid hf
  have hsz : sizeN leaf l ≤ 512 ∧ okR leaf [] l = true := by
    rw [okN, Bool.and_eq_true, Bool.not_eq_true', Bool.or_eq_false_iff] at hok
    exact ⟨by simpa using hok.1.2, hok.2⟩
  have hcount := sizeN_count leaf l
  have hll : l.length ≤ 300 := by omega
  have HS := Lib.hid hsz
  have hu := nu64 l.length (by omega)
  have hlc := ht.1
  have hcm := ht.2.1
  unfold maxLen at hcm
  have hz1 : w.heap.size < (w.alloc (.cells #[.bool leaf, .slice A l.length c] 26)).heap.size := by simp
  have HZ1 := Lib.hid hz1
  clear hb0 ht hf hok hsz hcount hz1
  cases leaf with
  | true =>
    go_enter Try.func14, Try.ntmps14
    go_upto_region 4 with fail
    have R0 : RnAt w (w.alloc (.cells #[.bool true, .slice A l.length c] 26)) true l A c 0 [] (.slice none 0 0) := ⟨WX.out, World.ownsRow_nil _ _ _ _, BX.out⟩
    obtain ⟨W0, hW0⟩ : ∃ W0, W0 = w.alloc (.cells #[.bool true, .slice A l.length c] 26) := ⟨_, rfl⟩
    rw [← hW0] at R0 ⊢
    have HR0 := Lib.hid R0
    have HRD := Lib.hid (show RnAt w W0.drew true l A c 0 [] (.slice none 0 0) from ⟨R0.box, R0.own, R0.bel.drew⟩)
    have x1 : W0.cell? ⟨w.heap.size, 1, none⟩ = some (.slice A l.length c) := R0.box.cell 1
    clear hW0 R0
    refine wp_region_held_drew (S := (fun w' => w'.cell? ⟨w.heap.size, 1, none⟩ = some (.slice A l.length c))) (by kernel_rfl) x1 (fun hS0 => ?_)
    refine wpAnyH_take (i := 0) (oi := ⟨some 8, _, _, _, _, _⟩) (v := ?_) rfl (by kernel_rfl) (by kernel_rfl) (by kernel_rfl) (fun _ _ _ h => h) (Or.inl ⟨by rfl, ?_⟩) hS0 ?_
    rotate_left
    · (intro wS hSw; (try dsimp only at hSw); go_simp); all_goals (with_reducible rfl)
    try simp only [Act.put, List.setIfInBounds_toArray, List.set_cons_zero, List.set_cons_succ]
    refine wpAnyH_take (i := 2) (oi := ⟨some 10, _, _, _, _, _⟩) (v := ?_) rfl (by kernel_rfl) (by kernel_rfl) (by kernel_rfl) (fun _ _ _ h => h) (Or.inl ⟨by rfl, ?_⟩) hS0 ?_
    rotate_left
    · (intro wS hSw; (try dsimp only at hSw); go_simp); all_goals (with_reducible rfl)
    try simp only [Act.put, List.setIfInBounds_toArray, List.set_cons_zero, List.set_cons_succ]
    refine wpAnyH_take (i := 3) (oi := ⟨some 11, _, _, _, _, _⟩) (v := ?_) rfl (by kernel_rfl) (by kernel_rfl) (by kernel_rfl) (fun _ _ _ h => h) (Or.inl ⟨by rfl, ?_⟩) hS0 ?_
    rotate_left
    · (intro wS hSw; (try dsimp only at hSw); go_simp); all_goals (with_reducible rfl)
    try simp only [Act.put, List.setIfInBounds_toArray, List.set_cons_zero, List.set_cons_succ]
    refine wpAnyH_take (i := 4) (oi := ⟨some 12, _, _, _, _, _⟩) (v := ?_) rfl (by kernel_rfl) (by kernel_rfl) (by kernel_rfl) (fun _ _ _ h => h) (Or.inl ⟨by rfl, ?_⟩) hS0 ?_
    rotate_left
    · (intro wS hSw; (try dsimp only at hSw); go_simp); all_goals (with_reducible rfl)
    try simp only [Act.put, List.setIfInBounds_toArray, List.set_cons_zero, List.set_cons_succ]
    refine wpAnyH_take (i := 5) (oi := ⟨some 13, _, _, _, _, _⟩) (v := ?_) rfl (by kernel_rfl) (by kernel_rfl) (by kernel_rfl) (fun _ _ _ h => h) (Or.inl ⟨by rfl, ?_⟩) hS0 ?_
    rotate_left
    · (intro wS hSw; (try dsimp only at hSw); go_simp); all_goals (with_reducible rfl)
    try simp only [Act.put, List.setIfInBounds_toArray, List.set_cons_zero, List.set_cons_succ]
    refine wpAnyH_ready (rs := [1]) (by kernel_rfl) (by simp) ?_
    refine AllReadyH.cons (o := ⟨some 9, _, _, _, _, _⟩) rfl (fun K hK => ?_) AllReadyH.nil
    go_simp
    refine (nput_at none 0 0 [] 0 1 1 _ _ rfl rfl (Lies.empty _ _ _) (Nat.zero_le _) (by omega) (by omega) (by simp)).mono ?_
    intro e w1 hn
    obtain ⟨A1, c1, rfl, hc1, R1⟩ := HRD.out.next (j' := 0) hn
    obtain ⟨P1, hP1⟩ : ∃ P1, P1 = [] ++ be 1 1 := ⟨_, rfl⟩
    have hl1 : P1.length + 8 ≤ 140737488355328 := by rw [hP1]; simp [be_length]
    rw [← hP1] at hc1 R1 ⊢
    have HP1 := Lib.hid hP1
    have HR1 := Lib.hid R1
    have LL1 := Lib.hid (Lies.own R1.own (Nat.le_refl _))
    clear hn R1 hP1
    go_wp2_with fail
    refine hK.out _ _ (HR1.out.box.cell 1) (fun hS1 => ?_)
    clear hK K
    try simp only [Act.put, List.setIfInBounds_toArray, List.set_cons_zero, List.set_cons_succ]
    refine wpAnyH_ready (rs := [6]) (by kernel_rfl) (by simp) ?_
    refine AllReadyH.cons (o := ⟨some 14, _, _, _, _, _⟩) rfl (fun K hK => ?_) AllReadyH.nil
    go_simp
    refine (nput_at A1 c1 _ P1 _ 2 l.length _ _ rfl rfl LL1.out (Nat.le_refl _) (by omega) (by omega) hl1).mono ?_
    intro e w2 hn
    obtain ⟨A2, c2, rfl, hc2, R2⟩ := HR1.out.next (j' := 0) hn
    obtain ⟨P2, hP2⟩ : ∃ P2, P2 = P1 ++ be 2 l.length := ⟨_, rfl⟩
    rw [← hP2] at hc2 R2 ⊢
    have HP2 := Lib.hid hP2
    have HR2 := Lib.hid R2
    clear hn R2 hP2
    go_wp2_with fail
    refine hK.out _ _ (HR2.out.box.cell 1) (fun hS6 => ?_)
    clear hK K
    try simp only [Act.put, List.setIfInBounds_toArray, List.set_cons_zero, List.set_cons_succ]
    refine wpAnyH_take (i := 7) (oi := ⟨some 4, _, _, _, _, _⟩) (v := ?_) rfl (by kernel_rfl) (by kernel_rfl) (by kernel_rfl) (fun _ _ _ h => h) (Or.inl ⟨by rfl, ?_⟩) hS6 ?_
    rotate_left
    · (intro wS hSw; (try dsimp only at hSw); go_simp); all_goals (with_reducible rfl)
    try simp only [Act.put, List.setIfInBounds_toArray, List.set_cons_zero, List.set_cons_succ]
    refine wpAnyH_done (by kernel_rfl) ?_ _
    have hl2 : P2.length = 3 := by rw [HP2.out, HP1.out]; simp [be_length]
    have HD : Hid (P2 ++ rowsB true l = nodeB true l) := Lib.hid (by rw [HP2.out, HP1.out]; rfl)
    have HL2 := Lib.hid hl2
    clear hl1 hl2 hS0 hS1 hS6 x1
    go_wp2_with fail
    go_loopw [4, 5] (fun v iv wr => ∃ (j : Nat) (P : List UInt8), j ≤ l.length ∧ iv = .int .i64 (j : Int) ∧ P = P2 ++ rowsB true (l.take j) ∧ RnAt w wr true l A c j P v) (fun _ iv _ => l.length - (intOf iv).toNat)
    case atStart => exact ⟨0, P2, Nat.zero_le _, rfl, by simp [rowsB], HR2.out⟩
    case round =>
      obtain ⟨j, P, hj, rfl, hP, hr⟩ := hrel
      have HR := Lib.hid hr
      have HP := Lib.hid hP
      have x0 : wr.cell? ⟨w.heap.size, 0, none⟩ = some (.bool true) := hr.box.cell 0
      have x1 : wr.cell? ⟨w.heap.size, 1, none⟩ = some (.slice A l.length c) := hr.box.cell 1
      obtain ⟨A4, c4, rfl, hc4, hm4⟩ := own_form hr.own
      clear hr hP
      by_cases hlt : j < l.length
      · obtain ⟨b, o, rfl, hb, c0, c1', c2'⟩ := lies_rw HT.out.2.2 j hlt
        obtain ⟨r, hrr⟩ : ∃ r, r = l[j] := ⟨_, rfl⟩
        have hfit : fitR true r = true := by rw [hrr]; exact okR_fit HS.out.2 _ (List.getElem_mem hlt)
        have hst := rowsB_take true l j hlt
        have hsm := sizeN_mono true l j
        rw [← rowsB_length] at hsm
        have hPl : P.length ≤ 600 := by have := HS.out.1; rw [HP.out, List.length_append, HL2.out]; omega
        rw [← hrr] at c0 c1' c2' hst
        have hrk := fitR_len hfit
        have LP := Lib.hid (Lies.own HR.out.own (Nat.le_refl _))
        obtain ⟨k, v, pg⟩ := r
        simp only at c0 c1' c2' hrk
        have HST : Hid (P2 ++ rowsB true (l.take (j + 1)) = P ++ rowB true ⟨k, v, pg⟩) := Lib.hid (by rw [hst, HP.out, List.append_assoc])
        have HFT := Lib.hid hfit
        have hk255 : k.length ≤ 255 := by omega
        have hv255 : v.length ≤ 255 := by omega
        have hbw : b < w.heap.size := by omega
        have tr : ∀ (w' : World) (q : Nat) (u : Value), Below w.heap.size w w' → w.cell? ⟨b, q, none⟩ = some u → w'.cell? ⟨b, q, none⟩ = some u := fun w' q u h h1 => (h.cell (p := ⟨b, q, none⟩) hbw).trans h1
        have TR := Lib.hid tr
        have C1 := Lib.hid c1'
        have C2 := Lib.hid c2'
        have c0' := tr wr _ _ HR.out.bel c0
        clear hrr hst hsm hfit hrk tr c0 c1' c2'
        go_wp2_with fail
        refine (nrshort_any A4 c4 P.length P _ k _ rfl LP.out (Nat.le_refl _) (by omega) hk255).mono ?_
        intro e w5 hn
        obtain ⟨P5, hP5⟩ : ∃ P5, P5 = P ++ be 1 k.length ++ k := ⟨_, rfl⟩
        have hl5 : P5.length ≤ 1000 := by rw [hP5, List.length_append, List.length_append, be_length]; omega
        rw [← hP5] at hn
        obtain ⟨A5, c5, rfl, hc5, R5⟩ := HR.out.next (j' := j) hn
        have L5 := Lib.hid (Lies.own R5.own (Nat.le_refl _))
        have y0 : w5.cell? ⟨w.heap.size, 0, none⟩ = some (.bool true) := R5.box.cell 0
        have y1 : w5.cell? ⟨w.heap.size, 1, none⟩ = some (.slice (some ⟨b, o, none⟩) l.length c) := R5.box.cell 1
        have HR5 := Lib.hid R5
        have HP5 := Lib.hid hP5
        have e1 := TR.out w5 _ _ R5.bel C1.out
        clear hn hP5 R5 x0 x1 c0'
        go_wp2_with fail
        refine (nrshort_any A5 c5 P5.length P5 _ v _ rfl L5 (Nat.le_refl _) (by omega) hv255).mono ?_
        intro e w6 hn
        obtain ⟨P6, hP6⟩ : ∃ P6, P6 = P5 ++ be 1 v.length ++ v := ⟨_, rfl⟩
        rw [← hP6] at hn
        obtain ⟨A6, c6, rfl, hc6, R6⟩ := HR5.out.next (j' := j) hn
        have HR6 := Lib.hid R6
        have E6 : Hid (P6 = P2 ++ rowsB true (l.take (j + 1))) := Lib.hid (by rw [HST.out, hP6, HP5.out]; simp [rowB])
        clear hn hP6 R6 y0 y1 e1
        go_wp2_with fail
        go_roundw
        case rel => exact ⟨j + 1, P6, by omega, by go_num, E6.out, ⟨HR6.out.box, HR6.out.own, HR6.out.bel⟩⟩
        case measure => simp [intOf]; omega
      · obtain rfl : j = l.length := by omega
        have D : Hid (NewOcts w.heap.size (nodeB true l) w (.returned (.slice A4 P.length c4)) wr) := Lib.hid (by
          have e : P = nodeB true l := by rw [HP.out, List.take_length, HD.out]
          have ho := HR.out.own
          rw [e] at ho ⊢
          exact ⟨_, rfl, own_less ho (by omega), HR.out.bel⟩)
        go_wp2_with fail
        go_ret
        exact D.out
  | false =>
    go_enter Try.func14, Try.ntmps14
    go_upto_region 4 with fail
    have R0 : RnAt w (w.alloc (.cells #[.bool false, .slice A l.length c] 26)) false l A c 0 [] (.slice none 0 0) := ⟨WX.out, World.ownsRow_nil _ _ _ _, BX.out⟩
    obtain ⟨W0, hW0⟩ : ∃ W0, W0 = w.alloc (.cells #[.bool false, .slice A l.length c] 26) := ⟨_, rfl⟩
    rw [← hW0] at R0 ⊢
    have HR0 := Lib.hid R0
    have HRD := Lib.hid (show RnAt w W0.drew false l A c 0 [] (.slice none 0 0) from ⟨R0.box, R0.own, R0.bel.drew⟩)
    have x1 : W0.cell? ⟨w.heap.size, 1, none⟩ = some (.slice A l.length c) := R0.box.cell 1
    clear hW0 R0
    refine wp_region_held_drew (S := (fun w' => w'.cell? ⟨w.heap.size, 1, none⟩ = some (.slice A l.length c))) (by kernel_rfl) x1 (fun hS0 => ?_)
    refine wpAnyH_take (i := 0) (oi := ⟨some 8, _, _, _, _, _⟩) (v := ?_) rfl (by kernel_rfl) (by kernel_rfl) (by kernel_rfl) (fun _ _ _ h => h) (Or.inl ⟨by rfl, ?_⟩) hS0 ?_
    rotate_left
    · (intro wS hSw; (try dsimp only at hSw); go_simp); all_goals (with_reducible rfl)
    try simp only [Act.put, List.setIfInBounds_toArray, List.set_cons_zero, List.set_cons_succ]
    refine wpAnyH_take (i := 2) (oi := ⟨some 10, _, _, _, _, _⟩) (v := ?_) rfl (by kernel_rfl) (by kernel_rfl) (by kernel_rfl) (fun _ _ _ h => h) (Or.inl ⟨by rfl, ?_⟩) hS0 ?_
    rotate_left
    · (intro wS hSw; (try dsimp only at hSw); go_simp); all_goals (with_reducible rfl)
    try simp only [Act.put, List.setIfInBounds_toArray, List.set_cons_zero, List.set_cons_succ]
    refine wpAnyH_take (i := 3) (oi := ⟨some 11, _, _, _, _, _⟩) (v := ?_) rfl (by kernel_rfl) (by kernel_rfl) (by kernel_rfl) (fun _ _ _ h => h) (Or.inl ⟨by rfl, ?_⟩) hS0 ?_
    rotate_left
    · (intro wS hSw; (try dsimp only at hSw); go_simp); all_goals (with_reducible rfl)
    try simp only [Act.put, List.setIfInBounds_toArray, List.set_cons_zero, List.set_cons_succ]
    refine wpAnyH_take (i := 4) (oi := ⟨some 12, _, _, _, _, _⟩) (v := ?_) rfl (by kernel_rfl) (by kernel_rfl) (by kernel_rfl) (fun _ _ _ h => h) (Or.inl ⟨by rfl, ?_⟩) hS0 ?_
    rotate_left
    · (intro wS hSw; (try dsimp only at hSw); go_simp); all_goals (with_reducible rfl)
    try simp only [Act.put, List.setIfInBounds_toArray, List.set_cons_zero, List.set_cons_succ]
    refine wpAnyH_take (i := 5) (oi := ⟨some 13, _, _, _, _, _⟩) (v := ?_) rfl (by kernel_rfl) (by kernel_rfl) (by kernel_rfl) (fun _ _ _ h => h) (Or.inl ⟨by rfl, ?_⟩) hS0 ?_
    rotate_left
    · (intro wS hSw; (try dsimp only at hSw); go_simp); all_goals (with_reducible rfl)
    try simp only [Act.put, List.setIfInBounds_toArray, List.set_cons_zero, List.set_cons_succ]
    refine wpAnyH_ready (rs := [1]) (by kernel_rfl) (by simp) ?_
    refine AllReadyH.cons (o := ⟨some 9, _, _, _, _, _⟩) rfl (fun K hK => ?_) AllReadyH.nil
    go_simp
    refine (nput_at none 0 0 [] 0 1 2 _ _ rfl rfl (Lies.empty _ _ _) (Nat.zero_le _) (by omega) (by omega) (by simp)).mono ?_
    intro e w1 hn
    obtain ⟨A1, c1, rfl, hc1, R1⟩ := HRD.out.next (j' := 0) hn
    obtain ⟨P1, hP1⟩ : ∃ P1, P1 = [] ++ be 1 2 := ⟨_, rfl⟩
    have hl1 : P1.length + 8 ≤ 140737488355328 := by rw [hP1]; simp [be_length]
    rw [← hP1] at hc1 R1 ⊢
    have HP1 := Lib.hid hP1
    have HR1 := Lib.hid R1
    have LL1 := Lib.hid (Lies.own R1.own (Nat.le_refl _))
    clear hn R1 hP1
    go_wp2_with fail
    refine hK.out _ _ (HR1.out.box.cell 1) (fun hS1 => ?_)
    clear hK K
    try simp only [Act.put, List.setIfInBounds_toArray, List.set_cons_zero, List.set_cons_succ]
    refine wpAnyH_ready (rs := [6]) (by kernel_rfl) (by simp) ?_
    refine AllReadyH.cons (o := ⟨some 14, _, _, _, _, _⟩) rfl (fun K hK => ?_) AllReadyH.nil
    go_simp
    refine (nput_at A1 c1 _ P1 _ 2 l.length _ _ rfl rfl LL1.out (Nat.le_refl _) (by omega) (by omega) hl1).mono ?_
    intro e w2 hn
    obtain ⟨A2, c2, rfl, hc2, R2⟩ := HR1.out.next (j' := 0) hn
    obtain ⟨P2, hP2⟩ : ∃ P2, P2 = P1 ++ be 2 l.length := ⟨_, rfl⟩
    rw [← hP2] at hc2 R2 ⊢
    have HP2 := Lib.hid hP2
    have HR2 := Lib.hid R2
    clear hn R2 hP2
    go_wp2_with fail
    refine hK.out _ _ (HR2.out.box.cell 1) (fun hS6 => ?_)
    clear hK K
    try simp only [Act.put, List.setIfInBounds_toArray, List.set_cons_zero, List.set_cons_succ]
    refine wpAnyH_take (i := 7) (oi := ⟨some 4, _, _, _, _, _⟩) (v := ?_) rfl (by kernel_rfl) (by kernel_rfl) (by kernel_rfl) (fun _ _ _ h => h) (Or.inl ⟨by rfl, ?_⟩) hS6 ?_
    rotate_left
    · (intro wS hSw; (try dsimp only at hSw); go_simp); all_goals (with_reducible rfl)
    try simp only [Act.put, List.setIfInBounds_toArray, List.set_cons_zero, List.set_cons_succ]
    refine wpAnyH_done (by kernel_rfl) ?_ _
    have hl2 : P2.length = 3 := by rw [HP2.out, HP1.out]; simp [be_length]
    have HD : Hid (P2 ++ rowsB false l = nodeB false l) := Lib.hid (by rw [HP2.out, HP1.out]; rfl)
    have HL2 := Lib.hid hl2
    clear hl1 hl2 hS0 hS1 hS6 x1
    go_wp2_with fail
    go_loopw [4, 5] (fun v iv wr => ∃ (j : Nat) (P : List UInt8), j ≤ l.length ∧ iv = .int .i64 (j : Int) ∧ P = P2 ++ rowsB false (l.take j) ∧ RnAt w wr false l A c j P v) (fun _ iv _ => l.length - (intOf iv).toNat)
    case atStart => exact ⟨0, P2, Nat.zero_le _, rfl, by simp [rowsB], HR2.out⟩
    case round =>
      obtain ⟨j, P, hj, rfl, hP, hr⟩ := hrel
      have HR := Lib.hid hr
      have HP := Lib.hid hP
      have x0 : wr.cell? ⟨w.heap.size, 0, none⟩ = some (.bool false) := hr.box.cell 0
      have x1 : wr.cell? ⟨w.heap.size, 1, none⟩ = some (.slice A l.length c) := hr.box.cell 1
      obtain ⟨A4, c4, rfl, hc4, hm4⟩ := own_form hr.own
      clear hr hP
      by_cases hlt : j < l.length
      · obtain ⟨b, o, rfl, hb, c0, c1', c2'⟩ := lies_rw HT.out.2.2 j hlt
        obtain ⟨r, hrr⟩ : ∃ r, r = l[j] := ⟨_, rfl⟩
        have hfit : fitR false r = true := by rw [hrr]; exact okR_fit HS.out.2 _ (List.getElem_mem hlt)
        have hst := rowsB_take false l j hlt
        have hsm := sizeN_mono false l j
        rw [← rowsB_length] at hsm
        have hPl : P.length ≤ 600 := by have := HS.out.1; rw [HP.out, List.length_append, HL2.out]; omega
        rw [← hrr] at c0 c1' c2' hst
        have hrk := fitR_len hfit
        have LP := Lib.hid (Lies.own HR.out.own (Nat.le_refl _))
        obtain ⟨k, v, pg⟩ := r
        simp only at c0 c1' c2' hrk
        have HST : Hid (P2 ++ rowsB false (l.take (j + 1)) = P ++ rowB false ⟨k, v, pg⟩) := Lib.hid (by rw [hst, HP.out, List.append_assoc])
        have HFT := Lib.hid hfit
        have hk255 : k.length ≤ 255 := by omega
        have hv255 : v.length ≤ 255 := by omega
        have hbw : b < w.heap.size := by omega
        have tr : ∀ (w' : World) (q : Nat) (u : Value), Below w.heap.size w w' → w.cell? ⟨b, q, none⟩ = some u → w'.cell? ⟨b, q, none⟩ = some u := fun w' q u h h1 => (h.cell (p := ⟨b, q, none⟩) hbw).trans h1
        have TR := Lib.hid tr
        have C1 := Lib.hid c1'
        have C2 := Lib.hid c2'
        have c0' := tr wr _ _ HR.out.bel c0
        clear hrr hst hsm hfit hrk tr c0 c1' c2'
        go_wp2_with fail
        refine (nrshort_any A4 c4 P.length P _ k _ rfl LP.out (Nat.le_refl _) (by omega) hk255).mono ?_
        intro e w5 hn
        obtain ⟨P5, hP5⟩ : ∃ P5, P5 = P ++ be 1 k.length ++ k := ⟨_, rfl⟩
        have hl5 : P5.length ≤ 1000 := by rw [hP5, List.length_append, List.length_append, be_length]; omega
        rw [← hP5] at hn
        obtain ⟨A5, c5, rfl, hc5, R5⟩ := HR.out.next (j' := j) hn
        have L5 := Lib.hid (Lies.own R5.own (Nat.le_refl _))
        have y0 : w5.cell? ⟨w.heap.size, 0, none⟩ = some (.bool false) := R5.box.cell 0
        have y1 : w5.cell? ⟨w.heap.size, 1, none⟩ = some (.slice (some ⟨b, o, none⟩) l.length c) := R5.box.cell 1
        have HR5 := Lib.hid R5
        have HP5 := Lib.hid hP5
        have e2 := TR.out w5 _ _ R5.bel C2.out
        have hpg : (2 : Int) ≤ pg ∧ pg ≤ 4294967295 := by
          have h := HFT.out
          unfold fitR at h
          simp only [Bool.false_eq_true, if_false, Bool.and_eq_true, decide_eq_true_eq] at h
          exact ⟨h.2.2.1, h.2.2.2⟩
        obtain ⟨q, rfl⟩ : ∃ q : Nat, pg = (q : Int) := ⟨pg.toNat, by omega⟩
        have hu2 := nu64 q (by omega)
        clear hn hP5 R5 x0 x1 c0'
        go_wp2_with fail
        refine (nput_at A5 c5 P5.length P5 _ 4 q _ _ rfl rfl L5 (Nat.le_refl _) (by omega) (by omega) (by omega)).mono ?_
        intro e w6 hn
        obtain ⟨P6, hP6⟩ : ∃ P6, P6 = P5 ++ be 4 q := ⟨_, rfl⟩
        rw [← hP6] at hn
        obtain ⟨A6, c6, rfl, hc6, R6⟩ := HR5.out.next (j' := j) hn
        have HR6 := Lib.hid R6
        have E6 : Hid (P6 = P2 ++ rowsB false (l.take (j + 1))) := Lib.hid (by rw [HST.out, hP6, HP5.out]; simp [rowB])
        clear hn hP6 R6 y0 y1 e2 hpg
        go_wp2_with fail
        go_roundw
        case rel => exact ⟨j + 1, P6, by omega, by go_num, E6.out, ⟨HR6.out.box, HR6.out.own, HR6.out.bel⟩⟩
        case measure => simp [intOf]; omega
      · obtain rfl : j = l.length := by omega
        have D : Hid (NewOcts w.heap.size (nodeB false l) w (.returned (.slice A4 P.length c4)) wr) := Lib.hid (by
          have e : P = nodeB false l := by rw [HP.out, List.take_length, HD.out]
          have ho := HR.out.own
          rw [e] at ho ⊢
          exact ⟨_, rfl, own_less ho (by omega), HR.out.bel⟩)
        go_wp2_with fail
        go_ret
        exact D.out
end Go.Proofs.Ytdjkkppefgppmaa
