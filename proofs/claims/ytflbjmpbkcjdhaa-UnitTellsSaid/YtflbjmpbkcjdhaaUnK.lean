/- Layer 13: ops that may be, of some: the law's own call, walked. -/
import Derived.Test.YtflbjmpbkcjdhaaUnJ
namespace Go.Proofs.Ytflbjmpbkcjdhaa
open Go.RowKit
set_option maxRecDepth 100000
set_option linter.unusedSimpArgs false
set_option linter.unusedVariables false

def tmO (o : Opx) : Opx := ⟨107 :: o.key.take 100, o.del, if o.del then [] else o.val.take 300⟩
def tmM (m : Om) : Om := ⟨tmO m.o, if m.o.del then none else m.A, if m.o.del then 0 else m.c⟩
def tameO (l : List Opx) : List Opx := (l.take 30).map tmO
def tameM (l : List Om) : List Om := (l.take 30).map tmM
theorem pl_tame (l : List Om) : pl (tameM l) = tameO (pl l) := by
  unfold pl tameM tameO
  rw [List.map_map, ← List.map_take, List.map_map]
  rfl
theorem tmO_fit (o : Opx) : fitO (tmO o) = true := by
  have h1 : (o.key.take 100).length ≤ 100 := List.length_take_le _ _
  have h2 : (o.val.take 300).length ≤ 300 := List.length_take_le _ _
  unfold fitO tmO
  cases o.del
  · simp only [List.length_cons, Bool.and_eq_true, decide_eq_true_eq, Bool.or_eq_true]
    refine ⟨⟨⟨by omega, by omega⟩, by simp only [Bool.false_eq_true, if_false]; omega⟩, by simp⟩
  · simp only [List.length_cons, Bool.and_eq_true, decide_eq_true_eq, Bool.or_eq_true]
    refine ⟨⟨⟨by omega, by omega⟩, by simp⟩, by simp⟩
theorem tmO_size (o : Opx) : (opB (tmO o)).length ≤ 407 := by
  have h1 : (o.key.take 100).length ≤ 100 := List.length_take_le _ _
  have h2 : (o.val.take 300).length ≤ 300 := List.length_take_le _ _
  rw [opB_length]
  unfold sizeO tmO
  cases o.del <;> simp only [Bool.false_eq_true, if_false, if_true, List.length_cons] <;> omega
theorem tameO_all (l : List Opx) : (tameO l).all fitO = true := by
  rw [List.all_eq_true]
  intro o ho
  unfold tameO at ho
  obtain ⟨x, _, rfl⟩ := List.mem_map.1 ho
  exact tmO_fit x
theorem sizes_le {l : List Opx} {k : Nat} (h : ∀ o ∈ l, (opB o).length ≤ k) : (opsB l).length ≤ l.length * k := by
  induction l with
  | nil => simp [opsB]
  | cons o l ih =>
    rw [opsB_cons, List.length_append, List.length_cons, Nat.succ_mul]
    have h1 := h o (by simp)
    have h2 := ih fun x hx => h x (by simp [hx])
    omega
theorem tameO_len (l : List Opx) : (tameO l).length ≤ 30 := by
  unfold tameO
  rw [List.length_map]
  exact List.length_take_le _ _
theorem tameO_bytes (l : List Opx) : (opsB (tameO l)).length ≤ 12210 := by
  have h := sizes_le (l := tameO l) (k := 407) (fun o ho => by
    unfold tameO at ho
    obtain ⟨x, _, rfl⟩ := List.mem_map.1 ho
    exact tmO_size x)
  have := tameO_len l
  have h2 : (tameO l).length * 407 ≤ 30 * 407 := Nat.mul_le_mul_right _ this
  omega
theorem tameO_ok (l : List Opx) : unitOk (tameO l) = true := by
  unfold unitOk
  rw [tameO_all, decide_eq_true (by have := tameO_bytes l; omega)]
  rfl
theorem tameM_few (l : List Om) : Few (tameM l) := by
  refine ⟨by unfold tameM; rw [List.length_map]; exact Nat.le_trans (List.length_take_le _ _) (by omega), fun m hm => ?_⟩
  unfold tameM at hm
  obtain ⟨x, _, rfl⟩ := List.mem_map.1 hm
  have h1 : (x.o.key.take 100).length ≤ 100 := List.length_take_le _ _
  have h2 : (x.o.val.take 300).length ≤ 300 := List.length_take_le _ _
  unfold tmM tmO
  cases x.o.del <;> simp only [Bool.false_eq_true, if_false, if_true, List.length_cons, List.length_nil] <;> omega
theorem cut_list (l : List UInt8) (k : Nat) : (⟨l.toArray⟩ : ByteArray).extract 0 k = ⟨(l.take k).toArray⟩ := by
  apply ByteArray.ext
  simp [ByteArray.data_extract]
theorem put_k (l : List UInt8) : (⟨#[107]⟩ : ByteArray) ++ ⟨l.toArray⟩ = ⟨(107 :: l).toArray⟩ := by
  apply ByteArray.ext
  simp [ByteArray.data_append]
def TameU (l : List Om) (w : World) (e : Ending) (w' : World) : Prop :=
  ∃ A c, e = .returned (.slice A (tameM l).length c) ∧ OpsAt w' w'.heap.size (tameM l) A c ∧ Below w.heap.size w w'
theorem tm_val {w : World} {B : Nat} {m : Om} (h : ValAt w B m) : ValAt w B (tmM m) := by
  unfold tmM tmO
  obtain ⟨h1, h2, h3⟩ := h
  cases hd : m.o.del
  · refine ⟨?_, ?_, h3⟩
    · simp only [Bool.false_eq_true, if_false]
      have := h1.take 300
      rwa [B8, ← List.map_take] at this
    · simp only [Bool.false_eq_true, if_false, List.length_take]
      omega
  · exact ⟨.inl rfl, Nat.le_refl _, Nat.zero_le _⟩
/-- where the walk stands -/
structure TaAt (w wr : World) (l : List Om) (j : Nat) (v : Value) : Prop where
  own : wr.ownsRow w.heap.size 24 3 v j (cellsOms ((l.take j).map tmM))
  bel : Below w.heap.size w wr
set_option maxHeartbeats 2000000 in
theorem utame_any (l : List Om) (A : Option Addr) (n c B : Nat) (w : World) (hn : n = l.length) (ht : OpsAt w B l A c) (hB : B ≤ w.heap.size) (hf : Few l) :
    Calls Try.prog 16 #[.slice A n c] w (TameU l w) := by
  subst hn
  obtain ⟨i0, hi, hz0, hz1, hz2⟩ := info_parts2 om_info
  have HI := Lib.hid hi
  have H0 := Lib.hid hz0
  have H1 := Lib.hid hz1
  have H2 := Lib.hid hz2
  have HT := Lib.hid ht
  have HF := Lib.hid hf
  have hlc := ht.1
  have hcm := ht.2.1
  have hll := hf.1
  unfold maxLen at hcm
  clear hi hz0 hz1 hz2 ht hf
  go_enter Try.func16, Try.ntmps16
  go_wp2_with fail
  go_loopw [3, 4] (fun v i wr => ∃ j : Nat, j ≤ l.length ∧ j ≤ 30 ∧ i = .int .i64 j ∧ TaAt w wr l j v) (fun _ i _ => l.length - (intOf i).toNat)
  case atStart => exact ⟨0, Nat.zero_le _, Nat.zero_le _, rfl, ⟨World.ownsRow_nil _ _ _ _, Below.refl _ _⟩⟩
  case round =>
    obtain ⟨j, hj, h30, rfl, hU⟩ := hrel
    have HU := Lib.hid hU
    obtain ⟨A5, c5, rfl, hc5, hm5⟩ := own_form hU.own
    have DN : (l.length = j ∨ j = 30) → TameU l w (.returned (.slice A5 j c5)) wr := by
      intro hd
      have e : l.take 30 = l.take j := by
        rcases hd with hd | hd
        · rw [List.take_of_length_le (by omega), List.take_of_length_le (by omega)]
        · rw [hd]
      have e2 : tameM l = (l.take j).map tmM := by unfold tameM; rw [e]
      have e3 : (tameM l).length = j := by rw [e2, List.length_map, List.length_take]; omega
      refine ⟨A5, c5, by rw [e3], ⟨by rw [e3]; exact hc5, hm5, ?_, ?_⟩, HU.out.bel⟩
      · rw [e2]; exact own_lies HU.out.own (Nat.le_refl _)
      · intro m hm
        rw [e2] at hm
        obtain ⟨x, hx, rfl⟩ := List.mem_map.1 hm
        exact tm_val (((HT.out.2.2.2 x (List.mem_of_mem_take hx)).below (HU.out.bel.mono hB)).more (Nat.le_trans hB HU.out.bel.size))
    have HDN := Lib.hid DN
    clear hU DN
    by_cases hlt : j < l.length ∧ j < 30
    · obtain ⟨h1, h2⟩ := hlt
      obtain ⟨b, o, rfl, hb, c0, c1, c2⟩ := lies_om ((HT.out.2.2.1).below (HU.out.bel.mono hB)) j h1
      have hfew := HF.out.at j h1
      obtain ⟨m, hm⟩ : ∃ m, m = l[j] := ⟨_, rfl⟩
      have hst : (l.take (j + 1)).map tmM = (l.take j).map tmM ++ [tmM m] := by
        rw [List.take_succ_eq_append_getElem h1, List.map_append, hm]; rfl
      have HLT : Hid (((l.take j).map tmM).length = j) := Lib.hid (by rw [List.length_map, List.length_take]; omega)
      rw [← hm] at c0 c1 c2 hfew
      have HST := Lib.hid hst
      have HMEM := Lib.hid hm
      have hbw : b < wr.heap.size := by have := HU.out.bel.size; omega
      have s1 := size_arr m.o.key
      obtain ⟨hk, hv⟩ := hfew
      obtain ⟨P, hP⟩ : ∃ P, P = m.o.key.take 100 := ⟨_, rfl⟩
      have cl : P.length ≤ 100 := by rw [hP]; exact List.length_take_le _ _
      have ck : (⟨P.toArray⟩ : ByteArray).size = P.length := size_arr _
      have pk := put_k P
      have c63 : ¬ 9223372036854775807 < 1 + P.length := by omega
      obtain ⟨Q, hQ⟩ : ∃ Q, Q = m.o.val.take 300 := ⟨_, rfl⟩
      have HP := Lib.hid hP
      have HQ := Lib.hid hQ
      clear hm hst hP hQ
      go_upto_region 5 with fail
      go_cut [5] (fun p wx => p = .pointer (some ⟨wr.heap.size, 0, none⟩) ∧ Whole wx wr.heap.size 24 #[.string ⟨(107 :: P).toArray⟩, .bool m.o.del, .slice none 0 0] ∧ Below wr.heap.size wr wx)
      case first =>
        by_cases q : m.o.key.length ≤ 100
        · have ce : (⟨m.o.key.toArray⟩ : ByteArray).extract 0 m.o.key.length = ⟨P.toArray⟩ := by rw [cut_list, List.take_length, HP.out, List.take_of_length_le q]
          have q' : (m.o.key.length : Int) ≤ 100 := by omega
          have mi : (if (100 : Int) < (m.o.key.length : Int) then (100 : Int) else (m.o.key.length : Int)) = (m.o.key.length : Int) := if_neg (by omega)
          refine wp_region_held_drew (S := (fun w' => w'.cell? ⟨b, o + j * 3, none⟩ = some (.string ⟨m.o.key.toArray⟩) ∧ w'.cell? ⟨b, o + j * 3 + 1, none⟩ = some (.bool m.o.del) ∧ w'.cell? ⟨b, o + j * 3 + 2, none⟩ = some (.slice m.A m.o.val.length m.c))) (by kernel_rfl) ⟨c0, c1, c2⟩ (fun hS0 => ?_)
          obtain ⟨WD, hWD⟩ : ∃ WD, WD = wr.drew := ⟨_, rfl⟩
          have BW : Hid (Below wr.heap.size wr WD) := Lib.hid (by rw [hWD]; exact (Below.refl _ _).drew)
          have ZD : Hid (WD.heap.size = wr.heap.size) := Lib.hid (by rw [hWD]; rfl)
          rw [← hWD] at hS0 ⊢
          clear hWD
          have x0 := (BW.out.cell (p := ⟨b, o + j * 3, none⟩) hbw).trans c0
          have x1 := (BW.out.cell (p := ⟨b, o + j * 3 + 1, none⟩) hbw).trans c1
          have x2 := (BW.out.cell (p := ⟨b, o + j * 3 + 2, none⟩) hbw).trans c2
          refine wpAnyH_take (i := 0) (oi := ⟨some 16, _, _, _, _, _⟩) (v := ?_) rfl (by kernel_rfl) (by kernel_rfl) (by kernel_rfl) (fun _ _ _ h => h) (Or.inl ⟨by rfl, ?_⟩) hS0 ?_
          rotate_left
          · (intro wS hSw; (try dsimp only at hSw); go_simp); all_goals (with_reducible rfl)
          try simp only [Act.put, List.setIfInBounds_toArray, List.set_cons_zero, List.set_cons_succ]
          refine wpAnyH_take (i := 1) (oi := ⟨some 17, _, _, _, _, _⟩) (v := ?_) rfl (by kernel_rfl) (by kernel_rfl) (by kernel_rfl) (fun _ _ _ h => h) (Or.inl ⟨by rfl, ?_⟩) hS0 ?_
          rotate_left
          · (intro wS hSw; (try dsimp only at hSw); go_simp); all_goals (with_reducible rfl)
          try simp only [Act.put, List.setIfInBounds_toArray, List.set_cons_zero, List.set_cons_succ]
          refine wpAnyH_take (i := 2) (oi := ⟨some 18, _, _, _, _, _⟩) (v := ?_) rfl (by kernel_rfl) (by kernel_rfl) (by kernel_rfl) (fun _ _ _ h => h) (Or.inl ⟨by rfl, ?_⟩) hS0 ?_
          rotate_left
          · (intro wS hSw; (try dsimp only at hSw); go_simp); all_goals (with_reducible rfl)
          try simp only [Act.put, List.setIfInBounds_toArray, List.set_cons_zero, List.set_cons_succ]
          refine wpAnyH_take (i := 3) (oi := ⟨some 19, _, _, _, _, _⟩) (v := ?_) rfl (by kernel_rfl) (by kernel_rfl) (by kernel_rfl) (fun _ _ _ h => h) (Or.inl ⟨by rfl, ?_⟩) hS0 ?_
          rotate_left
          · (intro wS hSw; (try dsimp only at hSw); go_simp); all_goals (with_reducible rfl)
          try simp only [Act.put, List.setIfInBounds_toArray, List.set_cons_zero, List.set_cons_succ]
          refine wpAnyH_take (i := 4) (oi := ⟨some 20, _, _, _, _, _⟩) (v := ?_) rfl (by kernel_rfl) (by kernel_rfl) (by kernel_rfl) (fun _ _ _ h => h) (Or.inl ⟨by rfl, ?_⟩) hS0 ?_
          rotate_left
          · (intro wS hSw; (try dsimp only at hSw); go_simp); all_goals (with_reducible rfl)
          try simp only [Act.put, List.setIfInBounds_toArray, List.set_cons_zero, List.set_cons_succ]
          refine wpAnyH_take (i := 5) (oi := ⟨some 21, _, _, _, _, _⟩) (v := ?_) rfl (by kernel_rfl) (by kernel_rfl) (by kernel_rfl) (fun _ _ _ h => h) (Or.inl ⟨by rfl, ?_⟩) hS0 ?_
          rotate_left
          · (intro wS hSw; (try dsimp only at hSw); go_simp); all_goals (with_reducible rfl)
          try simp only [Act.put, List.setIfInBounds_toArray, List.set_cons_zero, List.set_cons_succ]
          refine wpAnyH_take (i := 6) (oi := ⟨some 22, _, _, _, _, _⟩) (v := ?_) rfl (by kernel_rfl) (by kernel_rfl) (by kernel_rfl) (fun _ _ _ h => h) (Or.inl ⟨by rfl, ?_⟩) hS0 ?_
          rotate_left
          · (intro wS hSw; (try dsimp only at hSw); go_simp); all_goals (with_reducible rfl)
          try simp only [Act.put, List.setIfInBounds_toArray, List.set_cons_zero, List.set_cons_succ]
          refine wpAnyH_take (i := 7) (oi := ⟨some 23, _, _, _, _, _⟩) (v := ?_) rfl (by kernel_rfl) (by kernel_rfl) (by kernel_rfl) (fun _ _ _ h => h) (Or.inl ⟨by rfl, ?_⟩) hS0 ?_
          rotate_left
          · (intro wS hSw; (try dsimp only at hSw); go_simp); all_goals (with_reducible rfl)
          try simp only [Act.put, List.setIfInBounds_toArray, List.set_cons_zero, List.set_cons_succ]
          refine wpAnyH_take (i := 8) (oi := ⟨some 24, _, _, _, _, _⟩) (v := ?_) rfl (by kernel_rfl) (by kernel_rfl) (by kernel_rfl) (fun _ _ _ h => h) (Or.inl ⟨by rfl, ?_⟩) hS0 ?_
          rotate_left
          · (intro wS hSw; (try dsimp only at hSw); go_simp); all_goals (with_reducible rfl)
          try simp only [Act.put, List.setIfInBounds_toArray, List.set_cons_zero, List.set_cons_succ]
          refine wpAnyH_take (i := 9) (oi := ⟨some 25, _, _, _, _, _⟩) (v := ?_) rfl (by kernel_rfl) (by kernel_rfl) (by kernel_rfl) (fun _ _ _ h => h) (Or.inl ⟨by rfl, ?_⟩) hS0 ?_
          rotate_left
          · (intro wS hSw; (try dsimp only at hSw); go_simp); all_goals (with_reducible rfl)
          try simp only [Act.put, List.setIfInBounds_toArray, List.set_cons_zero, List.set_cons_succ]
          refine wpAnyH_take (i := 10) (oi := ⟨some 26, _, _, _, _, _⟩) (v := ?_) rfl (by kernel_rfl) (by kernel_rfl) (by kernel_rfl) (fun _ _ _ h => h) (Or.inl ⟨by rfl, ?_⟩) hS0 ?_
          rotate_left
          · (intro wS hSw; (try dsimp only at hSw); go_simp); all_goals (with_reducible rfl)
          try simp only [Act.put, List.setIfInBounds_toArray, List.set_cons_zero, List.set_cons_succ]
          refine wpAnyH_take (i := 11) (oi := ⟨some 27, _, _, _, _, _⟩) (v := ?_) rfl (by kernel_rfl) (by kernel_rfl) (by kernel_rfl) (fun _ _ _ h => h) (Or.inl ⟨by rfl, ?_⟩) hS0 ?_
          rotate_left
          · (intro wS hSw; (try dsimp only at hSw); go_simp); all_goals (with_reducible rfl)
          try simp only [Act.put, List.setIfInBounds_toArray, List.set_cons_zero, List.set_cons_succ]
          refine wpAnyH_take (i := 12) (oi := ⟨some 28, _, _, _, _, _⟩) (v := ?_) rfl (by kernel_rfl) (by kernel_rfl) (by kernel_rfl) (fun _ _ _ h => h) (Or.inl ⟨by rfl, ?_⟩) hS0 ?_
          rotate_left
          · (intro wS hSw; (try dsimp only at hSw); go_simp); all_goals (with_reducible rfl)
          try simp only [Act.put, List.setIfInBounds_toArray, List.set_cons_zero, List.set_cons_succ]
          refine wpAnyH_take (i := 13) (oi := ⟨some 29, _, _, _, _, _⟩) (v := ?_) rfl (by kernel_rfl) (by kernel_rfl) (by kernel_rfl) (fun _ _ _ h => h) (Or.inl ⟨by rfl, ?_⟩) hS0 ?_
          rotate_left
          · (intro wS hSw; (try dsimp only at hSw); go_simp); all_goals (with_reducible rfl)
          try simp only [Act.put, List.setIfInBounds_toArray, List.set_cons_zero, List.set_cons_succ]
          refine wpAnyH_take (i := 14) (oi := ⟨some 30, _, _, _, _, _⟩) (v := ?_) rfl (by kernel_rfl) (by kernel_rfl) (by kernel_rfl) (fun _ _ _ h => h) (Or.inl ⟨by rfl, ?_⟩) hS0 ?_
          rotate_left
          · (intro wS hSw; (try dsimp only at hSw); go_simp); all_goals (with_reducible rfl)
          try simp only [Act.put, List.setIfInBounds_toArray, List.set_cons_zero, List.set_cons_succ]
          refine wpAnyH_take (i := 15) (oi := ⟨some 31, _, _, _, _, _⟩) (v := ?_) rfl (by kernel_rfl) (by kernel_rfl) (by kernel_rfl) (fun _ _ _ h => h) (Or.inl ⟨by rfl, ?_⟩) hS0 ?_
          rotate_left
          · (intro wS hSw; (try dsimp only at hSw); go_simp); all_goals (with_reducible rfl)
          try simp only [Act.put, List.setIfInBounds_toArray, List.set_cons_zero, List.set_cons_succ]
          refine wpAnyH_take (i := 16) (oi := ⟨some 32, _, _, _, _, _⟩) (v := ?_) rfl (by kernel_rfl) (by kernel_rfl) (by kernel_rfl) (fun _ _ _ h => h) (Or.inl ⟨by rfl, ?_⟩) hS0 ?_
          rotate_left
          · (intro wS hSw; (try dsimp only at hSw); go_simp); all_goals (with_reducible rfl)
          try simp only [Act.put, List.setIfInBounds_toArray, List.set_cons_zero, List.set_cons_succ]
          refine wpAnyH_take (i := 17) (oi := ⟨some 33, _, _, _, _, _⟩) (v := ?_) rfl (by kernel_rfl) (by kernel_rfl) (by kernel_rfl) (fun _ _ _ h => h) (Or.inl ⟨by rfl, ?_⟩) hS0 ?_
          rotate_left
          · (intro wS hSw; (try dsimp only at hSw); go_simp); all_goals (with_reducible rfl)
          try simp only [Act.put, List.setIfInBounds_toArray, List.set_cons_zero, List.set_cons_succ]
          refine wpAnyH_take (i := 18) (oi := ⟨some 34, _, _, _, _, _⟩) (v := ?_) rfl (by kernel_rfl) (by kernel_rfl) (by kernel_rfl) (fun _ _ _ h => h) (Or.inl ⟨by rfl, ?_⟩) hS0 ?_
          rotate_left
          · (intro wS hSw; (try dsimp only at hSw); go_simp); all_goals (with_reducible rfl)
          try simp only [Act.put, List.setIfInBounds_toArray, List.set_cons_zero, List.set_cons_succ]
          refine wpAnyH_take (i := 19) (oi := ⟨some 35, _, _, _, _, _⟩) (v := ?_) rfl (by kernel_rfl) (by kernel_rfl) (by kernel_rfl) (fun _ _ _ h => h) (Or.inl ⟨by rfl, ?_⟩) hS0 ?_
          rotate_left
          · (intro wS hSw; (try dsimp only at hSw); go_simp); all_goals (with_reducible rfl)
          try simp only [Act.put, List.setIfInBounds_toArray, List.set_cons_zero, List.set_cons_succ]
          refine wpAnyH_ready (rs := [20]) (by kernel_rfl) (by simp) ?_
          refine AllReadyH.cons (o := ⟨some 5, _, _, _, _, _⟩) rfl (fun K hK => ?_) AllReadyH.nil
          go_simp
          have BD := Lib.hid ((Below.refl wr.heap.size WD).alloc (by rw [ZD.out]; exact Nat.le_refl _) (.cells #[.string ⟨#[]⟩, .bool false, .slice none 0 0] 24))
          have XD : Hid (Whole (WD.alloc (.cells #[.string ⟨#[]⟩, .bool false, .slice none 0 0] 24)) wr.heap.size 24 #[.string ⟨#[]⟩, .bool false, .slice none 0 0]) := Lib.hid (by rw [← ZD.out]; exact Whole.new _ _ _)
          have y0 := (BD.out.cell (p := ⟨b, o + j * 3, none⟩) hbw).trans x0
          have y1 := (BD.out.cell (p := ⟨b, o + j * 3 + 1, none⟩) hbw).trans x1
          have y2 := (BD.out.cell (p := ⟨b, o + j * 3 + 2, none⟩) hbw).trans x2
          refine hK.out _ _ ⟨y0, y1, y2⟩ (fun hS20 => ?_)
          clear hK K
          try simp only [Act.put, List.setIfInBounds_toArray, List.set_cons_zero, List.set_cons_succ]
          obtain ⟨WE, hWE⟩ : ∃ W, W = WD.alloc (.cells #[.string ⟨#[]⟩, .bool false, .slice none 0 0] 24) := ⟨_, rfl⟩
          have xe := XD.out
          have be' := BD.out
          have zd := ZD.out
          rw [← hWE] at xe be' y0 y1 y2 hS20 ⊢
          rw [zd]
          have XD := Lib.hid xe
          have BD := Lib.hid (BW.out.trans be')
          clear hWE xe be' zd
          have q0 := XD.out.cell 0
          have q1 := XD.out.cell 1
          have q2 := XD.out.cell 2
          have f0 := XD.out.frozen 0
          have f1 := XD.out.frozen 1
          have f2 := XD.out.frozen 2
          refine wpAnyH_ready (rs := [21]) (by kernel_rfl) (by simp) ?_
          refine AllReadyH.cons (o := ⟨none, _, _, _, _, _⟩) rfl (fun K hK => ?_) AllReadyH.nil
          go_simp
          have D0 := Lib.hid (((BD.out.setCell (p := ⟨wr.heap.size, 0, none⟩) (Nat.le_refl _) (.string ⟨(107 :: P).toArray⟩)).setCell (p := ⟨wr.heap.size, 1, none⟩) (Nat.le_refl _) (.bool m.o.del)).setCell (p := ⟨wr.heap.size, 2, none⟩) (Nat.le_refl _) (.slice none 0 0))
          have X0 := Lib.hid (put3 (.string ⟨(107 :: P).toArray⟩) (.bool m.o.del) (.slice none 0 0) XD.out)
          have z0 := (D0.out.cell (p := ⟨b, o + j * 3, none⟩) hbw).trans (c0)
          have z1 := (D0.out.cell (p := ⟨b, o + j * 3 + 1, none⟩) hbw).trans (c1)
          have z2 := (D0.out.cell (p := ⟨b, o + j * 3 + 2, none⟩) hbw).trans (c2)
          refine hK.out _ _ ⟨z0, z1, z2⟩ (fun hS21 => ?_)
          clear hK K
          try simp only [Act.put, List.setIfInBounds_toArray, List.set_cons_zero, List.set_cons_succ]
          refine wpAnyH_done (by kernel_rfl) ?_ _
          go_wp2_with fail
          go_meet
          exact ⟨rfl, X0.out, D0.out⟩
        · have ce : (⟨m.o.key.toArray⟩ : ByteArray).extract 0 100 = ⟨P.toArray⟩ := by rw [cut_list, HP.out]
          have q' : (100 : Int) < m.o.key.length := by omega
          have q2 : (100 : Int) ≤ m.o.key.length := by omega
          refine wp_region_held_drew (S := (fun w' => w'.cell? ⟨b, o + j * 3, none⟩ = some (.string ⟨m.o.key.toArray⟩) ∧ w'.cell? ⟨b, o + j * 3 + 1, none⟩ = some (.bool m.o.del) ∧ w'.cell? ⟨b, o + j * 3 + 2, none⟩ = some (.slice m.A m.o.val.length m.c))) (by kernel_rfl) ⟨c0, c1, c2⟩ (fun hS0 => ?_)
          obtain ⟨WD, hWD⟩ : ∃ WD, WD = wr.drew := ⟨_, rfl⟩
          have BW : Hid (Below wr.heap.size wr WD) := Lib.hid (by rw [hWD]; exact (Below.refl _ _).drew)
          have ZD : Hid (WD.heap.size = wr.heap.size) := Lib.hid (by rw [hWD]; rfl)
          rw [← hWD] at hS0 ⊢
          clear hWD
          have x0 := (BW.out.cell (p := ⟨b, o + j * 3, none⟩) hbw).trans c0
          have x1 := (BW.out.cell (p := ⟨b, o + j * 3 + 1, none⟩) hbw).trans c1
          have x2 := (BW.out.cell (p := ⟨b, o + j * 3 + 2, none⟩) hbw).trans c2
          refine wpAnyH_take (i := 0) (oi := ⟨some 16, _, _, _, _, _⟩) (v := ?_) rfl (by kernel_rfl) (by kernel_rfl) (by kernel_rfl) (fun _ _ _ h => h) (Or.inl ⟨by rfl, ?_⟩) hS0 ?_
          rotate_left
          · (intro wS hSw; (try dsimp only at hSw); go_simp); all_goals (with_reducible rfl)
          try simp only [Act.put, List.setIfInBounds_toArray, List.set_cons_zero, List.set_cons_succ]
          refine wpAnyH_take (i := 1) (oi := ⟨some 17, _, _, _, _, _⟩) (v := ?_) rfl (by kernel_rfl) (by kernel_rfl) (by kernel_rfl) (fun _ _ _ h => h) (Or.inl ⟨by rfl, ?_⟩) hS0 ?_
          rotate_left
          · (intro wS hSw; (try dsimp only at hSw); go_simp); all_goals (with_reducible rfl)
          try simp only [Act.put, List.setIfInBounds_toArray, List.set_cons_zero, List.set_cons_succ]
          refine wpAnyH_take (i := 2) (oi := ⟨some 18, _, _, _, _, _⟩) (v := ?_) rfl (by kernel_rfl) (by kernel_rfl) (by kernel_rfl) (fun _ _ _ h => h) (Or.inl ⟨by rfl, ?_⟩) hS0 ?_
          rotate_left
          · (intro wS hSw; (try dsimp only at hSw); go_simp); all_goals (with_reducible rfl)
          try simp only [Act.put, List.setIfInBounds_toArray, List.set_cons_zero, List.set_cons_succ]
          refine wpAnyH_take (i := 3) (oi := ⟨some 19, _, _, _, _, _⟩) (v := ?_) rfl (by kernel_rfl) (by kernel_rfl) (by kernel_rfl) (fun _ _ _ h => h) (Or.inl ⟨by rfl, ?_⟩) hS0 ?_
          rotate_left
          · (intro wS hSw; (try dsimp only at hSw); go_simp); all_goals (with_reducible rfl)
          try simp only [Act.put, List.setIfInBounds_toArray, List.set_cons_zero, List.set_cons_succ]
          refine wpAnyH_take (i := 4) (oi := ⟨some 20, _, _, _, _, _⟩) (v := ?_) rfl (by kernel_rfl) (by kernel_rfl) (by kernel_rfl) (fun _ _ _ h => h) (Or.inl ⟨by rfl, ?_⟩) hS0 ?_
          rotate_left
          · (intro wS hSw; (try dsimp only at hSw); go_simp); all_goals (with_reducible rfl)
          try simp only [Act.put, List.setIfInBounds_toArray, List.set_cons_zero, List.set_cons_succ]
          refine wpAnyH_take (i := 5) (oi := ⟨some 21, _, _, _, _, _⟩) (v := ?_) rfl (by kernel_rfl) (by kernel_rfl) (by kernel_rfl) (fun _ _ _ h => h) (Or.inl ⟨by rfl, ?_⟩) hS0 ?_
          rotate_left
          · (intro wS hSw; (try dsimp only at hSw); go_simp); all_goals (with_reducible rfl)
          try simp only [Act.put, List.setIfInBounds_toArray, List.set_cons_zero, List.set_cons_succ]
          refine wpAnyH_take (i := 6) (oi := ⟨some 22, _, _, _, _, _⟩) (v := ?_) rfl (by kernel_rfl) (by kernel_rfl) (by kernel_rfl) (fun _ _ _ h => h) (Or.inl ⟨by rfl, ?_⟩) hS0 ?_
          rotate_left
          · (intro wS hSw; (try dsimp only at hSw); go_simp); all_goals (with_reducible rfl)
          try simp only [Act.put, List.setIfInBounds_toArray, List.set_cons_zero, List.set_cons_succ]
          refine wpAnyH_take (i := 7) (oi := ⟨some 23, _, _, _, _, _⟩) (v := ?_) rfl (by kernel_rfl) (by kernel_rfl) (by kernel_rfl) (fun _ _ _ h => h) (Or.inl ⟨by rfl, ?_⟩) hS0 ?_
          rotate_left
          · (intro wS hSw; (try dsimp only at hSw); go_simp); all_goals (with_reducible rfl)
          try simp only [Act.put, List.setIfInBounds_toArray, List.set_cons_zero, List.set_cons_succ]
          refine wpAnyH_take (i := 8) (oi := ⟨some 24, _, _, _, _, _⟩) (v := ?_) rfl (by kernel_rfl) (by kernel_rfl) (by kernel_rfl) (fun _ _ _ h => h) (Or.inl ⟨by rfl, ?_⟩) hS0 ?_
          rotate_left
          · (intro wS hSw; (try dsimp only at hSw); go_simp); all_goals (with_reducible rfl)
          try simp only [Act.put, List.setIfInBounds_toArray, List.set_cons_zero, List.set_cons_succ]
          refine wpAnyH_take (i := 9) (oi := ⟨some 25, _, _, _, _, _⟩) (v := ?_) rfl (by kernel_rfl) (by kernel_rfl) (by kernel_rfl) (fun _ _ _ h => h) (Or.inl ⟨by rfl, ?_⟩) hS0 ?_
          rotate_left
          · (intro wS hSw; (try dsimp only at hSw); go_simp); all_goals (with_reducible rfl)
          try simp only [Act.put, List.setIfInBounds_toArray, List.set_cons_zero, List.set_cons_succ]
          refine wpAnyH_take (i := 10) (oi := ⟨some 26, _, _, _, _, _⟩) (v := ?_) rfl (by kernel_rfl) (by kernel_rfl) (by kernel_rfl) (fun _ _ _ h => h) (Or.inl ⟨by rfl, ?_⟩) hS0 ?_
          rotate_left
          · (intro wS hSw; (try dsimp only at hSw); go_simp); all_goals (with_reducible rfl)
          try simp only [Act.put, List.setIfInBounds_toArray, List.set_cons_zero, List.set_cons_succ]
          refine wpAnyH_take (i := 11) (oi := ⟨some 27, _, _, _, _, _⟩) (v := ?_) rfl (by kernel_rfl) (by kernel_rfl) (by kernel_rfl) (fun _ _ _ h => h) (Or.inl ⟨by rfl, ?_⟩) hS0 ?_
          rotate_left
          · (intro wS hSw; (try dsimp only at hSw); go_simp); all_goals (with_reducible rfl)
          try simp only [Act.put, List.setIfInBounds_toArray, List.set_cons_zero, List.set_cons_succ]
          refine wpAnyH_take (i := 12) (oi := ⟨some 28, _, _, _, _, _⟩) (v := ?_) rfl (by kernel_rfl) (by kernel_rfl) (by kernel_rfl) (fun _ _ _ h => h) (Or.inl ⟨by rfl, ?_⟩) hS0 ?_
          rotate_left
          · (intro wS hSw; (try dsimp only at hSw); go_simp); all_goals (with_reducible rfl)
          try simp only [Act.put, List.setIfInBounds_toArray, List.set_cons_zero, List.set_cons_succ]
          refine wpAnyH_take (i := 13) (oi := ⟨some 29, _, _, _, _, _⟩) (v := ?_) rfl (by kernel_rfl) (by kernel_rfl) (by kernel_rfl) (fun _ _ _ h => h) (Or.inl ⟨by rfl, ?_⟩) hS0 ?_
          rotate_left
          · (intro wS hSw; (try dsimp only at hSw); go_simp); all_goals (with_reducible rfl)
          try simp only [Act.put, List.setIfInBounds_toArray, List.set_cons_zero, List.set_cons_succ]
          refine wpAnyH_take (i := 14) (oi := ⟨some 30, _, _, _, _, _⟩) (v := ?_) rfl (by kernel_rfl) (by kernel_rfl) (by kernel_rfl) (fun _ _ _ h => h) (Or.inl ⟨by rfl, ?_⟩) hS0 ?_
          rotate_left
          · (intro wS hSw; (try dsimp only at hSw); go_simp); all_goals (with_reducible rfl)
          try simp only [Act.put, List.setIfInBounds_toArray, List.set_cons_zero, List.set_cons_succ]
          refine wpAnyH_take (i := 15) (oi := ⟨some 31, _, _, _, _, _⟩) (v := ?_) rfl (by kernel_rfl) (by kernel_rfl) (by kernel_rfl) (fun _ _ _ h => h) (Or.inl ⟨by rfl, ?_⟩) hS0 ?_
          rotate_left
          · (intro wS hSw; (try dsimp only at hSw); go_simp); all_goals (with_reducible rfl)
          try simp only [Act.put, List.setIfInBounds_toArray, List.set_cons_zero, List.set_cons_succ]
          refine wpAnyH_take (i := 16) (oi := ⟨some 32, _, _, _, _, _⟩) (v := ?_) rfl (by kernel_rfl) (by kernel_rfl) (by kernel_rfl) (fun _ _ _ h => h) (Or.inl ⟨by rfl, ?_⟩) hS0 ?_
          rotate_left
          · (intro wS hSw; (try dsimp only at hSw); go_simp); all_goals (with_reducible rfl)
          try simp only [Act.put, List.setIfInBounds_toArray, List.set_cons_zero, List.set_cons_succ]
          refine wpAnyH_take (i := 17) (oi := ⟨some 33, _, _, _, _, _⟩) (v := ?_) rfl (by kernel_rfl) (by kernel_rfl) (by kernel_rfl) (fun _ _ _ h => h) (Or.inl ⟨by rfl, ?_⟩) hS0 ?_
          rotate_left
          · (intro wS hSw; (try dsimp only at hSw); go_simp); all_goals (with_reducible rfl)
          try simp only [Act.put, List.setIfInBounds_toArray, List.set_cons_zero, List.set_cons_succ]
          refine wpAnyH_take (i := 18) (oi := ⟨some 34, _, _, _, _, _⟩) (v := ?_) rfl (by kernel_rfl) (by kernel_rfl) (by kernel_rfl) (fun _ _ _ h => h) (Or.inl ⟨by rfl, ?_⟩) hS0 ?_
          rotate_left
          · (intro wS hSw; (try dsimp only at hSw); go_simp); all_goals (with_reducible rfl)
          try simp only [Act.put, List.setIfInBounds_toArray, List.set_cons_zero, List.set_cons_succ]
          refine wpAnyH_take (i := 19) (oi := ⟨some 35, _, _, _, _, _⟩) (v := ?_) rfl (by kernel_rfl) (by kernel_rfl) (by kernel_rfl) (fun _ _ _ h => h) (Or.inl ⟨by rfl, ?_⟩) hS0 ?_
          rotate_left
          · (intro wS hSw; (try dsimp only at hSw); go_simp); all_goals (with_reducible rfl)
          try simp only [Act.put, List.setIfInBounds_toArray, List.set_cons_zero, List.set_cons_succ]
          refine wpAnyH_ready (rs := [20]) (by kernel_rfl) (by simp) ?_
          refine AllReadyH.cons (o := ⟨some 5, _, _, _, _, _⟩) rfl (fun K hK => ?_) AllReadyH.nil
          go_simp
          have BD := Lib.hid ((Below.refl wr.heap.size WD).alloc (by rw [ZD.out]; exact Nat.le_refl _) (.cells #[.string ⟨#[]⟩, .bool false, .slice none 0 0] 24))
          have XD : Hid (Whole (WD.alloc (.cells #[.string ⟨#[]⟩, .bool false, .slice none 0 0] 24)) wr.heap.size 24 #[.string ⟨#[]⟩, .bool false, .slice none 0 0]) := Lib.hid (by rw [← ZD.out]; exact Whole.new _ _ _)
          have y0 := (BD.out.cell (p := ⟨b, o + j * 3, none⟩) hbw).trans x0
          have y1 := (BD.out.cell (p := ⟨b, o + j * 3 + 1, none⟩) hbw).trans x1
          have y2 := (BD.out.cell (p := ⟨b, o + j * 3 + 2, none⟩) hbw).trans x2
          refine hK.out _ _ ⟨y0, y1, y2⟩ (fun hS20 => ?_)
          clear hK K
          try simp only [Act.put, List.setIfInBounds_toArray, List.set_cons_zero, List.set_cons_succ]
          obtain ⟨WE, hWE⟩ : ∃ W, W = WD.alloc (.cells #[.string ⟨#[]⟩, .bool false, .slice none 0 0] 24) := ⟨_, rfl⟩
          have xe := XD.out
          have be' := BD.out
          have zd := ZD.out
          rw [← hWE] at xe be' y0 y1 y2 hS20 ⊢
          rw [zd]
          have XD := Lib.hid xe
          have BD := Lib.hid (BW.out.trans be')
          clear hWE xe be' zd
          have q0 := XD.out.cell 0
          have q1 := XD.out.cell 1
          have q2 := XD.out.cell 2
          have f0 := XD.out.frozen 0
          have f1 := XD.out.frozen 1
          have f2 := XD.out.frozen 2
          refine wpAnyH_ready (rs := [21]) (by kernel_rfl) (by simp) ?_
          refine AllReadyH.cons (o := ⟨none, _, _, _, _, _⟩) rfl (fun K hK => ?_) AllReadyH.nil
          go_simp
          have D0 := Lib.hid (((BD.out.setCell (p := ⟨wr.heap.size, 0, none⟩) (Nat.le_refl _) (.string ⟨(107 :: P).toArray⟩)).setCell (p := ⟨wr.heap.size, 1, none⟩) (Nat.le_refl _) (.bool m.o.del)).setCell (p := ⟨wr.heap.size, 2, none⟩) (Nat.le_refl _) (.slice none 0 0))
          have X0 := Lib.hid (put3 (.string ⟨(107 :: P).toArray⟩) (.bool m.o.del) (.slice none 0 0) XD.out)
          have z0 := (D0.out.cell (p := ⟨b, o + j * 3, none⟩) hbw).trans (c0)
          have z1 := (D0.out.cell (p := ⟨b, o + j * 3 + 1, none⟩) hbw).trans (c1)
          have z2 := (D0.out.cell (p := ⟨b, o + j * 3 + 2, none⟩) hbw).trans (c2)
          refine hK.out _ _ ⟨z0, z1, z2⟩ (fun hS21 => ?_)
          clear hK K
          try simp only [Act.put, List.setIfInBounds_toArray, List.set_cons_zero, List.set_cons_succ]
          refine wpAnyH_done (by kernel_rfl) ?_ _
          go_wp2_with fail
          go_meet
          exact ⟨rfl, X0.out, D0.out⟩
      case rest =>
        obtain ⟨rfl, hx1, hb1⟩ := hcut
        obtain ⟨WC, hWC⟩ : ∃ W, W = wc := ⟨_, rfl⟩
        rw [← hWC] at hx1 hb1
        rw [← hWC]
        clear hWC s1 ck pk cl
        have HX1 := Lib.hid hx1
        have HB1 := Lib.hid hb1
        have t1 : WC.cell? ⟨wr.heap.size, 1, none⟩ = some (.bool m.o.del) := hx1.cell 1
        have d0 := (hb1.cell (p := ⟨b, o + j * 3, none⟩) hbw).trans c0
        have d1 := (hb1.cell (p := ⟨b, o + j * 3 + 1, none⟩) hbw).trans c1
        have d2 := (hb1.cell (p := ⟨b, o + j * 3 + 2, none⟩) hbw).trans c2
        clear hx1 hb1
        go_upto_region 6 with fail
        obtain ⟨dl, hdl⟩ : ∃ dl, dl = m.o.del := ⟨_, rfl⟩
        rw [← hdl] at t1
        have HDL := Lib.hid hdl
        clear hdl
        cases dl with
        | true =>
          have hx : Whole WC wr.heap.size 24 (cellsOm (tmM m)).toArray := by
            have := HX1.out
            rw [← HDL.out] at this
            unfold cellsOm tmM tmO
            rw [← HDL.out, ← HP.out]
            exact this
          have hbb := HB1.out
          go_upto_region 8 with fail
          obtain ⟨WF, hWF⟩ : ∃ W, W = WC := ⟨_, rfl⟩
          rw [← hWF] at hx hbb
          rw [← hWF]
          clear hWF t1
          obtain ⟨M, hM⟩ : ∃ M, M = tmM m := ⟨_, rfl⟩
          rw [← hM] at hx
          have y0 : WF.cell? ⟨wr.heap.size, 0, none⟩ = some (.string ⟨M.o.key.toArray⟩) := hx.cell 0
          have y1 : WF.cell? ⟨wr.heap.size, 1, none⟩ = some (.bool M.o.del) := hx.cell 1
          have y2 : WF.cell? ⟨wr.heap.size, 2, none⟩ = some (.slice M.A M.o.val.length M.c) := hx.cell 2
          have HMM := Lib.hid hM
          have bel6 := HU.out.bel.trans (hbb.mono HU.out.bel.size)
          have O6 := Lib.hid (HU.out.own.kept (only_below hbb none) (Classical.em _))
          have HB6 := Lib.hid bel6
          have HX6 := Lib.hid hx
          have HR1 : Hid (j + 1 ≤ maxLen) := Lib.hid (room63 (by omega))
          have HR2 : Hid ((j + 1) * 48 ≤ 140737488355328) := Lib.hid (by omega)
          have HR3 : Hid (w.heap.size ≤ WF.heap.size) := Lib.hid bel6.size
          clear hx hbb bel6 hM
          go_wp2_with (at_builtin; go_must (refine wpList_append_cells rfl _ _ 25 rfl w.heap.size 24 i0 _ 3 48 Try.underlying25 HI.out H0.out H1.out H2.out rfl (by omega) (.slice A5 j c5) j _ rfl (O6.out.alloc _) _ _ 1 1 (cellsOm M) rfl (Lies.lit WF 24 (cellsOm M)) rfl (cellsOm_one _) HR1.out HR2.out (by have := HR3.out; simp; omega) ?_); intro v7 w7 o7 b7; have U7 : Hid (TaAt w w7 l (j + 1) v7) := Lib.hid ⟨by rw [HST.out, cellsOms_append, ← HMM.out]; simpa [cellsOms] using o7, (HB6.out.alloc HB6.out.size _).trans b7⟩; clear o7 b7)
          go_roundw
          case rel => exact ⟨j + 1, by omega, by omega, by go_num, U7.out⟩
          case measure => simp [intOf]; omega
        | false =>
          have hvc := (HT.out.2.2.2 m (by rw [HMEM.out]; exact List.getElem_mem h1)).2.1
          have hvm := (HT.out.2.2.2 m (by rw [HMEM.out]; exact List.getElem_mem h1)).2.2
          unfold maxLen at hvm
          have t2 := HX1.out.cell 2
          go_upto_region 7 with fail
          by_cases q : m.o.val.length ≤ 300
          · have q' : (m.o.val.length : Int) ≤ 300 := by omega
            have mi : (if (300 : Int) < (m.o.val.length : Int) then (300 : Int) else (m.o.val.length : Int)) = (m.o.val.length : Int) := if_neg (by omega)
            have QE : Hid (Q.length = m.o.val.length) := Lib.hid (by rw [HQ.out, List.take_of_length_le q])
            refine wp_region_held_drew (S := (fun w' => w'.cell? ⟨b, o + j * 3, none⟩ = some (.string ⟨m.o.key.toArray⟩) ∧ w'.cell? ⟨b, o + j * 3 + 1, none⟩ = some (.bool m.o.del) ∧ w'.cell? ⟨b, o + j * 3 + 2, none⟩ = some (.slice m.A m.o.val.length m.c))) (by kernel_rfl) ⟨d0, d1, d2⟩ (fun hS0 => ?_)
            obtain ⟨WD, hWD⟩ : ∃ WD, WD = WC.drew := ⟨_, rfl⟩
            have BW : Hid (Below wr.heap.size wr WD) := Lib.hid (by rw [hWD]; exact HB1.out.drew)
            have XW : Hid (Whole WD wr.heap.size 24 #[.string ⟨(107 :: P).toArray⟩, .bool m.o.del, .slice none 0 0]) := Lib.hid (by rw [hWD]; exact HX1.out)
            rw [← hWD] at hS0 ⊢
            clear hWD
            have e2 := XW.out.cell 2
            have g2 := XW.out.frozen 2
            refine wpAnyH_take (i := 0) (oi := ⟨some 39, _, _, _, _, _⟩) (v := ?_) rfl (by kernel_rfl) (by kernel_rfl) (by kernel_rfl) (fun _ _ _ h => h) (Or.inl ⟨by rfl, ?_⟩) hS0 ?_
            rotate_left
            · (intro wS hSw; (try dsimp only at hSw); go_simp); all_goals (with_reducible rfl)
            try simp only [Act.put, List.setIfInBounds_toArray, List.set_cons_zero, List.set_cons_succ]
            refine wpAnyH_take (i := 1) (oi := ⟨some 40, _, _, _, _, _⟩) (v := ?_) rfl (by kernel_rfl) (by kernel_rfl) (by kernel_rfl) (fun _ _ _ h => h) (Or.inl ⟨by rfl, ?_⟩) hS0 ?_
            rotate_left
            · (intro wS hSw; (try dsimp only at hSw); go_simp); all_goals (with_reducible rfl)
            try simp only [Act.put, List.setIfInBounds_toArray, List.set_cons_zero, List.set_cons_succ]
            refine wpAnyH_take (i := 2) (oi := ⟨some 41, _, _, _, _, _⟩) (v := ?_) rfl (by kernel_rfl) (by kernel_rfl) (by kernel_rfl) (fun _ _ _ h => h) (Or.inl ⟨by rfl, ?_⟩) hS0 ?_
            rotate_left
            · (intro wS hSw; (try dsimp only at hSw); go_simp); all_goals (with_reducible rfl)
            try simp only [Act.put, List.setIfInBounds_toArray, List.set_cons_zero, List.set_cons_succ]
            refine wpAnyH_take (i := 3) (oi := ⟨some 42, _, _, _, _, _⟩) (v := ?_) rfl (by kernel_rfl) (by kernel_rfl) (by kernel_rfl) (fun _ _ _ h => h) (Or.inl ⟨by rfl, ?_⟩) hS0 ?_
            rotate_left
            · (intro wS hSw; (try dsimp only at hSw); go_simp); all_goals (with_reducible rfl)
            try simp only [Act.put, List.setIfInBounds_toArray, List.set_cons_zero, List.set_cons_succ]
            refine wpAnyH_take (i := 4) (oi := ⟨some 43, _, _, _, _, _⟩) (v := ?_) rfl (by kernel_rfl) (by kernel_rfl) (by kernel_rfl) (fun _ _ _ h => h) (Or.inl ⟨by rfl, ?_⟩) hS0 ?_
            rotate_left
            · (intro wS hSw; (try dsimp only at hSw); go_simp); all_goals (with_reducible rfl)
            try simp only [Act.put, List.setIfInBounds_toArray, List.set_cons_zero, List.set_cons_succ]
            refine wpAnyH_take (i := 5) (oi := ⟨some 44, _, _, _, _, _⟩) (v := ?_) rfl (by kernel_rfl) (by kernel_rfl) (by kernel_rfl) (fun _ _ _ h => h) (Or.inl ⟨by rfl, ?_⟩) hS0 ?_
            rotate_left
            · (intro wS hSw; (try dsimp only at hSw); go_simp); all_goals (with_reducible rfl)
            try simp only [Act.put, List.setIfInBounds_toArray, List.set_cons_zero, List.set_cons_succ]
            refine wpAnyH_take (i := 6) (oi := ⟨some 45, _, _, _, _, _⟩) (v := ?_) rfl (by kernel_rfl) (by kernel_rfl) (by kernel_rfl) (fun _ _ _ h => h) (Or.inl ⟨by rfl, ?_⟩) hS0 ?_
            rotate_left
            · (intro wS hSw; (try dsimp only at hSw); go_simp); all_goals (with_reducible rfl)
            try simp only [Act.put, List.setIfInBounds_toArray, List.set_cons_zero, List.set_cons_succ]
            refine wpAnyH_take (i := 7) (oi := ⟨some 46, _, _, _, _, _⟩) (v := ?_) rfl (by kernel_rfl) (by kernel_rfl) (by kernel_rfl) (fun _ _ _ h => h) (Or.inl ⟨by rfl, ?_⟩) hS0 ?_
            rotate_left
            · (intro wS hSw; (try dsimp only at hSw); go_simp); all_goals (with_reducible rfl)
            try simp only [Act.put, List.setIfInBounds_toArray, List.set_cons_zero, List.set_cons_succ]
            refine wpAnyH_take (i := 8) (oi := ⟨some 47, _, _, _, _, _⟩) (v := ?_) rfl (by kernel_rfl) (by kernel_rfl) (by kernel_rfl) (fun _ _ _ h => h) (Or.inl ⟨by rfl, ?_⟩) hS0 ?_
            rotate_left
            · (intro wS hSw; (try dsimp only at hSw); go_simp); all_goals (with_reducible rfl)
            try simp only [Act.put, List.setIfInBounds_toArray, List.set_cons_zero, List.set_cons_succ]
            refine wpAnyH_take (i := 9) (oi := ⟨some 48, _, _, _, _, _⟩) (v := ?_) rfl (by kernel_rfl) (by kernel_rfl) (by kernel_rfl) (fun _ _ _ h => h) (Or.inl ⟨by rfl, ?_⟩) hS0 ?_
            rotate_left
            · (intro wS hSw; (try dsimp only at hSw); go_simp); all_goals (with_reducible rfl)
            try simp only [Act.put, List.setIfInBounds_toArray, List.set_cons_zero, List.set_cons_succ]
            refine wpAnyH_take (i := 10) (oi := ⟨some 49, _, _, _, _, _⟩) (v := ?_) rfl (by kernel_rfl) (by kernel_rfl) (by kernel_rfl) (fun _ _ _ h => h) (Or.inl ⟨by rfl, ?_⟩) hS0 ?_
            rotate_left
            · (intro wS hSw; (try dsimp only at hSw); go_simp); all_goals (with_reducible rfl)
            try simp only [Act.put, List.setIfInBounds_toArray, List.set_cons_zero, List.set_cons_succ]
            refine wpAnyH_take (i := 11) (oi := ⟨some 50, _, _, _, _, _⟩) (v := ?_) rfl (by kernel_rfl) (by kernel_rfl) (by kernel_rfl) (fun _ _ _ h => h) (Or.inl ⟨by rfl, ?_⟩) hS0 ?_
            rotate_left
            · (intro wS hSw; (try dsimp only at hSw); go_simp); all_goals (with_reducible rfl)
            try simp only [Act.put, List.setIfInBounds_toArray, List.set_cons_zero, List.set_cons_succ]
            refine wpAnyH_take (i := 12) (oi := ⟨some 51, _, _, _, _, _⟩) (v := ?_) rfl (by kernel_rfl) (by kernel_rfl) (by kernel_rfl) (fun _ _ _ h => h) (Or.inl ⟨by rfl, ?_⟩) hS0 ?_
            rotate_left
            · (intro wS hSw; (try dsimp only at hSw); go_simp); all_goals (with_reducible rfl)
            try simp only [Act.put, List.setIfInBounds_toArray, List.set_cons_zero, List.set_cons_succ]
            refine wpAnyH_take (i := 13) (oi := ⟨some 52, _, _, _, _, _⟩) (v := ?_) rfl (by kernel_rfl) (by kernel_rfl) (by kernel_rfl) (fun _ _ _ h => h) (Or.inl ⟨by rfl, ?_⟩) hS0 ?_
            rotate_left
            · (intro wS hSw; (try dsimp only at hSw); go_simp); all_goals (with_reducible rfl)
            try simp only [Act.put, List.setIfInBounds_toArray, List.set_cons_zero, List.set_cons_succ]
            refine wpAnyH_ready (rs := [14]) (by kernel_rfl) (by simp) ?_
            refine AllReadyH.cons (o := ⟨none, _, _, _, _, _⟩) rfl (fun K hK => ?_) AllReadyH.nil
            go_simp
            have D0 := Lib.hid (BW.out.setCell (p := ⟨wr.heap.size, 2, none⟩) (Nat.le_refl _) (.slice m.A m.o.val.length m.c))
            have X0 := Lib.hid (XW.out.put 2 (.slice m.A m.o.val.length m.c))
            have z0 := (D0.out.cell (p := ⟨b, o + j * 3, none⟩) hbw).trans (c0)
            have z1 := (D0.out.cell (p := ⟨b, o + j * 3 + 1, none⟩) hbw).trans (c1)
            have z2 := (D0.out.cell (p := ⟨b, o + j * 3 + 2, none⟩) hbw).trans (c2)
            refine hK.out _ _ ⟨z0, z1, z2⟩ (fun hS14 => ?_)
            clear hK K
            try simp only [Act.put, List.setIfInBounds_toArray, List.set_cons_zero, List.set_cons_succ]
            refine wpAnyH_done (by kernel_rfl) ?_ _
            go_upto_region 8 with fail
            have hx := X0.out
            have hbb := D0.out
            obtain ⟨WF, hWF⟩ : ∃ W, W = WD.setCell ⟨wr.heap.size, 2, none⟩ (.slice m.A m.o.val.length m.c) := ⟨_, rfl⟩
            rw [← hWF] at hx hbb
            rw [← hWF]
            clear hWF e2 g2 d0 d1 d2 z0 z1 z2 t2
            have hx : Whole WF wr.heap.size 24 (cellsOm (tmM m)).toArray := by
              have := hx
              unfold cellsOm tmM tmO
              rw [← HDL.out]
              simp only [Bool.false_eq_true, if_false]
              rw [← HP.out, ← HQ.out, QE.out, HDL.out]
              exact this
            obtain ⟨M, hM⟩ : ∃ M, M = tmM m := ⟨_, rfl⟩
            rw [← hM] at hx
            have y0 : WF.cell? ⟨wr.heap.size, 0, none⟩ = some (.string ⟨M.o.key.toArray⟩) := hx.cell 0
            have y1 : WF.cell? ⟨wr.heap.size, 1, none⟩ = some (.bool M.o.del) := hx.cell 1
            have y2 : WF.cell? ⟨wr.heap.size, 2, none⟩ = some (.slice M.A M.o.val.length M.c) := hx.cell 2
            have HMM := Lib.hid hM
            have bel6 := HU.out.bel.trans (hbb.mono HU.out.bel.size)
            have O6 := Lib.hid (HU.out.own.kept (only_below hbb none) (Classical.em _))
            have HB6 := Lib.hid bel6
            have HX6 := Lib.hid hx
            have HR1 : Hid (j + 1 ≤ maxLen) := Lib.hid (room63 (by omega))
            have HR2 : Hid ((j + 1) * 48 ≤ 140737488355328) := Lib.hid (by omega)
            have HR3 : Hid (w.heap.size ≤ WF.heap.size) := Lib.hid bel6.size
            clear hx hbb bel6 hM
            go_wp2_with (at_builtin; go_must (refine wpList_append_cells rfl _ _ 25 rfl w.heap.size 24 i0 _ 3 48 Try.underlying25 HI.out H0.out H1.out H2.out rfl (by omega) (.slice A5 j c5) j _ rfl (O6.out.alloc _) _ _ 1 1 (cellsOm M) rfl (Lies.lit WF 24 (cellsOm M)) rfl (cellsOm_one _) HR1.out HR2.out (by have := HR3.out; simp; omega) ?_); intro v7 w7 o7 b7; have U7 : Hid (TaAt w w7 l (j + 1) v7) := Lib.hid ⟨by rw [HST.out, cellsOms_append, ← HMM.out]; simpa [cellsOms] using o7, (HB6.out.alloc HB6.out.size _).trans b7⟩; clear o7 b7)
            go_roundw
            case rel => exact ⟨j + 1, by omega, by omega, by go_num, U7.out⟩
            case measure => simp [intOf]; omega
          · have q' : (300 : Int) < m.o.val.length := by omega
            have q2 : (300 : Int) ≤ m.o.val.length := by omega
            have q3 : (300 : Int) ≤ m.c := by omega
            have QE : Hid (Q.length = 300) := Lib.hid (by rw [HQ.out, List.length_take]; omega)
            refine wp_region_held_drew (S := (fun w' => w'.cell? ⟨b, o + j * 3, none⟩ = some (.string ⟨m.o.key.toArray⟩) ∧ w'.cell? ⟨b, o + j * 3 + 1, none⟩ = some (.bool m.o.del) ∧ w'.cell? ⟨b, o + j * 3 + 2, none⟩ = some (.slice m.A m.o.val.length m.c))) (by kernel_rfl) ⟨d0, d1, d2⟩ (fun hS0 => ?_)
            obtain ⟨WD, hWD⟩ : ∃ WD, WD = WC.drew := ⟨_, rfl⟩
            have BW : Hid (Below wr.heap.size wr WD) := Lib.hid (by rw [hWD]; exact HB1.out.drew)
            have XW : Hid (Whole WD wr.heap.size 24 #[.string ⟨(107 :: P).toArray⟩, .bool m.o.del, .slice none 0 0]) := Lib.hid (by rw [hWD]; exact HX1.out)
            rw [← hWD] at hS0 ⊢
            clear hWD
            have e2 := XW.out.cell 2
            have g2 := XW.out.frozen 2
            refine wpAnyH_take (i := 0) (oi := ⟨some 39, _, _, _, _, _⟩) (v := ?_) rfl (by kernel_rfl) (by kernel_rfl) (by kernel_rfl) (fun _ _ _ h => h) (Or.inl ⟨by rfl, ?_⟩) hS0 ?_
            rotate_left
            · (intro wS hSw; (try dsimp only at hSw); go_simp); all_goals (with_reducible rfl)
            try simp only [Act.put, List.setIfInBounds_toArray, List.set_cons_zero, List.set_cons_succ]
            refine wpAnyH_take (i := 1) (oi := ⟨some 40, _, _, _, _, _⟩) (v := ?_) rfl (by kernel_rfl) (by kernel_rfl) (by kernel_rfl) (fun _ _ _ h => h) (Or.inl ⟨by rfl, ?_⟩) hS0 ?_
            rotate_left
            · (intro wS hSw; (try dsimp only at hSw); go_simp); all_goals (with_reducible rfl)
            try simp only [Act.put, List.setIfInBounds_toArray, List.set_cons_zero, List.set_cons_succ]
            refine wpAnyH_take (i := 2) (oi := ⟨some 41, _, _, _, _, _⟩) (v := ?_) rfl (by kernel_rfl) (by kernel_rfl) (by kernel_rfl) (fun _ _ _ h => h) (Or.inl ⟨by rfl, ?_⟩) hS0 ?_
            rotate_left
            · (intro wS hSw; (try dsimp only at hSw); go_simp); all_goals (with_reducible rfl)
            try simp only [Act.put, List.setIfInBounds_toArray, List.set_cons_zero, List.set_cons_succ]
            refine wpAnyH_take (i := 3) (oi := ⟨some 42, _, _, _, _, _⟩) (v := ?_) rfl (by kernel_rfl) (by kernel_rfl) (by kernel_rfl) (fun _ _ _ h => h) (Or.inl ⟨by rfl, ?_⟩) hS0 ?_
            rotate_left
            · (intro wS hSw; (try dsimp only at hSw); go_simp); all_goals (with_reducible rfl)
            try simp only [Act.put, List.setIfInBounds_toArray, List.set_cons_zero, List.set_cons_succ]
            refine wpAnyH_take (i := 4) (oi := ⟨some 43, _, _, _, _, _⟩) (v := ?_) rfl (by kernel_rfl) (by kernel_rfl) (by kernel_rfl) (fun _ _ _ h => h) (Or.inl ⟨by rfl, ?_⟩) hS0 ?_
            rotate_left
            · (intro wS hSw; (try dsimp only at hSw); go_simp); all_goals (with_reducible rfl)
            try simp only [Act.put, List.setIfInBounds_toArray, List.set_cons_zero, List.set_cons_succ]
            refine wpAnyH_take (i := 5) (oi := ⟨some 44, _, _, _, _, _⟩) (v := ?_) rfl (by kernel_rfl) (by kernel_rfl) (by kernel_rfl) (fun _ _ _ h => h) (Or.inl ⟨by rfl, ?_⟩) hS0 ?_
            rotate_left
            · (intro wS hSw; (try dsimp only at hSw); go_simp); all_goals (with_reducible rfl)
            try simp only [Act.put, List.setIfInBounds_toArray, List.set_cons_zero, List.set_cons_succ]
            refine wpAnyH_take (i := 6) (oi := ⟨some 45, _, _, _, _, _⟩) (v := ?_) rfl (by kernel_rfl) (by kernel_rfl) (by kernel_rfl) (fun _ _ _ h => h) (Or.inl ⟨by rfl, ?_⟩) hS0 ?_
            rotate_left
            · (intro wS hSw; (try dsimp only at hSw); go_simp); all_goals (with_reducible rfl)
            try simp only [Act.put, List.setIfInBounds_toArray, List.set_cons_zero, List.set_cons_succ]
            refine wpAnyH_take (i := 7) (oi := ⟨some 46, _, _, _, _, _⟩) (v := ?_) rfl (by kernel_rfl) (by kernel_rfl) (by kernel_rfl) (fun _ _ _ h => h) (Or.inl ⟨by rfl, ?_⟩) hS0 ?_
            rotate_left
            · (intro wS hSw; (try dsimp only at hSw); go_simp); all_goals (with_reducible rfl)
            try simp only [Act.put, List.setIfInBounds_toArray, List.set_cons_zero, List.set_cons_succ]
            refine wpAnyH_take (i := 8) (oi := ⟨some 47, _, _, _, _, _⟩) (v := ?_) rfl (by kernel_rfl) (by kernel_rfl) (by kernel_rfl) (fun _ _ _ h => h) (Or.inl ⟨by rfl, ?_⟩) hS0 ?_
            rotate_left
            · (intro wS hSw; (try dsimp only at hSw); go_simp); all_goals (with_reducible rfl)
            try simp only [Act.put, List.setIfInBounds_toArray, List.set_cons_zero, List.set_cons_succ]
            refine wpAnyH_take (i := 9) (oi := ⟨some 48, _, _, _, _, _⟩) (v := ?_) rfl (by kernel_rfl) (by kernel_rfl) (by kernel_rfl) (fun _ _ _ h => h) (Or.inl ⟨by rfl, ?_⟩) hS0 ?_
            rotate_left
            · (intro wS hSw; (try dsimp only at hSw); go_simp); all_goals (with_reducible rfl)
            try simp only [Act.put, List.setIfInBounds_toArray, List.set_cons_zero, List.set_cons_succ]
            refine wpAnyH_take (i := 10) (oi := ⟨some 49, _, _, _, _, _⟩) (v := ?_) rfl (by kernel_rfl) (by kernel_rfl) (by kernel_rfl) (fun _ _ _ h => h) (Or.inl ⟨by rfl, ?_⟩) hS0 ?_
            rotate_left
            · (intro wS hSw; (try dsimp only at hSw); go_simp); all_goals (with_reducible rfl)
            try simp only [Act.put, List.setIfInBounds_toArray, List.set_cons_zero, List.set_cons_succ]
            refine wpAnyH_take (i := 11) (oi := ⟨some 50, _, _, _, _, _⟩) (v := ?_) rfl (by kernel_rfl) (by kernel_rfl) (by kernel_rfl) (fun _ _ _ h => h) (Or.inl ⟨by rfl, ?_⟩) hS0 ?_
            rotate_left
            · (intro wS hSw; (try dsimp only at hSw); go_simp); all_goals (with_reducible rfl)
            try simp only [Act.put, List.setIfInBounds_toArray, List.set_cons_zero, List.set_cons_succ]
            refine wpAnyH_take (i := 12) (oi := ⟨some 51, _, _, _, _, _⟩) (v := ?_) rfl (by kernel_rfl) (by kernel_rfl) (by kernel_rfl) (fun _ _ _ h => h) (Or.inl ⟨by rfl, ?_⟩) hS0 ?_
            rotate_left
            · (intro wS hSw; (try dsimp only at hSw); go_simp); all_goals (with_reducible rfl)
            try simp only [Act.put, List.setIfInBounds_toArray, List.set_cons_zero, List.set_cons_succ]
            refine wpAnyH_take (i := 13) (oi := ⟨some 52, _, _, _, _, _⟩) (v := ?_) rfl (by kernel_rfl) (by kernel_rfl) (by kernel_rfl) (fun _ _ _ h => h) (Or.inl ⟨by rfl, ?_⟩) hS0 ?_
            rotate_left
            · (intro wS hSw; (try dsimp only at hSw); go_simp); all_goals (with_reducible rfl)
            try simp only [Act.put, List.setIfInBounds_toArray, List.set_cons_zero, List.set_cons_succ]
            refine wpAnyH_ready (rs := [14]) (by kernel_rfl) (by simp) ?_
            refine AllReadyH.cons (o := ⟨none, _, _, _, _, _⟩) rfl (fun K hK => ?_) AllReadyH.nil
            go_simp
            have D0 := Lib.hid (BW.out.setCell (p := ⟨wr.heap.size, 2, none⟩) (Nat.le_refl _) (.slice m.A 300 m.c))
            have X0 := Lib.hid (XW.out.put 2 (.slice m.A 300 m.c))
            have z0 := (D0.out.cell (p := ⟨b, o + j * 3, none⟩) hbw).trans (c0)
            have z1 := (D0.out.cell (p := ⟨b, o + j * 3 + 1, none⟩) hbw).trans (c1)
            have z2 := (D0.out.cell (p := ⟨b, o + j * 3 + 2, none⟩) hbw).trans (c2)
            refine hK.out _ _ ⟨z0, z1, z2⟩ (fun hS14 => ?_)
            clear hK K
            try simp only [Act.put, List.setIfInBounds_toArray, List.set_cons_zero, List.set_cons_succ]
            refine wpAnyH_done (by kernel_rfl) ?_ _
            go_upto_region 8 with fail
            have hx := X0.out
            have hbb := D0.out
            obtain ⟨WF, hWF⟩ : ∃ W, W = WD.setCell ⟨wr.heap.size, 2, none⟩ (.slice m.A 300 m.c) := ⟨_, rfl⟩
            rw [← hWF] at hx hbb
            rw [← hWF]
            clear hWF e2 g2 d0 d1 d2 z0 z1 z2 t2
            have hx : Whole WF wr.heap.size 24 (cellsOm (tmM m)).toArray := by
              have := hx
              unfold cellsOm tmM tmO
              rw [← HDL.out]
              simp only [Bool.false_eq_true, if_false]
              rw [← HP.out, ← HQ.out, QE.out, HDL.out]
              exact this
            obtain ⟨M, hM⟩ : ∃ M, M = tmM m := ⟨_, rfl⟩
            rw [← hM] at hx
            have y0 : WF.cell? ⟨wr.heap.size, 0, none⟩ = some (.string ⟨M.o.key.toArray⟩) := hx.cell 0
            have y1 : WF.cell? ⟨wr.heap.size, 1, none⟩ = some (.bool M.o.del) := hx.cell 1
            have y2 : WF.cell? ⟨wr.heap.size, 2, none⟩ = some (.slice M.A M.o.val.length M.c) := hx.cell 2
            have HMM := Lib.hid hM
            have bel6 := HU.out.bel.trans (hbb.mono HU.out.bel.size)
            have O6 := Lib.hid (HU.out.own.kept (only_below hbb none) (Classical.em _))
            have HB6 := Lib.hid bel6
            have HX6 := Lib.hid hx
            have HR1 : Hid (j + 1 ≤ maxLen) := Lib.hid (room63 (by omega))
            have HR2 : Hid ((j + 1) * 48 ≤ 140737488355328) := Lib.hid (by omega)
            have HR3 : Hid (w.heap.size ≤ WF.heap.size) := Lib.hid bel6.size
            clear hx hbb bel6 hM
            go_wp2_with (at_builtin; go_must (refine wpList_append_cells rfl _ _ 25 rfl w.heap.size 24 i0 _ 3 48 Try.underlying25 HI.out H0.out H1.out H2.out rfl (by omega) (.slice A5 j c5) j _ rfl (O6.out.alloc _) _ _ 1 1 (cellsOm M) rfl (Lies.lit WF 24 (cellsOm M)) rfl (cellsOm_one _) HR1.out HR2.out (by have := HR3.out; simp; omega) ?_); intro v7 w7 o7 b7; have U7 : Hid (TaAt w w7 l (j + 1) v7) := Lib.hid ⟨by rw [HST.out, cellsOms_append, ← HMM.out]; simpa [cellsOms] using o7, (HB6.out.alloc HB6.out.size _).trans b7⟩; clear o7 b7)
            go_roundw
            case rel => exact ⟨j + 1, by omega, by omega, by go_num, U7.out⟩
            case measure => simp [intOf]; omega
    · have HD := Lib.hid (HDN.out (by omega))
      by_cases h1 : j < l.length
      · have h2 : ¬ j < 30 := by omega
        go_wp2_with fail
        go_ret
        exact HD.out
      · go_wp2_with fail
        go_ret
        exact HD.out
end Go.Proofs.Ytflbjmpbkcjdhaa
