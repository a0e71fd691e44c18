/- Layer 8: a head's sector. -/
import Derived.Test.YtmemdkgoeldemaaGreatDoorJourH
import Derived.Laws.CopyOwn
import Derived.Laws.BitsAllLaws
namespace Go.Proofs.YtmemdkgoeldemaaGreatDoor
open Go.RowKit Go.Maps
set_option maxRecDepth 100000
set_option linter.unusedSimpArgs false
set_option linter.unusedVariables false
theorem wp_rename3 {P : Program} {c : Code} {Q : Exit → Act → World → Prop} {a : Act} {W : World} (I : World → Prop) (hI : I W) (k : ∀ W', I W' → Code.wp P c Q a W') : Code.wp P c Q a W := k W hI
def hdR (h : Hd) : Array Value := #[.int .u64 (h.seq : Int), .int .i64 (h.place : Int), .int .i64 (h.count : Int), .int .i64 (h.kind : Int), .int .i64 (h.size : Int)]
theorem or_num (p c k s : Nat) (hp : p < 65536) (hc : c < 65536) (hk : k < 256) (hs : s < 65536) :
    bits .or .u64 (bits .or .u64 (bits .or .u64 ((p : Int) * 281474976710656) ((c : Int) * 4294967296)) ((k : Int) * 16777216)) (s : Int) = ((p * 281474976710656 + c * 4294967296 + k * 16777216 + s : Nat) : Int) := by
  have j1 := u64_or_nat (p * 281474976710656) (c * 4294967296) (by omega) (by omega)
  have j2 := u64_or_nat (p * 281474976710656 + c * 4294967296) (k * 16777216) (by omega) (by omega)
  have j3 := u64_or_nat (p * 281474976710656 + c * 4294967296 + k * 16777216) s (by omega) (by omega)
  have e1 : p * 281474976710656 ||| c * 4294967296 = p * 281474976710656 + c * 4294967296 := by
    have := Nat.two_pow_add_eq_or_of_lt (i := 48) (b := c * 4294967296) (by omega) p
    rw [show 2 ^ 48 * p = p * 281474976710656 by omega] at this
    exact this.symm
  have e2 : p * 281474976710656 + c * 4294967296 ||| k * 16777216 = p * 281474976710656 + c * 4294967296 + k * 16777216 := by
    have := Nat.two_pow_add_eq_or_of_lt (i := 32) (b := k * 16777216) (by omega) (p * 65536 + c)
    rw [show 2 ^ 32 * (p * 65536 + c) = p * 281474976710656 + c * 4294967296 by omega] at this
    exact this.symm
  have e3 : p * 281474976710656 + c * 4294967296 + k * 16777216 ||| s = p * 281474976710656 + c * 4294967296 + k * 16777216 + s := by
    have := Nat.two_pow_add_eq_or_of_lt (i := 24) (b := s) (by omega) (p * 16777216 * 2 + c * 256 + k + (p * 16777216 - p * 16777216 * 1) - p * 16777216)
    rw [show 2 ^ 24 * (p * 16777216 * 2 + c * 256 + k + (p * 16777216 - p * 16777216 * 1) - p * 16777216) = p * 281474976710656 + c * 4294967296 + k * 16777216 by omega] at this
    exact this.symm
  rw [e1] at j1
  rw [e2] at j2
  rw [e3] at j3
  rw [show ((p : Int) * 281474976710656) = ((p * 281474976710656 : Nat) : Int) by omega, show ((c : Int) * 4294967296) = ((c * 4294967296 : Nat) : Int) by omega, show ((k : Int) * 16777216) = ((k * 16777216 : Nat) : Int) by omega, j1, j2, j3]
theorem splice_len (h : Hd) : (splice (B8 zSec.1) 0 (B8 (hdB h))).length = 64 := by
  rw [length_splice _ _ _ (by rw [B8_length, B8_length, hdB_length, zSec.2]; decide), B8_length, zSec.2]
theorem splice_sec (h : Hd) (b : List UInt8) (hb : b.length ≤ 48) : splice (splice (B8 zSec.1) 0 (B8 (hdB h))) 16 (B8 b) = B8 (secH h b).1 := by
  have hz : (B8 zSec.1).drop 16 = B8 (List.replicate 48 0) := rfl
  have h1 : splice (B8 zSec.1) 0 (B8 (hdB h)) = B8 (hdB h) ++ B8 (List.replicate 48 0) := by
    unfold splice
    rw [B8_length, hdB_length, List.take_zero, List.nil_append, Nat.zero_add, hz]
  rw [h1, secH_eq h b hb]
  unfold splice
  rw [List.take_append_of_le_length (by rw [B8_length, hdB_length]; decide), List.take_of_length_le (by rw [B8_length, hdB_length]; decide), B8_append, B8_append]
  congr 2
  rw [List.drop_append, List.drop_of_length_le (by rw [B8_length, hdB_length]; omega), List.nil_append, B8_length, B8_length, hdB_length]
  unfold B8
  rw [← List.map_drop, List.drop_replicate]
  congr 2
  omega
theorem lies_pos {w : World} {B : Nat} {A : Option Addr} {cs : List Value} {p q : Option Addr} (h : Lies w B A cs) (h0 : 0 < cs.length) (hp : p = q) : p = q ∧ ∃ ad, A = some ad ∧ ∀ j v, cs[j]? = some v → w.cell? (ad.add j) = some v := by
  rcases h with e | ⟨bk, ok, rfl, hk1, hk2⟩
  · rw [e] at h0; simp at h0
  · exact ⟨hp, _, rfl, fun j v hv => by rw [show (⟨bk, ok, none⟩ : Addr).add j = ⟨bk, ok + j, none⟩ by unfold Addr.add; split <;> simp_all]; exact hk2 j v hv⟩
theorem heap_at {w : World} {k : Nat} {o : Obj} (h : k = w.heap.size) : (w.alloc o).heap[k]? = some o := by subst h; exact heap_alloc_new w o
theorem sectorH_end {w : World} {b : Nat} {cs : Array Value} (hg : w.heap[b]? = some (.cells cs 41 (0, 0))) (hs : cs.size = 64) (tmps : Array Value) (ds) (h2 : tmps.getD 4 undef = ptr b)
    (R : Ending → World → Prop) (hR : R (.returned (.agg cs)) w) (hd : ds = []) : bodyPost Tryz.prog Tryz.f76 R .ret { tmps := tmps, defers := ds } w := by
  refine bodyPost_ret (v := .agg cs) ?_ hd hR
  have hres : Tryz.f76.results = #[.cell 4 41] := rfl
  simp only [results, hres]
  have h2' : tmps[4]?.getD undef = ptr b := by simpa using h2
  simp [Sem.run_bind, Result.andThen, h2', asAddr, load_row64 w b cs hg hs]
set_option maxHeartbeats 4000000 in
theorem sectorH_any (h : Hd) (f : h.fit) (b : List UInt8) (A : Option Addr) (c : Nat) (B : Nat) (w : World) (hb : b.length ≤ 48) (hl : Lies w B A (B8 b)) (hB : B ≤ w.heap.size) :
    Calls Tryz.prog 76 #[hdV h, .slice A b.length c] w fun e w' => e = .returned (.agg (csF (secH h b))) ∧ Below w.heap.size w w' := by
  have fn := num_lt f
  obtain ⟨f1, f2, f3, f4, f5⟩ := id f
  have HL := Lib.hid hl
  have hp := IntWalk.u64_in (h.place : Int) ⟨by omega, by omega⟩
  have hc := IntWalk.u64_in (h.count : Int) ⟨by omega, by omega⟩
  have hk := IntWalk.u64_in (h.kind : Int) ⟨by omega, by omega⟩
  have hs := IntWalk.u64_in (h.size : Int) ⟨by omega, by omega⟩
  unfold hdV
  go_enter Tryz.func76, Tryz.ntmps76
  have ho := or_num h.place h.count h.kind h.size f2 f3 f4 f5
  have hw8 : wid 8 = 8 := by decide
  obtain ⟨F, hF⟩ : ∃ F, F = h.num := ⟨_, rfl⟩
  have hF' : F = h.place * 281474976710656 + h.count * 4294967296 + h.kind * 16777216 + h.size := hF
  rw [← hF'] at ho
  have HF := Lib.hid hF
  rw [← hF] at fn
  have HB : Hid (be 8 h.seq ++ be 8 F = hdB h) := Lib.hid (by rw [hF]; rfl)
  clear hF' hF hl
  go_upto_region 3 with (fail)
  try rw [ho]
  refine wp_rename3 (fun W => Below w.heap.size w W ∧ W.heap[w.heap.size]? = some (.cells (hdR h) 127 (0, 0)) ∧ W.heap[w.heap.size + 1]? = some (.cells (csF zSec) 41 (0, 0)) ∧ W.heap[w.heap.size + 2]? = some (.cells (csF zSec) 41 (0, 0)) ∧ W.heap.size = w.heap.size + 3) ⟨?_, ?_, ?_, ?_, ?_⟩ ?_
  · exact (((Below.refl _ _).alloc (Nat.le_refl _) _).alloc (by simp) _).alloc (by simp; omega) _
  · rw [Below.heap_alloc _ _ _ (by simp; omega), Below.heap_alloc _ _ _ (by simp)]
    exact heap_alloc_new w _
  · rw [Below.heap_alloc _ _ _ (by simp)]
    exact heap_at (by simp)
  · exact heap_at (by simp)
  · simp
  rintro W1 ⟨hb1, hr0, hr1, hr2, hz⟩
  have B1 := Lib.hid hb1
  have Q1 := Lib.hid hr1
  have P1 := Lib.hid hr2
  have Z1 := Lib.hid hz
  have HL1 := Lib.hid (HL.out.below (hb1.mono hB))
  have hq : W1.drew.cell? ⟨w.heap.size, 0, none⟩ = some (.int .u64 (h.seq : Int)) := (cell_of_row W1 _ 0 _ _ _ hr0).trans rfl
  have hlt0 : w.heap.size < W1.drew.heap.size := by show _ < W1.heap.size; omega
  have hlt1 : w.heap.size + 1 < W1.drew.heap.size := by show _ < W1.heap.size; omega
  have hlt2 : w.heap.size + 2 < W1.drew.heap.size := by show _ < W1.heap.size; omega
  clear hb1 hr0 hr1 hr2 hz
  refine wp_region_held_drew (S := fun w' => w'.cell? ⟨w.heap.size, 0, none⟩ = some (.int .u64 (h.seq : Int))) (by kernel_rfl) hq (fun hS0 => ?_)
  refine wpAnyH_take (i := 0) (oi := ⟨some 25, _, _, _, _, _⟩) (v := ?_) rfl (by kernel_rfl) (by kernel_rfl) (by kernel_rfl) (fun _ _ _ h => h) (Or.inl ⟨by rfl, ?_⟩) hS0 ?_
  rotate_left
  · (intro wS hSw; (try dsimp only at hSw); go_simp); all_goals (with_reducible rfl)
  try simp only [Act.put, List.setIfInBounds_toArray, List.set_cons_zero, List.set_cons_succ]
  refine wpAnyH_take (i := 1) (oi := ⟨some 26, _, _, _, _, _⟩) (v := ?_) rfl (by kernel_rfl) (by kernel_rfl) (by kernel_rfl) (fun _ _ _ h => h) (Or.inl ⟨by rfl, ?_⟩) hS0 ?_
  rotate_left
  · (intro wS hSw; (try dsimp only at hSw); go_simp); all_goals (with_reducible rfl)
  try simp only [Act.put, List.setIfInBounds_toArray, List.set_cons_zero, List.set_cons_succ]
  refine wpAnyH_take (i := 2) (oi := ⟨some 27, _, _, _, _, _⟩) (v := ?_) rfl (by kernel_rfl) (by kernel_rfl) (by kernel_rfl) (fun _ _ _ h => h) (Or.inl ⟨by rfl, ?_⟩) hS0 ?_
  rotate_left
  · (intro wS hSw; (try dsimp only at hSw); go_simp); all_goals (with_reducible rfl)
  try simp only [Act.put, List.setIfInBounds_toArray, List.set_cons_zero, List.set_cons_succ]
  refine wpAnyH_take (i := 4) (oi := ⟨some 29, _, _, _, _, _⟩) (v := ?_) rfl (by kernel_rfl) (by kernel_rfl) (by kernel_rfl) (fun _ _ _ h => h) (Or.inl ⟨by rfl, ?_⟩) hS0 ?_
  rotate_left
  · (intro wS hSw; (try dsimp only at hSw); go_simp); all_goals (with_reducible rfl)
  try simp only [Act.put, List.setIfInBounds_toArray, List.set_cons_zero, List.set_cons_succ]
  refine wpAnyH_ready (rs := [3]) (by kernel_rfl) (by simp) ?_
  refine AllReadyH.cons (o := ⟨some 28, _, _, _, _, _⟩) rfl (fun K hK => ?_) AllReadyH.nil
  go_simp
  refine (int_any none 0 [] W1.drew.heap.size 8 h.seq W1.drew (.inl rfl) (Nat.le_refl _) (by decide)).mono ?_
  rintro e w3 ⟨v3, rfl, ho3, hb3⟩
  rw [hw8, List.nil_append, be_length] at ho3
  obtain ⟨A3, c3, rfl, hc3a, hc3b⟩ := own_form ho3
  have B3 := Lib.hid (B1.out.drew.trans (hb3.mono (by have := Z1.out; show _ ≤ W1.heap.size; omega)))
  have L3 := Lib.hid (Lies.own ho3 (Nat.le_refl _))
  have hq3 : w3.cell? ⟨w.heap.size, 0, none⟩ = some (.int .u64 (h.seq : Int)) := (World.cell?_of_block (hb3.block _ hlt0)).trans hq
  have P3 : Hid (w3.heap[w.heap.size + 2]? = some (.cells (csF zSec) 41 (0, 0))) := Lib.hid ((hb3.block _ hlt2).trans P1.out)
  have Q3 : Hid (w3.heap[w.heap.size + 1]? = some (.cells (csF zSec) 41 (0, 0))) := Lib.hid ((hb3.block _ hlt1).trans Q1.out)
  have S3 := Lib.hid hb3.size
  have HL3 := Lib.hid (HL1.out.below (w' := w3) (show Below B W1 w3 from ((Below.refl _ W1).drew).trans (hb3.mono (Nat.le_trans hB (by have := Z1.out; show _ ≤ W1.heap.size; omega)))))
  clear ho3 hb3
  go_wp2_with fail
  refine hK.out _ _ hq3 (fun hS3 => ?_)
  clear hK K
  try simp only [Act.put, List.setIfInBounds_toArray, List.set_cons_zero, List.set_cons_succ]
  refine wpAnyH_ready (rs := [5]) (by kernel_rfl) (by simp) ?_
  refine AllReadyH.cons (o := ⟨some 30, _, _, _, _, _⟩) rfl (fun K hK => ?_) AllReadyH.nil
  go_simp
  refine (show Calls _ _ #[.slice A3 8 c3, .int .i64 8, .int .u64 (F : Int)] _ _ from by have hi := int_any A3 c3 (be 8 h.seq) w3.heap.size 8 F w3 L3.out (Nat.le_refl _) (by rw [be_length]; decide); rw [be_length] at hi; exact hi).mono ?_
  rintro e w4 ⟨v4, rfl, ho4, hb4⟩
  rw [hw8, HB.out, hdB_length] at ho4
  obtain ⟨A4, c4, rfl, hc4a, hc4b⟩ := own_form ho4
  have B4 := Lib.hid (B3.out.trans (hb4.mono B3.out.size))
  have L4 := Lib.hid (Lies.own ho4 (Nat.le_refl _))
  have hq4 : w4.cell? ⟨w.heap.size, 0, none⟩ = some (.int .u64 (h.seq : Int)) := (World.cell?_of_block (hb4.block _ (Nat.lt_of_lt_of_le hlt0 S3.out))).trans hq3
  have P4 : Hid (w4.heap[w.heap.size + 2]? = some (.cells (csF zSec) 41 (0, 0))) := Lib.hid ((hb4.block _ (Nat.lt_of_lt_of_le hlt2 S3.out)).trans P3.out)
  have Q4 : Hid (w4.heap[w.heap.size + 1]? = some (.cells (csF zSec) 41 (0, 0))) := Lib.hid ((hb4.block _ (Nat.lt_of_lt_of_le hlt1 S3.out)).trans Q3.out)
  have HL4 := Lib.hid (HL3.out.below (hb4.mono (Nat.le_trans hB B3.out.size)))
  have S4 := Lib.hid (Nat.le_trans S3.out hb4.size)
  clear ho4 hb4
  go_wp2_with fail
  refine hK.out _ _ hq4 (fun hS5 => ?_)
  clear hK K
  try simp only [Act.put, List.setIfInBounds_toArray, List.set_cons_zero, List.set_cons_succ]
  refine wpAnyH_ready (rs := [6]) (by kernel_rfl) (by simp) ?_
  refine AllReadyH.cons (o := ⟨some 31, _, _, _, _, _⟩) rfl (fun K hK => ?_) AllReadyH.nil
  refine step_copy_splice rfl (.tmp 25) (.tmp 30) 30 30 rfl 5 Tryz.underlying30 (by kernel_rfl) (some ⟨w.heap.size + 2, 0, none⟩) A4 64 64 16 c4 rfl rfl (w.heap.size + 2) 0 (B8 zSec.1) 41 P4.out (B8 (hdB h)) (by rw [B8_length, hdB_length]; decide) (fun _ => ?_) (by rw [B8_length, B8_length, hdB_length, zSec.2]; decide) (B8_one _) (w.heap.size + 2) w4 (Below.refl _ _) (Nat.le_refl _) ?_
  · rcases L4.out with e | ⟨bk, ok, rfl, hk1, hk2⟩
    · have := congrArg List.length e; rw [B8_length, hdB_length] at this; simp at this
    · exact ⟨rfl, _, rfl, fun j v hv => by rw [show (⟨bk, ok, none⟩ : Addr).add j = ⟨bk, ok + j, none⟩ by unfold Addr.add; split <;> simp_all]; exact hk2 j v hv⟩
  intro w5 hr5 hb5
  have B5 := Lib.hid (B4.out.trans (hb5.mono (Nat.le_add_right _ _)))
  have Q5 : Hid (w5.heap[w.heap.size + 1]? = some (.cells (csF zSec) 41 (0, 0))) := Lib.hid ((hb5.block _ (by omega)).trans Q4.out)
  have HL5 := Lib.hid (HL4.out.below (hb5.mono (by omega)))
  have hq5 : w5.cell? ⟨w.heap.size, 0, none⟩ = some (.int .u64 (h.seq : Int)) := (World.cell?_of_block (hb5.block _ (by show w.heap.size < _; omega))).trans hq4
  clear hb5
  refine hK.out _ _ hq5 (fun hS6 => ?_)
  clear hK K
  try simp only [Act.put, List.setIfInBounds_toArray, List.set_cons_zero, List.set_cons_succ]
  refine wpAnyH_done (by kernel_rfl) ?_ _
  go_wp2_with (first
    | (refine wpList_copy_splice rfl (.tmp 32) (.tmp 33) 30 30 rfl 5 Tryz.underlying30 (by kernel_rfl) (some ⟨w.heap.size + 2, 16, none⟩) A 48 48 b.length c rfl rfl (w.heap.size + 2) 16 (splice (B8 zSec.1) 0 (B8 (hdB h))) 41 hr5.out (B8 b) (by rw [B8_length]; exact (Nat.min_eq_left hb).symm) (fun hpos => lies_pos HL5.out hpos rfl) (by rw [splice_len, B8_length]; omega) (B8_one _) (w.heap.size + 2) w5 (Below.refl _ _) (Nat.le_refl _) ?_; intro w6 hr6 hb6; have B6 := Lib.hid (B5.out.trans (hb6.mono (Nat.le_add_right _ _))); have Q6 : Hid (w6.heap[w.heap.size + 1]? = some (.cells (csF zSec) 41 (0, 0))) := Lib.hid ((hb6.block _ (by omega)).trans Q5.out); have R6 : Hid (w6.heap[w.heap.size + 2]? = some (.cells (csF (secH h b)) 41 (0, 0))) := Lib.hid (by rw [hr6.out, splice_sec h b hb]; rfl); clear hb6 hr6)
    | (with_reducible refine at_load36 ?_; go_must (refine wpList_load64 rfl (.tmp 6) rfl (w.heap.size + 2) (secH h b) rfl R6.out ?_))
    | (with_reducible refine at_store36 ?_; go_must (refine wpList_store64 rfl (.tmp 4) (.tmp 35) rfl (w.heap.size + 1) (secH h b) rfl rfl (csF zSec) Q6.out (csF_size _) ?_)))
  exact sectorH_end (b := w.heap.size + 1) (setRow_heap _ _ _ _ _ _ Q6.out) (csF_size _) _ _ rfl _ ⟨rfl, below_setRow B6.out (by omega) _⟩ rfl
end Go.Proofs.YtmemdkgoeldemaaGreatDoor
