/- Layer 9: a meta's first sector; what a sector has where a meta would be. -/
import Derived.Test.YtcmffifehpbjnaaPageP
import Derived.Test.YtcmffifehpbjnaaOctsW
import Derived.Laws.CopyOwn
import Derived.Lib.SlBytesConst
namespace Go.Proofs.Ytcmffifehpbjnaa
open Go.RowKit Go.Maps
set_option maxRecDepth 100000
set_option linter.unusedSimpArgs false
set_option linter.unusedVariables false
theorem wp_ren {P : Program} {c : Code} {Q : Exit → Act → World → Prop} {a : Act} {W : World} (I : World → Prop) (hI : I W) (k : ∀ W', I W' → Code.wp P c Q a W') : Code.wp P c Q a W := k W hI
def numsM (m : Mt) : List Nat := [m.gen, m.root, m.count, m.mark]
def tiM (m : Mt) (i : Nat) : List UInt8 := titleB ++ ((numsM m).take i).flatMap (be 8)
theorem tiM_length (m : Mt) (i : Nat) (h : i ≤ 4) : (tiM m i).length = 8 + 8 * i := by
  have h4 : i = 0 ∨ i = 1 ∨ i = 2 ∨ i = 3 ∨ i = 4 := by omega
  rcases h4 with rfl | rfl | rfl | rfl | rfl <;> simp [tiM, numsM, titleB, be_length]
theorem tiM_next (m : Mt) (i : Nat) (h : i < 4) : tiM m i ++ be 8 ((numsM m).getD i 0) = tiM m (i + 1) := by
  have h4 : i = 0 ∨ i = 1 ∨ i = 2 ∨ i = 3 := by omega
  rcases h4 with rfl | rfl | rfl | rfl <;> simp [tiM, numsM, titleB]
theorem tiM_4 (m : Mt) : tiM m 4 = metaB m := by simp [tiM, numsM, metaB]
theorem splice_meta (m : Mt) : splice (B8 zSec.1) 0 (B8 (metaB m)) = B8 (secM m).1 := by
  unfold splice
  rw [B8_length, metaB_length, List.take_zero, List.nil_append, Nat.zero_add]
  unfold secM
  simp only []
  rw [B8_append]
  rfl
theorem lies_pos9 {w : World} {B : Nat} {A : Option Addr} {cs : List Value} {p q : Option Addr} (h : Lies w B A cs) (h0 : 0 < cs.length) (hp : p = q) : p = q ∧ ∃ ad, A = some ad ∧ ∀ j v, cs[j]? = some v → w.cell? (ad.add j) = some v := by
  rcases h with e | ⟨bk, ok, rfl, hk1, hk2⟩
  · rw [e] at h0; simp at h0
  · exact ⟨hp, _, rfl, fun j v hv => by rw [show (⟨bk, ok, none⟩ : Addr).add j = ⟨bk, ok + j, none⟩ by unfold Addr.add; split <;> simp_all]; exact hk2 j v hv⟩
theorem heap_at9 {w : World} {k : Nat} {o : Obj} (h : k = w.heap.size) : (w.alloc o).heap[k]? = some o := by subst h; exact heap_alloc_new w o
theorem Lies.lit9 (w : World) (t : TypeId) (cs : List Value) (fr : Nat × Nat) : Lies (w.alloc (.cells cs.toArray t fr)) (w.heap.size + 1) (some ⟨w.heap.size, 0, none⟩) cs := by
  refine .inr ⟨w.heap.size, 0, rfl, by omega, fun j x hx => ?_⟩
  rw [World.cell?_alloc_mark w cs.toArray t fr (0 + j), Nat.zero_add]
  simpa using hx
def titleC : Array Value := #[.int .u8 119, .int .u8 97, .int .u8 121, .int .u8 98, .int .u8 105, .int .u8 108, .int .u8 108, .int .u8 49]
theorem sectorM_end {w : World} {b : Nat} {cs : Array Value} (hg : w.heap[b]? = some (.cells cs 64 (0, 0))) (hs : cs.size = 64) (tmps : Array Value) (ds) (h2 : tmps.getD 2 undef = ptr b)
    (R : Ending → World → Prop) (hR : R (.returned (.agg cs)) w) (hd : ds = []) : bodyPost Try.prog Try.f51 R .ret { tmps := tmps, defers := ds } w := by
  refine bodyPost_ret (v := .agg cs) ?_ hd hR
  have hres : Try.f51.results = #[.cell 2 64] := rfl
  simp only [results, hres]
  have h2' : tmps[2]?.getD undef = ptr b := by simpa using h2
  simp [Sem.run_bind, Result.andThen, h2', asAddr, load_row64 w b cs hg hs]
def TiAt (m : Mt) (D : Nat) (W : World) (vb vi : Value) (wr : World) : Prop :=
  ∃ (i : Nat) (A : Option Addr) (c : Nat), vb = .slice A (tiM m i).length c ∧ vi = .int .i64 (i : Int) ∧ i ≤ 4 ∧ Lies wr wr.heap.size A (B8 (tiM m i)) ∧ Below D W wr
set_option maxHeartbeats 4000000 in
theorem sectorM_any (m : Mt) (f : m.fit) (hr : m.root < 9223372036854775808) (hc : m.count < 9223372036854775808) (w : World) :
    Calls Try.prog 51 #[.agg #[.int .u64 (m.gen : Int), .int .i64 (m.root : Int), .int .i64 (m.count : Int), .int .u64 (m.mark : Int)]] w fun e w' => e = .returned (.agg (csF (secM m))) ∧ Below w.heap.size w w' := by
  obtain ⟨f1, f2, f3, f4⟩ := id f
  have hp := IntWalk.u64_in (m.root : Int) ⟨by omega, by omega⟩
  have hq := IntWalk.u64_in (m.count : Int) ⟨by omega, by omega⟩
  have hw8 : wid 8 = 8 := by decide
  go_enter Try.func51, Try.ntmps51
  go_upto_region 1 with fail
  refine wp_ren (fun W => Below w.heap.size w W ∧ Whole W w.heap.size 38 #[.int .u64 (m.gen : Int), .int .i64 (m.root : Int), .int .i64 (m.count : Int), .int .u64 (m.mark : Int)] ∧ W.heap[w.heap.size + 1]? = some (.cells (csF zSec) 64 (0, 0)) ∧ W.heap.size = w.heap.size + 2) ⟨?_, ?_, ?_, ?_⟩ ?_
  · exact ((Below.refl _ _).alloc (Nat.le_refl _) _).alloc (by simp) _
  · exact (Below.heap_alloc _ _ _ (by simp)).trans (heap_alloc_new w _)
  · exact heap_at9 (by simp)
  · simp
  rintro W1 ⟨hb1, hm1, hz1, hs1⟩
  have B1 := Lib.hid hb1
  have M1 := Lib.hid hm1
  have Z1 := Lib.hid hz1
  have S1 := Lib.hid hs1
  clear hb1 hm1 hz1 hs1
  have cvt := Lib.run_convert_bytes_const (P := Try.prog) W1 31 5 titleC 8 8 Try.underlying31 Try.underlying5
  unfold titleC at cvt
  go_upto_region 2 with fail
  clear cvt
  refine wp_ren (fun W => Below W1.heap.size W1 W ∧ Lies W W.heap.size (some ⟨W1.heap.size, 0, none⟩) (B8 titleB)) ⟨?_, ?_⟩ ?_
  · exact (Below.refl _ _).alloc (Nat.le_refl _) _
  · exact (Lies.lit9 W1 5 (B8 titleB) _).more (by simp)
  rintro W2 ⟨hb2, hl2⟩
  have B2 := Lib.hid hb2
  have L2 := Lib.hid hl2
  have M2 : Hid (Whole W2 w.heap.size 38 #[.int .u64 (m.gen : Int), .int .i64 (m.root : Int), .int .i64 (m.count : Int), .int .u64 (m.mark : Int)]) := Lib.hid ((hb2.block _ (by have := S1.out; omega)).trans M1.out)
  have Z2 : Hid (W2.heap[w.heap.size + 1]? = some (.cells (csF zSec) 64 (0, 0))) := Lib.hid ((hb2.block _ (by have := S1.out; omega)).trans Z1.out)
  have k0 : W2.cell? ⟨w.heap.size, 0, none⟩ = some (.int .u64 (m.gen : Int)) := by rw [Whole.cell M2.out]; rfl
  have k1 : W2.cell? ⟨w.heap.size, 1, none⟩ = some (.int .i64 (m.root : Int)) := by rw [Whole.cell M2.out]; rfl
  have k2 : W2.cell? ⟨w.heap.size, 2, none⟩ = some (.int .i64 (m.count : Int)) := by rw [Whole.cell M2.out]; rfl
  have k3 : W2.cell? ⟨w.heap.size, 3, none⟩ = some (.int .u64 (m.mark : Int)) := by rw [Whole.cell M2.out]; rfl
  have hlt2 : w.heap.size + 2 ≤ W2.heap.size := by have := hb2.size; have := S1.out; omega
  clear hb2 hl2
  go_upto_region 3 with fail
  refine wp_ren (fun W => Below W2.heap.size W2 W ∧ Whole W W2.heap.size 35 #[.int .u64 (m.gen : Int), .int .u64 (m.root : Int), .int .u64 (m.count : Int), .int .u64 (m.mark : Int)] ∧ W.heap.size = W2.heap.size + 1) ⟨?_, ?_, ?_⟩ ?_
  · exact (Below.refl _ _).alloc (Nat.le_refl _) _
  · exact Whole.new _ _ _
  · simp
  rintro W3 ⟨hb3, hw3, hs3⟩
  have B3 := Lib.hid hb3
  have V3 := Lib.hid hw3
  have S3 := Lib.hid hs3
  have Z3 : Hid (W3.heap[w.heap.size + 1]? = some (.cells (csF zSec) 64 (0, 0))) := Lib.hid ((hb3.block _ (by omega)).trans Z2.out)
  have L3 := Lib.hid ((L2.out.below hb3).more hb3.size)
  have BB3 : Hid (Below w.heap.size w W3) := Lib.hid (B1.out.trans ((B2.out.mono (by have := S1.out; omega)).trans (hb3.mono (by omega))))
  clear hb3 hw3 hs3 k0 k1 k2 k3 M2
  go_loopw [3, 21] (fun vb vi wr => TiAt m W3.heap.size W3 vb vi wr) (fun _ vi _ => 4 - (intOf vi).toNat)
  case atStart => exact ⟨0, some ⟨W1.heap.size, 0, none⟩, 8, rfl, rfl, by omega, by simpa [tiM, numsM] using L3.out, Below.refl _ _⟩
  case round =>
    obtain ⟨i, A, c, rfl, rfl, hi, hl, hb⟩ := hrel
    have L := Lib.hid hl
    have BW := Lib.hid hb
    have V := Lib.hid ((hb.block _ (by have := S3.out; omega)).trans V3.out)
    clear hl hb
    by_cases hlt : i < 4
    · have hi1 : (i : Int) < 4 := by omega
      obtain ⟨x, hx⟩ : ∃ x, x = (numsM m).getD i 0 := ⟨_, rfl⟩
      have hcell : wr.cell? ⟨W2.heap.size, i, none⟩ = some (.int .u64 (x : Int)) := by
        rw [Whole.cell V.out, hx]
        have h4 : i = 0 ∨ i = 1 ∨ i = 2 ∨ i = 3 := by omega
        rcases h4 with rfl | rfl | rfl | rfl <;> rfl
      have hint := int_any A c (tiM m i) wr.heap.size 8 x wr L.out (Nat.le_refl _) (by rw [tiM_length m i hi]; omega)
      rw [hw8, hx, tiM_next m i hlt, ← hx] at hint
      have HI := Lib.hid hint
      clear hint hx
      go_wp2_with (go_at_call 61; go_must (refine HI.out.mono ?_); rintro e w1 ⟨v1, rfl, ho1, hb1⟩; obtain ⟨A1, c1, rfl, hc1a, hc1b⟩ := own_form ho1; have L1 := Lib.hid (Lies.own ho1 (Nat.le_refl _)); have BW1 := Lib.hid (BW.out.trans (hb1.mono BW.out.size)); clear ho1 hb1)
      go_roundw
      case rel => exact ⟨i + 1, A1, c1, rfl, by go_num, by omega, L1.out, BW1.out⟩
      case measure => simp [intOf]; omega
    · have h4 : i = 4 := by omega
      subst h4
      have Z4 : Hid (wr.heap[w.heap.size + 1]? = some (.cells (csF zSec) 64 (0, 0))) := Lib.hid ((BW.out.block _ (by have := S3.out; omega)).trans Z3.out)
      have hl4 : (tiM m 4).length = 40 := tiM_length m 4 (by omega)
      have L4 : Hid (Lies wr wr.heap.size A (B8 (metaB m))) := Lib.hid (by rw [← tiM_4]; exact L.out)
      have BB4 : Hid (Below w.heap.size w wr) := Lib.hid (BB3.out.trans (BW.out.mono (by have := S3.out; omega)))
      have hlt4 : w.heap.size + 2 ≤ wr.heap.size := by have := BW.out.size; have := S3.out; omega
      rw [hl4]
      clear L BW V
      go_upto_region 8 with fail
      refine wp_ren (fun W => Below wr.heap.size wr W ∧ W.heap[wr.heap.size]? = some (.cells (csF zSec) 64 (0, 0)) ∧ W.heap.size = wr.heap.size + 1) ⟨?_, ?_, ?_⟩ ?_
      · exact (Below.refl _ _).alloc (Nat.le_refl _) _
      · exact heap_alloc_new wr _
      · simp
      rintro W5 ⟨hb5, hz5, hs5⟩
      have B5 := Lib.hid (BB4.out.trans (hb5.mono (by omega)))
      have Z5 := Lib.hid hz5
      have R5 : Hid (W5.heap[w.heap.size + 1]? = some (.cells (csF zSec) 64 (0, 0))) := Lib.hid ((hb5.block _ (by omega)).trans Z4.out)
      have L5 := Lib.hid (L4.out.below hb5)
      clear hb5 hz5 hs5
      go_wp2_with (first
        | (refine wpList_copy_splice rfl (.tmp 29) (.tmp 30) 31 31 rfl 5 Try.underlying31 (by kernel_rfl) (some ⟨wr.heap.size, 0, none⟩) A 64 64 40 c rfl rfl wr.heap.size 0 (B8 zSec.1) 64 Z5.out (B8 (metaB m)) (by rw [B8_length, metaB_length]; rfl) (fun hpos => lies_pos9 L5.out hpos rfl) (by rw [B8_length, B8_length, metaB_length, zSec.2]; decide) (B8_one _) wr.heap.size W5 (Below.refl _ _) (Nat.le_refl _) ?_; intro w6 hr6 hb6; have B6 := Lib.hid (B5.out.trans (hb6.mono (by omega))); have Q6 : Hid (w6.heap[w.heap.size + 1]? = some (.cells (csF zSec) 64 (0, 0))) := Lib.hid ((hb6.block _ (by omega)).trans R5.out); have R6 : Hid (w6.heap[wr.heap.size]? = some (.cells (csF (secM m)) 64 (0, 0))) := Lib.hid (by rw [hr6.out, splice_meta m]; rfl); clear hb6 hr6)
        | (with_reducible refine at_load36 ?_; go_must (refine wpList_load64 rfl (.tmp 6) rfl wr.heap.size (secM m) rfl R6.out ?_))
        | (with_reducible refine at_store36 ?_; go_must (refine wpList_store64 rfl (.tmp 2) (.tmp 32) rfl (w.heap.size + 1) (secM m) rfl rfl (csF zSec) Q6.out (csF_size _) ?_)))
      exact sectorM_end (b := w.heap.size + 1) (setRow_heap _ _ _ _ _ _ Q6.out) (csF_size _) _ _ rfl _ ⟨rfl, below_setRow B6.out (by omega) _⟩ rfl
end Go.Proofs.Ytcmffifehpbjnaa
