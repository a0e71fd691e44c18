/- Layer 7: the law of a file's end behind a crash. -/
import Derived.Test.YtdgdgpegilkdeaaSectW
import Derived.LoopTactic
import Derived.Stop.BytesEq
import Derived.Deep.RegionHeld
namespace Go.Proofs.Ytdgdgpegilkdeaa
open Go.RowKit Go.Maps
set_option maxRecDepth 100000
set_option linter.unusedSimpArgs false
set_option linter.unusedVariables false
theorem rem3 (p : Int) (h : -9223372036854775808 ≤ p ∧ p < 9223372036854775808) : (p.tmod 3 + 3).tmod 3 = p % 3 ∧ -3 < p.tmod 3 ∧ p.tmod 3 < 3 := by
  have e1 : p.tmod 3 = if p % 3 = 0 ∨ 0 ≤ p then p % 3 else p % 3 - 3 := by
    rw [Int.tmod_eq_emod]
    by_cases h : 0 ≤ p
    · simp [h]
    · by_cases h2 : p % 3 = 0
      · have : (3 : Int) ∣ p := Int.dvd_of_emod_eq_zero h2
        simp [this, h2]
      · have : ¬ (3 : Int) ∣ p := fun e => h2 (Int.emod_eq_zero_of_dvd e)
        simp [h, h2, this]
  have hm := Int.emod_nonneg p (show (3 : Int) ≠ 0 by omega)
  have hm2 := Int.emod_lt_of_pos p (show (0 : Int) < 3 by omega)
  have h3 : -3 < p.tmod 3 ∧ p.tmod 3 < 3 := by rw [e1]; split <;> omega
  refine ⟨?_, h3⟩
  have h4 : (p.tmod 3 + 3).tmod 3 = (p.tmod 3 + 3) % 3 := Int.tmod_eq_emod_of_nonneg (by omega)
  rw [h4, e1]
  split <;> omega
theorem en0 : pMake (newDv 50) [102] = (0, one 50 (-1) [102] newF) := by rfl
/-- the picks, where they lie -/
theorem lies_get {w W : World} {B : Nat} {A : Option Addr} {l : List Int} (h : Lies w B A (cellsZ l)) (hb : Below B w W) (i : Nat) (hi : i < l.length) : ∃ b o, A = some ⟨b, o, none⟩ ∧ W.cell? ⟨b, o + i, none⟩ = some (.int .i64 (l.getD i 0)) := by
  rcases h with h | ⟨b, o, rfl, h1, h2⟩
  · have : l = [] := by simpa [cellsZ] using h
    subst this
    simp at hi
  · refine ⟨b, o, rfl, ?_⟩
    rw [World.cell?_of_block (w := w) (hb.block b h1)]
    refine h2 i _ ?_
    simp [cellsZ, hi, List.getD]
theorem sec_size1 (w : World) : (sizeOf 5).run Try.prog w = .ok 1 w := by kernel_rfl
theorem eql_sec (a b : Sec) (w : World) : (binOp .eql 36 (.agg (csF a)) (.agg (csF b))).run Try.prog w = .ok (.bool (a.1 == b.1)) w :=
  run_eql_bytes w 36 5 64 Try.underlying36 Try.underlying5 sec_size1 a.1 b.1 a.2 b.2
theorem neq_sec (a b : Sec) (w : World) : (binOp .neq 36 (.agg (csF a)) (.agg (csF b))).run Try.prog w = .ok (.bool (!(a.1 == b.1))) w := by
  have h := run_equalIn_bytes (P := Try.prog) w 9998 36 5 64 Try.underlying36 Try.underlying5 sec_size1 a.1 b.1 a.2 b.2
  have h' : (Op.equalIn 10000 36 (.agg (csF a)) (.agg (csF b))).run Try.prog w = .ok (a.1 == b.1) w := h
  rw [run_neq_struct, h']
  rfl
theorem neq_self (a : Sec) (w : World) : (binOp .neq 36 (.agg (csF a)) (.agg (csF a))).run Try.prog w = .ok (.bool false) w := by
  rw [neq_sec]; simp
theorem neq_self2 (a : Sec) (w : World) : (binOp .neq 36 (.agg (B8 a.1).toArray) (.agg (csF a))).run Try.prog w = .ok (.bool false) w := neq_self a w
theorem range_below {w w' : World} {B b o : Nat} {cs : List Value} (h : w.rangeAt b o cs) (hb : Below B w w') (hlt : b < B) : w'.rangeAt b o cs := fun j v hv => (World.cell?_of_block (hb.block b hlt)).trans (h j v hv)
theorem range_row {w : World} {b : Nat} {s : Sec} {t : TypeId} {fr : Nat × Nat} (h : w.heap[b]? = some (.cells (csF s) t fr)) : w.rangeAt b 0 (B8 s.1) := fun j v hv => by
  rw [Nat.zero_add, cell_of_row w b j _ _ _ h]
  simpa [csF] using hv
theorem one_B8 (l : List UInt8) : ∀ v ∈ B8 l, v.oneCell' = true := fun v hv => by
  obtain ⟨c, _, rfl⟩ := List.mem_map.1 hv
  rfl
theorem len_B8 (s : Sec) : (B8 s.1).length = 64 := by rw [B8, List.length_map]; exact s.2
theorem info_B8 (s : Sec) : (Try.prog.info? 36).map (·.size) = some (B8 s.1).length := by rw [len_B8]; exact size_sec
theorem guard_sec (op : BinOp) (x y : Operand) (xs ys : Array Value) (w : World) : (eqGuard op 36 x y (.agg xs) (.agg ys)).run Try.prog w = .ok () w :=
  run_eqGuard_agg w op 36 x y xs ys (by kernel_rfl)
theorem one_read {mo : Nat} {le : Int} {nm : Nm} {F : Fil} (k : Nat) (y : Sec × Bool) (hk : F.l[k]? = some ⟨none, some y⟩) : pRead (one mo le nm F) nm (k : Int) = if y.2 then (zSec, 7) else (y.1, 0) := by
  have hlt := (List.getElem?_eq_some_iff.1 hk).1
  unfold pRead
  rw [one_fnd]
  simp only []
  rw [if_neg (by omega)]
  have h1 : (one mo le nm F).fr (nm, ((k : Int)).toNat) = none := by simp [Dv.fr, one_fnd, hk]
  have h2 : (one mo le nm F).la (nm, ((k : Int)).toNat) = some y := by simp [Dv.la, one_fnd, hk]
  rw [h1, h2]
  rfl
theorem one_read_fr {mo : Nat} {le : Int} {nm : Nm} {F : Fil} (k : Nat) (x : Sec) (la : Option (Sec × Bool)) (hk : F.l[k]? = some ⟨some x, la⟩) : pRead (one mo le nm F) nm (k : Int) = (x, 0) := by
  have hlt := (List.getElem?_eq_some_iff.1 hk).1
  unfold pRead
  rw [one_fnd]
  simp only []
  rw [if_neg (by omega)]
  have h1 : (one mo le nm F).fr (nm, ((k : Int)).toNat) = some x := by simp [Dv.fr, one_fnd, hk]
  rw [h1]
theorem endN_take (l : List Int) (n : Nat) (m : Nat) (h : m ≤ n) : endN (l.take n) m = endN l m := by
  induction m with
  | zero => rfl
  | succ m ih =>
    unfold endN
    rw [ih (by omega), show (l.take n).getD m 0 = l.getD m 0 by simp [List.getD, List.getElem?_take, show m < n by omega]]
theorem crash_end' (mo : Nat) (nm : Nm) (n : Nat) (l : List Int) (le : Int) :
    ∃ F', crash (one mo le nm (endF n)) (l.take n) = one mo (-1) nm F' ∧ F'.l.length = endN l n ∧ ∀ j, j < endN l n → F'.l[j]? = some (endS l j) := by
  obtain ⟨F', h1, h2, h3⟩ := crash_end mo nm n (l.take n) le
  rw [endN_take l n n (Nat.le_refl n)] at h2 h3
  refine ⟨F', h1, h2, fun j hj => ?_⟩
  have hjn : j < n := Nat.lt_of_lt_of_le hj (endN_le l n)
  rw [h3 j hj]
  unfold endS
  rw [show (l.take n).getD j 0 = l.getD j 0 by simp [List.getD, List.getElem?_take, hjn]]
section
variable {B g : Nat} {X : Nat → Prop} {w0 W W' : World} {S S' : Dv}
theorem at_crashN (h : At B X w0 g S W) (A : Option Addr) (ps : List Int) (n c : Nat) (hn : ps.length = n) (hc1 : n ≤ c) (hc2 : c ≤ maxLen) (hP : PickAt (fun i => B ≤ i ∧ ¬ X i) W A ps) (h64 : In64 ps) (hS : crash S ps = S') :
    Calls Try.prog 13 #[ptr g, .slice A n c] W (Gives (.tuple #[]) B X w0 g S' W) := by
  subst hn; exact at_crash h A ps c hc1 hc2 hP h64 hS
/-- a new block of the call's own is no device's -/
theorem At.ownB (h : At B X w0 g S W) (hb : Below W.heap.size W W') (hlt : W.heap.size < W'.heap.size) : At B (fun i => X i ∨ i = W.heap.size) w0 g S W' := by
  have hle := h.le
  refine ⟨((h.dev.mono (K' := fun i => B ≤ i ∧ ¬ (X i ∨ i = W.heap.size)) (fun i hi hk => ⟨hk.1, fun e => by rcases e with e | e; exact hk.2 e; omega⟩)).below hb), h.bel.trans (hb.mono hle), by omega, fun i hi => ?_⟩
  rcases hi with hi | rfl
  · have := h.xs i hi; omega
  · omega
theorem At.free (h : At B X w0 g S W) : At B (fun _ => False) w0 g S W :=
  ⟨h.dev.mono (fun i _ hi => ⟨hi.1, fun e => e⟩), h.bel, h.le, fun i hi => hi.elim⟩
/-- a block that is no device's is written -/
theorem At.row (h : At B X w0 g S W) (b : Nat) (hX : X b) (cs : Array Value) : At B X w0 g S (W.setRow b cs) := by
  have hx := h.xs b hX
  refine ⟨h.dev.kept (fun i hi hk => setRow_other _ _ _ _ (fun e => hk.2 (by subst e; exact hX))), below_setRow h.bel hx.1 cs, by have := h.le; simpa [World.setRow] using this, fun i hi => by have := h.xs i hi; simpa [World.setRow] using this⟩
end
set_option maxHeartbeats 4000000 in
theorem ends_law (l : List Int) (A : Option Addr) (cap : Nat) (w : World) (c : l.length ≤ cap) (m : cap ≤ maxLen) (hl : Lies w w.heap.size A (cellsZ l)) (h64 : In64 l) :
    Calls Try.prog 4 #[.slice A l.length cap] w fun e w' => e = .returned (.bool true) ∧ Below w.heap.size w w' := by
  have ml : ([102] : Nm).length ≤ maxLen := by show 1 ≤ maxLen; unfold maxLen; omega
  have ML := Lib.hid ml
  have HL := Lib.hid hl
  have H64 := Lib.hid h64
  clear ml hl h64
  have lc : l.length ≤ 9223372036854775807 := by unfold maxLen at m; omega
  obtain ⟨n, hn⟩ : ∃ n, n = min l.length 20 := ⟨_, rfl⟩
  have hmin : min (l.length : Int) 20 = (n : Int) := by omega
  have n1 : n ≤ 20 := by omega
  have n2 : n ≤ l.length := by omega
  clear hn
  go_enter Try.func4, Try.ntmps4
  go_upto_region 4 with (first
    | (go_at_call 9; go_must (refine (at_new 50 _ (by omega)).mono ?_); rintro e w1 ⟨g, rfl, h1⟩; have H1 := Lib.hid h1; clear h1)
    | (go_at_call 11; go_must (refine (at_make H1.out [102] ML.out (by show 0 < 1000000; omega) 0 en0).mono ?_); rintro e w2 ⟨rfl, h2, k2⟩; have H2 := Lib.hid h2; clear h2 k2))
  go_wp2_with (fail)
  go_loopw [5, 6] (fun vl vi W => ∃ i : Nat, i ≤ n ∧ vi = .int .i64 (i : Int) ∧ vl = .int .i64 ((endN l i : Nat) : Int) ∧ At w.heap.size (fun _ => False) w g (one 50 (-1) [102] (endF i)) W) (fun _ vi _ => n - (intOf vi).toNat)
  case atStart => exact ⟨0, Nat.zero_le _, rfl, rfl, H2.out⟩
  case round =>
    obtain ⟨i, hi, rfl, rfl, h3⟩ := hrel
    have H3 := Lib.hid h3
    clear h3
    by_cases hlt : i < n
    · obtain ⟨p, hp⟩ : ∃ p, p = l.getD i 0 := ⟨_, rfl⟩
      have hp64 := H64.out p (by rw [hp, List.getD, List.getElem?_eq_getElem (by omega)]; exact List.getElem_mem _)
      obtain ⟨r1, r2, r3⟩ := rem3 p hp64
      obtain ⟨p1, p2⟩ := hp64
      obtain ⟨q, hq⟩ : ∃ q, q = p % 3 := ⟨_, rfl⟩
      rw [← hq] at r1
      obtain ⟨t, ht⟩ : ∃ t, t = p.tmod 3 := ⟨_, rfl⟩
      rw [← ht] at r1 r2 r3
      have hN : Hid (endN l (i + 1) = if q = 0 then endN l i else i + 1) := Lib.hid (by rw [hq, hp]; rfl)
      have HQ := Lib.hid hq
      have hq0 : 0 ≤ q ∧ q < 3 := by omega
      clear hq
      have t3 : p.tmod 3 = t := ht.symm
      clear ht
      go_upto_region 11 with (first
        | (go_at_call 18; go_must (refine (at_sector H3.out i (by omega)).mono ?_); rintro e w5 ⟨rfl, h5, k5⟩; have H5 := Lib.hid h5; clear h5 k5)
        | (go_at_call 17; go_must (refine (at_write H5.out [102] ML.out (i : Int) (secI i) 0 (one_write (by omega) i (by rw [endF_len]; omega) (by rw [endF_len]; omega) _)).mono ?_); rintro e w6 ⟨rfl, h6, k6⟩; rw [endF_succ] at h6; have H6 := Lib.hid h6; clear h6 k6))
      obtain ⟨b, o, rfl, hc⟩ := lies_get HL.out H6.out.bel i (by omega)
      rw [← hp] at hc
      clear hp
      by_cases h0 : q = 0
      · rw [if_pos h0] at hN
        go_wp2_with fail
        go_roundw
        case rel => exact ⟨i + 1, by omega, by go_num, by rw [hN.out], H6.out⟩
        case measure => simp [intOf]; omega
      · rw [if_neg h0] at hN
        go_wp2_with fail
        go_roundw
        case rel => exact ⟨i + 1, by omega, by go_num, by rw [hN.out]; go_num, H6.out⟩
        case measure => simp [intOf]; omega
    · have ei : i = n := by omega
      subst ei
      obtain ⟨F', hcr, hlen, hget⟩ := crash_end' 50 [102] i l (-1)
      obtain ⟨z, hz⟩ : ∃ z, z = endN l i := ⟨_, rfl⟩
      have hz20 : z ≤ i := by rw [hz]; exact endN_le l i
      rw [← hz] at hlen hget ⊢
      have HLEN := Lib.hid hlen
      have HGET := Lib.hid hget
      have HCR := Lib.hid hcr
      have htl : (l.take i).length = i := by rw [List.length_take]; omega
      have HTL := Lib.hid htl
      have HZ := Lib.hid hz
      clear hlen hget hcr htl hz
      go_upto_region 14 with (go_at_call 13; go_must (refine (at_crashN H3.out _ (l.take i) i cap HTL.out (by omega) m (pick_lies HL.out H3.out.bel (Nat.le_refl _) (fun j hj hk => absurd hk.1 (by omega)) i) (fun p hp => H64.out p (List.mem_of_mem_take hp)) HCR.out).mono ?_); rintro e w4 ⟨rfl, h4, k4⟩; have H4 := Lib.hid h4; clear h4 k4)
      go_upto_region 16 with (go_at_call 15; go_must (refine (at_len H4.out [102] ML.out z (by rw [one_len, HLEN.out])).mono ?_); rintro e w5 ⟨rfl, rfl⟩)
      go_wp2_with fail
      go_loopw [7] (fun vi W => ∃ (j : Nat) (F : Fil), j ≤ z ∧ vi = .int .i64 (j : Int) ∧ F.l.length = z ∧ (∀ q, j ≤ q → q < z → F.l[q]? = some (endS l q)) ∧ At w.heap.size (fun _ => False) w g (one 50 (-1) [102] F) W) (fun vi _ => z - (intOf vi).toNat)
      case atStart => exact ⟨0, F', Nat.zero_le _, rfl, HLEN.out, fun q _ hq => HGET.out q hq, H4.out⟩
      case round =>
        obtain ⟨j, F, hj, rfl, hF, hFg, h5⟩ := hrel
        have H5 := Lib.hid h5
        have HFG := Lib.hid hFg
        clear h5 hFg
        by_cases hlt : j < z
        · obtain ⟨p, hp⟩ : ∃ p, p = l.getD j 0 := ⟨_, rfl⟩
          have hp64 := H64.out p (by rw [hp, List.getD, List.getElem?_eq_getElem (by omega)]; exact List.getElem_mem _)
          obtain ⟨r1, r2, r3⟩ := rem3 p hp64
          obtain ⟨p1, p2⟩ := hp64
          have hs := HFG.out j (Nat.le_refl j) hlt
          unfold endS at hs
          rw [← hp] at hs
          obtain ⟨q, hq⟩ : ∃ q, q = p % 3 := ⟨_, rfl⟩
          rw [← hq] at r1 hs
          obtain ⟨t, ht⟩ : ∃ t, t = p.tmod 3 := ⟨_, rfl⟩
          rw [← ht] at r1 r2 r3
          have hq0 : 0 ≤ q ∧ q < 3 := by omega
          clear hq
          have t3 : p.tmod 3 = t := ht.symm
          clear ht
          have hgs := guard_sec
          by_cases h1 : q = 1
          · rw [if_pos h1] at hs
            have hrd : Hid (pRead (one 50 (-1) [102] F) [102] (j : Int) = (secI j, 0)) := Lib.hid (one_read j _ hs)
            clear hs
            go_upto_region 20 with (first
              | (go_at_call 19; go_must (refine (at_read H5.out [102] ML.out (j : Int) (secI j) 0 hrd.out).mono ?_); rintro e w6 ⟨rfl, h6, k6⟩; have H6 := Lib.hid h6; clear h6 k6)
              | (with_reducible refine at_store36 ?_; go_must (refine wpList_store64 rfl (.tmp 8) (.tmp 60) rfl w6.heap.size (secI j) rfl rfl _ (heap_alloc_new w6 _) rfl ?_)))
            refine wp_rename (fun W => At w.heap.size (fun i => False ∨ i = w6.heap.size) w g (one 50 (-1) [102] F) W ∧ W.heap[w6.heap.size]? = some (.cells (csF (secI j)) 36 (0, 0)) ∧ w6.heap.size < W.heap.size) ⟨H6.out.ownB (below_setRow ((Below.refl _ _).alloc (Nat.le_refl _) _) (Nat.le_refl _) _) (by simp [World.setRow]), setRow_heap _ _ _ _ _ _ (heap_alloc_new w6 _), by simp [World.setRow]⟩ ?_
            rintro W7 ⟨h7, h7b, h7c⟩
            have H7 := Lib.hid h7
            have P7 := Lib.hid h7b
            have DR : Hid (Below W7.heap.size W7 W7.drew) := Lib.hid (Below.refl _ _).drew
            clear h7 h7b
            obtain ⟨b, o, rfl, hc⟩ := lies_get HL.out H7.out.bel j (by omega)
            rw [← hp] at hc
            clear hp
            have hns := neq_self
            go_upto_region 21 with fail
            clear hgs hns
            have R7 := Lib.hid (range_row P7.out)
            have hgs := guard_sec
            have hns := neq_self2
            have hu1 := Try.underlying36
            have hu2 := info_B8 (secI j)
            have hu3 := len_B8 (secI j)
            have hu4 := one_B8 (secI j).1
            go_region_held (fun w' => w'.rangeAt w6.heap.size 0 (B8 (secI j).1)) (first | exact R7.out | exact range_below (w := W7.drew) (B := W7.drew.heap.size) R7.out H8.out h7c) (first | (go_at_call 18; go_must (refine (sector_any j _ (by omega)).mono ?_); rintro e w8 ⟨rfl, h8⟩; have H8 := Lib.hid h8; clear h8))
            clear hu1 hu2 hu3 hu4 hns hgs
            all_goals
              go_wp2_with fail
              go_roundw
            case rel => exact ⟨j + 1, F, by omega, by go_num, hF, fun x hx1 hx2 => HFG.out x (by omega) hx2, (H7.out.below (DR.out.trans H8.out)).1.free⟩
            case measure => simp [intOf]; omega
          · rw [if_neg h1] at hs
            have hrd : Hid (pRead (one 50 (-1) [102] F) [102] (j : Int) = (zSec, 7)) := Lib.hid (one_read j _ hs)
            clear hs
            have hwr : Hid (pWrite (one 50 (-1) [102] F) [102] (j : Int) (secI ((j : Int) + 9)) = (0, one 50 (-1) [102] (wrF F j (secI ((j : Int) + 9))))) := Lib.hid (one_write (by omega) j (by omega) (by omega) _)
            have hrd2 : Hid (pRead (one 50 (-1) [102] (wrF F j (secI ((j : Int) + 9)))) [102] (j : Int) = (secI ((j : Int) + 9), 0)) := Lib.hid (one_read_fr j _ _ (by rw [wrF_get F j _ (by omega), if_pos rfl]))
            go_upto_region 20 with (first
              | (go_at_call 19; go_must (refine (at_read H5.out [102] ML.out (j : Int) zSec 7 hrd.out).mono ?_); rintro e w6 ⟨rfl, h6, k6⟩; have H6 := Lib.hid h6; clear h6 k6)
              | (with_reducible refine at_store36 ?_; go_must (refine wpList_store64 rfl (.tmp 8) (.tmp 60) rfl w6.heap.size zSec rfl rfl _ (heap_alloc_new w6 _) rfl ?_)))
            refine wp_rename (fun W => At w.heap.size (fun i => False ∨ i = w6.heap.size) w g (one 50 (-1) [102] F) W ∧ W.heap[w6.heap.size]? = some (.cells (csF zSec) 36 (0, 0))) ⟨H6.out.ownB (below_setRow ((Below.refl _ _).alloc (Nat.le_refl _) _) (Nat.le_refl _) _) (by simp [World.setRow]), setRow_heap _ _ _ _ _ _ (heap_alloc_new w6 _)⟩ ?_
            rintro W7 ⟨h7, h7b⟩
            have H7 := Lib.hid h7
            have P7 := Lib.hid h7b
            clear h7 h7b
            obtain ⟨b, o, rfl, hc⟩ := lies_get HL.out H7.out.bel j (by omega)
            rw [← hp] at hc
            clear hp
            go_upto_region 23 with fail
            go_upto_region 25 with (first
              | (go_at_call 18; go_must (refine (at_sector H7.out ((j : Int) + 9) (by omega)).mono ?_); rintro e w8 ⟨rfl, h8, k8⟩; have H8 := Lib.hid h8; have K8 := Lib.hid (k8.1 w6.heap.size (.inr rfl)); clear h8 k8)
              | (go_at_call 17; go_must (refine (at_write H8.out [102] ML.out (j : Int) (secI ((j : Int) + 9)) 0 hwr.out).mono ?_); rintro e w9 ⟨rfl, h9, k9⟩; have H9 := Lib.hid h9; have K9 := Lib.hid (k9.1 w6.heap.size (.inr rfl)); clear h9 k9))
            go_upto_region 26 with (first
              | (go_at_call 19; go_must (refine (at_read H9.out [102] ML.out (j : Int) _ 0 hrd2.out).mono ?_); rintro e w10 ⟨rfl, h10, k10⟩; have H10 := Lib.hid h10; have K10 := Lib.hid (k10.1 w6.heap.size (.inr rfl)); clear h10 k10)
              | (with_reducible refine at_store36 ?_; go_must (refine wpList_store64 rfl (.tmp 8) (.tmp 93) rfl w6.heap.size (secI ((j : Int) + 9)) rfl rfl (csF zSec) (K10.out.trans (K9.out.trans (K8.out.trans P7.out))) (csF_size _) ?_)))
            have q1 : At w.heap.size (fun i => False ∨ i = w6.heap.size) w g (one 50 (-1) [102] (wrF F j (secI ((j : Int) + 9)))) (w10.setRow w6.heap.size (csF (secI ((j : Int) + 9)))) := H10.out.row w6.heap.size (.inr rfl) _
            have q2 : (w10.setRow w6.heap.size (csF (secI ((j : Int) + 9)))).heap[w6.heap.size]? = some (.cells (csF (secI ((j : Int) + 9))) 36 (0, 0)) := setRow_heap _ _ _ _ _ _ (K10.out.trans (K9.out.trans (K8.out.trans P7.out)))
            have q3 : w6.heap.size < (w10.setRow w6.heap.size (csF (secI ((j : Int) + 9)))).heap.size := (q1.xs w6.heap.size (.inr rfl)).2
            refine wp_rename (fun W => At w.heap.size (fun i => False ∨ i = w6.heap.size) w g (one 50 (-1) [102] (wrF F j (secI ((j : Int) + 9)))) W ∧ W.heap[w6.heap.size]? = some (.cells (csF (secI ((j : Int) + 9))) 36 (0, 0)) ∧ w6.heap.size < W.heap.size) ⟨q1, q2, q3⟩ ?_
            clear q1 q2 q3
            rintro W11 ⟨h11, h11b, h11c⟩
            have H11 := Lib.hid h11
            have P11 := Lib.hid h11b
            have DR : Hid (Below W11.heap.size W11 W11.drew) := Lib.hid (Below.refl _ _).drew
            obtain ⟨s9, hs9⟩ : ∃ s9, s9 = secI ((j : Int) + 9) := ⟨_, rfl⟩
            have r11 := range_row P11.out
            rw [← hs9] at r11
            have R11 := Lib.hid r11
            have HS9 := Lib.hid hs9
            have HW9 : Hid (IntKind.i64.wrap ((j : Int) + 9) = (j : Int) + 9) := Lib.hid (IntWalk.i64_in _ ⟨by omega, by omega⟩)
            clear h11 h11b hgs hc r11 hs9
            have hgs := guard_sec
            have hns := neq_self2
            have hu1 := Try.underlying36
            have hu2 := info_B8 s9
            have hu3 := len_B8 s9
            have hu4 := one_B8 s9.1
            go_region_held (fun w' => w'.rangeAt w6.heap.size 0 (B8 s9.1)) (first | exact R11.out | exact range_below (w := W11.drew) (B := W11.drew.heap.size) R11.out H12.out h11c) (first | (go_at_call 18; go_must (refine (sector_any _ _ (by rw [HW9.out]; omega)).mono ?_); rintro e w12 ⟨he, h12⟩; rw [HW9.out, ← HS9.out] at he; subst he; have H12 := Lib.hid h12; clear h12))
            clear hu1 hu2 hu3 hu4 hns hgs
            all_goals
              go_wp2_with fail
              go_roundw
            case rel =>
              refine ⟨j + 1, wrF F j (secI ((j : Int) + 9)), by omega, by go_num, by rw [wrF_length, if_pos (by omega)]; exact hF, fun x hx1 hx2 => ?_, (H11.out.below (DR.out.trans H12.out)).1.free⟩
              rw [wrF_get F j _ (by omega), if_neg (by omega)]
              exact HFG.out x (by omega) hx2
            case measure => simp [intOf]; omega
        · go_wp2_with (go_at_call 10; go_must (refine (awake_any _).mono ?_); rintro e w12 ⟨rfl, h12⟩; have H12 := Lib.hid h12; clear h12)
          go_ret
          exact ⟨rfl, (H5.out.below H12.out).1.bel⟩
end Go.Proofs.Ytdgdgpegilkdeaa
