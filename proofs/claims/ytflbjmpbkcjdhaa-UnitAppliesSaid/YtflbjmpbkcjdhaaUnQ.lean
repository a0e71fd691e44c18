/- Contracts of package unit: Apply. -/
import Derived.Test.YtflbjmpbkcjdhaaUnP
import Derived.Laws.Cover3
namespace Go.Proofs.Ytflbjmpbkcjdhaa
open Go.RowKit Go.Maps
set_option maxRecDepth 100000
set_option linter.unusedSimpArgs false
set_option linter.unusedVariables false

theorem MapK.kept {w w' : World} {b : Nat} {L : List KV} (h : MapK w b L) (hb : Below w.heap.size w w') : MapK w' b L := MapF.block h (hb.block b (MapF.lt h))
theorem ops_grown {w w' : World} {B b : Nat} {l : List Om} {A : Option Addr} {c : Nat} (h : OpsAt w B l A c) (hg : w.grownBy w' (some b)) (hB : B ≤ w.heap.size) (hb : B ≤ b) : OpsAt w' B l A c :=
  ⟨h.1, h.2.1, h.2.2.1.grown hg hB (fun k e => by injection e; omega), fun m hm => ⟨(h.2.2.2 m hm).1.grown hg hB (fun k e => by injection e; omega), (h.2.2.2 m hm).2⟩⟩
theorem eql_nil (b : Nat) (w : World) : (binOp .eql 42 (.map (some b)) (.map none)).run Try.prog w = .ok (.bool false) w := by
  have h := run_equal_map_nil (P := Try.prog) w 42 _ _ (some b) Try.underlying42
  simp [binOp, h, Result.andThen]
set_option maxHeartbeats 1000000 in
theorem uapply_any (l : List Om) (A : Option Addr) (n c B b : Nat) (L : List KV) (w : World) (hn : n = l.length) (ht : OpsAt w B l A c) (hB : B ≤ b) (hm : MapK w b L) (hr : Rising L) (hf : Few l) (hL : L.length ≤ 1000000) :
    Calls Try.prog 17 #[.map (some b), .slice A n c] w fun e w' => e = .returned (.tuple #[]) ∧ MapK w' b (doAll L (pl l)) ∧ w.grownBy w' (some b) := by
  subst hn
  have HT := Lib.hid ht
  have HF := Lib.hid hf
  have HM := Lib.hid hm
  have HR := Lib.hid hr
  have hbw := MapF.lt hm
  have hlc := ht.1
  have hcm := ht.2.1
  have hll := hf.1
  unfold maxLen at hcm
  have hpl := pl_length l
  have HPL := Lib.hid hpl
  have en := eql_nil b w
  clear ht hf hm hr hpl
  go_enter Try.func17, Try.ntmps17
  go_wp2_with fail
  go_loopw [10] (fun i wr => ∃ j : Nat, j ≤ l.length ∧ i = .int .i64 j ∧ MapK wr b (doAll L ((pl l).take j)) ∧ w.grownBy wr (some b)) (fun i _ => l.length - (intOf i).toNat)
  case atStart => exact ⟨0, Nat.zero_le _, rfl, HM.out, only_refl _ _⟩
  case round =>
    obtain ⟨j, hj, rfl, hM, hG⟩ := hrel
    have HMJ := Lib.hid hM
    have HG := Lib.hid hG
    clear hM hG
    by_cases hlt : j < l.length
    · have T := ops_grown HT.out HG.out (by omega) hB
      have vm := T.2.2.2 _ (List.getElem_mem hlt)
      obtain ⟨b', o', rfl, hb', c0, c1, c2⟩ := lies_om T.2.2.1 j hlt
      have hfew := HF.out.at j hlt
      have hpj := pl_at l j (by rw [HPL.out]; exact hlt)
      have hst := doAll_take L (pl l) j (by rw [HPL.out]; exact hlt)
      rw [hpj] at hst
      obtain ⟨m, hm⟩ : ∃ m, m = l[j] := ⟨_, rfl⟩
      rw [← hm] at c0 c1 c2 vm hfew hst
      obtain ⟨LJ, hLJ⟩ : ∃ X, X = doAll L ((pl l).take j) := ⟨_, rfl⟩
      have hRJ : Rising LJ := by rw [hLJ]; exact doAll_rising HR.out _
      have hlen : LJ.length ≤ 2000000 := by
        have := doAll_length L ((pl l).take j)
        rw [List.length_take] at this
        rw [hLJ]; omega
      rw [← hLJ] at HMJ hst
      have HST := Lib.hid hst
      have HRJ := Lib.hid hRJ
      have hz := HG.out.size
      obtain ⟨WA, hWA⟩ : ∃ W, W = wr.alloc (.cells #[.string ⟨m.o.key.toArray⟩, .bool m.o.del, .slice m.A m.o.val.length m.c] 24) := ⟨_, rfl⟩
      have b1 : Below wr.heap.size wr WA := by rw [hWA]; exact (Below.refl _ _).alloc (Nat.le_refl _) _
      have x1 : Whole WA wr.heap.size 24 #[.string ⟨m.o.key.toArray⟩, .bool m.o.del, .slice m.A m.o.val.length m.c] := by rw [hWA]; exact Whole.new _ _ _
      have y0 := x1.cell 0
      have y1 := x1.cell 1
      have y2 := x1.cell 2
      have MA := HMJ.out.kept b1
      have GA := only_trans HG.out (only_below b1 (some b))
      have hk : ksOk m.o.key := ks_map _ hfew.1
      have lv := vm.1.below (b1.mono (by omega))
      clear hm hpj hst hLJ hRJ T x1 b1
      obtain ⟨dl, hdl⟩ : ∃ dl, dl = m.o.del := ⟨_, rfl⟩
      rw [← hdl] at y1 c1 hWA
      have HDL := Lib.hid hdl
      clear hdl
      cases dl with
      | true =>
        obtain ⟨w7, r7, m7, t7⟩ := MA.del HRJ.out m.o HDL.out.symm hk 0
        have D7 := Lib.hid (show MapK w7 b (doAll L ((pl l).take (j + 1))) by rw [HST.out]; exact m7)
        have G7 := Lib.hid (only_trans GA t7.grown)
        clear m7 t7 MA GA vm lv
        go_upto_region 4 with fail
        rw [← hWA]
        clear hWA
        go_wp2_with fail
        go_roundw
        case rel => exact ⟨j + 1, by omega, by go_num, D7.out, G7.out⟩
        case measure => simp [intOf]; omega
      | false =>
        obtain ⟨w7, r7, m7, t7⟩ := MA.put HRJ.out m.o HDL.out.symm hk (by unfold maxLen; omega)
        have D7 := Lib.hid (show MapK w7 b (doAll L ((pl l).take (j + 1))) by rw [HST.out]; exact m7)
        have G7 := Lib.hid (only_trans GA t7.grown)
        have cv := run_octets_string (P := Try.prog) 22 9 5 Try.underlying22 Try.underlying5 Try.underlying9 lv m.c
        clear m7 t7 MA GA vm lv
        go_upto_region 4 with fail
        rw [← hWA]
        clear hWA
        go_wp2_with fail
        go_roundw
        case rel => exact ⟨j + 1, by omega, by go_num, D7.out, G7.out⟩
        case measure => simp [intOf]; omega
    · obtain rfl : l.length = j := by omega
      have M7 : Hid (MapK wr b (doAll L (pl l))) := Lib.hid (by
        have := HMJ.out
        rwa [← HPL.out, List.take_length] at this)
      go_wp2_with fail
      go_end0
      exact ⟨rfl, M7.out, HG.out⟩
end Go.Proofs.Ytflbjmpbkcjdhaa
