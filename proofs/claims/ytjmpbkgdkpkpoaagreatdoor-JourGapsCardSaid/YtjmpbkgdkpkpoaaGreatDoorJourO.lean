/- Layer 8: two rows of batches that are the same. Layer 8: so many octets of a number. -/
import Derived.Test.YtjmpbkgdkpkpoaaGreatDoorJourB
import Derived.Deep.RegionHeld3
namespace Go.Proofs.YtjmpbkgdkpkpoaaGreatDoor
section
open Go.RowKit Go.Maps
set_option maxRecDepth 100000
set_option linter.unusedSimpArgs false
set_option linter.unusedVariables false
set_option maxHeartbeats 8000000 in
theorem same_batches (ms ns : List Bm) (A A' : Option Addr) (c c' : Nat) (P : Nat → Prop) (W : World) (h1 : BmsAt W P ms A c) (h2 : BmsAt W P ns A' c') (he : ms.map (·.x) = ns.map (·.x)) (hlen : ms.length ≤ 1000000000000) :
    Calls Tryz.prog 18 #[.slice A ms.length c, .slice A' ns.length c'] W fun e w' => e = .returned (.bool true) ∧ Below W.heap.size W w' := by
  have hl : ms.length = ns.length := by have := congrArg List.length he; simpa using this
  have H1 := Lib.hid h1
  have H2 := Lib.hid h2
  have HE := Lib.hid he
  obtain ⟨M, hM⟩ : ∃ M, M = ms.length := ⟨_, rfl⟩
  rw [← hl, ← hM]
  have HM := Lib.hid hM
  have HL := Lib.hid hl
  have hlM : M ≤ 1000000000000 := by omega
  clear h1 h2 he hl hlen hM
  go_enter Tryz.func18, Tryz.ntmps18
  go_wp2_with fail
  go_loopw [5] (fun vi wr => ∃ k : Nat, k ≤ M ∧ vi = .int .i64 (k : Int) ∧ Below W.heap.size W wr) (fun vi _ => M - (intOf vi).toNat)
  case atStart => exact ⟨0, Nat.zero_le _, rfl, Below.refl _ _⟩
  case round =>
    obtain ⟨k, hk, rfl, hbr⟩ := hrel
    have BR := Lib.hid hbr
    have H1r := Lib.hid (H1.out.below hbr)
    have H2r := Lib.hid (H2.out.below hbr)
    clear hbr
    by_cases hlt : k < M
    · have hi1 : (k : Int) < (M : Int) := by omega
      have hk1 : k < ms.length := by have := HM.out; omega
      have hk2 : k < ns.length := by have := HM.out; have := HL.out; omega
      obtain ⟨b, o, rfl, _, d0, d1, d2, d3, d4⟩ := lies_bm H1r.out.2.2.1.lies k hk1
      obtain ⟨b', o', rfl, _, f0, f1, f2, f3, f4⟩ := lies_bm H2r.out.2.2.1.lies k hk2
      have hx : (ms[k]'hk1).x = (ns[k]'hk2).x := by
        have := congrArg (fun l => l[k]?) HE.out
        simpa [hk1, hk2] using this
      have b1 := H1r.out.2.2.2 _ (List.getElem_mem hk1)
      have b2 := H2r.out.2.2.2 _ (List.getElem_mem hk2)
      obtain ⟨m, hm⟩ : ∃ m, m = ms[k]'hk1 := ⟨_, rfl⟩
      obtain ⟨n, hn⟩ : ∃ n, n = ns[k]'hk2 := ⟨_, rfl⟩
      rw [← hm] at d0 d1 d2 d3 d4 b1 hx
      rw [← hn] at f0 f1 f2 f3 f4 b2 hx
      obtain ⟨x, A1, c1⟩ := m
      obtain ⟨y, A2, c2⟩ := n
      simp only at hx d0 d1 d2 d3 d4 f0 f1 f2 f3 f4
      subst hx
      have dr : Below wr.heap.size wr wr.drew := (Below.refl _ _).drew
      have cv1 := run_octets_string (P := Tryz.prog) 30 9 5 Tryz.underlying30 Tryz.underlying5 Tryz.underlying9 (b1.below dr).lies c1
      have cv2 := run_octets_string (P := Tryz.prog) 30 9 5 Tryz.underlying30 Tryz.underlying5 Tryz.underlying9 (b2.below dr).lies c2
      simp only at cv1 cv2
      obtain ⟨seq, kind, bb, file, pos⟩ := x
      simp only at d0 d1 d2 d3 d4 f0 f1 f2 f3 f4 cv1 cv2
      have n0 : ((seq : Int) != (seq : Int)) = false := by simp
      have n1 : ((kind : Int) != (kind : Int)) = false := by simp
      have n2 : (file != file) = false := by simp
      have n3 : (pos != pos) = false := by simp
      clear b1 b2 hm hn hk1 hk2 dr
      go_upto_region 6 with fail
      go_region_held3 (fun w' => (w'.cell? ⟨b, o + k * 5, none⟩ = some (.int .u64 (seq : Int)) ∧ w'.cell? ⟨b, o + k * 5 + 1, none⟩ = some (.int .i64 (kind : Int)) ∧ w'.cell? ⟨b, o + k * 5 + 2, none⟩ = some (.slice A1 bb.length c1) ∧ w'.cell? ⟨b, o + k * 5 + 3, none⟩ = some (.int .i64 file) ∧ w'.cell? ⟨b, o + k * 5 + 4, none⟩ = some (.int .i64 pos)) ∧
        (w'.cell? ⟨b', o' + k * 5, none⟩ = some (.int .u64 (seq : Int)) ∧ w'.cell? ⟨b', o' + k * 5 + 1, none⟩ = some (.int .i64 (kind : Int)) ∧ w'.cell? ⟨b', o' + k * 5 + 2, none⟩ = some (.slice A2 bb.length c2) ∧ w'.cell? ⟨b', o' + k * 5 + 3, none⟩ = some (.int .i64 file) ∧ w'.cell? ⟨b', o' + k * 5 + 4, none⟩ = some (.int .i64 pos)) ∧
        (convert 30 9 (.slice A1 bb.length c1)).run Tryz.prog w' = .ok (.string ⟨bb.toArray⟩) w' ∧ (convert 30 9 (.slice A2 bb.length c2)).run Tryz.prog w' = .ok (.string ⟨bb.toArray⟩) w') (exact ⟨⟨d0, d1, d2, d3, d4⟩, ⟨f0, f1, f2, f3, f4⟩, cv1, cv2⟩) (fail)
      go_wp2_with fail
      go_roundw
      case rel => exact ⟨k + 1, by omega, by go_num, BR.out.drew⟩
      case measure => simp [intOf]; omega
    · have hkM : k = M := by omega
      subst hkM
      go_wp2_with fail
      go_ret
      exact ⟨rfl, BR.out⟩
end
section
open Go.RowKit Go.Maps
set_option maxRecDepth 100000
set_option linter.unusedSimpArgs false
set_option linter.unusedVariables false
theorem u8_of (x : Int) : ∃ c : UInt8, (c.toNat : Int) = x % 256 := ⟨UInt8.ofNat (x % 256).toNat, by rw [UInt8.toNat_ofNat']; omega⟩
theorem B8_set (l : List UInt8) (j : Nat) (c : UInt8) : B8 (l.set j c) = (B8 l).set j (.int .u8 (c.toNat : Int)) := by simp [B8, List.map_set]
def OctAt (W : World) (n : Nat) (A : Option Addr) (c : Nat) (vi : Value) (wr : World) : Prop :=
  ∃ (k : Nat) (l : List UInt8), vi = .int .i64 (k : Int) ∧ k ≤ n ∧ l.length = n ∧ wr.ownsRow W.heap.size 5 1 (.slice A n c) n (B8 l) ∧ Below W.heap.size W wr
set_option maxHeartbeats 4000000 in
theorem octets_any (n : Nat) (hn : n ≤ 300000) (v : Int) (hv : -9223372036854775808 ≤ v ∧ v < 9223372036854775808) (W : World) :
    Calls Tryz.prog 13 #[.int .i64 (n : Int), .int .i64 v] W fun e w' => ∃ A c l, e = .returned (.slice A l.length c) ∧ l.length = n ∧ w'.ownsRow W.heap.size 5 1 (.slice A l.length c) l.length (B8 l) ∧ Below W.heap.size W w' := by
  obtain ⟨i0, hi, hz0, hz1, hz2⟩ := info_parts u8_info
  have hby : i0.bytes * n ≤ 281474976710656 := by rw [hz2]; omega
  have hml : n ≤ maxLen := by unfold maxLen; omega
  have HI := Lib.hid hi
  have H0 := Lib.hid hz0
  have H1 := Lib.hid hz1
  have HB := Lib.hid hby
  have HM := Lib.hid hml
  have hmx : max (n : Int) 0 = (n : Int) := by omega
  have hmn : min (n : Int) 300000 = (n : Int) := by omega
  clear hi hz0 hz1 hz2 hby hml
  go_enter Tryz.func13, Tryz.ntmps13
  go_upto_region 3 with (at_make; go_must (refine wpList_make_full _ rfl _ _ 30 rfl W.heap.size 5 i0 (.int .u8 0) 1 Tryz.underlying30 HI.out H0.out H1.out .i64 .i64 _ _ n rfl rfl rfl rfl HB.out HM.out (Nat.le_refl _) ?_); intro w1 hown hg; have hbel := below_none hg; have HB1 := Lib.hid hbel; have HO := Lib.hid hown; clear hown hg hbel)
  have hz0 : (madeCells (Value.int .u8 0).cells (n * 1)).toList = B8 (List.replicate n 0) := by
    rw [Nat.mul_one]
    simp [madeCells, B8, Value.cells, Nat.mod_one]
    rw [List.map_const', List.length_range]
  have HO2 := Lib.hid (show w1.ownsRow W.heap.size 5 1 (.slice (some ⟨W.heap.size, 0, none⟩) n n) n (B8 (List.replicate n 0)) by rw [← hz0]; exact HO.out)
  clear hz0 HO
  go_wp2_with fail
  go_loopw [13] (fun vi wr => OctAt W n (some ⟨W.heap.size, 0, none⟩) n vi wr) (fun vi _ => n - (intOf vi).toNat)
  case atStart => exact ⟨0, _, rfl, Nat.zero_le _, by simp, HO2.out, HB1.out⟩
  case round =>
    obtain ⟨k, l, rfl, hk, hl, hown, hbr⟩ := hrel
    have HO := Lib.hid hown
    have BR := Lib.hid hbr
    have HL := Lib.hid hl
    by_cases hlt : k < n
    · have hi1 : (k : Int) < (n : Int) := by omega
      have hc := hown.cellAt k (by omega)
      have hc2 : wr.cell? ⟨W.heap.size, k, none⟩ = some (.int .u8 ((l[k]'(by omega)).toNat : Int)) := hc.trans (B8_get l k (by omega))
      have hfz := hown.frozenAt k
      clear hc hown hbr
      obtain ⟨oc, hoc⟩ : ∃ oc, oc = ((l[k]'(by omega)).toNat : Int) := ⟨_, rfl⟩
      rw [← hoc] at hc2
      clear hl hoc
      go_wp2
      go_roundw
      case rel =>
        obtain ⟨oc2, hoc2⟩ := u8_of (wrap64 (wrap64 (v + (k : Int) * 7) + (k : Int) / 256))
        rw [← hoc2]
        refine ⟨k + 1, l.set k oc2, by go_num, by omega, by rw [List.length_set]; exact HL.out, ?_, BR.out.setCell (Nat.le_refl _) _⟩
        rw [B8_set]
        exact (HO.out.stored k _).1
      case measure => simp [intOf]; omega
    · have hk2 : k = n := by omega
      subst hk2
      clear hown hbr
      go_wp2
      go_ret
      refine ⟨some ⟨W.heap.size, 0, none⟩, k, l, ?_, hl, ?_, BR.out⟩
      · rw [hl]; rfl
      · rw [hl]; exact HO.out
end
end Go.Proofs.YtjmpbkgdkpkpoaaGreatDoor
