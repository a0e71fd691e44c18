/- Layer 8: so many octets of a number. Layer 8: what one more batch makes of the rows; octets of a law, ready to be appended. -/
import Derived.Test.YtmemdkgoeldemaaGreatDoorJourB
import Derived.Deep.RegionHeld3
import Derived.Test.YtmemdkgoeldemaaGreatDoorJourK
namespace Go.Proofs.YtmemdkgoeldemaaGreatDoor
section
section
open Go.RowKit Go.Maps
set_option maxRecDepth 100000
set_option linter.unusedSimpArgs false
set_option linter.unusedVariables false
theorem u8_of (x : Int) : ∃ c : UInt8, (c.toNat : Int) = x % 256 := ⟨UInt8.ofNat (x % 256).toNat, by rw [UInt8.toNat_ofNat']; omega⟩
theorem B8_set (l : List UInt8) (j : Nat) (c : UInt8) : B8 (l.set j c) = (B8 l).set j (.int .u8 (c.toNat : Int)) := by simp [B8, List.map_set]
def OctAt (W : World) (n : Nat) (A : Option Addr) (c : Nat) (vi : Value) (wr : World) : Prop :=
  ∃ (k : Nat) (l : List UInt8), vi = .int .i64 (k : Int) ∧ k ≤ n ∧ l.length = n ∧ wr.ownsRow W.heap.size 5 1 (.slice A n c) n (B8 l) ∧ Below W.heap.size W wr
set_option maxHeartbeats 4000000 in
theorem octets_any (n : Nat) (hn : n ≤ 300000) (v : Int) (hv : -9223372036854775808 ≤ v ∧ v < 9223372036854775808) (W : World) :
    Calls Tryz.prog 13 #[.int .i64 (n : Int), .int .i64 v] W fun e w' => ∃ A c l, e = .returned (.slice A l.length c) ∧ l.length = n ∧ w'.ownsRow W.heap.size 5 1 (.slice A l.length c) l.length (B8 l) ∧ Below W.heap.size W w' := by
  obtain ⟨i0, hi, hz0, hz1, hz2⟩ := info_parts u8_info
  have hby : i0.bytes * n ≤ 281474976710656 := by rw [hz2]; omega
  have hml : n ≤ maxLen := by unfold maxLen; omega
  have HI := Lib.hid hi
  have H0 := Lib.hid hz0
  have H1 := Lib.hid hz1
  have HB := Lib.hid hby
  have HM := Lib.hid hml
  have hmx : max (n : Int) 0 = (n : Int) := by omega
  have hmn : min (n : Int) 300000 = (n : Int) := by omega
  clear hi hz0 hz1 hz2 hby hml
  go_enter Tryz.func13, Tryz.ntmps13
  go_upto_region 3 with (at_make; go_must (refine wpList_make_full _ rfl _ _ 30 rfl W.heap.size 5 i0 (.int .u8 0) 1 Tryz.underlying30 HI.out H0.out H1.out .i64 .i64 _ _ n rfl rfl rfl rfl HB.out HM.out (Nat.le_refl _) ?_); intro w1 hown hg; have hbel := below_none hg; have HB1 := Lib.hid hbel; have HO := Lib.hid hown; clear hown hg hbel)
  have hz0 : (madeCells (Value.int .u8 0).cells (n * 1)).toList = B8 (List.replicate n 0) := by
    rw [Nat.mul_one]
    simp [madeCells, B8, Value.cells, Nat.mod_one]
    rw [List.map_const', List.length_range]
  have HO2 := Lib.hid (show w1.ownsRow W.heap.size 5 1 (.slice (some ⟨W.heap.size, 0, none⟩) n n) n (B8 (List.replicate n 0)) by rw [← hz0]; exact HO.out)
  clear hz0 HO
  go_wp2_with fail
  go_loopw [13] (fun vi wr => OctAt W n (some ⟨W.heap.size, 0, none⟩) n vi wr) (fun vi _ => n - (intOf vi).toNat)
  case atStart => exact ⟨0, _, rfl, Nat.zero_le _, by simp, HO2.out, HB1.out⟩
  case round =>
    obtain ⟨k, l, rfl, hk, hl, hown, hbr⟩ := hrel
    have HO := Lib.hid hown
    have BR := Lib.hid hbr
    have HL := Lib.hid hl
    by_cases hlt : k < n
    · have hi1 : (k : Int) < (n : Int) := by omega
      have hc := hown.cellAt k (by omega)
      have hc2 : wr.cell? ⟨W.heap.size, k, none⟩ = some (.int .u8 ((l[k]'(by omega)).toNat : Int)) := hc.trans (B8_get l k (by omega))
      have hfz := hown.frozenAt k
      clear hc hown hbr
      obtain ⟨oc, hoc⟩ : ∃ oc, oc = ((l[k]'(by omega)).toNat : Int) := ⟨_, rfl⟩
      rw [← hoc] at hc2
      clear hl hoc
      go_wp2
      go_roundw
      case rel =>
        obtain ⟨oc2, hoc2⟩ := u8_of (wrap64 (wrap64 (v + (k : Int) * 7) + (k : Int) / 256))
        rw [← hoc2]
        refine ⟨k + 1, l.set k oc2, by go_num, by omega, by rw [List.length_set]; exact HL.out, ?_, BR.out.setCell (Nat.le_refl _) _⟩
        rw [B8_set]
        exact (HO.out.stored k _).1
      case measure => simp [intOf]; omega
    · have hk2 : k = n := by omega
      subst hk2
      clear hown hbr
      go_wp2
      go_ret
      refine ⟨some ⟨W.heap.size, 0, none⟩, k, l, ?_, hl, ?_, BR.out⟩
      · rw [hl]; rfl
      · rw [hl]; exact HO.out
end
end
section
open Go.RowKit Go.Maps
set_option maxRecDepth 100000
set_option linter.unusedSimpArgs false
set_option linter.unusedVariables false
theorem addB_len (bss : List (List Bt)) (J : Jr) (x : Bt) (h : stays bss J → 0 < bss.length) : (addB bss J x).length ≤ bss.length + 1 := by
  unfold addB
  split
  · rename_i hs
    have := h hs
    simp
  · simp
theorem addB_needs (bss : List (List Bt)) (J : Jr) (x : Bt) (h : stays bss J → 0 < bss.length) : needss (addB bss J x) = needss bss + need x.b.length := by
  unfold addB
  split
  · rename_i hs
    have e := split_last (h hs)
    conv => rhs; rw [e]
    rw [needss_snoc, needss_snoc, needs_app]
    omega
  · rw [needss_snoc]
    simp [needs]
section
variable {B g jb mo : Nat} {X : Nat → Prop} {w0 W w' : World} {bss : List (List Bt)} {S : Dv} {J : Jr}
theorem JI.stays (h : JI mo bss S J) : stays bss J → 0 < bss.length := fun hs => by
  rcases h.file with h1 | h1
  · exact absurd h1 hs.1
  · exact h1.2
theorem rm_used {x : Bt} {S4 : Dv} {J4 : Jr} (h : JI mo (addB bss J x) S4 J4) (hs : Go.Proofs.YtmemdkgoeldemaaGreatDoor.stays bss J → 0 < bss.length) : S4.used = needss bss + need x.b.length := by
  rw [h.dev.used, addB_needs bss J x hs]
theorem oct_ready (h : LAt B g jb mo X w0 bss S J W) {A : Option Addr} {c : Nat} {l : List UInt8} (ho : w'.ownsRow W.heap.size 5 1 (.slice A l.length c) l.length (B8 l)) (hb : Below W.heap.size W w') :
    ∃ X3 : Nat → Prop, (∀ i, X i → X3 i) ∧ LAt B g jb mo X3 w0 bss S J w' ∧ LiesP w' (fun i => X3 i ∧ i ≠ jb) A (B8 l) := by
  refine ⟨_, fun i hi => .inl hi, h.fence hb, LiesP.own ho fun i hi => ?_⟩
  have h1 := ho.lt i hi
  have h2 := h.jlt
  exact ⟨.inr h1, by omega⟩
end
end
end Go.Proofs.YtmemdkgoeldemaaGreatDoor
