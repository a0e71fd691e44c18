/- Contract of the document's own comparison of two tables. -/
import Derived.Test.YtlfppfknelddcaaDoorTablP
import Derived.Test.YtlfppfknelddcaaDoorOctsR
import Derived.WalkLawsBesides
import Derived.Deep.DeepCutAuto
import Derived.Deep.RegionWith
import Derived.Deep.RegionHeld3
namespace Go.Proofs.YtlfppfknelddcaaDoor
open Go.RowKit
set_option maxRecDepth 100000

def SameIs (a b : List Fld) (w : World) (e : Ending) (w' : World) : Prop := ∃ r : Bool, e = .returned (.bool r) ∧ (r = true ↔ a = b) ∧ Below w.heap.size w w'
/-- two boxes were made -/
def TwoBoxes (cs ds : Array Value) (w : World) (x y : Value) (w' : World) : Prop :=
  ∃ g h, x = .pointer (some ⟨g, 0, none⟩) ∧ y = .pointer (some ⟨h, 0, none⟩) ∧ Whole w' g 50 cs ∧ Whole w' h 50 ds ∧ Below w.heap.size w w'
theorem two_boxes1 (w : World) (cs ds : Array Value) : TwoBoxes cs ds w (.pointer (some ⟨w.heap.size, 0, none⟩)) (.pointer (some ⟨w.heap.size + 1, 0, none⟩)) ((w.alloc (.cells cs 50)).alloc (.cells ds 50)).drew := by
  have h := Whole.new (w.alloc (.cells cs 50)) 50 ds
  rw [show (w.alloc (.cells cs 50)).heap.size = w.heap.size + 1 from by simp] at h
  exact ⟨_, _, rfl, rfl, (Whole.new w 50 cs).alloc _, h, (((Below.refl _ w).alloc (Nat.le_refl _) _).alloc (by simp) _).drew⟩
theorem two_boxes2 (w : World) (cs ds : Array Value) : TwoBoxes cs ds w (.pointer (some ⟨w.heap.size + 1, 0, none⟩)) (.pointer (some ⟨w.heap.size, 0, none⟩)) ((w.alloc (.cells ds 50)).alloc (.cells cs 50)).drew := by
  have h := Whole.new (w.alloc (.cells ds 50)) 50 cs
  rw [show (w.alloc (.cells ds 50)).heap.size = w.heap.size + 1 from by simp] at h
  exact ⟨_, _, rfl, rfl, h, (Whole.new w 50 ds).alloc _, (((Below.refl _ w).alloc (Nat.le_refl _) _).alloc (by simp) _).drew⟩
def cellsA (v : Value) (f : Fld) : Array Value := #[.string ⟨f.name.toArray⟩, .int .u8 (f.kind.toNat : Int), .int .i64 f.n, .string ⟨f.s.toArray⟩, v]

set_option maxHeartbeats 1000000 in
set_option maxRecDepth 100000 in
theorem same_table {H H' : Fld → Prop} (d : Nat) : ∀ (a b : List Fld) (A A' : Option Addr) (c c' d' B B' : Nat) (w : World), TabH H d w B a A c → TabH H' d' w B' b A' c' → B ≤ w.heap.size → B' ≤ w.heap.size →
    Calls Tryd.prog 35 #[.slice A a.length c, .slice A' b.length c'] w (SameIs a b w) := by
  induction d with
  | zero =>
    intro a b A A' c c' d' B B' w ha hb hB hB'
    obtain ⟨rfl, _⟩ := ha
    have hcap := TabH.cap hb
    unfold maxLen at hcap
    clear hb
    cases b with
    | nil =>
      have D : Hid (SameIs [] [] w (.returned (.bool true)) w) := Lib.hid ⟨true, rfl, by simp, Below.refl _ _⟩
      go_enter Tryd.func35, Tryd.ntmps35
      go_wp2_with fail
      refine wp_loop_rounds 1 ?_
      rw [rounds_succ]
      go_wp2_with fail
      go_ret
      exact D.out
    | cons x b =>
      have D : Hid (SameIs [] (x :: b) w (.returned (.bool false)) w) := Lib.hid ⟨false, rfl, by simp, Below.refl _ _⟩
      obtain ⟨n, hn⟩ : ∃ n, n = (x :: b).length := ⟨_, rfl⟩
      have hn0 : ((0 : Int) != (n : Int)) = true := by rw [hn]; simp; omega
      rw [← hn]
      have HN := Lib.hid hn
      clear hn
      go_enter Tryd.func35, Tryd.ntmps35
      go_wp2_with fail
      go_ret
      exact D.out
  | succ d ih =>
    intro a b A A' c c' d' B B' w ha hb hB hB'
    have hca := TabH.cap ha
    have hcb := TabH.cap hb
    have hb1 := TabH.succ _ _ _ _ hb
    unfold maxLen at hca hcb
    have HA := Lib.hid ha
    have HB := Lib.hid hb1
    have IH := Lib.hid ih
    clear ha hb hb1 ih
    by_cases hlen : a.length = b.length
    · obtain ⟨n, hn⟩ : ∃ n, n = a.length := ⟨_, rfl⟩
      have hn' : n = b.length := by omega
      rw [← hn, ← hn']
      rw [← hn] at hca
      rw [← hn'] at hcb
      have HN := Lib.hid hn
      have HN' := Lib.hid hn'
      clear hlen hn hn'
      go_enter Tryd.func35, Tryd.ntmps35
      go_wp2_with fail
      go_loopw [5] (fun i wr => ∃ j : Nat, j ≤ n ∧ i = .int .i64 j ∧ a.take j = b.take j ∧ Below w.heap.size w wr) (fun i _ => n - (intOf i).toNat)
      case atStart => exact ⟨0, Nat.zero_le _, rfl, rfl, Below.refl _ _⟩
      case round =>
        obtain ⟨j, hj, rfl, htk, hbel⟩ := hrel
        have HTK := Lib.hid htk
        have HBL := Lib.hid hbel
        have hsz := hbel.size
        clear htk hbel
        by_cases hlt : j < n
        · obtain ⟨b1, o1, A1, c1, rfl, hb1, _, ht1, hcell1⟩ := (HA.out.below (HBL.out.mono hB)).at j (by rw [← HN.out]; exact hlt)
          obtain ⟨b2, o2, A2, c2, rfl, hb2, _, ht2, hcell2⟩ := (HB.out.below (HBL.out.mono hB')).at j (by rw [← HN'.out]; exact hlt)
          obtain ⟨f, hf⟩ : ∃ f, f = a[j]'(by rw [← HN.out]; exact hlt) := ⟨_, rfl⟩
          obtain ⟨g, hg⟩ : ∃ g, g = b[j]'(by rw [← HN'.out]; exact hlt) := ⟨_, rfl⟩
          rw [← hf] at ht1 hcell1
          rw [← hg] at ht2 hcell2
          have p0 : wr.cell? ⟨b1, o1 + j * 5, none⟩ = some (.string ⟨f.name.toArray⟩) := hcell1 0 _ rfl
          have p1 : wr.cell? ⟨b1, o1 + j * 5 + 1, none⟩ = some (.int .u8 (f.kind.toNat : Int)) := hcell1 1 _ rfl
          have p2 : wr.cell? ⟨b1, o1 + j * 5 + 2, none⟩ = some (.int .i64 f.n) := hcell1 2 _ rfl
          have p3 : wr.cell? ⟨b1, o1 + j * 5 + 3, none⟩ = some (.string ⟨f.s.toArray⟩) := hcell1 3 _ rfl
          have p4 : wr.cell? ⟨b1, o1 + j * 5 + 4, none⟩ = some (.slice A1 f.t.length c1) := hcell1 4 _ rfl
          have q0 : wr.cell? ⟨b2, o2 + j * 5, none⟩ = some (.string ⟨g.name.toArray⟩) := hcell2 0 _ rfl
          have q1 : wr.cell? ⟨b2, o2 + j * 5 + 1, none⟩ = some (.int .u8 (g.kind.toNat : Int)) := hcell2 1 _ rfl
          have q2 : wr.cell? ⟨b2, o2 + j * 5 + 2, none⟩ = some (.int .i64 g.n) := hcell2 2 _ rfl
          have q3 : wr.cell? ⟨b2, o2 + j * 5 + 3, none⟩ = some (.string ⟨g.s.toArray⟩) := hcell2 3 _ rfl
          have q4 : wr.cell? ⟨b2, o2 + j * 5 + 4, none⟩ = some (.slice A2 g.t.length c2) := hcell2 4 _ rfl
          have HT1 := Lib.hid ht1
          have HT2 := Lib.hid ht2
          have hw1 : b1 < wr.heap.size := by omega
          have hw2 : b2 < wr.heap.size := by omega
          have hne : f ≠ g → a ≠ b := by
            intro h e
            apply h
            rw [hf, hg]
            simp only [e]
          have hsn : f = g → a.take (j + 1) = b.take (j + 1) := by
            intro h
            rw [List.take_succ_eq_append_getElem (by rw [← HN.out]; exact hlt), List.take_succ_eq_append_getElem (by rw [← HN'.out]; exact hlt), HTK.out, ← hf, ← hg, h]
          have HNE := Lib.hid hne
          have HSN := Lib.hid hsn
          clear hcell1 hcell2 ht1 ht2 hf hg hne hsn
          go_wp2_with fail
          go_cut [6, 7] (fun x y w' => TwoBoxes (cellsA (.slice A1 f.t.length c1) f) (cellsA (.slice A2 g.t.length c2) g) wr x y w')
          case first =>
            go_region
            · go_wp2_with fail
              go_meet
              exact two_boxes1 wr (cellsA (.slice A1 f.t.length c1) f) (cellsA (.slice A2 g.t.length c2) g)
            · go_wp2_with fail
              go_meet
              exact two_boxes2 wr (cellsA (.slice A1 f.t.length c1) f) (cellsA (.slice A2 g.t.length c2) g)
          case rest =>
            obtain ⟨gx, gy, rfl, rfl, hx, hy, hbx⟩ := hcut
            have x0 : wc.cell? ⟨gx, 0, none⟩ = some (.string ⟨f.name.toArray⟩) := hx.cell 0
            have x1 : wc.cell? ⟨gx, 1, none⟩ = some (.int .u8 (f.kind.toNat : Int)) := hx.cell 1
            have x2 : wc.cell? ⟨gx, 2, none⟩ = some (.int .i64 f.n) := hx.cell 2
            have x3 : wc.cell? ⟨gx, 3, none⟩ = some (.string ⟨f.s.toArray⟩) := hx.cell 3
            have x4 : wc.cell? ⟨gx, 4, none⟩ = some (.slice A1 f.t.length c1) := hx.cell 4
            have y0 : wc.cell? ⟨gy, 0, none⟩ = some (.string ⟨g.name.toArray⟩) := hy.cell 0
            have y1 : wc.cell? ⟨gy, 1, none⟩ = some (.int .u8 (g.kind.toNat : Int)) := hy.cell 1
            have y2 : wc.cell? ⟨gy, 2, none⟩ = some (.int .i64 g.n) := hy.cell 2
            have y3 : wc.cell? ⟨gy, 3, none⟩ = some (.string ⟨g.s.toArray⟩) := hy.cell 3
            have y4 : wc.cell? ⟨gy, 4, none⟩ = some (.slice A2 g.t.length c2) := hy.cell 4
            have HBX := Lib.hid hbx
            clear hx hy hbx
            have hbc : Below w.heap.size w wc := HBL.out.trans (HBX.out.mono hsz)
            have DF : Hid (f ≠ g → SameIs a b w (.returned (.bool false)) wc) := Lib.hid (fun h => ⟨false, rfl, ⟨(fun h => (by cases h)), fun h2 => absurd h2 (HNE.out h)⟩, hbc⟩)
            have HBC := Lib.hid hbc
            clear hbc
            go_wp2_with fail
            · have hnm : f.name = g.name := by assumption
              have hkd : (f.kind.toNat : Int) = (g.kind.toNat : Int) := by assumption
              have hnn : f.n = g.n := by assumption
              have hss : f.s = g.s := by assumption
              have HFG : Hid (f.t = g.t → f = g) := Lib.hid (fun ht => by
                rw [Fld.eta f, Fld.eta g, hnm, hnn, hss, ht, UInt8.toNat_inj.1 (by omega : f.kind.toNat = g.kind.toNat)])
              clear hnm hkd hnn hss
              refine (IH.out f.t g.t A1 A2 c1 c2 _ B B' _ (HT1.out.below (HBX.out.mono (by omega))) (HT2.out.below (HBX.out.mono (by omega))) (by have := HBX.out.size; omega) (by have := HBX.out.size; omega)).mono ?_
              rintro e w5 ⟨r, rfl, hr, hb5⟩
              have hb6 : Below w.heap.size w w5 := HBC.out.trans (hb5.mono HBC.out.size)
              have HB6 := Lib.hid hb6
              have HRR := Lib.hid hr
              clear hr hb5 hb6
              cases r with
              | false =>
                have D : Hid (SameIs a b w (.returned (.bool false)) w5) := Lib.hid ⟨false, rfl, ⟨(fun h => (by cases h)), fun h => absurd h (HNE.out (fun e => by have := HRR.out.2 (by rw [e]); cases this))⟩, HB6.out⟩
                go_wp2_with fail
                go_ret
                exact D.out
              | true =>
                have hst := HSN.out (HFG.out (HRR.out.1 rfl))
                have HST := Lib.hid hst
                clear hst
                go_wp2_with fail
                go_roundw
                case rel => exact ⟨j + 1, by omega, by go_num, HST.out, HB6.out⟩
                case measure => simp [intOf]; omega
            all_goals
              go_ret
              first
                | exact DF.out (fun e => absurd (congrArg Fld.name e) (by assumption))
                | exact DF.out (fun e => absurd (congrArg Fld.n e) (by assumption))
                | exact DF.out (fun e => absurd (congrArg Fld.s e) (by assumption))
                | exact DF.out (fun e => absurd (congrArg (fun z => (z.kind.toNat : Int)) e) (by assumption))
        · obtain rfl : j = n := by omega
          have D : Hid (SameIs a b w (.returned (.bool true)) wr) := by
            refine Lib.hid ⟨true, rfl, ⟨fun _ => ?_, fun _ => rfl⟩, HBL.out⟩
            have h := HTK.out
            rw [HN.out, List.take_length, ← HN.out, HN'.out, List.take_length] at h
            exact h
          go_wp2_with fail
          go_ret
          exact D.out
    · have D : Hid (SameIs a b w (.returned (.bool false)) w) := Lib.hid ⟨false, rfl, ⟨(fun h => (by cases h)), fun h => absurd (congrArg List.length h) hlen⟩, Below.refl _ _⟩
      obtain ⟨n, hn⟩ : ∃ n, n = a.length := ⟨_, rfl⟩
      obtain ⟨m, hm⟩ : ∃ m, m = b.length := ⟨_, rfl⟩
      have hnm : ((n : Int) != (m : Int)) = true := by rw [bne_iff_ne]; omega
      rw [← hn, ← hm]
      clear hn hm hlen
      go_enter Tryd.func35, Tryd.ntmps35
      go_wp2_with fail
      go_ret
      exact D.out
end Go.Proofs.YtlfppfknelddcaaDoor
