/- Contracts of package tabl: a table's count of octets. -/
import Derived.Test.YtlfppfknelddcaaDoorTablC
import Derived.Maps.OwnSet
namespace Go.Proofs.YtlfppfknelddcaaDoor
open Go.RowKit Go.Maps
set_option maxRecDepth 100000

theorem name_law : Keyed Tryd.prog 9 := string_keyed Tryd.underlying9
theorem unit_zero (w : World) : (zeroValue 141).run Tryd.prog w = .ok (.agg #[]) w := by kernel_rfl
/-- the set of some names -/
def namesD (l : List (List UInt8)) : DataW Unit := setOf (.agg []) (l.map Lit.string)
theorem namesD_nil : namesD [] = .map [] := rfl
theorem namesD_snoc (l : List (List UInt8)) (x : List UInt8) : namesD (l ++ [x]) = (namesD l).put (.string x) (.agg []) := by
  unfold namesD
  rw [List.map_append]
  exact setOf_snoc _ _ _
theorem names_has (l : List (List UInt8)) (x : List UInt8) : Maps.has (namesD l) (.string x) = decide (x ∈ l) := by
  unfold namesD
  rw [has_setOf _ _ _ (fun y hy => by obtain ⟨_, _, rfl⟩ := List.mem_map.1 hy; trivial), List.any_map, Bool.eq_iff_iff, List.any_eq_true]
  simp only [Function.comp, decide_eq_true_eq]
  constructor
  · rintro ⟨y, hy, h⟩
    have := WideAt.sameKey_eq h
    injection this with e
    exact e ▸ hy
  · intro h
    exact ⟨x, h, WideAt.sameKey_self trivial⟩
/-- a map that is just the set of some names -/
def NamesAt (w : World) (g n : Nat) (l : List (List UInt8)) : Prop := w.ownsMap Tryd.prog 9 (unitElem (H := Unit)) g n (namesD l)

def FitIs (k : Nat) (l : List Fld) (left : Nat) (w : World) (e : Ending) (w' : World) : Prop :=
  e = .returned (.tuple #[.int .i64 (((fitD k l left).getD 0 : Nat) : Int), .bool (fitD k l left).isSome]) ∧ Below w.heap.size w w'
theorem FitIs.no {k : Nat} {l : List Fld} {left : Nat} {w w' : World} (h : fitD k l left = none) (hb : Below w.heap.size w w') : FitIs k l left w (.returned (.tuple #[.int .i64 0, .bool false])) w' := by
  refine ⟨?_, hb⟩
  rw [h]
  rfl
theorem FitIs.yes {k : Nat} {l : List Fld} {left r : Nat} {w w' : World} (h : fitD k l left = some r) (hb : Below w.heap.size w w') : FitIs k l left w (.returned (.tuple #[.int .i64 r, .bool true])) w' := by
  refine ⟨?_, hb⟩
  rw [h]
  rfl

set_option maxHeartbeats 1000000 in
set_option maxRecDepth 100000 in
theorem fit_any (k : Nat) : ∀ (l : List Fld) (A : Option Addr) (c d B left : Nat) (deep : Int) (w : World), 1 ≤ deep → deep + k = 9 → left ≤ 2000 → TabAt d w B l A c → B ≤ w.heap.size →
    Calls Tryd.prog 87 #[.slice A l.length c, .int .i64 deep, .int .i64 left] w (FitIs k l left w) := by
  induction k with
  | zero =>
    intro l A c d B left deep w hd1 hd hl ht hB
    have hd' : deep = 9 := by omega
    subst hd'
    have D : Hid (FitIs 0 l left w (.returned (.tuple #[.int .i64 0, .bool false])) w) := FitIs.no rfl (Below.refl _ _)
    clear ht hd
    go_enter Tryd.func87, Tryd.ntmps87
    go_wp2_with fail
    go_ret2
    exact D.out
  | succ k ih =>
    intro l A c d B left deep w hd1 hd hl ht hB
    have ht1 := TabH.succ _ _ _ _ ht
    obtain ⟨hlc, hcm⟩ := ht.cap
    have HT := Lib.hid ht1
    have IH := Lib.hid ih
    have hdl : deep ≤ 8 := by omega
    have HD := Lib.hid hd
    unfold maxLen at hcm
    have hmm := @run_makeMap Tryd.prog
    clear ht ht1 ih hd
    go_enter Tryd.func87, Tryd.ntmps87
    go_wp2_with fail
    go_loopw [2, 20] (fun lf i wr => ∃ j r : Nat, j ≤ l.length ∧ i = .int .i64 j ∧ lf = .int .i64 r ∧ r ≤ 2000 ∧ Below w.heap.size w wr ∧ w.heap.size + 1 ≤ wr.heap.size ∧
        fitD (k + 1) l left = fitL (fitD k) ((l.take j).map Fld.name).reverse (l.drop j) r ∧ NamesAt wr w.heap.size j ((l.take j).map Fld.name)) (fun _ i _ => l.length - (intOf i).toNat)
    case atStart => exact ⟨0, left, Nat.zero_le _, rfl, rfl, hl, (Below.refl _ _).alloc (Nat.le_refl _) _, by simp, rfl, World.ownsMap_made _ _ _ _⟩
    case round =>
      obtain ⟨j, r, hj, rfl, rfl, hr, hbel, hsz, hfit, hnames⟩ := hrel
      have HB := Lib.hid hbel
      have HF := Lib.hid hfit
      have HN := Lib.hid hnames
      clear hbel hfit hnames
      by_cases hlt : j < l.length
      · obtain ⟨b, o, A', c', rfl, hb, hheld, htab, hcell⟩ := (HT.out.below (HB.out.mono hB)).at j hlt
        obtain ⟨f, hf⟩ : ∃ f, f = l[j] := ⟨_, rfl⟩
        obtain ⟨L, hL⟩ : ∃ L, L = (l.take j).map Fld.name := ⟨_, rfl⟩
        rw [← hf] at hheld htab hcell
        have hstep : fitD (k + 1) l left = fitL (fitD k) L.reverse (f :: l.drop (j + 1)) r := by rw [HF.out, hL, hf, List.drop_eq_getElem_cons hlt]
        have htake : (l.take (j + 1)).map Fld.name = L ++ [f.name] := by rw [hL, hf, List.take_succ_eq_append_getElem hlt, List.map_append]; rfl
        rw [← hL] at HN
        have c0 : wr.cell? ⟨b, o + j * 5, none⟩ = some (.string ⟨f.name.toArray⟩) := hcell 0 _ rfl
        have c1 : wr.cell? ⟨b, o + j * 5 + 1, none⟩ = some (.int .u8 (f.kind.toNat : Int)) := hcell 1 _ rfl
        have c2 : wr.cell? ⟨b, o + j * 5 + 2, none⟩ = some (.int .i64 f.n) := hcell 2 _ rfl
        have c3 : wr.cell? ⟨b, o + j * 5 + 3, none⟩ = some (.string ⟨f.s.toArray⟩) := hcell 3 _ rfl
        have c4 : wr.cell? ⟨b, o + j * 5 + 4, none⟩ = some (.slice A' f.t.length c') := hcell 4 _ rfl
        have HS := Lib.hid hstep
        have HK := Lib.hid htake
        have HE := Lib.hid hheld
        have HA := Lib.hid htab
        clear hcell hstep htake hheld htab hf hL
        obtain ⟨cs, hcs⟩ : ∃ cs : Array Value, cs = #[.string ⟨f.name.toArray⟩, .int .u8 (f.kind.toNat : Int), .int .i64 f.n, .string ⟨f.s.toArray⟩, .slice A' f.t.length c'] := ⟨_, rfl⟩
        have hwn := Whole.new wr 50 cs
        have hb1 : Below wr.heap.size wr (wr.alloc (.cells cs 50)) := (Below.refl _ _).alloc (Nat.le_refl _) _
        rw [hcs] at hwn hb1
        have HW := Lib.hid hwn
        have HB1 := Lib.hid hb1
        have hS := HE.out.2.2
        have hnl : f.name.length ≤ maxLen := Nat.le_trans HE.out.2.1 (by unfold maxLen; omega)
        have hft := HA.out.cap
        unfold maxLen at hft
        clear hwn hb1 hcs
        go_wp2_with fail
        refine (size_any f A' c' _ HE.out (by unfold maxLen; omega)).mono ?_
        rintro e w1 ⟨n, bb, rfl, hbb, hn, hle, hbel⟩
        have hw1 := HW.out.below hbel (by simp)
        have hB1 := HB1.out.trans (hbel.mono (by simp))
        have hg1 : wr.heap.size + 1 ≤ w1.heap.size := by have := hbel.size; simpa using this
        have e0 : w1.cell? ⟨wr.heap.size, 0, none⟩ = some (.string ⟨f.name.toArray⟩) := hw1.cell 0
        have e1 : w1.cell? ⟨wr.heap.size, 1, none⟩ = some (.int .u8 (f.kind.toNat : Int)) := hw1.cell 1
        have e4 : w1.cell? ⟨wr.heap.size, 4, none⟩ = some (.slice A' f.t.length c') := hw1.cell 4
        have HW1 := Lib.hid hw1
        have HB2 := Lib.hid hB1
        have hsz1 := hB1.size
        have HN1 : Hid (NamesAt w1 w.heap.size j L) := World.ownsMap.kept HN.out (only_below hB1 none) (by simp)
        clear hw1 hbel hB1 c0 c1 c2 c3 c4
        cases bb with
        | false =>
          have D : Hid (FitIs (k + 1) l left w (.returned (.tuple #[.int .i64 0, .bool false])) w1) := by
            refine FitIs.no ?_ (HB.out.trans (HB2.out.mono (by omega)))
            rw [HS.out]
            unfold fitL
            rw [if_neg (by simp [← hbb])]
          clear hbb hn
          go_wp2_with fail
          go_ret2
          exact D.out
        | true =>
          have hn' := hn rfl
          have HM := Lib.hid hbb
          have HZ := Lib.hid hn'
          clear hn hbb hn'
          by_cases hz : n ≤ r
          · by_cases hseen : f.name ∈ L
            · have hhas : Maps.has (namesD L) (.string f.name) = true := by rw [names_has, decide_eq_true hseen]
              have hkey : keyOf Tryd.prog 9 (.string ⟨f.name.toArray⟩) = some (.string f.name) := WideMaps.keyOf_string_mk Tryd.underlying9 hnl
              have hfin : fitD (k + 1) l left = none := by
                rw [HS.out]
                unfold fitL
                rw [if_neg (by simp [hseen])]
              have hbw : Below w.heap.size w w1 := HB.out.trans (HB2.out.mono (by omega))
              have D := Lib.hid hfin
              have HBW := Lib.hid hbw
              clear hfin hbw hseen
              go_wp2_with (at_lookup; refine wpList_lookup_own_unit _ rfl _ _ 139 rfl 9 141 name_law Tryd.underlying139 (unit_zero _) w.heap.size j _ rfl HN1.out _ _ rfl hkey ?_)
              go_ret2
              exact FitIs.no D.out (HBW.out.alloc HBW.out.size _)
            · have hhas : Maps.has (namesD L) (.string f.name) = false := by rw [names_has, decide_eq_false hseen]
              have hkey : keyOf Tryd.prog 9 (.string ⟨f.name.toArray⟩) = some (.string f.name) := WideMaps.keyOf_string_mk Tryd.underlying9 hnl
              have HSN := Lib.hid hseen
              clear hseen
              have e0a : (w1.alloc (.cells #[] 141)).cell? ⟨wr.heap.size, 0, none⟩ = some (.string ⟨f.name.toArray⟩) := (Whole.alloc HW1.out _).cell 0
              have hg1' : wr.heap.size < w1.heap.size := by omega
              cases hk : decide (f.kind = 70) with
              | false =>
                have hk70 : f.kind ≠ 70 := by simpa using hk
                have hk' : ((f.kind.toNat : Int) == 70) = false := by
                  simp only [beq_eq_false_iff_ne]
                  intro h
                  apply hk70
                  apply UInt8.toNat_inj.1
                  rw [show (UInt8.toNat 70) = 70 from rfl]
                  omega
                have hfin : fitD (k + 1) l left = fitL (fitD k) (L ++ [f.name]).reverse (l.drop (j + 1)) (r - n) := by
                  rw [HS.out, List.reverse_append]
                  conv => lhs; unfold fitL
                  rw [if_pos (by rw [← HZ.out, ← HM.out]; simp [hz, HSN.out]), if_neg hk70, HZ.out]
                  rfl
                have HFin := Lib.hid hfin
                clear hk hk70 hfin
                go_wp2_with (first
                  | (at_lookup; refine wpList_lookup_own_unit _ rfl _ _ 139 rfl 9 141 name_law Tryd.underlying139 (unit_zero _) w.heap.size j _ rfl HN1.out _ _ rfl hkey ?_)
                  | (at_mapUpdate; refine wpList_mapUpdate_own _ rfl _ _ _ 139 rfl 9 141 name_law Tryd.underlying139 (unitElem (H := Unit)) w.heap.size j _ rfl (World.ownsMap.alloc HN1.out _) (by unfold maxLen; omega) _ _ _ rfl rfl hkey _ [] unitElem_mk ?_; intro w2 hown2 hgrow2; have hw2 := Whole.grown (Whole.alloc HW1.out _) hgrow2 (by simp; omega); have e1 : w2.cell? ⟨wr.heap.size, 1, none⟩ = some (.int .u8 (f.kind.toNat : Int)) := hw2.cell 1; have e4 : w2.cell? ⟨wr.heap.size, 4, none⟩ = some (.slice A' f.t.length c') := hw2.cell 4; have hB3 : Below w.heap.size w w2 := ((HB.out.trans (HB2.out.mono (by omega))).alloc (by omega) _).trans ((Below.refl w.heap.size _).grown hgrow2 (by simp; omega) (fun q hq => by cases hq; exact Nat.le_refl _)); have HO2 := Lib.hid hown2; have HB3 := Lib.hid hB3; have hg2 : wr.heap.size + 1 ≤ w2.heap.size := (by have := hgrow2.size; simp at this; omega); have HBT : Hid (Below w.heap.size wr w2) := Lib.hid (((HB2.out.mono (by omega)).alloc (by omega) _).trans ((Below.refl w.heap.size _).grown hgrow2 (by simp; omega) (fun q hq => by cases hq; exact Nat.le_refl _))); clear hown2 hgrow2 hw2 hB3))
                go_roundw
                case rel =>
                  refine ⟨j + 1, r - n, by omega, by go_num, by go_num, by omega, HB3.out, by omega, ?_, ?_⟩
                  · rw [HK.out]; exact HFin.out
                  · rw [HK.out]
                    unfold NamesAt
                    rw [namesD_snoc]
                    exact HO2.out
                case measure => simp [intOf]; omega
              | true =>
                have hk70 : f.kind = 70 := by simpa using hk
                have hk' : ((f.kind.toNat : Int) == 70) = true := by rw [hk70]; rfl
                have hfin : fitD (k + 1) l left = match fitD k f.t (r - n) with
                    | none => none
                    | some q => fitL (fitD k) (L ++ [f.name]).reverse (l.drop (j + 1)) q := by
                  rw [HS.out, List.reverse_append]
                  conv => lhs; unfold fitL
                  rw [if_pos (by rw [← HZ.out, ← HM.out]; simp [hz, HSN.out]), if_pos hk70, HZ.out]
                  rfl
                have HFin := Lib.hid hfin
                clear hk hk70 hfin
                go_wp2_with (first
                  | (at_lookup; refine wpList_lookup_own_unit _ rfl _ _ 139 rfl 9 141 name_law Tryd.underlying139 (unit_zero _) w.heap.size j _ rfl HN1.out _ _ rfl hkey ?_)
                  | (at_mapUpdate; refine wpList_mapUpdate_own _ rfl _ _ _ 139 rfl 9 141 name_law Tryd.underlying139 (unitElem (H := Unit)) w.heap.size j _ rfl (World.ownsMap.alloc HN1.out _) (by unfold maxLen; omega) _ _ _ rfl rfl hkey _ [] unitElem_mk ?_; intro w2 hown2 hgrow2; have hw2 := Whole.grown (Whole.alloc HW1.out _) hgrow2 (by simp; omega); have e1 : w2.cell? ⟨wr.heap.size, 1, none⟩ = some (.int .u8 (f.kind.toNat : Int)) := hw2.cell 1; have e4 : w2.cell? ⟨wr.heap.size, 4, none⟩ = some (.slice A' f.t.length c') := hw2.cell 4; have hB3 : Below w.heap.size w w2 := ((HB.out.trans (HB2.out.mono (by omega))).alloc (by omega) _).trans ((Below.refl w.heap.size _).grown hgrow2 (by simp; omega) (fun q hq => by cases hq; exact Nat.le_refl _)); have HO2 := Lib.hid hown2; have HB3 := Lib.hid hB3; have hg2 : wr.heap.size + 1 ≤ w2.heap.size := (by have := hgrow2.size; simp at this; omega); have HBT : Hid (Below w.heap.size wr w2) := Lib.hid (((HB2.out.mono (by omega)).alloc (by omega) _).trans ((Below.refl w.heap.size _).grown hgrow2 (by simp; omega) (fun q hq => by cases hq; exact Nat.le_refl _))); clear hown2 hgrow2 hw2 hB3))
                rw [show ((r : Int) - (n : Int)) = ((r - n : Nat) : Int) from by omega]
                have htt := (HA.out.below (HBT.out.mono hB))
                refine (IH.out f.t A' c' d B (r - n) (deep + 1) _ (by omega) (by have := HD.out; omega) (by omega) htt (by omega)).mono ?_
                rintro e w3 ⟨rfl, hb3⟩
                have hrn : ∀ q, fitD k f.t (r - n) = some q → q ≤ 2000 := by
                  intro q hq
                  rw [fitD_eq] at hq
                  split at hq
                  · injection hq with hq; omega
                  · cases hq
                have HB4 := Lib.hid (HB3.out.trans (hb3.mono (by omega)))
                have hs3 := hb3.size
                have HO3 := Lib.hid (World.ownsMap.kept HO2.out (only_below hb3 none) (by simp))
                clear hb3 htt
                cases hq : fitD k f.t (r - n) with
                | none =>
                  have D : Hid (FitIs (k + 1) l left w (.returned (.tuple #[.int .i64 0, .bool false])) w3) := by
                    refine FitIs.no ?_ HB4.out
                    rw [HFin.out, hq]
                  rw [show (((none : Option Nat).getD 0 : Nat) : Int) = 0 from rfl, show (none : Option Nat).isSome = false from rfl]
                  clear hq hrn
                  go_wp2_with fail
                  go_ret2
                  exact D.out
                | some q =>
                  have hq2 := hrn q hq
                  have HFin2 : Hid (fitD (k + 1) l left = fitL (fitD k) (L ++ [f.name]).reverse (l.drop (j + 1)) q) := Lib.hid (by rw [HFin.out, hq])
                  rw [show (((some q : Option Nat).getD 0 : Nat) : Int) = (q : Int) from rfl, show (some q : Option Nat).isSome = true from rfl]
                  clear hq hrn
                  go_wp2_with fail
                  go_roundw
                  case rel =>
                    refine ⟨j + 1, q, by omega, by go_num, rfl, hq2, HB4.out, by omega, ?_, ?_⟩
                    · rw [HK.out]; exact HFin2.out
                    · rw [HK.out]
                      unfold NamesAt
                      rw [namesD_snoc]
                      exact HO3.out
                  case measure => simp [intOf]; omega
          · have D : Hid (FitIs (k + 1) l left w (.returned (.tuple #[.int .i64 0, .bool false])) w1) := by
              refine FitIs.no ?_ (HB.out.trans (HB2.out.mono (by omega)))
              rw [HS.out]
              unfold fitL
              rw [if_neg (by rw [← HZ.out]; simp [hz])]
            go_wp2_with fail
            go_ret2
            exact D.out
      · obtain rfl : j = l.length := by omega
        have D : Hid (FitIs (k + 1) l left w (.returned (.tuple #[.int .i64 r, .bool true])) wr) := by
          refine FitIs.yes ?_ HB.out
          rw [HF.out, List.drop_length]
          rfl
        go_wp2_with fail
        go_ret2
        exact D.out
end Go.Proofs.YtlfppfknelddcaaDoor
