/- Contracts of package tabl: rows that are read. Contracts of package tabl: Parse and Append. -/
import Derived.Test.YtlfppfknelddcaaDoorTablQ3
import Derived.Deep.DeepMust
namespace Go.Proofs.YtlfppfknelddcaaDoor
section
open Go.RowKit
set_option maxRecDepth 100000

theorem ParseIs.no {p : Option (List Fld)} {k : Nat} {w w' : World} (h : p = none) (hb : Below w.heap.size w w') : ParseIs p k w (.returned (.tuple #[.slice none 0 0, .bool false])) w' := .inl ⟨h, rfl, hb⟩
theorem field_lies (w : World) (f : Fld) (v : Value) : Lies (w.alloc (.cells #[.string ⟨f.name.toArray⟩, .int .u8 (f.kind.toNat : Int), .int .i64 f.n, .string ⟨f.s.toArray⟩, v] 50)) (w.heap.size + 1) (some ⟨w.heap.size, 0, none⟩) (cellsF v f) := Lies.lit w 50 (cellsF v f)
theorem cellsF_len (v : Value) (f : Fld) : (cellsF v f).length = 1 * 5 := rfl
theorem cellsF_one (A : Option Addr) (n c : Nat) (f : Fld) : ∀ u ∈ cellsF (.slice A n c) f, u.oneCell' = true := by
  intro u h
  simp only [cellsF, List.mem_cons, List.not_mem_nil, or_false] at h
  rcases h with rfl | rfl | rfl | rfl | rfl <;> rfl

set_option maxHeartbeats 2000000 in
set_option maxRecDepth 100000 in
theorem parseRows_any (k : Nat) : ParsesOf 82 k := by
  induction k with
  | zero =>
    intro A c b B deep w hd1 hd hl hB hs
    have hd' : deep = 9 := by omega
    subst hd'
    have D : Hid (ParseIs (codeP 0 b) 0 w (.returned (.tuple #[.slice none 0 0, .bool false])) w) := ParseIs.no rfl (Below.refl _ _)
    clear hl hd
    go_enter Tryd.func82, Tryd.ntmps82
    go_wp2_with fail
    go_ret2
    exact D.out
  | succ k ih =>
    intro A c b B deep w hd1 hd hl hB hs
    have hd8 : deep ≤ 8 := by omega
    obtain ⟨i0, hi, hz0, hz1, hz2⟩ := info_parts field_info
    have HI := Lib.hid hi
    have H0 := Lib.hid hz0
    have H1 := Lib.hid hz1
    have H2 := Lib.hid hz2
    have IH := Lib.hid ih
    have HL := Lib.hid hl
    have HD := Lib.hid hd
    obtain ⟨PB, hPB⟩ : ∃ PB, PB = codeP (k + 1) b := ⟨_, rfl⟩
    rw [← hPB]
    have HPB := Lib.hid hPB
    clear hi hz0 hz1 hz2 ih hl hd hPB
    go_enter Tryd.func82, Tryd.ntmps82
    go_wp2_with fail
    refine (from_any A c b B _ HL.out hB (by omega)).mono ?_
    rintro e w0 ⟨g, hg, rfl, hi0, hb0⟩
    have I0 := Lib.hid hi0
    have B0 := Lib.hid hb0
    have hg0 := hi0.lt
    clear hi0 hb0
    go_wp2_with fail
    go_loopw [6] (fun v wr => ∃ (l0 : List Fld) (rest : List UInt8) (n : Nat), PB = (parseL (rowP false (codeP k)) n rest).map (l0 ++ ·) ∧ rest.length ≤ n ∧ l0.length + rest.length ≤ b.length ∧ InAt wr g rest false ∧ Below w.heap.size w wr ∧ Fields k g wr v l0) (fun _ wr => leftOf g wr)
    case atStart =>
      refine ⟨[], b, b.length, ?_, Nat.le_refl _, by simp, I0.out, B0.out, Fields.start _ _ _⟩
      rw [HPB.out]
      cases h : parseL (rowP false (codeP k)) b.length b <;> simp [codeP, h]
    case round =>
      obtain ⟨l0, rest, n, hp, hn, hlen, hi, hbel, hf⟩ := hrel
      have hlo := leftOf_is hi
      have HP := Lib.hid hp
      have HII := Lib.hid hi
      have HB := Lib.hid hbel
      have HF := Lib.hid hf
      have HLO := Lib.hid hlo
      have hgw := hi.lt
      have hsz := hbel.size
      clear hp hi hbel hf hlo
      cases rest with
      | nil =>
        have D : ∀ v : Value, Fields k g wr v l0 → ∀ A c, v = .slice A l0.length c → ParseIs PB (k + 1) w (.returned (.tuple #[v, .bool true])) wr := by
          rintro v hf A c rfl
          refine .inr ⟨l0, A, c, ?_, rfl, Fields.done hf rfl (by omega), HB.out⟩
          rw [HP.out]
          cases n <;> simp [parseL]
        obtain ⟨A2, c2, hv⟩ := HF.out.form
        subst hv
        have DD := Lib.hid (D _ HF.out A2 c2 rfl)
        clear D
        go_wp2_with fail
        refine (in_left g [] false _ HII.out).mono ?_
        rintro e w' ⟨rfl, rfl⟩
        go_wp2_with fail
        go_ret2
        exact DD.out
      | cons x t =>
        obtain ⟨R, hR⟩ : ∃ R, R = x :: t := ⟨_, rfl⟩
        have hRl : R.length = t.length + 1 := by rw [hR]; rfl
        have hstep : PB = match rowP false (codeP k) R with
            | none => none
            | some (f, r) => (parseL (rowP false (codeP k)) (n - 1) r).map (fun l => l0 ++ (f :: l)) := by
          rw [HP.out, hR]
          cases n with
          | zero => simp at hn
          | succ n =>
            conv => lhs; unfold parseL
            cases rowP false (codeP k) (x :: t) with
            | none => rfl
            | some y => obtain ⟨f, r⟩ := y; simp [Function.comp_def]
        rw [← hR] at hlen HII HLO hn
        have HS := Lib.hid hstep
        have HRR := Lib.hid hR
        have h1 : 1 ≤ R.length := by omega
        have hshort : ∀ f r, rowP false (codeP k) R = some (f, r) → r.length < R.length := fun f r h => row_shorter false (codeP k) R f r h
        have HSH := Lib.hid hshort
        clear hstep hR hRl HP hshort
        go_wp2_with fail
        refine (in_left g R false _ HII.out).mono ?_
        rintro e w' ⟨rfl, rfl⟩
        go_wp2_with fail
        refine (parseRow_any g k R deep _ IH.out hd1 (by have := HD.out; omega) HII.out (by omega)).mono ?_
        intro e w1 hq
        rcases hq with ⟨hn0, ⟨s0, a, m, s1, A1, m1, c1, rfl⟩, hg1⟩ | ⟨f, r, A1, c1, hn0, rfl, hheld, htab, hi1, hg1⟩
        · have D : Hid (ParseIs PB (k + 1) w (.returned (.tuple #[.slice none 0 0, .bool false])) (w1.alloc (.cells #[.string s0, .int .u8 a, .int .i64 m, .string s1, .slice A1 m1 c1] 50))) := by
            refine Lib.hid (ParseIs.no ?_ ?_)
            · rw [HS.out, hn0]
            · have b1 : Below w.heap.size w w1 := HB.out.trans (below_only hg1 hg hsz)
              exact b1.alloc b1.size _
          clear hn0 hg1
          go_wp2_with fail
          go_ret2
          exact D.out
        · unfold aggF
          have HN := Lib.hid hn0
          have hrl := HSH.out f r hn0
          have HE := Lib.hid hheld
          have HT := Lib.hid htab
          have HI1 := Lib.hid hi1
          have HG1 := Lib.hid hg1
          have hg1s := hg1.size
          have B1 : Hid (Below w.heap.size w w1) := Lib.hid (HB.out.trans (below_only hg1 hg hsz))
          obtain ⟨xs, hown, hdl⟩ := HF.out
          have hown1 := hown.kept hg1 (own_ne hown (Nat.lt_succ_self g))
          have HO := Lib.hid hown
          have HDL := Lib.hid hdl
          have HO1 := Lib.hid hown1
          have hoi := HO1.out.alloc (.cells #[.string ⟨f.name.toArray⟩, .int .u8 (f.kind.toNat : Int), .int .i64 f.n, .string ⟨f.s.toArray⟩, .slice A1 f.t.length c1] 50)
          have hoj := hoi.alloc (.cells #[.string ⟨f.name.toArray⟩, .int .u8 (f.kind.toNat : Int), .int .i64 f.n, .string ⟨f.s.toArray⟩, .slice A1 f.t.length c1] 50)
          have HOJ := Lib.hid hoj
          have hs' : l0.length + 1 ≤ 1048577 := by omega
          have hby : (l0.length + 1) * 72 ≤ 140737488355328 := by omega
          clear hn0 hheld htab hi1 hg1 hown hdl hown1 hoi hoj
          have hlies0 := (field_lies (w1.alloc (.cells #[.string ⟨f.name.toArray⟩, .int .u8 (f.kind.toNat : Int), .int .i64 f.n, .string ⟨f.s.toArray⟩, .slice A1 f.t.length c1] 50)) f (.slice A1 f.t.length c1))
          have esz : (w1.alloc (.cells #[.string ⟨f.name.toArray⟩, .int .u8 (f.kind.toNat : Int), .int .i64 f.n, .string ⟨f.s.toArray⟩, .slice A1 f.t.length c1] 50)).heap.size = w1.heap.size + 1 := by simp
          rw [esz] at hlies0
          have hlies := Lib.hid hlies0
          clear hlies0 esz
          have hbase : g + 1 ≤ ((w1.alloc (.cells #[.string ⟨f.name.toArray⟩, .int .u8 (f.kind.toNat : Int), .int .i64 f.n, .string ⟨f.s.toArray⟩, .slice A1 f.t.length c1] 50)).alloc (.cells #[.string ⟨f.name.toArray⟩, .int .u8 (f.kind.toNat : Int), .int .i64 f.n, .string ⟨f.s.toArray⟩, .slice A1 f.t.length c1] 50)).heap.size := by simp; omega
          have HBASE := Lib.hid hbase
          have h63 : l0.length + 1 ≤ maxLen := by unfold maxLen; omega
          have H63 := Lib.hid h63
          clear hbase h63
          go_wp2_with (at_builtin; go_must (refine wpList_append_at rfl _ _ 30 rfl (g + 1) 50 i0 _ 5 72 Tryd.underlying30 HI.out H0.out H1.out H2.out rfl (by omega) _ l0.length _ rfl HOJ.out _ _ 1 1 _ rfl hlies.out (cellsF_len _ f) (cellsF_one _ _ _ f) H63.out hby HBASE.out ?_); intro v' w2 hown2 hg2 hv2)
          have HF2 : Hid (Fields k g w2 v' (l0 ++ [f])) := Lib.hid (Fields.snoc HO.out HDL.out HG1.out HE.out HT.out (by omega) (((Below.refl w1.heap.size w1).alloc (Nat.le_refl _) _).alloc (by simp) _) hown2 hg2 hv2)
          have HB2 : Hid (Below (g + 1) w1 w2) := Lib.hid ((((Below.refl (g + 1) w1).alloc (by omega) _).alloc (by simp; omega) _).trans ((Below.refl (g + 1) _).grown hg2 HBASE.out (fun q hq => (HO.out.lt q hq).1)))
          have HI2 := Lib.hid (HI1.out.below HB2.out (Nat.lt_succ_self g))
          have HB3 := Lib.hid (B1.out.trans (HB2.out.mono (by omega)))
          have HPN : Hid (PB = (parseL (rowP false (codeP k)) (n - 1) r).map ((l0 ++ [f]) ++ ·)) := by
            refine Lib.hid ?_
            rw [HS.out, HN.out]
            simp
          have HLO2 := Lib.hid (leftOf_is HI2.out)
          clear hown2 hg2 hv2
          go_wp2_with fail
          go_roundw
          case rel => exact ⟨l0 ++ [f], r, n - 1, HPN.out, by omega, by rw [List.length_append]; simp; omega, HI2.out, HB3.out, HF2.out⟩
          case measure =>
            show leftOf g w2 < leftOf g wr
            rw [HLO.out, HLO2.out]
            exact hrl
end
section
open Go.RowKit
set_option maxRecDepth 100000

/-- what Parse tells -/
def parseB (b : List UInt8) : Option (List Fld) := if b.length ≤ 2000 then parsed codeP b else none
set_option maxRecDepth 100000 in
theorem parse_any (A : Option Addr) (c : Nat) (b : List UInt8) (B : Nat) (w : World) (hl : Lies w B A (B8 b)) (hB : B ≤ w.heap.size) (hm : b.length ≤ maxLen) :
    Calls Tryd.prog 75 #[.slice A b.length c] w (ParseIs (parseB b) 8 w) := by
  unfold maxLen at hm
  by_cases h : b.length ≤ 2000
  · have hp : parseB b = parsed codeP b := if_pos h
    rw [hp]
    have HL := Lib.hid hl
    clear hl hp
    obtain ⟨P, hP⟩ : ∃ P, P = parsed codeP b := ⟨_, rfl⟩
    rw [← hP]
    have HP := Lib.hid hP
    clear hP
    go_enter Tryd.func75, Tryd.ntmps75
    go_wp2_with fail
    refine (parseRows_any 8 A c b B 1 _ (by omega) (by omega) HL.out hB (by omega)).mono ?_
    intro e w1 hq
    rcases hq with ⟨hn, rfl, hb⟩ | ⟨l, A1, c1, hn, rfl, ht, hb⟩
    · have D : Hid (ParseIs P 8 w (.returned (.tuple #[.slice none 0 0, .bool false])) w1) := Lib.hid (ParseIs.no (by rw [HP.out]; unfold parsed; rw [hn]) hb)
      clear hn hb
      go_wp2_with fail
      go_ret2
      exact D.out
    · have HN := Lib.hid hn
      have HT := Lib.hid ht
      have HB := Lib.hid hb
      have hz := hb.size
      clear hn ht hb
      go_wp2_with fail
      refine (ok_any l A1 c1 8 w1.heap.size _ HT.out.at_ (Nat.le_refl _)).mono ?_
      rintro e w2 ⟨rfl, hb2⟩
      have HB2 := Lib.hid (HB.out.trans (hb2.mono hz))
      have HT2 := Lib.hid (TabNew.grown HT.out (only_below hb2 none) (fun q hq => by cases hq))
      clear hb2
      cases hok : okB l with
      | false =>
        have D : Hid (ParseIs P 8 w (.returned (.tuple #[.slice none 0 0, .bool false])) w2) := Lib.hid (ParseIs.no (by rw [HP.out]; unfold parsed; rw [HN.out]; simp [hok]) HB2.out)
        clear hok
        go_wp2_with fail
        go_ret2
        exact D.out
      | true =>
        have D : Hid (ParseIs P 8 w (.returned (.tuple #[.slice A1 l.length c1, .bool true])) w2) := Lib.hid (.inr ⟨l, A1, c1, by rw [HP.out]; unfold parsed; rw [HN.out]; simp [hok], rfl, HT2.out, HB2.out⟩)
        clear hok
        go_wp2_with fail
        go_ret2
        exact D.out
  · have hp : parseB b = none := if_neg h
    have D : Hid (ParseIs (parseB b) 8 w (.returned (.tuple #[.slice none 0 0, .bool false])) w) := Lib.hid (ParseIs.no hp (Below.refl _ _))
    clear hl hp
    go_enter Tryd.func75, Tryd.ntmps75
    go_wp2_with fail
    go_ret2
    exact D.out

/-- what Append tells -/
def appB (l : List UInt8) (t : List Fld) : List UInt8 := if okB t then l ++ rowsD 8 t else l
set_option maxRecDepth 100000 in
theorem append_any (A : Option Addr) (c : Nat) (l : List UInt8) (B : Nat) (A2 : Option Addr) (c2 d : Nat) (t : List Fld) (w : World) (hl : Lies w B A (B8 l)) (hB : B ≤ w.heap.size) (ht : TabAt d w B t A2 c2) (hs : l.length ≤ 70368744177664) :
    Calls Tryd.prog 70 #[.slice A l.length c, .slice A2 t.length c2] w (NewOctsOk w.heap.size (appB l t) (okB t) w) := by
  obtain ⟨i0, hi, hz0, hz1, hz2⟩ := info_parts u8_info
  have HI := Lib.hid hi
  have H0 := Lib.hid hz0
  have H1 := Lib.hid hz1
  have H2 := Lib.hid hz2
  have HL := Lib.hid hl
  have HT := Lib.hid ht
  have HK : Hid (∀ r, okB t = r → appB l t = if r then l ++ rowsD 8 t else l) := Lib.hid (fun r h => by unfold appB; rw [h])
  have HO : Hid (okB t = true → formedB 8 t = true ∧ (rowsD 8 t).length ≤ 2000) := Lib.hid okB_parts
  obtain ⟨ok, hok⟩ : ∃ ok, ok = okB t := ⟨_, rfl⟩
  obtain ⟨Z, hZ⟩ : ∃ Z, Z = appB l t := ⟨_, rfl⟩
  rw [← hok, ← hZ]
  have HOK := Lib.hid hok
  have HZ := Lib.hid hZ
  clear hi hz0 hz1 hz2 hl ht hok hZ
  go_enter Tryd.func70, Tryd.ntmps70
  go_wp2_with fail
  refine (clone_any A c l B _ HL.out hB (by omega)).mono ?_
  rintro e w1 ⟨v1, rfl, hown, hb1⟩
  have hz1 := hb1.size
  have HO1 := Lib.hid hown
  have HB1 := Lib.hid hb1
  clear hown hb1
  go_wp2_with fail
  refine (ok_any t A2 c2 d B _ (HT.out.below (HB1.out.mono hB)) (by omega)).mono ?_
  rintro e w2 ⟨rfl, hb2⟩
  rw [← HOK.out]
  have HB2 := Lib.hid (HB1.out.trans (hb2.mono hz1))
  have HO2 := Lib.hid (own_below HO1.out hb2)
  have hz2 := hb2.size
  clear hb2
  cases ok with
  | false =>
    have D : Hid (NewOctsOk w.heap.size Z false w (.returned (.tuple #[v1, .bool false])) w2) := by
      refine Lib.hid ⟨v1, rfl, ?_, HB2.out⟩
      rw [HZ.out, HK.out false HOK.out.symm]
      exact HO2.out
    go_wp2_with fail
    go_ret2
    exact D.out
  | true =>
    obtain ⟨hf, hr⟩ := HO.out HOK.out.symm
    go_wp2_with fail
    refine (rows_any 8 t A2 c2 d B _ hf (HT.out.below (HB2.out.mono hB)) (by omega) (by omega)).mono ?_
    rintro e w3 ⟨v3, rfl, hown3, hb3⟩
    obtain ⟨X, hX⟩ : ∃ X, X = rowsD 8 t := ⟨_, rfl⟩
    rw [← hX] at hown3 hr
    obtain ⟨A3, c3, rfl, _, _⟩ := own_form hown3
    have L3 := Lib.hid (Lies.own hown3 (Nat.le_refl _))
    have HB3 := Lib.hid (HB2.out.trans (hb3.mono (by omega)))
    have HO3 := Lib.hid (own_below HO2.out hb3)
    have hz3 := hb3.size
    have hs' : l.length + X.length ≤ 140737488355328 := by omega
    have hbase : w.heap.size ≤ w3.heap.size := by omega
    have HX := Lib.hid hX
    clear hown3 hb3 hX hf
    go_wp2_with (at_builtin; refine wpList_append_cells rfl _ _ 24 rfl w.heap.size 5 i0 (.int .u8 0) 1 1 Tryd.underlying24 HI.out H0.out H1.out H2.out rfl (by omega) _ l.length _ rfl HO3.out _ A3 X.length c3 (B8 X) rfl L3.out (B8_len1 X) (B8_one X) (room63 hs') (room1 hs') hbase ?_; intro v4 w4 hown4 hb4; have HO4 := Lib.hid hown4; have HB4 := Lib.hid (HB3.out.trans hb4); clear hown4 hb4)
    go_ret2
    refine ⟨_, rfl, ?_, HB4.out⟩
    rw [HZ.out, HK.out true HOK.out.symm, if_pos rfl, ← HX.out, List.length_append, B8_append]
    exact HO4.out
end
end Go.Proofs.YtlfppfknelddcaaDoor
