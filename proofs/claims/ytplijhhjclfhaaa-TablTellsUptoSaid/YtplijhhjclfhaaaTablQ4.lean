/- Contracts of package tabl: rows that are read. -/
import Derived.Test.YtplijhhjclfhaaaTablQ3
import Derived.Deep.DeepMust
namespace Go.Proofs.Ytplijhhjclfhaaa
open Go.RowKit

theorem ParseIs.no {p : Option (List Fld)} {k : Nat} {w w' : World} (h : p = none) (hb : Below w.heap.size w w') : ParseIs p k w (.returned (.tuple #[.slice none 0 0, .bool false])) w' := .inl ⟨h, rfl, hb⟩
theorem field_lies (w : World) (f : Fld) (v : Value) : Lies (w.alloc (.cells #[.string ⟨f.name.toArray⟩, .int .u8 (f.kind.toNat : Int), .int .i64 f.n, .string ⟨f.s.toArray⟩, v] 54)) (w.heap.size + 1) (some ⟨w.heap.size, 0, none⟩) (cellsF v f) := Lies.lit w 54 (cellsF v f)
theorem cellsF_len (v : Value) (f : Fld) : (cellsF v f).length = 1 * 5 := rfl
theorem cellsF_one (A : Option Addr) (n c : Nat) (f : Fld) : ∀ u ∈ cellsF (.slice A n c) f, u.oneCell' = true := by
  intro u h
  simp only [cellsF, List.mem_cons, List.not_mem_nil, or_false] at h
  rcases h with rfl | rfl | rfl | rfl | rfl <;> rfl

set_option maxHeartbeats 2000000 in
set_option maxRecDepth 100000 in
theorem parseRows_any (k : Nat) : ParsesOf 29 k := by
  induction k with
  | zero =>
    intro A c b B deep w hd1 hd hl hB hs
    have hd' : deep = 9 := by omega
    subst hd'
    have D : Hid (ParseIs (codeP 0 b) 0 w (.returned (.tuple #[.slice none 0 0, .bool false])) w) := ParseIs.no rfl (Below.refl _ _)
    clear hl hd
    go_enter Try.func29, Try.ntmps29
    go_wp2_with fail
    go_ret2
    exact D.out
  | succ k ih =>
    intro A c b B deep w hd1 hd hl hB hs
    have hd8 : deep ≤ 8 := by omega
    obtain ⟨i0, hi, hz0, hz1, hz2⟩ := info_parts field_info
    have HI := Lib.hid hi
    have H0 := Lib.hid hz0
    have H1 := Lib.hid hz1
    have H2 := Lib.hid hz2
    have IH := Lib.hid ih
    have HL := Lib.hid hl
    have HD := Lib.hid hd
    obtain ⟨PB, hPB⟩ : ∃ PB, PB = codeP (k + 1) b := ⟨_, rfl⟩
    rw [← hPB]
    have HPB := Lib.hid hPB
    clear hi hz0 hz1 hz2 ih hl hd hPB
    go_enter Try.func29, Try.ntmps29
    go_wp2_with fail
    refine (from_any A c b B _ HL.out hB (by omega)).mono ?_
    rintro e w0 ⟨g, hg, rfl, hi0, hb0⟩
    have I0 := Lib.hid hi0
    have B0 := Lib.hid hb0
    have hg0 := hi0.lt
    clear hi0 hb0
    go_wp2_with fail
    go_loopw [6] (fun v wr => ∃ (l0 : List Fld) (rest : List UInt8) (n : Nat), PB = (parseL (rowP false (codeP k)) n rest).map (l0 ++ ·) ∧ rest.length ≤ n ∧ l0.length + rest.length ≤ b.length ∧ InAt wr g rest false ∧ Below w.heap.size w wr ∧ Fields k g wr v l0) (fun _ wr => leftOf g wr)
    case atStart =>
      refine ⟨[], b, b.length, ?_, Nat.le_refl _, by simp, I0.out, B0.out, Fields.start _ _ _⟩
      rw [HPB.out]
      cases h : parseL (rowP false (codeP k)) b.length b <;> simp [codeP, h]
    case round =>
      obtain ⟨l0, rest, n, hp, hn, hlen, hi, hbel, hf⟩ := hrel
      have hlo := leftOf_is hi
      have HP := Lib.hid hp
      have HII := Lib.hid hi
      have HB := Lib.hid hbel
      have HF := Lib.hid hf
      have HLO := Lib.hid hlo
      have hgw := hi.lt
      have hsz := hbel.size
      clear hp hi hbel hf hlo
      cases rest with
      | nil =>
        have D : ∀ v : Value, Fields k g wr v l0 → ∀ A c, v = .slice A l0.length c → ParseIs PB (k + 1) w (.returned (.tuple #[v, .bool true])) wr := by
          rintro v hf A c rfl
          refine .inr ⟨l0, A, c, ?_, rfl, Fields.done hf rfl (by omega), HB.out⟩
          rw [HP.out]
          cases n <;> simp [parseL]
        obtain ⟨A2, c2, hv⟩ := HF.out.form
        subst hv
        have DD := Lib.hid (D _ HF.out A2 c2 rfl)
        clear D
        go_wp2_with fail
        refine (in_left g [] false _ HII.out).mono ?_
        rintro e w' ⟨rfl, rfl⟩
        go_wp2_with fail
        go_ret2
        exact DD.out
      | cons x t =>
        obtain ⟨R, hR⟩ : ∃ R, R = x :: t := ⟨_, rfl⟩
        have hRl : R.length = t.length + 1 := by rw [hR]; rfl
        have hstep : PB = match rowP false (codeP k) R with
            | none => none
            | some (f, r) => (parseL (rowP false (codeP k)) (n - 1) r).map (fun l => l0 ++ (f :: l)) := by
          rw [HP.out, hR]
          cases n with
          | zero => simp at hn
          | succ n =>
            conv => lhs; unfold parseL
            cases rowP false (codeP k) (x :: t) with
            | none => rfl
            | some y => obtain ⟨f, r⟩ := y; simp [Function.comp_def]
        rw [← hR] at hlen HII HLO hn
        have HS := Lib.hid hstep
        have HRR := Lib.hid hR
        have h1 : 1 ≤ R.length := by omega
        have hshort : ∀ f r, rowP false (codeP k) R = some (f, r) → r.length < R.length := fun f r h => row_shorter false (codeP k) R f r h
        have HSH := Lib.hid hshort
        clear hstep hR hRl HP hshort
        go_wp2_with fail
        refine (in_left g R false _ HII.out).mono ?_
        rintro e w' ⟨rfl, rfl⟩
        go_wp2_with fail
        refine (parseRow_any g k R deep _ IH.out hd1 (by have := HD.out; omega) HII.out (by omega)).mono ?_
        intro e w1 hq
        rcases hq with ⟨hn0, ⟨s0, a, m, s1, A1, m1, c1, rfl⟩, hg1⟩ | ⟨f, r, A1, c1, hn0, rfl, hheld, htab, hi1, hg1⟩
        · have D : Hid (ParseIs PB (k + 1) w (.returned (.tuple #[.slice none 0 0, .bool false])) (w1.alloc (.cells #[.string s0, .int .u8 a, .int .i64 m, .string s1, .slice A1 m1 c1] 54))) := by
            refine Lib.hid (ParseIs.no ?_ ?_)
            · rw [HS.out, hn0]
            · have b1 : Below w.heap.size w w1 := HB.out.trans (below_only hg1 hg hsz)
              exact b1.alloc b1.size _
          clear hn0 hg1
          go_wp2_with fail
          go_ret2
          exact D.out
        · unfold aggF
          have HN := Lib.hid hn0
          have hrl := HSH.out f r hn0
          have HE := Lib.hid hheld
          have HT := Lib.hid htab
          have HI1 := Lib.hid hi1
          have HG1 := Lib.hid hg1
          have hg1s := hg1.size
          have B1 : Hid (Below w.heap.size w w1) := Lib.hid (HB.out.trans (below_only hg1 hg hsz))
          obtain ⟨xs, hown, hdl⟩ := HF.out
          have hown1 := hown.kept hg1 (own_ne hown (Nat.lt_succ_self g))
          have HO := Lib.hid hown
          have HDL := Lib.hid hdl
          have HO1 := Lib.hid hown1
          have hoi := HO1.out.alloc (.cells #[.string ⟨f.name.toArray⟩, .int .u8 (f.kind.toNat : Int), .int .i64 f.n, .string ⟨f.s.toArray⟩, .slice A1 f.t.length c1] 54)
          have hoj := hoi.alloc (.cells #[.string ⟨f.name.toArray⟩, .int .u8 (f.kind.toNat : Int), .int .i64 f.n, .string ⟨f.s.toArray⟩, .slice A1 f.t.length c1] 54)
          have HOJ := Lib.hid hoj
          have hs' : l0.length + 1 ≤ 1048577 := by omega
          have hby : (l0.length + 1) * 72 ≤ 140737488355328 := by omega
          clear hn0 hheld htab hi1 hg1 hown hdl hown1 hoi hoj
          have hlies0 := (field_lies (w1.alloc (.cells #[.string ⟨f.name.toArray⟩, .int .u8 (f.kind.toNat : Int), .int .i64 f.n, .string ⟨f.s.toArray⟩, .slice A1 f.t.length c1] 54)) f (.slice A1 f.t.length c1))
          have esz : (w1.alloc (.cells #[.string ⟨f.name.toArray⟩, .int .u8 (f.kind.toNat : Int), .int .i64 f.n, .string ⟨f.s.toArray⟩, .slice A1 f.t.length c1] 54)).heap.size = w1.heap.size + 1 := by simp
          rw [esz] at hlies0
          have hlies := Lib.hid hlies0
          clear hlies0 esz
          have hbase : g + 1 ≤ ((w1.alloc (.cells #[.string ⟨f.name.toArray⟩, .int .u8 (f.kind.toNat : Int), .int .i64 f.n, .string ⟨f.s.toArray⟩, .slice A1 f.t.length c1] 54)).alloc (.cells #[.string ⟨f.name.toArray⟩, .int .u8 (f.kind.toNat : Int), .int .i64 f.n, .string ⟨f.s.toArray⟩, .slice A1 f.t.length c1] 54)).heap.size := by simp; omega
          have HBASE := Lib.hid hbase
          have h63 : l0.length + 1 ≤ maxLen := by unfold maxLen; omega
          have H63 := Lib.hid h63
          clear hbase h63
          go_wp2_with (at_builtin; go_must (refine wpList_append_at rfl _ _ 23 rfl (g + 1) 54 i0 _ 5 72 Try.underlying23 HI.out H0.out H1.out H2.out rfl (by omega) _ l0.length _ rfl HOJ.out _ _ 1 1 _ rfl hlies.out (cellsF_len _ f) (cellsF_one _ _ _ f) H63.out hby HBASE.out ?_); intro v' w2 hown2 hg2 hv2)
          have HF2 : Hid (Fields k g w2 v' (l0 ++ [f])) := Lib.hid (Fields.snoc HO.out HDL.out HG1.out HE.out HT.out (by omega) (((Below.refl w1.heap.size w1).alloc (Nat.le_refl _) _).alloc (by simp) _) hown2 hg2 hv2)
          have HB2 : Hid (Below (g + 1) w1 w2) := Lib.hid ((((Below.refl (g + 1) w1).alloc (by omega) _).alloc (by simp; omega) _).trans ((Below.refl (g + 1) _).grown hg2 HBASE.out (fun q hq => (HO.out.lt q hq).1)))
          have HI2 := Lib.hid (HI1.out.below HB2.out (Nat.lt_succ_self g))
          have HB3 := Lib.hid (B1.out.trans (HB2.out.mono (by omega)))
          have HPN : Hid (PB = (parseL (rowP false (codeP k)) (n - 1) r).map ((l0 ++ [f]) ++ ·)) := by
            refine Lib.hid ?_
            rw [HS.out, HN.out]
            simp
          have HLO2 := Lib.hid (leftOf_is HI2.out)
          clear hown2 hg2 hv2
          go_wp2_with fail
          go_roundw
          case rel => exact ⟨l0 ++ [f], r, n - 1, HPN.out, by omega, by rw [List.length_append]; simp; omega, HI2.out, HB3.out, HF2.out⟩
          case measure =>
            show leftOf g w2 < leftOf g wr
            rw [HLO.out, HLO2.out]
            exact hrl
end Go.Proofs.Ytplijhhjclfhaaa
