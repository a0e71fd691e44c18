/- Contracts of package node: what a node may be. -/
import Derived.Test.YtdjkkppefgppmaaNodeA
import Derived.Lib.Strings
namespace Go.Proofs.Ytdjkkppefgppmaa
open Go.RowKit
set_option maxRecDepth 100000
set_option linter.unusedSimpArgs false
set_option linter.unusedVariables false

def OkAt (w w' : World) (e : Ending) (b : Bool) : Prop := e = .returned (.bool b) ∧ Below w.heap.size w w'
theorem OkAt.of {w w' : World} {a b : Bool} (h : a = b) (hb : Below w.heap.size w w') : OkAt w w' (.returned (.bool a)) b := ⟨by rw [h], hb⟩

theorem str_leq (a b : List UInt8) (w : World) : (binOp .leq 9 (.string ⟨a.toArray⟩) (.string ⟨b.toArray⟩)).run Try.prog w = .ok (.bool (!ltL b a)) w := by
  rw [binOp_string_leq, Lib.toList_data, Lib.toList_data, ← leq_is]
  rfl

set_option maxHeartbeats 1000000 in
theorem ok_any (leaf : Bool) (l : List Rw) (A : Option Addr) (c B : Nat) (w : World) (ht : RowsAt w B l A c) (hB : B ≤ w.heap.size) (hf : Few l) :
    Calls Try.prog 8 #[.agg #[.bool leaf, .slice A l.length c]] w fun e w' => OkAt w w' e (okN leaf l) := by
  have HT := Lib.hid ht
  obtain ⟨hlc, hcm, hl⟩ := ht
  have hll := hf.1
  have hb0 := (Below.refl w.heap.size w).alloc (Nat.le_refl _) (.cells #[.bool leaf, .slice A l.length c] 26)
  have hw0 := Whole.new w 26 #[.bool leaf, .slice A l.length c]
  have BX := Lib.hid hb0
  have WX := Lib.hid hw0
  have HF := Lib.hid hf
  have hsz := sizeN_le leaf l 1000000 hf.2
  unfold maxLen at hcm
  clear hb0 hw0 hl hf
  by_cases h0 : leaf = false ∧ l.length = 0
  · obtain ⟨rfl, h0⟩ := h0
    have e : okN false l = false := by simp [okN, h0]
    have E := Lib.hid e
    clear e hsz
    rw [h0] at hlc
    rw [h0] at BX WX ⊢
    go_enter Try.func8, Try.ntmps8
    go_wp2_with fail
    go_ret
    exact OkAt.of E.out.symm BX.out
  · have hg : (!leaf && decide (l.length = 0)) = false := by
      cases leaf with
      | true => rfl
      | false => simpa using h0
    have e : okN leaf l = (!decide (512 < sizeN leaf l) && okR leaf [] l) := by rw [okN, hg, Bool.false_or]
    have E := Lib.hid e
    have HG : leaf = true ∨ (leaf = false ∧ 0 < l.length) := by
      cases leaf with
      | true => exact .inl rfl
      | false => exact .inr ⟨rfl, by simp at h0; exact List.length_pos_iff.2 (by simpa using h0)⟩
    have HS := Lib.hid hsz
    clear e hg h0 hsz
    have main : Calls Try.prog 8 #[.agg #[.bool leaf, .slice A l.length c]] w fun e w' => OkAt w w' e (okN leaf l) := by
      obtain ⟨hpos, HG⟩ : (leaf = false → ((l.length : Int) == 0) = false) ∧ True := ⟨by
        intro h
        rcases HG with h' | ⟨_, h'⟩
        · rw [h] at h'; cases h'
        · exact beq_false_of_ne (by omega), trivial⟩
      rcases leaf with _ | _
      · have q := hpos rfl
        clear hpos HG
        go_enter Try.func8, Try.ntmps8
        go_wp2_with fail
        refine (size_any _ l A c B _ (HT.out.below (BX.out.mono hB)) (by simp; omega) HF.out).mono ?_
        rintro e w1 ⟨rfl, hb1⟩
        have HB1 := Lib.hid (BX.out.trans (hb1.mono (by simp)))
        have HX1 := Lib.hid (WX.out.below hb1 (by simp))
        have hz1 : w.heap.size < w1.heap.size := by have := hb1.size; simp at this; omega
        have x1 : w1.cell? ⟨w.heap.size, 1, none⟩ = some (.slice A l.length c) := HX1.out.cell 1
        have HL := Lib.hid (HT.out.2.2)
        clear hb1 BX WX HT
        generalize sizeN false l = S at *
        by_cases hS : 512 < S
        · go_wp2_with fail
          go_ret
          exact OkAt.of (by rw [E.out]; simp [hS]) HB1.out
        · have hS' : decide ((512 : Int) < (S : Int)) = false := decide_eq_false (by omega)
          have E' := Lib.hid (show okN false l = okR false [] l from by rw [E.out]; simp [hS])
          clear E
          go_wp2_with fail
          go_loopw [3, 23] (fun s i wr => ∃ (j : Nat) (p : List UInt8), j ≤ l.length ∧ i = .int .i64 j ∧ s = .string ⟨p.toArray⟩ ∧ okN false l = okR false p (l.drop j) ∧ Below w.heap.size w wr ∧ w.heap.size < wr.heap.size ∧ BoxN wr w.heap.size false A l.length c) (fun _ i _ => l.length - (intOf i).toNat)
          case atStart => exact ⟨0, [], Nat.zero_le _, rfl, rfl, E'.out, HB1.out, hz1, HX1.out⟩
          case round =>
            obtain ⟨j, p, hj, rfl, rfl, hok, hbel, hz, hbox⟩ := hrel
            have HB := Lib.hid hbel
            have HX := Lib.hid hbox
            have x0 : wr.cell? ⟨w.heap.size, 0, none⟩ = some (.bool false) := hbox.cell 0
            have HO := Lib.hid hok
            clear hbel hbox hok x1 HX1 HB1 E'
            by_cases hlt : j < l.length
            · obtain ⟨b, o, rfl, hb, c0, c1, c2⟩ := lies_rw (HL.out.below (HB.out.mono hB)) j hlt
              obtain ⟨r, hr⟩ : ∃ r, r = l[j] := ⟨_, rfl⟩
              have hrk := HF.out.at j hlt
              have hst : okN false l = ((ltL p r.key && fitR false r) && okR false r.key (l.drop (j + 1))) := by rw [HO.out, List.drop_eq_getElem_cons hlt, ← hr]; rfl
              rw [← hr] at c0 c1 c2 hrk
              have HST := Lib.hid hst
              obtain ⟨hk, hv⟩ := hrk
              have hb1 := (Below.refl wr.heap.size wr).alloc (Nat.le_refl _) (.cells #[.string ⟨r.key.toArray⟩, .string ⟨r.val.toArray⟩, .int .i64 r.page] 23)
              have HB1 := Lib.hid (HB.out.trans (hb1.mono (by omega)))
              have HX1 := Lib.hid (HX.out.below hb1 hz)
              have lq := leq_is r.key p
              clear hr hst hb1
              by_cases h1 : ltL p r.key = true
              · rw [h1, Bool.not_true] at lq
                have lq1 := (Bool.or_eq_false_iff.1 lq).1
                have lq2 := (Bool.or_eq_false_iff.1 lq).2
                go_wp2_with fail
                refine (fits_any r _ _ hk hv).mono ?_
                rintro e w2 ⟨rfl, hb2⟩
                have HB2 := Lib.hid (HB1.out.trans (hb2.mono (by simp; omega)))
                have HX2 := Lib.hid (HX1.out.below hb2 (by simp; omega))
                have hz2 : w.heap.size < w2.heap.size := by have := hb2.size; simp at this; omega
                have y0 := hb2.cell (p := ⟨wr.heap.size, 0, none⟩) (by simp)
                have y0' : w2.cell? ⟨wr.heap.size, 0, none⟩ = some (.string ⟨r.key.toArray⟩) := by rw [y0]; exact (Whole.new wr 23 _).cell 0
                clear hb2 x0 c0 c1 c2 y0
                by_cases h2 : fitR false r = true
                · rw [h2]
                  go_wp2_with fail
                  go_roundw
                  case rel => exact ⟨j + 1, r.key, by omega, by go_num, rfl, by rw [HST.out, h1, h2]; rfl, HB2.out, hz2, HX2.out⟩
                  case measure => simp [intOf]; omega
                · have h2' : fitR false r = false := by simpa using h2
                  rw [h2']
                  go_wp2_with fail
                  go_ret
                  exact OkAt.of (by rw [HST.out, h1, h2']; rfl) HB2.out
              · have h1' : ltL p r.key = false := by simpa using h1
                rw [h1', Bool.not_false] at lq
                go_wp2_with fail
                go_ret
                exact OkAt.of (by rw [HST.out, h1']; rfl) HB1.out
            · obtain rfl : j = l.length := by omega
              go_wp2_with fail
              go_ret
              exact OkAt.of (by rw [HO.out, List.drop_length]; rfl) HB.out
      · clear hpos HG
        go_enter Try.func8, Try.ntmps8
        go_wp2_with fail
        refine (size_any _ l A c B _ (HT.out.below (BX.out.mono hB)) (by simp; omega) HF.out).mono ?_
        rintro e w1 ⟨rfl, hb1⟩
        have HB1 := Lib.hid (BX.out.trans (hb1.mono (by simp)))
        have HX1 := Lib.hid (WX.out.below hb1 (by simp))
        have hz1 : w.heap.size < w1.heap.size := by have := hb1.size; simp at this; omega
        have x1 : w1.cell? ⟨w.heap.size, 1, none⟩ = some (.slice A l.length c) := HX1.out.cell 1
        have HL := Lib.hid (HT.out.2.2)
        clear hb1 BX WX HT
        generalize sizeN true l = S at *
        by_cases hS : 512 < S
        · go_wp2_with fail
          go_ret
          exact OkAt.of (by rw [E.out]; simp [hS]) HB1.out
        · have hS' : decide ((512 : Int) < (S : Int)) = false := decide_eq_false (by omega)
          have E' := Lib.hid (show okN true l = okR true [] l from by rw [E.out]; simp [hS])
          clear E
          go_wp2_with fail
          go_loopw [3, 23] (fun s i wr => ∃ (j : Nat) (p : List UInt8), j ≤ l.length ∧ i = .int .i64 j ∧ s = .string ⟨p.toArray⟩ ∧ okN true l = okR true p (l.drop j) ∧ Below w.heap.size w wr ∧ w.heap.size < wr.heap.size ∧ BoxN wr w.heap.size true A l.length c) (fun _ i _ => l.length - (intOf i).toNat)
          case atStart => exact ⟨0, [], Nat.zero_le _, rfl, rfl, E'.out, HB1.out, hz1, HX1.out⟩
          case round =>
            obtain ⟨j, p, hj, rfl, rfl, hok, hbel, hz, hbox⟩ := hrel
            have HB := Lib.hid hbel
            have HX := Lib.hid hbox
            have x0 : wr.cell? ⟨w.heap.size, 0, none⟩ = some (.bool true) := hbox.cell 0
            have HO := Lib.hid hok
            clear hbel hbox hok x1 HX1 HB1 E'
            by_cases hlt : j < l.length
            · obtain ⟨b, o, rfl, hb, c0, c1, c2⟩ := lies_rw (HL.out.below (HB.out.mono hB)) j hlt
              obtain ⟨r, hr⟩ : ∃ r, r = l[j] := ⟨_, rfl⟩
              have hrk := HF.out.at j hlt
              have hst : okN true l = ((ltL p r.key && fitR true r) && okR true r.key (l.drop (j + 1))) := by rw [HO.out, List.drop_eq_getElem_cons hlt, ← hr]; rfl
              rw [← hr] at c0 c1 c2 hrk
              have HST := Lib.hid hst
              obtain ⟨hk, hv⟩ := hrk
              have hb1 := (Below.refl wr.heap.size wr).alloc (Nat.le_refl _) (.cells #[.string ⟨r.key.toArray⟩, .string ⟨r.val.toArray⟩, .int .i64 r.page] 23)
              have HB1 := Lib.hid (HB.out.trans (hb1.mono (by omega)))
              have HX1 := Lib.hid (HX.out.below hb1 hz)
              have lq := leq_is r.key p
              clear hr hst hb1
              by_cases h1 : ltL p r.key = true
              · rw [h1, Bool.not_true] at lq
                have lq1 := (Bool.or_eq_false_iff.1 lq).1
                have lq2 := (Bool.or_eq_false_iff.1 lq).2
                go_wp2_with fail
                refine (fits_any r _ _ hk hv).mono ?_
                rintro e w2 ⟨rfl, hb2⟩
                have HB2 := Lib.hid (HB1.out.trans (hb2.mono (by simp; omega)))
                have HX2 := Lib.hid (HX1.out.below hb2 (by simp; omega))
                have hz2 : w.heap.size < w2.heap.size := by have := hb2.size; simp at this; omega
                have y0 := hb2.cell (p := ⟨wr.heap.size, 0, none⟩) (by simp)
                have y0' : w2.cell? ⟨wr.heap.size, 0, none⟩ = some (.string ⟨r.key.toArray⟩) := by rw [y0]; exact (Whole.new wr 23 _).cell 0
                clear hb2 x0 c0 c1 c2 y0
                by_cases h2 : fitR true r = true
                · rw [h2]
                  go_wp2_with fail
                  go_roundw
                  case rel => exact ⟨j + 1, r.key, by omega, by go_num, rfl, by rw [HST.out, h1, h2]; rfl, HB2.out, hz2, HX2.out⟩
                  case measure => simp [intOf]; omega
                · have h2' : fitR true r = false := by simpa using h2
                  rw [h2']
                  go_wp2_with fail
                  go_ret
                  exact OkAt.of (by rw [HST.out, h1, h2']; rfl) HB2.out
              · have h1' : ltL p r.key = false := by simpa using h1
                rw [h1', Bool.not_false] at lq
                go_wp2_with fail
                go_ret
                exact OkAt.of (by rw [HST.out, h1']; rfl) HB1.out
            · obtain rfl : j = l.length := by omega
              go_wp2_with fail
              go_ret
              exact OkAt.of (by rw [HO.out, List.drop_length]; rfl) HB.out
    exact main
end Go.Proofs.Ytdjkkppefgppmaa
