/- Contract of the statements' own question whether a table is small, and of the fixed call of layer 2. -/
import Derived.Test.YtlfppfknelddcaaDoorTablT
import Derived.Test.YtlfppfknelddcaaDoorTabl
namespace Go.Proofs.YtlfppfknelddcaaDoor
open Go.RowKit
set_option maxRecDepth 100000

def smallB : Nat → List Fld → Bool
  | 0, _ => false
  | e + 1, l => decide (l.length ≤ 30) && l.all (fun f => decide (f.name.length ≤ 300) && decide (f.s.length ≤ 3000) && smallB e f.t)

set_option maxHeartbeats 1000000 in
set_option maxRecDepth 100000 in
theorem small_any (e : Nat) : ∀ (l : List Fld) (A : Option Addr) (c d B : Nat) (deep : Int) (w : World), 1 ≤ deep → deep + e = 13 → TabH Raw d w B l A c →
    Calls Tryd.prog 11 #[.slice A l.length c, .int .i64 deep] w fun en w' => en = .returned (.bool (smallB e l)) ∧ w = w' := by
  induction e with
  | zero =>
    intro l A c d B deep w h1 hd ht
    have hd' : deep = 13 := by omega
    subst hd'
    have hcap := TabH.cap ht
    unfold maxLen at hcap
    clear ht hd
    rw [show smallB 0 l = false from rfl]
    by_cases hl : (30 : Int) < l.length
    · go_enter Tryd.func11, Tryd.ntmps11
      go_wp2_with fail
      go_ret
      exact ⟨rfl, rfl⟩
    · go_enter Tryd.func11, Tryd.ntmps11
      go_wp2_with fail
      go_ret
      exact ⟨rfl, rfl⟩
  | succ e ih =>
    intro l A c d B deep w h1 hd ht
    have ht1 := TabH.succ _ _ _ _ ht
    have hcap := TabH.cap ht
    unfold maxLen at hcap
    have HT := Lib.hid ht1
    have IH := Lib.hid ih
    have HD := Lib.hid hd
    have hd12 : deep ≤ 12 := by omega
    obtain ⟨Z, hZ⟩ : ∃ Z, Z = smallB (e + 1) l := ⟨_, rfl⟩
    rw [← hZ]
    have HZ := Lib.hid hZ
    clear ht ht1 ih hd hZ
    by_cases hl : (30 : Int) < l.length
    · have D : Hid (Z = false) := Lib.hid (by rw [HZ.out]; unfold smallB; rw [decide_eq_false (by omega)]; rfl)
      go_enter Tryd.func11, Tryd.ntmps11
      go_wp2_with fail
      go_ret
      rw [D.out]
      exact ⟨rfl, rfl⟩
    · have hl30 : (l.length : Int) ≤ 30 := by omega
      clear hl
      go_enter Tryd.func11, Tryd.ntmps11
      go_wp2_with fail
      go_loop [5] (fun i => ∃ j : Nat, j ≤ l.length ∧ i = .int .i64 j ∧ (l.take j).all (fun f => decide (f.name.length ≤ 300) && decide (f.s.length ≤ 3000) && smallB e f.t) = true) (fun i => l.length - (intOf i).toNat)
      case atStart => exact ⟨0, Nat.zero_le _, rfl, rfl⟩
      case round =>
        obtain ⟨j, hj, rfl, hall⟩ := hrel
        have HALL := Lib.hid hall
        clear hall
        by_cases hlt : j < l.length
        · obtain ⟨b, o, A', c', rfl, hb, hraw, ht', hcell⟩ := HT.out.at j hlt
          obtain ⟨f, hf⟩ : ∃ f, f = l[j] := ⟨_, rfl⟩
          rw [← hf] at hraw ht' hcell
          have p0 : w.cell? ⟨b, o + j * 5, none⟩ = some (.string ⟨f.name.toArray⟩) := hcell 0 _ rfl
          have p3 : w.cell? ⟨b, o + j * 5 + 3, none⟩ = some (.string ⟨f.s.toArray⟩) := hcell 3 _ rfl
          have p4 : w.cell? ⟨b, o + j * 5 + 4, none⟩ = some (.slice A' f.t.length c') := hcell 4 _ rfl
          have hn := hraw.2.1
          have hs := hraw.2.2
          unfold maxLen at hn hs
          have hno : ¬ (f.name.length ≤ 300 ∧ f.s.length ≤ 3000 ∧ smallB e f.t = true) → Z = false := by
            intro h
            rw [HZ.out, Bool.eq_false_iff]
            intro h2
            unfold smallB at h2
            simp only [Bool.and_eq_true, List.all_eq_true, decide_eq_true_eq] at h2
            have h3 := h2.2 f (by rw [hf]; exact List.getElem_mem hlt)
            exact h ⟨h3.1.1, h3.1.2, h3.2⟩
          have hyes : f.name.length ≤ 300 → f.s.length ≤ 3000 → smallB e f.t = true → (l.take (j + 1)).all (fun f => decide (f.name.length ≤ 300) && decide (f.s.length ≤ 3000) && smallB e f.t) = true := by
            intro a1 a2 a3
            rw [List.take_succ_eq_append_getElem hlt, List.all_append, HALL.out, ← hf]
            simp [a1, a2, a3]
          have HNO := Lib.hid hno
          have HYES := Lib.hid hyes
          have HT' := Lib.hid ht'
          clear hcell hraw ht' hno hyes hf
          by_cases hq1 : (300 : Int) < f.name.length
          · have D : Hid (Z = false) := Lib.hid (HNO.out (by omega))
            go_wp2_with fail
            go_ret
            rw [D.out]
            exact ⟨rfl, rfl⟩
          · have hq1' : (f.name.length : Int) ≤ 300 := by omega
            clear hq1
            by_cases hq2 : (3000 : Int) < f.s.length
            · have D : Hid (Z = false) := Lib.hid (HNO.out (by omega))
              go_wp2_with fail
              go_ret
              rw [D.out]
              exact ⟨rfl, rfl⟩
            · have hq2' : (f.s.length : Int) ≤ 3000 := by omega
              clear hq2
              go_wp2_with fail
              refine (IH.out f.t A' c' d B (deep + 1) w (by omega) (by have := HD.out; omega) HT'.out).mono ?_
              rintro en w' ⟨rfl, rfl⟩
              cases hsm : smallB e f.t with
              | false =>
                have D : Hid (Z = false) := Lib.hid (HNO.out (by rw [hsm]; simp))
                clear hsm
                go_wp2_with fail
                go_ret
                rw [D.out]
                exact ⟨rfl, rfl⟩
              | true =>
                have hy := HYES.out (by omega) (by omega) hsm
                have HY := Lib.hid hy
                clear hsm hy
                go_wp2_with fail
                go_round
                case rel => exact ⟨j + 1, by omega, by go_num, HY.out⟩
                case measure => simp [intOf]; omega
        · obtain rfl : j = l.length := by omega
          have D : Hid (Z = true) := Lib.hid (by
            rw [HZ.out]
            unfold smallB
            have h := HALL.out
            rw [List.take_length] at h
            rw [h, decide_eq_true (by omega)]
            rfl)
          go_wp2_with fail
          go_ret
          rw [D.out]
          exact ⟨rfl, rfl⟩

/-- a small table's texts are short -/
theorem small_held {w : World} {B : Nat} (e : Nat) : ∀ (d : Nat) (l : List Fld) (A : Option Addr) (c : Nat), smallB e l = true → TabH Raw d w B l A c → TabAt d w B l A c := by
  induction e with
  | zero => intro d l A c h; cases h
  | succ e ih =>
    intro d l A c h ht
    unfold smallB at h
    simp only [Bool.and_eq_true, List.all_eq_true, decide_eq_true_eq] at h
    cases d with
    | zero => exact ht
    | succ d =>
      obtain ⟨h1, h2, xs, h3, h4⟩ := ht
      refine ⟨h1, h2, xs, h3, h4.imp2 (fun f hf hr => ⟨hr.1, ?_, ?_⟩) (fun f hf A c hq => ih d f.t A c (h.2 f hf).2 hq)⟩
      · have := (h.2 f hf).1.1; omega
      · have := (h.2 f hf).1.2; omega
end Go.Proofs.YtlfppfknelddcaaDoor
