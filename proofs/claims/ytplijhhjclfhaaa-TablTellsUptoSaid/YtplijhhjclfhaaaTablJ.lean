/- Contracts of the document's own answer for layer 2: how much a table weighs. -/
import Derived.Test.YtplijhhjclfhaaaTablI
namespace Go.Proofs.Ytplijhhjclfhaaa
open Go.RowKit

def WeightIs (k : Nat) (l : List Fld) (w : World) (e : Ending) (w' : World) : Prop := e = .returned (.int .i64 ((weightD k l : Nat) : Int)) ∧ ∃ q, w' = w.drewN q
/-- texts that are short, all the way down -/
def ShortN (K : Nat) : Nat → List Fld → Prop
  | 0, _ => True
  | k + 1, l => ∀ f ∈ l, f.name.length ≤ K ∧ ShortN K k f.t
theorem weight_bound (K : Nat) : ∀ (k : Nat) (l : List Fld), ShortN K k l → weightD k l ≤ k * (6013 + K) := by
  intro k
  induction k with
  | zero => intro l _; exact Nat.zero_le _
  | succ k ih =>
    intro l hs
    have main : ∀ (l : List Fld) (n : Nat), (∀ f ∈ l, f.name.length ≤ K ∧ ShortN K k f.t) → n ≤ 6013 + K + k * (6013 + K) → weightL (weightD k) l n ≤ 6013 + K + k * (6013 + K) := by
      intro l
      induction l with
      | nil => intro n _ h; exact h
      | cons f l ihl =>
        intro n hf h
        unfold weightL
        split
        · apply ihl _ (fun g hg => hf g (by simp [hg]))
          obtain ⟨h1, h2⟩ := hf f (by simp)
          have := ih f.t h2
          omega
        · exact h
    have := main l 0 hs (Nat.zero_le _)
    rw [Nat.succ_mul]
    show weightL (weightD k) l 0 ≤ _
    omega
theorem short_of {w : World} {B : Nat} : ∀ (k d : Nat) (l : List Fld) (A : Option Addr) (c : Nat), TabAt d w B l A c → ShortN 140737488355328 k l := by
  intro k
  induction k with
  | zero => intro d l A c _; trivial
  | succ k ih =>
    intro d l A c h f hf
    obtain ⟨i, hi, rfl⟩ := List.getElem_of_mem hf
    obtain ⟨_, _, A', c', _, _, hh, ht, _⟩ := (TabH.succ _ _ _ _ h).at i hi
    exact ⟨hh.2.1, ih _ _ _ _ ht⟩

set_option maxHeartbeats 2000000 in
set_option maxRecDepth 100000 in
theorem weight_any (k : Nat) : ∀ (l : List Fld) (A : Option Addr) (c d B : Nat) (deep : Int) (w : World), 1 ≤ deep → deep + k = 9 → TabAt d w B l A c →
    Calls Try.prog 43 #[.slice A l.length c, .int .i64 deep] w (WeightIs k l w) := by
  induction k with
  | zero =>
    intro l A c d B deep w h1 hd ht
    have hd' : deep = 9 := by omega
    subst hd'
    have hcap := TabH.cap ht
    unfold maxLen at hcap
    have D : Hid (WeightIs 0 l w (.returned (.int .i64 0)) w) := Lib.hid ⟨rfl, 0, rfl⟩
    clear ht hd
    rcases Nat.eq_zero_or_pos l.length with h0 | h0
    · rw [h0]
      go_enter Try.func43, Try.ntmps43
      go_wp2_with fail
      refine wp_loop_rounds 1 ?_
      rw [rounds_succ]
      go_wp2_with fail
      go_ret
      exact D.out
    · have h0' : (0 : Int) < l.length := by omega
      go_enter Try.func43, Try.ntmps43
      go_wp2_with fail
      refine wp_loop_rounds 1 ?_
      rw [rounds_succ]
      go_wp2_with fail
      go_ret
      exact D.out
  | succ k ih =>
    intro l A c d B deep w h1 hd ht
    have ht1 := TabH.succ _ _ _ _ ht
    have hcap := TabH.cap ht
    unfold maxLen at hcap
    have HT := Lib.hid ht1
    have IH := Lib.hid ih
    have HD := Lib.hid hd
    have hd8 : deep ≤ 8 := by omega
    have hk8 : k ≤ 8 := by omega
    have HSH := Lib.hid (short_of (k + 1) d l A c ht)
    obtain ⟨Z, hZ⟩ : ∃ Z, Z = weightD (k + 1) l := ⟨_, rfl⟩
    have DZ : ∀ q, WeightIs (k + 1) l w (.returned (.int .i64 (Z : Int))) (w.drewN q) := fun q => ⟨by rw [hZ], q, rfl⟩
    have HDZ := Lib.hid DZ
    have HZ : Hid (Z = weightL (weightD k) (l.drop 0) 0) := Lib.hid (by rw [hZ]; rfl)
    clear ht ht1 ih hd DZ hZ
    go_enter Try.func43, Try.ntmps43
    go_wp2_with fail
    go_loopw [5, 6] (fun n i wr => ∃ j m q : Nat, j ≤ l.length ∧ i = .int .i64 j ∧ n = .int .i64 m ∧ wr = w.drewN q ∧ Z = weightL (weightD k) (l.drop j) m ∧ m ≤ 2000000000000000) (fun _ i _ => l.length - (intOf i).toNat)
    case atStart => exact ⟨0, 0, 0, Nat.zero_le _, rfl, rfl, rfl, HZ.out, Nat.zero_le _⟩
    case round =>
      obtain ⟨j, m, q, hj, rfl, rfl, hwr, hz, hm⟩ := hrel
      have HZJ := Lib.hid hz
      have HWR := Lib.hid hwr
      have hce : ∀ a, wr.cell? a = w.cell? a := fun a => by rw [hwr]; rfl
      have HCE := Lib.hid hce
      clear hz hwr hce
      by_cases hlt : j < l.length
      · by_cases hm2 : m ≤ 2000
        · obtain ⟨b, o, A', c', rfl, hb, hheld, htab, hcell⟩ := HT.out.at j hlt
          obtain ⟨f, hf⟩ : ∃ f, f = l[j] := ⟨_, rfl⟩
          rw [← hf] at hheld htab hcell
          have hst : Z = weightL (weightD k) (l.drop (j + 1)) (m + 13 + f.name.length + min f.s.length 4000 + weightD k f.t) := by
            rw [HZJ.out, List.drop_eq_getElem_cons hlt, ← hf]
            conv => lhs; unfold weightL
            rw [if_pos hm2]
          have hwb : weightD k f.t ≤ k * (6013 + 140737488355328) := weight_bound _ k f.t ((HSH.out f (by rw [hf]; exact List.getElem_mem hlt)).2)
          have hwb2 : weightD k f.t ≤ 1200000000000000 := Nat.le_trans hwb (Nat.le_trans (Nat.mul_le_mul_right _ hk8) (by decide))
          have c0 : wr.cell? ⟨b, o + j * 5, none⟩ = some (.string ⟨f.name.toArray⟩) := (HCE.out _).trans (hcell 0 _ rfl)
          have c3 : wr.cell? ⟨b, o + j * 5 + 3, none⟩ = some (.string ⟨f.s.toArray⟩) := (HCE.out _).trans (hcell 3 _ rfl)
          have c4 : wr.cell? ⟨b, o + j * 5 + 4, none⟩ = some (.slice A' f.t.length c') := (HCE.out _).trans (hcell 4 _ rfl)
          have hnl := hheld.2.1
          have hsl := hheld.2.2
          have q0 : (0 : Int) ≤ (j : Int) := Int.natCast_nonneg _
          have q1 : (j : Int) < (l.length : Int) := by omega
          obtain ⟨V, hV⟩ : ∃ V, V = weightD k f.t := ⟨_, rfl⟩
          have ihc : ∀ n, Calls Try.prog 43 #[.slice A' f.t.length c', .int .i64 (deep + 1)] (wr.drewN n) fun e w' => e = .returned (.int .i64 (V : Int)) ∧ ∃ q', w' = (wr.drewN n).drewN q' := by
            intro n
            rw [hV]
            exact IH.out f.t A' c' d B (deep + 1) (wr.drewN n) (by omega) (by have := HD.out; omega) (TabH.below (TabH.keep (w' := wr) (fun b o _ => HCE.out _) _ _ _ _ htab) (below_drewN (Below.refl _ _) n))
          have HIC := Lib.hid ihc
          have HS := Lib.hid hst
          have HV := Lib.hid hV
          have hVb : V ≤ 1200000000000000 := by rw [hV]; exact hwb2
          clear hcell hst hheld htab hf hwb hwb2 hV ihc
          have a1 : IntKind.i64.wrap ((m : Int) + 13) = (m : Int) + 13 := IntWalk.i64_in _ ⟨by omega, by omega⟩
          have a2 : IntKind.i64.wrap ((m : Int) + 13 + (f.name.length : Int)) = (m : Int) + 13 + (f.name.length : Int) := IntWalk.i64_in _ ⟨by omega, by omega⟩
          have a5 : IntKind.i64.wrap (deep + 1) = deep + 1 := IntWalk.i64_in _ ⟨by omega, by omega⟩
          obtain ⟨M, hM⟩ : ∃ M, M = min f.s.length 4000 := ⟨_, rfl⟩
          have hM4 : M ≤ 4000 := by omega
          have am : (if (4000 : Int) < (f.s.length : Int) then (4000 : Int) else (f.s.length : Int)) = (M : Int) := by rw [hM]; split <;> omega
          have a3 : IntKind.i64.wrap ((m : Int) + 13 + (f.name.length : Int) + (M : Int)) = (m : Int) + 13 + (f.name.length : Int) + (M : Int) := IntWalk.i64_in _ ⟨by omega, by omega⟩
          have a4 : IntKind.i64.wrap ((m : Int) + 13 + (f.name.length : Int) + (M : Int) + (V : Int)) = (m : Int) + 13 + (f.name.length : Int) + (M : Int) + (V : Int) := IntWalk.i64_in _ ⟨by omega, by omega⟩
          rw [← hM] at HS
          have HM := Lib.hid hM
          clear hM
          go_wp2_with fail
          go_quiet ((go_at_call 43; exact Calls.quiet_of (HIC.out _)))
          clear a1 a2 a3 a4 a5 am
          go_wp2_with fail
          go_roundw
          case rel =>
            refine ⟨j + 1, m + 13 + f.name.length + M + V, q + nq, by omega, by go_num, by go_num, by rw [HWR.out, World.drewN_drewN], ?_, by omega⟩
            rw [HV.out]
            exact HS.out
          case measure => simp [intOf]; omega
        · have hm2' : 2000 < (m : Int) := by omega
          have hzm : Z = m := by rw [HZJ.out]; exact weightL_stop _ _ _ (by omega)
          have D : Hid (WeightIs (k + 1) l w (.returned (.int .i64 (m : Int))) wr) := Lib.hid (by rw [HWR.out, ← hzm]; exact HDZ.out q)
          clear hzm hm2
          go_wp2_with fail
          go_ret
          exact D.out
      · obtain rfl : j = l.length := by omega
        have hzm : Z = m := by rw [HZJ.out, List.drop_length]; rfl
        have D : Hid (WeightIs (k + 1) l w (.returned (.int .i64 (m : Int))) wr) := Lib.hid (by rw [HWR.out, ← hzm]; exact HDZ.out q)
        clear hzm
        go_wp2_with fail
        go_ret
        exact D.out
end Go.Proofs.Ytplijhhjclfhaaa
