/- Contracts of the document's own answer for layer 2: whether fields may be, and how much they weigh. -/
import Derived.Test.YtplijhhjclfhaaaTablH
import Derived.Test.YtplijhhjclfhaaaTablW
import Derived.Deep.QuietTactic
import Derived.BigQuiet
namespace Go.Proofs.Ytplijhhjclfhaaa
open Go.RowKit

def FormedIs (k : Nat) (l : List Fld) (w : World) (e : Ending) (w' : World) : Prop := e = .returned (.bool (formedB k l)) ∧ Below w.heap.size w w'
theorem names_at (l : List Fld) (j : Nat) (hj : j ≤ l.length) (x : List UInt8) : x ∈ ((l.take j).map Fld.name).reverse ↔ ∃ (p : Nat) (hp : p < l.length), p < j ∧ l[p].name = x := by
  rw [List.mem_reverse, List.mem_map]
  constructor
  · rintro ⟨f, hf, rfl⟩
    obtain ⟨p, hp, rfl⟩ := List.getElem_of_mem hf
    rw [List.length_take] at hp
    exact ⟨p, by omega, by omega, by rw [List.getElem_take]⟩
  · rintro ⟨p, hp, hpj, rfl⟩
    have h2 : (l.take j)[p]'(by rw [List.length_take]; omega) = l[p] := List.getElem_take
    exact ⟨l[p], h2 ▸ List.getElem_mem _, rfl⟩

set_option maxHeartbeats 2000000 in
set_option maxRecDepth 100000 in
theorem formed_any (k : Nat) : ∀ (l : List Fld) (A : Option Addr) (c d B : Nat) (deep : Int) (w : World), 1 ≤ deep → deep + k = 9 → TabAt d w B l A c → B ≤ w.heap.size →
    Calls Try.prog 42 #[.slice A l.length c, .int .i64 deep] w (FormedIs k l w) := by
  induction k with
  | zero =>
    intro l A c d B deep w h1 hd ht hB
    have hd' : deep = 9 := by omega
    subst hd'
    have D : Hid (FormedIs 0 l w (.returned (.bool false)) w) := Lib.hid ⟨rfl, Below.refl _ _⟩
    clear ht hd
    go_enter Try.func42, Try.ntmps42
    go_wp2_with fail
    go_ret
    exact D.out
  | succ k ih =>
    intro l A c d B deep w h1 hd ht hB
    have ht1 := TabH.succ _ _ _ _ ht
    have hcap := TabH.cap ht
    unfold maxLen at hcap
    have HT := Lib.hid ht1
    have IH := Lib.hid ih
    have HD := Lib.hid hd
    have hd8 : deep ≤ 8 := by omega
    obtain ⟨Z, hZ⟩ : ∃ Z, Z = formedB (k + 1) l := ⟨_, rfl⟩
    have DZ : ∀ r wr, Z = r → Below w.heap.size w wr → FormedIs (k + 1) l w (.returned (.bool r)) wr := by
      rintro r wr rfl hb
      exact ⟨by rw [hZ], hb⟩
    have HDZ := Lib.hid DZ
    have HZ : Hid (Z = allB (formedB k) ((l.take 0).map Fld.name).reverse (l.drop 0)) := Lib.hid (by rw [hZ]; rfl)
    clear ht ht1 ih hd DZ hZ
    go_enter Try.func42, Try.ntmps42
    go_wp2_with fail
    go_loopw [5] (fun i wr => ∃ j : Nat, j ≤ l.length ∧ i = .int .i64 j ∧ Below w.heap.size w wr ∧ Z = allB (formedB k) ((l.take j).map Fld.name).reverse (l.drop j)) (fun i _ => l.length - (intOf i).toNat)
    case atStart => exact ⟨0, Nat.zero_le _, rfl, Below.refl _ _, HZ.out⟩
    case round =>
      obtain ⟨j, hj, rfl, hbel, hz⟩ := hrel
      have HB := Lib.hid hbel
      have HZJ := Lib.hid hz
      have hsz := hbel.size
      clear hbel hz
      by_cases hlt : j < l.length
      · obtain ⟨b, o, A', c', rfl, hb, hheld, htab, hcell⟩ := (HT.out.below (HB.out.mono hB)).at j hlt
        obtain ⟨f, hf⟩ : ∃ f, f = l[j] := ⟨_, rfl⟩
        have hst : Z = (mayB f && !decide (f.name ∈ ((l.take j).map Fld.name).reverse) && (!decide (f.kind = 70) || formedB k f.t) && allB (formedB k) ((l.take (j + 1)).map Fld.name).reverse (l.drop (j + 1))) := by
          rw [HZJ.out, List.drop_eq_getElem_cons hlt, List.take_succ_eq_append_getElem hlt, List.map_append, List.reverse_append, ← hf]
          rfl
        have hin : f.name ∈ ((l.take j).map Fld.name).reverse ↔ ∃ (p : Nat) (hp : p < l.length), p < j ∧ l[p].name = f.name := names_at l j hj f.name
        rw [← hf] at hheld htab hcell
        have c0 : wr.cell? ⟨b, o + j * 5, none⟩ = some (.string ⟨f.name.toArray⟩) := hcell 0 _ rfl
        have c1 : wr.cell? ⟨b, o + j * 5 + 1, none⟩ = some (.int .u8 (f.kind.toNat : Int)) := hcell 1 _ rfl
        have c2 : wr.cell? ⟨b, o + j * 5 + 2, none⟩ = some (.int .i64 f.n) := hcell 2 _ rfl
        have c3 : wr.cell? ⟨b, o + j * 5 + 3, none⟩ = some (.string ⟨f.s.toArray⟩) := hcell 3 _ rfl
        have c4 : wr.cell? ⟨b, o + j * 5 + 4, none⟩ = some (.slice A' f.t.length c') := hcell 4 _ rfl
        have HS := Lib.hid hst
        have HIN := Lib.hid hin
        have HF := Lib.hid hf
        have HE := Lib.hid hheld
        have HA := Lib.hid htab
        have HC := Lib.hid hcell
        have hbw : b < wr.heap.size := by omega
        clear hcell hst hin hheld htab hf
        go_wp2_with fail
        refine (fieldOk_any f A' c' _ HE.out (Nat.le_trans (TabH.cap HA.out).1 (TabH.cap HA.out).2)).mono ?_
        rintro e w1 ⟨rfl, hb1⟩
        have HB1 := Lib.hid (HB.out.trans (hb1.mono hsz))
        have hz1 := hb1.size
        have k1 : w1.cell? ⟨b, o + j * 5 + 1, none⟩ = some (.int .u8 (f.kind.toNat : Int)) := (hb1.cell (p := ⟨b, o + j * 5 + 1, none⟩) hbw).trans c1
        have k4 : w1.cell? ⟨b, o + j * 5 + 4, none⟩ = some (.slice A' f.t.length c') := (hb1.cell (p := ⟨b, o + j * 5 + 4, none⟩) hbw).trans c4
        have HA1 := Lib.hid (TabH.below HA.out (hb1.mono (by omega)))
        clear hb1 c0 c1 c2 c3 c4
        cases hm : mayB f with
        | false =>
          have D := Lib.hid (HDZ.out false w1 (by rw [HS.out, hm]; rfl) HB1.out)
          clear hm
          go_wp2_with fail
          go_ret
          exact D.out
        | true =>
          have HM := Lib.hid hm
          clear hm
          cases hk : decide (f.kind = 70) with
          | false =>
            have hk70 : f.kind ≠ 70 := by simpa using hk
            have hk' : ((f.kind.toNat : Int) == 70) = false := by
              simp only [beq_eq_false_iff_ne]
              intro h
              apply hk70
              apply UInt8.toNat_inj.1
              rw [show (UInt8.toNat 70) = 70 from rfl]
              omega
            have HKT : Hid ((!decide (f.kind = 70) || formedB k f.t) = true) := Lib.hid (by rw [hk]; rfl)
            clear hk hk70
            go_wp2_with fail
            obtain ⟨wo, hwo⟩ : ∃ wo : World, wo = w1 := ⟨_, rfl⟩
            subst hwo
            go_loopw [6] (fun q wi => ∃ p : Nat, p ≤ j ∧ q = .int .i64 p ∧ (∀ (x : Nat) (hx : x < l.length), x < p → l[x].name ≠ f.name) ∧ Below w.heap.size w wi) (fun q _ => j - (intOf q).toNat)
            case atStart => exact ⟨0, Nat.zero_le _, rfl, fun x hx h => by omega, HB1.out⟩
            case round =>
              obtain ⟨p, hp, rfl, hne, hbi⟩ := hrel
              have HNE := Lib.hid hne
              have HBI := Lib.hid hbi
              have hzi := hbi.size
              clear hne hbi
              by_cases hpj : p < j
              · have hpl : p < l.length := by omega
                obtain ⟨b2, o2, A2, c2', hA2, _, _, _, hcell2⟩ := (HT.out.below (HBI.out.mono hB)).at p hpl
                obtain ⟨b3, o3, A3, c3', hA3, _, _, _, hcell3⟩ := (HT.out.below (HBI.out.mono hB)).at j hlt
                injection hA2 with hA2
                injection hA2 with hA2 hA2'
                injection hA3 with hA3
                injection hA3 with hA3 hA3'
                subst hA2 hA2' hA3 hA3'
                obtain ⟨g, hg⟩ : ∃ g, g = l[p] := ⟨_, rfl⟩
                rw [← hg] at hcell2
                rw [← HF.out] at hcell3
                have d0 : wr.cell? ⟨b, o + p * 5, none⟩ = some (.string ⟨g.name.toArray⟩) := hcell2 0 _ rfl
                have d1 : wr.cell? ⟨b, o + j * 5, none⟩ = some (.string ⟨f.name.toArray⟩) := hcell3 0 _ rfl
                have q0 : (0 : Int) ≤ (p : Int) := Int.natCast_nonneg _
                have q1 : (p : Int) < (l.length : Int) := by omega
                have q2 : (0 : Int) ≤ (j : Int) := Int.natCast_nonneg _
                have q3 : (j : Int) < (l.length : Int) := by omega
                have HG := Lib.hid hg
                clear hcell2 hcell3 hg
                by_cases hnm : g.name = f.name
                · have hbq : (g.name == f.name) = true := by simp [hnm]
                  have D : Hid (∀ nq, FormedIs (k + 1) l w (.returned (.bool false)) (wr.drewN nq)) := Lib.hid (fun nq => HDZ.out false _ (by
                    rw [HS.out, decide_eq_true (HIN.out.2 ⟨p, hpl, hpj, by rw [← HG.out]; exact hnm⟩)]
                    simp) (below_drewN HBI.out nq))
                  have HNM := Lib.hid hnm
                  clear hnm
                  go_wp2_with fail
                  go_quiet (fail)
                  go_wp2_with fail
                  all_goals first
                    | (go_ret; exact D.out _)
                    | (exact absurd HNM.out (by assumption))
                · have hbq : (g.name == f.name) = false := by simp [hnm]
                  have hn2 : ∀ (x : Nat) (hx : x < l.length), x < p + 1 → l[x].name ≠ f.name := by
                    intro x hx h
                    rcases Nat.lt_or_ge x p with h1 | h1
                    · exact HNE.out x hx h1
                    · obtain rfl : x = p := by omega
                      rw [← HG.out]
                      exact hnm
                  have HN2 := Lib.hid hn2
                  have HNM := Lib.hid hnm
                  clear hnm hn2
                  go_wp2_with fail
                  go_quiet (fail)
                  go_wp2_with fail
                  all_goals first
                    | (exact absurd (by assumption) HNM.out)
                    | (go_roundw
                       case rel => exact ⟨p + 1, by omega, by go_num, HN2.out, below_drewN HBI.out _⟩
                       case measure => simp [intOf]; omega)
              · obtain rfl : p = j := by omega
                have hz2 : Z = allB (formedB k) ((l.take (p + 1)).map Fld.name).reverse (l.drop (p + 1)) := by
                  rw [HS.out, HM.out, decide_eq_false (fun h => by
                    obtain ⟨x, hx, h1, h2⟩ := HIN.out.1 h
                    exact HNE.out x hx h1 h2), HKT.out]
                  simp
                have HZ2 := Lib.hid hz2
                clear hz2
                go_wp2_with fail
                go_roundw
                case rel => exact ⟨p + 1, by omega, by go_num, HBI.out, HZ2.out⟩
                case measure => simp [intOf]; omega
          | true =>
            have hk70 : f.kind = 70 := by simpa using hk
            have hk' : ((f.kind.toNat : Int) == 70) = true := by rw [hk70]; rfl
            have HK70 := Lib.hid hk
            clear hk hk70
            go_wp2_with fail
            refine (IH.out f.t A' c' d B (deep + 1) _ (by omega) (by have := HD.out; omega) HA1.out (by omega)).mono ?_
            rintro e w2 ⟨rfl, hb2⟩
            have HB2 := Lib.hid (HB1.out.trans (hb2.mono (by omega)))
            clear hb2
            cases hft : formedB k f.t with
            | false =>
              have D := Lib.hid (HDZ.out false w2 (by rw [HS.out, HK70.out, hft]; simp) HB2.out)
              clear hft
              go_wp2_with fail
              go_ret
              exact D.out
            | true =>
              have HKT : Hid ((!decide (f.kind = 70) || formedB k f.t) = true) := Lib.hid (by rw [hft, Bool.or_true])
              clear hft
              go_wp2_with fail
              obtain ⟨wo, hwo⟩ : ∃ wo : World, wo = w2 := ⟨_, rfl⟩
              subst hwo
              go_loopw [6] (fun q wi => ∃ p : Nat, p ≤ j ∧ q = .int .i64 p ∧ (∀ (x : Nat) (hx : x < l.length), x < p → l[x].name ≠ f.name) ∧ Below w.heap.size w wi) (fun q _ => j - (intOf q).toNat)
              case atStart => exact ⟨0, Nat.zero_le _, rfl, fun x hx h => by omega, HB2.out⟩
              case round =>
                obtain ⟨p, hp, rfl, hne, hbi⟩ := hrel
                have HNE := Lib.hid hne
                have HBI := Lib.hid hbi
                have hzi := hbi.size
                clear hne hbi
                by_cases hpj : p < j
                · have hpl : p < l.length := by omega
                  obtain ⟨b2, o2, A2, c2', hA2, _, _, _, hcell2⟩ := (HT.out.below (HBI.out.mono hB)).at p hpl
                  obtain ⟨b3, o3, A3, c3', hA3, _, _, _, hcell3⟩ := (HT.out.below (HBI.out.mono hB)).at j hlt
                  injection hA2 with hA2
                  injection hA2 with hA2 hA2'
                  injection hA3 with hA3
                  injection hA3 with hA3 hA3'
                  subst hA2 hA2' hA3 hA3'
                  obtain ⟨g, hg⟩ : ∃ g, g = l[p] := ⟨_, rfl⟩
                  rw [← hg] at hcell2
                  rw [← HF.out] at hcell3
                  have d0 : wr.cell? ⟨b, o + p * 5, none⟩ = some (.string ⟨g.name.toArray⟩) := hcell2 0 _ rfl
                  have d1 : wr.cell? ⟨b, o + j * 5, none⟩ = some (.string ⟨f.name.toArray⟩) := hcell3 0 _ rfl
                  have q0 : (0 : Int) ≤ (p : Int) := Int.natCast_nonneg _
                  have q1 : (p : Int) < (l.length : Int) := by omega
                  have q2 : (0 : Int) ≤ (j : Int) := Int.natCast_nonneg _
                  have q3 : (j : Int) < (l.length : Int) := by omega
                  have HG := Lib.hid hg
                  clear hcell2 hcell3 hg
                  by_cases hnm : g.name = f.name
                  · have hbq : (g.name == f.name) = true := by simp [hnm]
                    have D : Hid (∀ nq, FormedIs (k + 1) l w (.returned (.bool false)) (wr.drewN nq)) := Lib.hid (fun nq => HDZ.out false _ (by
                      rw [HS.out, decide_eq_true (HIN.out.2 ⟨p, hpl, hpj, by rw [← HG.out]; exact hnm⟩)]
                      simp) (below_drewN HBI.out nq))
                    have HNM := Lib.hid hnm
                    clear hnm
                    go_wp2_with fail
                    go_quiet (fail)
                    go_wp2_with fail
                    all_goals first
                      | (go_ret; exact D.out _)
                      | (exact absurd HNM.out (by assumption))
                  · have hbq : (g.name == f.name) = false := by simp [hnm]
                    have hn2 : ∀ (x : Nat) (hx : x < l.length), x < p + 1 → l[x].name ≠ f.name := by
                      intro x hx h
                      rcases Nat.lt_or_ge x p with h1 | h1
                      · exact HNE.out x hx h1
                      · obtain rfl : x = p := by omega
                        rw [← HG.out]
                        exact hnm
                    have HN2 := Lib.hid hn2
                    have HNM := Lib.hid hnm
                    clear hnm hn2
                    go_wp2_with fail
                    go_quiet (fail)
                    go_wp2_with fail
                    all_goals first
                      | (exact absurd (by assumption) HNM.out)
                      | (go_roundw
                         case rel => exact ⟨p + 1, by omega, by go_num, HN2.out, below_drewN HBI.out _⟩
                         case measure => simp [intOf]; omega)
                · obtain rfl : p = j := by omega
                  have hz2 : Z = allB (formedB k) ((l.take (p + 1)).map Fld.name).reverse (l.drop (p + 1)) := by
                    rw [HS.out, HM.out, decide_eq_false (fun h => by
                      obtain ⟨x, hx, h1, h2⟩ := HIN.out.1 h
                      exact HNE.out x hx h1 h2), HKT.out]
                    simp
                  have HZ2 := Lib.hid hz2
                  clear hz2
                  go_wp2_with fail
                  go_roundw
                  case rel => exact ⟨p + 1, by omega, by go_num, HBI.out, HZ2.out⟩
                  case measure => simp [intOf]; omega
      · obtain rfl : j = l.length := by omega
        have D := Lib.hid (HDZ.out true wr (by rw [HZJ.out, List.drop_length]; rfl) HB.out)
        go_wp2_with fail
        go_ret
        exact D.out

/-! ### how much a table weighs -/
def weightL (sub : List Fld → Nat) : List Fld → Nat → Nat
  | [], n => n
  | f :: l, n => if n ≤ 2000 then weightL sub l (n + 13 + f.name.length + min f.s.length 4000 + sub f.t) else n
def weightD : Nat → List Fld → Nat
  | 0, _ => 0
  | k + 1, l => weightL (weightD k) l 0
theorem weightL_stop (sub : List Fld → Nat) (l : List Fld) (n : Nat) (h : 2000 < n) : weightL sub l n = n := by
  cases l with
  | nil => rfl
  | cons f l => unfold weightL; rw [if_neg (by omega)]
theorem weightL_ge (sub : List Fld → Nat) : ∀ (l : List Fld) (n : Nat), n ≤ weightL sub l n := by
  intro l
  induction l with
  | nil => intro n; exact Nat.le_refl _
  | cons f l ih =>
    intro n
    unfold weightL
    split
    · have := ih (n + 13 + f.name.length + min f.s.length 4000 + sub f.t)
      omega
    · exact Nat.le_refl _
theorem weightL_le (sub : List Fld → Nat) (M K : Nat) (hs : ∀ t, sub t ≤ M) : ∀ (l : List Fld) (n : Nat), (∀ f ∈ l, f.name.length ≤ K) → n ≤ 2000 + 13 + K + 4000 + M → weightL sub l n ≤ 2000 + 13 + K + 4000 + M := by
  intro l
  induction l with
  | nil => intro n _ h; exact h
  | cons f l ih =>
    intro n hf h
    unfold weightL
    split
    · apply ih _ (fun g hg => hf g (by simp [hg]))
      have := hf f (by simp)
      have := hs f.t
      omega
    · exact h
theorem weight_rows : ∀ (k : Nat) (l : List Fld), formedB k l = true → weightD k l ≤ 2000 → (rowsD k l).length ≤ weightD k l := by
  intro k
  induction k with
  | zero => intro l h; cases h
  | succ k ih =>
    intro l hf hw
    have hall := formed_each hf
    have main : ∀ (l : List Fld) (n : Nat), (∀ f ∈ l, mayB f = true ∧ (f.kind = 70 → formedB k f.t = true)) → weightL (weightD k) l n ≤ 2000 → n + (l.flatMap (rowOf (rowsD k))).length ≤ weightL (weightD k) l n := by
      intro l
      induction l with
      | nil => intro n _ _; simp [weightL]
      | cons f l ihl =>
        intro n hall hw
        unfold weightL at hw ⊢
        by_cases hn : n ≤ 2000
        · rw [if_pos hn] at hw ⊢
          have h1 := ihl _ (fun g hg => hall g (by simp [hg])) hw
          have hge := weightL_ge (weightD k) l (n + 13 + f.name.length + min f.s.length 4000 + weightD k f.t)
          obtain ⟨hm, hk⟩ := hall f (by simp)
          have hlen := rowOf_length (rowsD k) f
          rw [List.flatMap_cons, List.length_append, hlen]
          have hx : (if f.kind = 70 then (rowsD k f.t).length else 0) ≤ weightD k f.t := by
            split
            · rename_i h
              exact ih f.t (hk h) (by omega)
            · exact Nat.zero_le _
          have hsz : sizeN f ≤ 13 + f.name.length + min f.s.length 4000 := by
            unfold sizeN sizeK
            split
            · omega
            · split
              · omega
              · split
                · omega
                · split
                  · omega
                  · split <;> omega
          omega
        · rw [if_neg hn] at hw
          exact absurd hw (by omega)
    have := main l 0 hall hw
    rw [Nat.zero_add] at this
    exact this
end Go.Proofs.Ytplijhhjclfhaaa
