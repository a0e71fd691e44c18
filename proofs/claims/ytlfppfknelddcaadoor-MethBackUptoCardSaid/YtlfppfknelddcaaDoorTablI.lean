/- Tables as plain data: two behind each other; what is formed, field by field. Contract of the document's own answer for layer 2: which fields may be. Contracts of the document's own answer for layer 2: whether fields may be, and how much they weigh. Contracts of the document's own answer for layer 2: how much a table weighs. -/
import Derived.Test.YtlfppfknelddcaaDoorTablV0
import Derived.Deep.QuietTactic
import Derived.BigQuiet
namespace Go.Proofs.YtlfppfknelddcaaDoor
section
open Go.RowKit

theorem list_complete2 (strict : Bool) (sub : List UInt8 → Option (List Fld)) (k : Nat) (hs : ∀ t, formedB k t = true → (rowsD k t).length < 256 ^ 4 → sub (rowsD k t) = some t) :
    ∀ (l : List Fld) (n : Nat), (∀ f ∈ l, mayB f = true ∧ (f.kind = 70 → formedB k f.t = true)) → (l.flatMap (rowOf (rowsD k))).length < 256 ^ 4 → (l.flatMap (rowOf (rowsD k))).length ≤ n → parseL (rowP strict sub) n (l.flatMap (rowOf (rowsD k))) = some l := by
  intro l
  induction l with
  | nil => intro n _ _ _; cases n <;> simp [parseL]
  | cons f l ih =>
    intro n hf hl hn
    obtain ⟨h1, h2⟩ := hf f (by simp)
    have hlen := rowOf_length (rowsD k) f
    rw [List.flatMap_cons] at hl hn ⊢
    rw [List.length_append] at hl hn
    have hpos : 2 ≤ (rowOf (rowsD k) f).length := by rw [hlen]; unfold sizeN; omega
    have hrow := row_complete strict sub k f (l.flatMap (rowOf (rowsD k))) h1
      (fun hk => by rw [hlen] at hl; unfold sizeN sizeK at hl; simp [hk] at hl; omega)
      (fun hk => by
        rw [hlen, if_pos hk] at hl
        have hlt : (rowsD k f.t).length < 256 ^ 4 := by omega
        exact ⟨hlt, hs _ (h2 hk) hlt⟩)
    cases hb : rowOf (rowsD k) f ++ l.flatMap (rowOf (rowsD k)) with
    | nil =>
      have h0 : (rowOf (rowsD k) f).length + (l.flatMap (rowOf (rowsD k))).length = 0 := by rw [← List.length_append, hb]; rfl
      omega
    | cons c b =>
      cases n with
      | zero => omega
      | succ n =>
        unfold parseL
        rw [hb] at hrow
        simp only [hrow]
        rw [ih n (fun g hg => hf g (by simp [hg])) (by omega) (by omega)]
        rfl
theorem formed_each {k : Nat} {l : List Fld} (h : formedB (k + 1) l = true) : ∀ f ∈ l, mayB f = true ∧ (f.kind = 70 → formedB k f.t = true) := by
  intro f hf
  obtain ⟨i, hi, rfl⟩ := List.getElem_of_mem hf
  exact allB_at l [] h i hi
theorem rows_join (k : Nat) (l m : List Fld) : rowsD (k + 1) (l ++ m) = rowsD (k + 1) l ++ rowsD (k + 1) m := by simp [rowsD]
theorem parse_join (l m : List Fld) (hl : okB l = true) (hm : okB m = true) : parseB (rowsD 8 l ++ rowsD 8 m) = if okB (l ++ m) then some (l ++ m) else none := by
  obtain ⟨f1, n1⟩ := okB_parts hl
  obtain ⟨f2, n2⟩ := okB_parts hm
  have hlen : (rowsD 8 (l ++ m)).length ≤ 4000 := by
    have h := rows_join 7 l m
    rw [h, List.length_append]
    exact Nat.add_le_add n1 n2
  have h4 : 256 ^ 4 = 4294967296 := by decide
  have hc : codeP 8 (rowsD 8 (l ++ m)) = some (l ++ m) :=
    list_complete2 false (codeP 7) 7 (code_complete 7) (l ++ m) _ (fun f hf => by
      rcases List.mem_append.1 hf with h | h
      · exact formed_each f1 f h
      · exact formed_each f2 f h) (by show (rowsD 8 (l ++ m)).length < _; omega) (Nat.le_refl _)
  rw [← rows_join 7]
  unfold parseB parsed
  rw [hc]
  cases hok : okB (l ++ m) with
  | true => rw [if_pos (okB_parts hok).2]; simp [hok]
  | false => simp [hok]
end
section
open Go.RowKit
set_option maxRecDepth 100000

def MayIs (f : Fld) (w : World) (e : Ending) (w' : World) : Prop := e = .returned (.bool (mayB f)) ∧ Below w.heap.size w w'
theorem MayIs.of {f : Fld} {w w' : World} {b : Bool} (hb : b = mayB f) (hW : Below w.heap.size w w') : MayIs f w (.returned (.bool b)) w' := ⟨by rw [hb], hW⟩

set_option maxHeartbeats 2000000 in
set_option maxRecDepth 100000 in
theorem fieldOk_some (nm s : List UInt8) (k : UInt8) (n : Int) (t : List Fld) (A : Option Addr) (c : Nat) (w : World) (h1' : 1 ≤ (nm.length : Int)) (h1 : (nm.length : Int) ≤ 128) (_ht : t.length ≤ 9223372036854775807) (HR : Hid (I64 n)) :
    Calls Tryd.prog 65 #[.agg #[.string ⟨nm.toArray⟩, .int .u8 (k.toNat : Int), .int .i64 n, .string ⟨s.toArray⟩, .slice A t.length c]] w (MayIs (.mk nm k n s t) w) := by
  have h2 : 1 ≤ nm.length := by omega
  have h3 : nm.length ≤ 128 := by omega
  rcases kind_cases k with hc | hc | hc | hc | hc | hc | hc
  · subst hc
    rw [show ((UInt8.toNat 116 : Nat) : Int) = 116 from rfl]
    go_enter Tryd.func65, Tryd.ntmps65
    go_wp2_with fail
    all_goals
      go_ret
      refine MayIs.of ?_ (below_drewN ((Below.refl _ w).alloc (Nat.le_refl _) _) 0)
      simp [mayB, kindB, Fld.name, Fld.kind, Fld.s, Fld.n, Fld.t, emp_len, *]
  · subst hc
    rw [show ((UInt8.toNat 73 : Nat) : Int) = 73 from rfl]
    rcases Int.lt_or_le n (-2147483648) with g1 | g1
    · have HI : Hid (¬ I32 n) := Lib.hid (by unfold I32; omega)
      go_enter Tryd.func65, Tryd.ntmps65
      go_wp2_with fail
      all_goals
        go_ret
        refine MayIs.of ?_ (below_drewN ((Below.refl _ w).alloc (Nat.le_refl _) _) 0)
        simp [mayB, kindB, Fld.name, Fld.kind, Fld.s, Fld.n, Fld.t, HI.out, *]
    · rcases Int.lt_or_le 2147483647 n with g2 | g2
      · have HI : Hid (¬ I32 n) := Lib.hid (by unfold I32; omega)
        have hdv : decide (n < 2147483648) = false := decide_eq_false (by omega)
        go_enter Tryd.func65, Tryd.ntmps65
        go_wp2_with fail
        all_goals
          go_ret
          refine MayIs.of ?_ (below_drewN ((Below.refl _ w).alloc (Nat.le_refl _) _) 0)
          simp [mayB, kindB, Fld.name, Fld.kind, Fld.s, Fld.n, Fld.t, HI.out, *]
      · have HI : Hid (I32 n) := Lib.hid ⟨g1, g2⟩
        go_enter Tryd.func65, Tryd.ntmps65
        go_wp2_with fail
        all_goals
          go_ret
          refine MayIs.of ?_ (below_drewN ((Below.refl _ w).alloc (Nat.le_refl _) _) 0)
          simp [mayB, kindB, Fld.name, Fld.kind, Fld.s, Fld.n, Fld.t, emp_len, HI.out, *]
  · subst hc
    rw [show ((UInt8.toNat 108 : Nat) : Int) = 108 from rfl]
    go_enter Tryd.func65, Tryd.ntmps65
    go_wp2_with fail
    all_goals
      go_ret
      refine MayIs.of ?_ (below_drewN ((Below.refl _ w).alloc (Nat.le_refl _) _) 0)
      simp [mayB, kindB, Fld.name, Fld.kind, Fld.s, Fld.n, Fld.t, emp_len, HR.out, *]
  · subst hc
    rw [show ((UInt8.toNat 83 : Nat) : Int) = 83 from rfl]
    go_enter Tryd.func65, Tryd.ntmps65
    go_wp2_with fail
    all_goals
      go_ret
      refine MayIs.of ?_ (below_drewN ((Below.refl _ w).alloc (Nat.le_refl _) _) 0)
      simp [mayB, kindB, Fld.name, Fld.kind, Fld.n, Fld.t, emp_len, *]
  · subst hc
    rw [show ((UInt8.toNat 70 : Nat) : Int) = 70 from rfl]
    go_enter Tryd.func65, Tryd.ntmps65
    go_wp2_with fail
    all_goals
      go_ret
      refine MayIs.of ?_ (below_drewN ((Below.refl _ w).alloc (Nat.le_refl _) _) 0)
      simp [mayB, kindB, Fld.name, Fld.kind, Fld.s, Fld.n, *]
  · subst hc
    rw [show ((UInt8.toNat 86 : Nat) : Int) = 86 from rfl]
    go_enter Tryd.func65, Tryd.ntmps65
    go_wp2_with fail
    all_goals
      go_ret
      refine MayIs.of ?_ (below_drewN ((Below.refl _ w).alloc (Nat.le_refl _) _) 0)
      simp [mayB, kindB, Fld.name, Fld.kind, Fld.s, Fld.n, Fld.t, emp_len, *]
  · obtain ⟨a1, a2, a3, a4, a5, a6⟩ := hc
    have ne : ∀ q : UInt8, k ≠ q → ((k.toNat : Int) == (q.toNat : Int)) = false := by
      intro q hq
      simp only [beq_eq_false_iff_ne]
      intro h
      exact hq (UInt8.toNat_inj.1 (by omega))
    have b1 := ne 116 a1
    have b2 := ne 73 a2
    have b3 := ne 108 a3
    have b4 := ne 83 a4
    have b5 := ne 70 a5
    have b6 := ne 86 a6
    rw [show ((UInt8.toNat 116 : Nat) : Int) = 116 from rfl] at b1
    rw [show ((UInt8.toNat 73 : Nat) : Int) = 73 from rfl] at b2
    rw [show ((UInt8.toNat 108 : Nat) : Int) = 108 from rfl] at b3
    rw [show ((UInt8.toNat 83 : Nat) : Int) = 83 from rfl] at b4
    rw [show ((UInt8.toNat 70 : Nat) : Int) = 70 from rfl] at b5
    rw [show ((UInt8.toNat 86 : Nat) : Int) = 86 from rfl] at b6
    have hno : false = mayB (.mk nm k n s t) := by simp [mayB, kindB, Fld.kind, a1, a2, a3, a4, a5, a6]
    have HN := Lib.hid hno
    clear ne a1 a2 a3 a4 a5 a6 hno
    go_enter Tryd.func65, Tryd.ntmps65
    go_wp2_with fail
    go_ret
    exact MayIs.of HN.out (below_drewN ((Below.refl _ w).alloc (Nat.le_refl _) _) 0)
theorem fieldOk_none (nm s : List UInt8) (k : UInt8) (n : Int) (t : List Fld) (A : Option Addr) (c : Nat) (w : World) (hn : ¬ (1 ≤ nm.length ∧ nm.length ≤ 128)) (hm : nm.length ≤ 9223372036854775807) :
    Calls Tryd.prog 65 #[.agg #[.string ⟨nm.toArray⟩, .int .u8 (k.toNat : Int), .int .i64 n, .string ⟨s.toArray⟩, .slice A t.length c]] w (MayIs (.mk nm k n s t) w) := by
  have hno : false = mayB (.mk nm k n s t) := by
    unfold mayB
    rw [show decide (1 ≤ (Fld.mk nm k n s t).name.length ∧ (Fld.mk nm k n s t).name.length ≤ 128) = false from decide_eq_false hn]
    rfl
  have HN := Lib.hid hno
  clear hno
  rcases Int.lt_or_le (nm.length : Int) 1 with h | h
  · go_enter Tryd.func65, Tryd.ntmps65
    go_wp2_with fail
    go_ret
    exact MayIs.of HN.out (below_drewN ((Below.refl _ w).alloc (Nat.le_refl _) _) 0)
  · have h' : 128 < (nm.length : Int) := by omega
    clear hn
    go_enter Tryd.func65, Tryd.ntmps65
    go_wp2_with fail
    go_ret
    exact MayIs.of HN.out (below_drewN ((Below.refl _ w).alloc (Nat.le_refl _) _) 0)
theorem fieldOk_any (f : Fld) (A : Option Addr) (c : Nat) (w : World) (hf : Held f) (ht : f.t.length ≤ maxLen) :
    Calls Tryd.prog 65 #[aggF (.slice A f.t.length c) f] w (MayIs f w) := by
  obtain ⟨nm, k, n, s, t⟩ := f
  obtain ⟨h1, h2, hs⟩ := hf
  simp only [Fld.name, Fld.n, Fld.s, Fld.t] at h1 h2 hs ht
  unfold maxLen at ht
  by_cases hn : 1 ≤ nm.length ∧ nm.length ≤ 128
  · exact fieldOk_some nm s k n t A c w (by omega) (by omega) (by omega) (Lib.hid h1)
  · exact fieldOk_none nm s k n t A c w hn (by omega)
end
section
open Go.RowKit
set_option maxRecDepth 100000

def FormedIs (k : Nat) (l : List Fld) (w : World) (e : Ending) (w' : World) : Prop := e = .returned (.bool (formedB k l)) ∧ Below w.heap.size w w'
theorem names_at (l : List Fld) (j : Nat) (hj : j ≤ l.length) (x : List UInt8) : x ∈ ((l.take j).map Fld.name).reverse ↔ ∃ (p : Nat) (hp : p < l.length), p < j ∧ l[p].name = x := by
  rw [List.mem_reverse, List.mem_map]
  constructor
  · rintro ⟨f, hf, rfl⟩
    obtain ⟨p, hp, rfl⟩ := List.getElem_of_mem hf
    rw [List.length_take] at hp
    exact ⟨p, by omega, by omega, by rw [List.getElem_take]⟩
  · rintro ⟨p, hp, hpj, rfl⟩
    have h2 : (l.take j)[p]'(by rw [List.length_take]; omega) = l[p] := List.getElem_take
    exact ⟨l[p], h2 ▸ List.getElem_mem _, rfl⟩

set_option maxHeartbeats 2000000 in
set_option maxRecDepth 100000 in
theorem formed_any (k : Nat) : ∀ (l : List Fld) (A : Option Addr) (c d B : Nat) (deep : Int) (w : World), 1 ≤ deep → deep + k = 9 → TabAt d w B l A c → B ≤ w.heap.size →
    Calls Tryd.prog 49 #[.slice A l.length c, .int .i64 deep] w (FormedIs k l w) := by
  induction k with
  | zero =>
    intro l A c d B deep w h1 hd ht hB
    have hd' : deep = 9 := by omega
    subst hd'
    have D : Hid (FormedIs 0 l w (.returned (.bool false)) w) := Lib.hid ⟨rfl, Below.refl _ _⟩
    clear ht hd
    go_enter Tryd.func49, Tryd.ntmps49
    go_wp2_with fail
    go_ret
    exact D.out
  | succ k ih =>
    intro l A c d B deep w h1 hd ht hB
    have ht1 := TabH.succ _ _ _ _ ht
    have hcap := TabH.cap ht
    unfold maxLen at hcap
    have HT := Lib.hid ht1
    have IH := Lib.hid ih
    have HD := Lib.hid hd
    have hd8 : deep ≤ 8 := by omega
    obtain ⟨Z, hZ⟩ : ∃ Z, Z = formedB (k + 1) l := ⟨_, rfl⟩
    have DZ : ∀ r wr, Z = r → Below w.heap.size w wr → FormedIs (k + 1) l w (.returned (.bool r)) wr := by
      rintro r wr rfl hb
      exact ⟨by rw [hZ], hb⟩
    have HDZ := Lib.hid DZ
    have HZ : Hid (Z = allB (formedB k) ((l.take 0).map Fld.name).reverse (l.drop 0)) := Lib.hid (by rw [hZ]; rfl)
    clear ht ht1 ih hd DZ hZ
    go_enter Tryd.func49, Tryd.ntmps49
    go_wp2_with fail
    go_loopw [5] (fun i wr => ∃ j : Nat, j ≤ l.length ∧ i = .int .i64 j ∧ Below w.heap.size w wr ∧ Z = allB (formedB k) ((l.take j).map Fld.name).reverse (l.drop j)) (fun i _ => l.length - (intOf i).toNat)
    case atStart => exact ⟨0, Nat.zero_le _, rfl, Below.refl _ _, HZ.out⟩
    case round =>
      obtain ⟨j, hj, rfl, hbel, hz⟩ := hrel
      have HB := Lib.hid hbel
      have HZJ := Lib.hid hz
      have hsz := hbel.size
      clear hbel hz
      by_cases hlt : j < l.length
      · obtain ⟨b, o, A', c', rfl, hb, hheld, htab, hcell⟩ := (HT.out.below (HB.out.mono hB)).at j hlt
        obtain ⟨f, hf⟩ : ∃ f, f = l[j] := ⟨_, rfl⟩
        have hst : Z = (mayB f && !decide (f.name ∈ ((l.take j).map Fld.name).reverse) && (!decide (f.kind = 70) || formedB k f.t) && allB (formedB k) ((l.take (j + 1)).map Fld.name).reverse (l.drop (j + 1))) := by
          rw [HZJ.out, List.drop_eq_getElem_cons hlt, List.take_succ_eq_append_getElem hlt, List.map_append, List.reverse_append, ← hf]
          rfl
        have hin : f.name ∈ ((l.take j).map Fld.name).reverse ↔ ∃ (p : Nat) (hp : p < l.length), p < j ∧ l[p].name = f.name := names_at l j hj f.name
        rw [← hf] at hheld htab hcell
        have c0 : wr.cell? ⟨b, o + j * 5, none⟩ = some (.string ⟨f.name.toArray⟩) := hcell 0 _ rfl
        have c1 : wr.cell? ⟨b, o + j * 5 + 1, none⟩ = some (.int .u8 (f.kind.toNat : Int)) := hcell 1 _ rfl
        have c2 : wr.cell? ⟨b, o + j * 5 + 2, none⟩ = some (.int .i64 f.n) := hcell 2 _ rfl
        have c3 : wr.cell? ⟨b, o + j * 5 + 3, none⟩ = some (.string ⟨f.s.toArray⟩) := hcell 3 _ rfl
        have c4 : wr.cell? ⟨b, o + j * 5 + 4, none⟩ = some (.slice A' f.t.length c') := hcell 4 _ rfl
        have HS := Lib.hid hst
        have HIN := Lib.hid hin
        have HF := Lib.hid hf
        have HE := Lib.hid hheld
        have HA := Lib.hid htab
        have HC := Lib.hid hcell
        have hbw : b < wr.heap.size := by omega
        clear hcell hst hin hheld htab hf
        go_wp2_with fail
        refine (fieldOk_any f A' c' _ HE.out (Nat.le_trans (TabH.cap HA.out).1 (TabH.cap HA.out).2)).mono ?_
        rintro e w1 ⟨rfl, hb1⟩
        have HB1 := Lib.hid (HB.out.trans (hb1.mono hsz))
        have hz1 := hb1.size
        have k1 : w1.cell? ⟨b, o + j * 5 + 1, none⟩ = some (.int .u8 (f.kind.toNat : Int)) := (hb1.cell (p := ⟨b, o + j * 5 + 1, none⟩) hbw).trans c1
        have k4 : w1.cell? ⟨b, o + j * 5 + 4, none⟩ = some (.slice A' f.t.length c') := (hb1.cell (p := ⟨b, o + j * 5 + 4, none⟩) hbw).trans c4
        have HA1 := Lib.hid (TabH.below HA.out (hb1.mono (by omega)))
        clear hb1 c0 c1 c2 c3 c4
        cases hm : mayB f with
        | false =>
          have D := Lib.hid (HDZ.out false w1 (by rw [HS.out, hm]; rfl) HB1.out)
          clear hm
          go_wp2_with fail
          go_ret
          exact D.out
        | true =>
          have HM := Lib.hid hm
          clear hm
          cases hk : decide (f.kind = 70) with
          | false =>
            have hk70 : f.kind ≠ 70 := by simpa using hk
            have hk' : ((f.kind.toNat : Int) == 70) = false := by
              simp only [beq_eq_false_iff_ne]
              intro h
              apply hk70
              apply UInt8.toNat_inj.1
              rw [show (UInt8.toNat 70) = 70 from rfl]
              omega
            have HKT : Hid ((!decide (f.kind = 70) || formedB k f.t) = true) := Lib.hid (by rw [hk]; rfl)
            clear hk hk70
            go_wp2_with fail
            obtain ⟨wo, hwo⟩ : ∃ wo : World, wo = w1 := ⟨_, rfl⟩
            subst hwo
            go_loopw [6] (fun q wi => ∃ p : Nat, p ≤ j ∧ q = .int .i64 p ∧ (∀ (x : Nat) (hx : x < l.length), x < p → l[x].name ≠ f.name) ∧ Below w.heap.size w wi) (fun q _ => j - (intOf q).toNat)
            case atStart => exact ⟨0, Nat.zero_le _, rfl, fun x hx h => by omega, HB1.out⟩
            case round =>
              obtain ⟨p, hp, rfl, hne, hbi⟩ := hrel
              have HNE := Lib.hid hne
              have HBI := Lib.hid hbi
              have hzi := hbi.size
              clear hne hbi
              by_cases hpj : p < j
              · have hpl : p < l.length := by omega
                obtain ⟨b2, o2, A2, c2', hA2, _, _, _, hcell2⟩ := (HT.out.below (HBI.out.mono hB)).at p hpl
                obtain ⟨b3, o3, A3, c3', hA3, _, _, _, hcell3⟩ := (HT.out.below (HBI.out.mono hB)).at j hlt
                injection hA2 with hA2
                injection hA2 with hA2 hA2'
                injection hA3 with hA3
                injection hA3 with hA3 hA3'
                subst hA2 hA2' hA3 hA3'
                obtain ⟨g, hg⟩ : ∃ g, g = l[p] := ⟨_, rfl⟩
                rw [← hg] at hcell2
                rw [← HF.out] at hcell3
                have d0 : wr.cell? ⟨b, o + p * 5, none⟩ = some (.string ⟨g.name.toArray⟩) := hcell2 0 _ rfl
                have d1 : wr.cell? ⟨b, o + j * 5, none⟩ = some (.string ⟨f.name.toArray⟩) := hcell3 0 _ rfl
                have q0 : (0 : Int) ≤ (p : Int) := Int.natCast_nonneg _
                have q1 : (p : Int) < (l.length : Int) := by omega
                have q2 : (0 : Int) ≤ (j : Int) := Int.natCast_nonneg _
                have q3 : (j : Int) < (l.length : Int) := by omega
                have HG := Lib.hid hg
                clear hcell2 hcell3 hg
                by_cases hnm : g.name = f.name
                · have hbq : (g.name == f.name) = true := by simp [hnm]
                  have D : Hid (∀ nq, FormedIs (k + 1) l w (.returned (.bool false)) (wr.drewN nq)) := Lib.hid (fun nq => HDZ.out false _ (by
                    rw [HS.out, decide_eq_true (HIN.out.2 ⟨p, hpl, hpj, by rw [← HG.out]; exact hnm⟩)]
                    simp) (below_drewN HBI.out nq))
                  have HNM := Lib.hid hnm
                  clear hnm
                  go_wp2_with fail
                  go_quiet (fail)
                  go_wp2_with fail
                  all_goals first
                    | (go_ret; exact D.out _)
                    | (exact absurd HNM.out (by assumption))
                · have hbq : (g.name == f.name) = false := by simp [hnm]
                  have hn2 : ∀ (x : Nat) (hx : x < l.length), x < p + 1 → l[x].name ≠ f.name := by
                    intro x hx h
                    rcases Nat.lt_or_ge x p with h1 | h1
                    · exact HNE.out x hx h1
                    · obtain rfl : x = p := by omega
                      rw [← HG.out]
                      exact hnm
                  have HN2 := Lib.hid hn2
                  have HNM := Lib.hid hnm
                  clear hnm hn2
                  go_wp2_with fail
                  go_quiet (fail)
                  go_wp2_with fail
                  all_goals first
                    | (exact absurd (by assumption) HNM.out)
                    | (go_roundw
                       case rel => exact ⟨p + 1, by omega, by go_num, HN2.out, below_drewN HBI.out _⟩
                       case measure => simp [intOf]; omega)
              · obtain rfl : p = j := by omega
                have hz2 : Z = allB (formedB k) ((l.take (p + 1)).map Fld.name).reverse (l.drop (p + 1)) := by
                  rw [HS.out, HM.out, decide_eq_false (fun h => by
                    obtain ⟨x, hx, h1, h2⟩ := HIN.out.1 h
                    exact HNE.out x hx h1 h2), HKT.out]
                  simp
                have HZ2 := Lib.hid hz2
                clear hz2
                go_wp2_with fail
                go_roundw
                case rel => exact ⟨p + 1, by omega, by go_num, HBI.out, HZ2.out⟩
                case measure => simp [intOf]; omega
          | true =>
            have hk70 : f.kind = 70 := by simpa using hk
            have hk' : ((f.kind.toNat : Int) == 70) = true := by rw [hk70]; rfl
            have HK70 := Lib.hid hk
            clear hk hk70
            go_wp2_with fail
            refine (IH.out f.t A' c' d B (deep + 1) _ (by omega) (by have := HD.out; omega) HA1.out (by omega)).mono ?_
            rintro e w2 ⟨rfl, hb2⟩
            have HB2 := Lib.hid (HB1.out.trans (hb2.mono (by omega)))
            clear hb2
            cases hft : formedB k f.t with
            | false =>
              have D := Lib.hid (HDZ.out false w2 (by rw [HS.out, HK70.out, hft]; simp) HB2.out)
              clear hft
              go_wp2_with fail
              go_ret
              exact D.out
            | true =>
              have HKT : Hid ((!decide (f.kind = 70) || formedB k f.t) = true) := Lib.hid (by rw [hft, Bool.or_true])
              clear hft
              go_wp2_with fail
              obtain ⟨wo, hwo⟩ : ∃ wo : World, wo = w2 := ⟨_, rfl⟩
              subst hwo
              go_loopw [6] (fun q wi => ∃ p : Nat, p ≤ j ∧ q = .int .i64 p ∧ (∀ (x : Nat) (hx : x < l.length), x < p → l[x].name ≠ f.name) ∧ Below w.heap.size w wi) (fun q _ => j - (intOf q).toNat)
              case atStart => exact ⟨0, Nat.zero_le _, rfl, fun x hx h => by omega, HB2.out⟩
              case round =>
                obtain ⟨p, hp, rfl, hne, hbi⟩ := hrel
                have HNE := Lib.hid hne
                have HBI := Lib.hid hbi
                have hzi := hbi.size
                clear hne hbi
                by_cases hpj : p < j
                · have hpl : p < l.length := by omega
                  obtain ⟨b2, o2, A2, c2', hA2, _, _, _, hcell2⟩ := (HT.out.below (HBI.out.mono hB)).at p hpl
                  obtain ⟨b3, o3, A3, c3', hA3, _, _, _, hcell3⟩ := (HT.out.below (HBI.out.mono hB)).at j hlt
                  injection hA2 with hA2
                  injection hA2 with hA2 hA2'
                  injection hA3 with hA3
                  injection hA3 with hA3 hA3'
                  subst hA2 hA2' hA3 hA3'
                  obtain ⟨g, hg⟩ : ∃ g, g = l[p] := ⟨_, rfl⟩
                  rw [← hg] at hcell2
                  rw [← HF.out] at hcell3
                  have d0 : wr.cell? ⟨b, o + p * 5, none⟩ = some (.string ⟨g.name.toArray⟩) := hcell2 0 _ rfl
                  have d1 : wr.cell? ⟨b, o + j * 5, none⟩ = some (.string ⟨f.name.toArray⟩) := hcell3 0 _ rfl
                  have q0 : (0 : Int) ≤ (p : Int) := Int.natCast_nonneg _
                  have q1 : (p : Int) < (l.length : Int) := by omega
                  have q2 : (0 : Int) ≤ (j : Int) := Int.natCast_nonneg _
                  have q3 : (j : Int) < (l.length : Int) := by omega
                  have HG := Lib.hid hg
                  clear hcell2 hcell3 hg
                  by_cases hnm : g.name = f.name
                  · have hbq : (g.name == f.name) = true := by simp [hnm]
                    have D : Hid (∀ nq, FormedIs (k + 1) l w (.returned (.bool false)) (wr.drewN nq)) := Lib.hid (fun nq => HDZ.out false _ (by
                      rw [HS.out, decide_eq_true (HIN.out.2 ⟨p, hpl, hpj, by rw [← HG.out]; exact hnm⟩)]
                      simp) (below_drewN HBI.out nq))
                    have HNM := Lib.hid hnm
                    clear hnm
                    go_wp2_with fail
                    go_quiet (fail)
                    go_wp2_with fail
                    all_goals first
                      | (go_ret; exact D.out _)
                      | (exact absurd HNM.out (by assumption))
                  · have hbq : (g.name == f.name) = false := by simp [hnm]
                    have hn2 : ∀ (x : Nat) (hx : x < l.length), x < p + 1 → l[x].name ≠ f.name := by
                      intro x hx h
                      rcases Nat.lt_or_ge x p with h1 | h1
                      · exact HNE.out x hx h1
                      · obtain rfl : x = p := by omega
                        rw [← HG.out]
                        exact hnm
                    have HN2 := Lib.hid hn2
                    have HNM := Lib.hid hnm
                    clear hnm hn2
                    go_wp2_with fail
                    go_quiet (fail)
                    go_wp2_with fail
                    all_goals first
                      | (exact absurd (by assumption) HNM.out)
                      | (go_roundw
                         case rel => exact ⟨p + 1, by omega, by go_num, HN2.out, below_drewN HBI.out _⟩
                         case measure => simp [intOf]; omega)
                · obtain rfl : p = j := by omega
                  have hz2 : Z = allB (formedB k) ((l.take (p + 1)).map Fld.name).reverse (l.drop (p + 1)) := by
                    rw [HS.out, HM.out, decide_eq_false (fun h => by
                      obtain ⟨x, hx, h1, h2⟩ := HIN.out.1 h
                      exact HNE.out x hx h1 h2), HKT.out]
                    simp
                  have HZ2 := Lib.hid hz2
                  clear hz2
                  go_wp2_with fail
                  go_roundw
                  case rel => exact ⟨p + 1, by omega, by go_num, HBI.out, HZ2.out⟩
                  case measure => simp [intOf]; omega
      · obtain rfl : j = l.length := by omega
        have D := Lib.hid (HDZ.out true wr (by rw [HZJ.out, List.drop_length]; rfl) HB.out)
        go_wp2_with fail
        go_ret
        exact D.out

/-! ### how much a table weighs -/
def weightL (sub : List Fld → Nat) : List Fld → Nat → Nat
  | [], n => n
  | f :: l, n => if n ≤ 2000 then weightL sub l (n + 13 + f.name.length + min f.s.length 4000 + sub f.t) else n
def weightD : Nat → List Fld → Nat
  | 0, _ => 0
  | k + 1, l => weightL (weightD k) l 0
theorem weightL_stop (sub : List Fld → Nat) (l : List Fld) (n : Nat) (h : 2000 < n) : weightL sub l n = n := by
  cases l with
  | nil => rfl
  | cons f l => unfold weightL; rw [if_neg (by omega)]
theorem weightL_ge (sub : List Fld → Nat) : ∀ (l : List Fld) (n : Nat), n ≤ weightL sub l n := by
  intro l
  induction l with
  | nil => intro n; exact Nat.le_refl _
  | cons f l ih =>
    intro n
    unfold weightL
    split
    · have := ih (n + 13 + f.name.length + min f.s.length 4000 + sub f.t)
      omega
    · exact Nat.le_refl _
theorem weightL_le (sub : List Fld → Nat) (M K : Nat) (hs : ∀ t, sub t ≤ M) : ∀ (l : List Fld) (n : Nat), (∀ f ∈ l, f.name.length ≤ K) → n ≤ 2000 + 13 + K + 4000 + M → weightL sub l n ≤ 2000 + 13 + K + 4000 + M := by
  intro l
  induction l with
  | nil => intro n _ h; exact h
  | cons f l ih =>
    intro n hf h
    unfold weightL
    split
    · apply ih _ (fun g hg => hf g (by simp [hg]))
      have := hf f (by simp)
      have := hs f.t
      omega
    · exact h
theorem weight_rows : ∀ (k : Nat) (l : List Fld), formedB k l = true → weightD k l ≤ 2000 → (rowsD k l).length ≤ weightD k l := by
  intro k
  induction k with
  | zero => intro l h; cases h
  | succ k ih =>
    intro l hf hw
    have hall := formed_each hf
    have main : ∀ (l : List Fld) (n : Nat), (∀ f ∈ l, mayB f = true ∧ (f.kind = 70 → formedB k f.t = true)) → weightL (weightD k) l n ≤ 2000 → n + (l.flatMap (rowOf (rowsD k))).length ≤ weightL (weightD k) l n := by
      intro l
      induction l with
      | nil => intro n _ _; simp [weightL]
      | cons f l ihl =>
        intro n hall hw
        unfold weightL at hw ⊢
        by_cases hn : n ≤ 2000
        · rw [if_pos hn] at hw ⊢
          have h1 := ihl _ (fun g hg => hall g (by simp [hg])) hw
          have hge := weightL_ge (weightD k) l (n + 13 + f.name.length + min f.s.length 4000 + weightD k f.t)
          obtain ⟨hm, hk⟩ := hall f (by simp)
          have hlen := rowOf_length (rowsD k) f
          rw [List.flatMap_cons, List.length_append, hlen]
          have hx : (if f.kind = 70 then (rowsD k f.t).length else 0) ≤ weightD k f.t := by
            split
            · rename_i h
              exact ih f.t (hk h) (by omega)
            · exact Nat.zero_le _
          have hsz : sizeN f ≤ 13 + f.name.length + min f.s.length 4000 := by
            unfold sizeN sizeK
            split
            · omega
            · split
              · omega
              · split
                · omega
                · split
                  · omega
                  · split <;> omega
          omega
        · rw [if_neg hn] at hw
          exact absurd hw (by omega)
    have := main l 0 hall hw
    rw [Nat.zero_add] at this
    exact this
end
section
open Go.RowKit
set_option maxRecDepth 100000

def WeightIs (k : Nat) (l : List Fld) (w : World) (e : Ending) (w' : World) : Prop := e = .returned (.int .i64 ((weightD k l : Nat) : Int)) ∧ ∃ q, w' = w.drewN q
/-- texts that are short, all the way down -/
def ShortN (K : Nat) : Nat → List Fld → Prop
  | 0, _ => True
  | k + 1, l => ∀ f ∈ l, f.name.length ≤ K ∧ ShortN K k f.t
theorem weight_bound (K : Nat) : ∀ (k : Nat) (l : List Fld), ShortN K k l → weightD k l ≤ k * (6013 + K) := by
  intro k
  induction k with
  | zero => intro l _; exact Nat.zero_le _
  | succ k ih =>
    intro l hs
    have main : ∀ (l : List Fld) (n : Nat), (∀ f ∈ l, f.name.length ≤ K ∧ ShortN K k f.t) → n ≤ 6013 + K + k * (6013 + K) → weightL (weightD k) l n ≤ 6013 + K + k * (6013 + K) := by
      intro l
      induction l with
      | nil => intro n _ h; exact h
      | cons f l ihl =>
        intro n hf h
        unfold weightL
        split
        · apply ihl _ (fun g hg => hf g (by simp [hg]))
          obtain ⟨h1, h2⟩ := hf f (by simp)
          have := ih f.t h2
          omega
        · exact h
    have := main l 0 hs (Nat.zero_le _)
    rw [Nat.succ_mul]
    show weightL (weightD k) l 0 ≤ _
    omega
theorem short_of {w : World} {B : Nat} : ∀ (k d : Nat) (l : List Fld) (A : Option Addr) (c : Nat), TabAt d w B l A c → ShortN 140737488355328 k l := by
  intro k
  induction k with
  | zero => intro d l A c _; trivial
  | succ k ih =>
    intro d l A c h f hf
    obtain ⟨i, hi, rfl⟩ := List.getElem_of_mem hf
    obtain ⟨_, _, A', c', _, _, hh, ht, _⟩ := (TabH.succ _ _ _ _ h).at i hi
    exact ⟨hh.2.1, ih _ _ _ _ ht⟩

set_option maxHeartbeats 2000000 in
set_option maxRecDepth 100000 in
theorem weight_any (k : Nat) : ∀ (l : List Fld) (A : Option Addr) (c d B : Nat) (deep : Int) (w : World), 1 ≤ deep → deep + k = 9 → TabAt d w B l A c →
    Calls Tryd.prog 50 #[.slice A l.length c, .int .i64 deep] w (WeightIs k l w) := by
  induction k with
  | zero =>
    intro l A c d B deep w h1 hd ht
    have hd' : deep = 9 := by omega
    subst hd'
    have hcap := TabH.cap ht
    unfold maxLen at hcap
    have D : Hid (WeightIs 0 l w (.returned (.int .i64 0)) w) := Lib.hid ⟨rfl, 0, rfl⟩
    clear ht hd
    rcases Nat.eq_zero_or_pos l.length with h0 | h0
    · rw [h0]
      go_enter Tryd.func50, Tryd.ntmps50
      go_wp2_with fail
      refine wp_loop_rounds 1 ?_
      rw [rounds_succ]
      go_wp2_with fail
      go_ret
      exact D.out
    · have h0' : (0 : Int) < l.length := by omega
      go_enter Tryd.func50, Tryd.ntmps50
      go_wp2_with fail
      refine wp_loop_rounds 1 ?_
      rw [rounds_succ]
      go_wp2_with fail
      go_ret
      exact D.out
  | succ k ih =>
    intro l A c d B deep w h1 hd ht
    have ht1 := TabH.succ _ _ _ _ ht
    have hcap := TabH.cap ht
    unfold maxLen at hcap
    have HT := Lib.hid ht1
    have IH := Lib.hid ih
    have HD := Lib.hid hd
    have hd8 : deep ≤ 8 := by omega
    have hk8 : k ≤ 8 := by omega
    have HSH := Lib.hid (short_of (k + 1) d l A c ht)
    obtain ⟨Z, hZ⟩ : ∃ Z, Z = weightD (k + 1) l := ⟨_, rfl⟩
    have DZ : ∀ q, WeightIs (k + 1) l w (.returned (.int .i64 (Z : Int))) (w.drewN q) := fun q => ⟨by rw [hZ], q, rfl⟩
    have HDZ := Lib.hid DZ
    have HZ : Hid (Z = weightL (weightD k) (l.drop 0) 0) := Lib.hid (by rw [hZ]; rfl)
    clear ht ht1 ih hd DZ hZ
    go_enter Tryd.func50, Tryd.ntmps50
    go_wp2_with fail
    go_loopw [5, 6] (fun n i wr => ∃ j m q : Nat, j ≤ l.length ∧ i = .int .i64 j ∧ n = .int .i64 m ∧ wr = w.drewN q ∧ Z = weightL (weightD k) (l.drop j) m ∧ m ≤ 2000000000000000) (fun _ i _ => l.length - (intOf i).toNat)
    case atStart => exact ⟨0, 0, 0, Nat.zero_le _, rfl, rfl, rfl, HZ.out, Nat.zero_le _⟩
    case round =>
      obtain ⟨j, m, q, hj, rfl, rfl, hwr, hz, hm⟩ := hrel
      have HZJ := Lib.hid hz
      have HWR := Lib.hid hwr
      have hce : ∀ a, wr.cell? a = w.cell? a := fun a => by rw [hwr]; rfl
      have HCE := Lib.hid hce
      clear hz hwr hce
      by_cases hlt : j < l.length
      · by_cases hm2 : m ≤ 2000
        · obtain ⟨b, o, A', c', rfl, hb, hheld, htab, hcell⟩ := HT.out.at j hlt
          obtain ⟨f, hf⟩ : ∃ f, f = l[j] := ⟨_, rfl⟩
          rw [← hf] at hheld htab hcell
          have hst : Z = weightL (weightD k) (l.drop (j + 1)) (m + 13 + f.name.length + min f.s.length 4000 + weightD k f.t) := by
            rw [HZJ.out, List.drop_eq_getElem_cons hlt, ← hf]
            conv => lhs; unfold weightL
            rw [if_pos hm2]
          have hwb : weightD k f.t ≤ k * (6013 + 140737488355328) := weight_bound _ k f.t ((HSH.out f (by rw [hf]; exact List.getElem_mem hlt)).2)
          have hwb2 : weightD k f.t ≤ 1200000000000000 := Nat.le_trans hwb (Nat.le_trans (Nat.mul_le_mul_right _ hk8) (by decide))
          have c0 : wr.cell? ⟨b, o + j * 5, none⟩ = some (.string ⟨f.name.toArray⟩) := (HCE.out _).trans (hcell 0 _ rfl)
          have c3 : wr.cell? ⟨b, o + j * 5 + 3, none⟩ = some (.string ⟨f.s.toArray⟩) := (HCE.out _).trans (hcell 3 _ rfl)
          have c4 : wr.cell? ⟨b, o + j * 5 + 4, none⟩ = some (.slice A' f.t.length c') := (HCE.out _).trans (hcell 4 _ rfl)
          have hnl := hheld.2.1
          have hsl := hheld.2.2
          have q0 : (0 : Int) ≤ (j : Int) := Int.natCast_nonneg _
          have q1 : (j : Int) < (l.length : Int) := by omega
          obtain ⟨V, hV⟩ : ∃ V, V = weightD k f.t := ⟨_, rfl⟩
          have ihc : ∀ n, Calls Tryd.prog 50 #[.slice A' f.t.length c', .int .i64 (deep + 1)] (wr.drewN n) fun e w' => e = .returned (.int .i64 (V : Int)) ∧ ∃ q', w' = (wr.drewN n).drewN q' := by
            intro n
            rw [hV]
            exact IH.out f.t A' c' d B (deep + 1) (wr.drewN n) (by omega) (by have := HD.out; omega) (TabH.below (TabH.keep (w' := wr) (fun b o _ => HCE.out _) _ _ _ _ htab) (below_drewN (Below.refl _ _) n))
          have HIC := Lib.hid ihc
          have HS := Lib.hid hst
          have HV := Lib.hid hV
          have hVb : V ≤ 1200000000000000 := by rw [hV]; exact hwb2
          clear hcell hst hheld htab hf hwb hwb2 hV ihc
          have a1 : IntKind.i64.wrap ((m : Int) + 13) = (m : Int) + 13 := IntWalk.i64_in _ ⟨by omega, by omega⟩
          have a2 : IntKind.i64.wrap ((m : Int) + 13 + (f.name.length : Int)) = (m : Int) + 13 + (f.name.length : Int) := IntWalk.i64_in _ ⟨by omega, by omega⟩
          have a5 : IntKind.i64.wrap (deep + 1) = deep + 1 := IntWalk.i64_in _ ⟨by omega, by omega⟩
          obtain ⟨M, hM⟩ : ∃ M, M = min f.s.length 4000 := ⟨_, rfl⟩
          have hM4 : M ≤ 4000 := by omega
          have am : (if (4000 : Int) < (f.s.length : Int) then (4000 : Int) else (f.s.length : Int)) = (M : Int) := by rw [hM]; split <;> omega
          have a3 : IntKind.i64.wrap ((m : Int) + 13 + (f.name.length : Int) + (M : Int)) = (m : Int) + 13 + (f.name.length : Int) + (M : Int) := IntWalk.i64_in _ ⟨by omega, by omega⟩
          have a4 : IntKind.i64.wrap ((m : Int) + 13 + (f.name.length : Int) + (M : Int) + (V : Int)) = (m : Int) + 13 + (f.name.length : Int) + (M : Int) + (V : Int) := IntWalk.i64_in _ ⟨by omega, by omega⟩
          rw [← hM] at HS
          have HM := Lib.hid hM
          clear hM
          go_wp2_with fail
          go_quiet ((go_at_call 50; exact Calls.quiet_of (HIC.out _)))
          clear a1 a2 a3 a4 a5 am
          go_wp2_with fail
          go_roundw
          case rel =>
            refine ⟨j + 1, m + 13 + f.name.length + M + V, q + nq, by omega, by go_num, by go_num, by rw [HWR.out, World.drewN_drewN], ?_, by omega⟩
            rw [HV.out]
            exact HS.out
          case measure => simp [intOf]; omega
        · have hm2' : 2000 < (m : Int) := by omega
          have hzm : Z = m := by rw [HZJ.out]; exact weightL_stop _ _ _ (by omega)
          have D : Hid (WeightIs (k + 1) l w (.returned (.int .i64 (m : Int))) wr) := Lib.hid (by rw [HWR.out, ← hzm]; exact HDZ.out q)
          clear hzm hm2
          go_wp2_with fail
          go_ret
          exact D.out
      · obtain rfl : j = l.length := by omega
        have hzm : Z = m := by rw [HZJ.out, List.drop_length]; rfl
        have D : Hid (WeightIs (k + 1) l w (.returned (.int .i64 (m : Int))) wr) := Lib.hid (by rw [HWR.out, ← hzm]; exact HDZ.out q)
        clear hzm
        go_wp2_with fail
        go_ret
        exact D.out
end
end Go.Proofs.YtlfppfknelddcaaDoor
