/- Layer 7: numbers that came in; a file that was never synced, crashed. -/
import Derived.Test.YtcmffifehpbjnaaSectU
import Derived.Test.YtcmffifehpbjnaaRows
import Derived.OpenShut
import Derived.ProofKit
namespace Go.Proofs.Ytcmffifehpbjnaa
open Go.RowKit Go.Maps Go.ChangeShapes Go.WideShapes
set_option maxRecDepth 100000
set_option linter.unusedSimpArgs false
set_option linter.unusedVariables false
def cellsZ (l : List Int) : List Value := l.map fun p => .int .i64 p
/-- signed numbers of 64 bits that came in, whatever is held besides -/
theorem open_zs {H : Type} {enc : TypeId × Value → H} {w : World} {base : Nat} {spare : Nat → Bool} {held : Bool} {fuel : Nat} {cs : List Value} {x : DataW H × List MemPlace} (h : DataW.trod enc Try.prog w base spare held fuel 22 cs = some x) :
    ∃ (a : Option Addr) (l : List Int) (cap : Nat), cs = [.slice a l.length cap] ∧ l.length ≤ cap ∧ cap ≤ maxLen ∧ Lies w w.heap.size a (cellsZ l) ∧ In64 l := by
  rcases open_ints Try.underlying22 Try.underlying3 (by kernel_rfl) h with ⟨rfl, _⟩ | ⟨⟨b, o, spot⟩, len, cap, zs, rfl, _, h1, h2, h3, _, h4, h5⟩
  · exact ⟨none, [], 0, rfl, Nat.le_refl _, Nat.zero_le _, Lies.empty _ _ _, fun p hp => by cases hp⟩
  · have hle : len ≤ zs.length := by rw [h3]; split <;> omega
    have hl : (zs.take len).length = len := by rw [List.length_take]; omega
    have hwf : ∀ z ∈ zs, -9223372036854775808 ≤ z ∧ z < 9223372036854775808 := fun z hz => by
      have hw := h5 z hz
      simp [Lit.wf, IntKind.min, IntKind.max, IntKind.signed, IntKind.bits] at hw
      omega
    refine ⟨some ⟨b, o, spot⟩, zs.take len, cap, by rw [hl], by omega, h2, ?_, fun p hp => hwf p (List.mem_of_mem_take hp)⟩
    rcases Nat.eq_zero_or_pos len with h0 | h0
    · subst h0
      exact .inl (by simp [cellsZ])
    · have hc0 := h4 0 (by omega)
      have hspot : spot = none := by simpa [Addr.add] using World.cell?_spot hc0
      subst hspot
      have hadd : ∀ j, (⟨b, o, none⟩ : Addr).add j = ⟨b, o + j, none⟩ := by intro j; unfold Addr.add; split <;> simp_all
      rw [hadd] at hc0
      refine .inr ⟨b, o, rfl, World.block_lt_of_cell? w ⟨b, o + 0, none⟩ hc0, fun j u hu => ?_⟩
      have hj : j < len := by
        have := (List.getElem?_eq_some_iff.1 hu).1
        unfold cellsZ at this
        rw [List.length_map, hl] at this
        exact this
      have hj2 : j < zs.length := by omega
      have hc := h4 j hj2
      rw [hadd] at hc
      have hg : zs.getD j 0 = zs[j] := by simp [List.getD, hj2]
      have hu2 : u = .int .i64 zs[j] := by
        unfold cellsZ at hu
        rw [List.getElem?_map, List.getElem?_take, if_pos hj, List.getElem?_eq_getElem hj2] at hu
        exact (Option.some.inj hu).symm
      rw [hc, hu2, hg]
/-- picks that came in, some of them handed on -/
theorem pick_lies {K : Nat → Prop} {w W : World} {B : Nat} {A : Option Addr} {l : List Int} (h : Lies w B A (cellsZ l)) (hb : Below B w W) (hB : B ≤ w.heap.size) (hK : ∀ i, i < B → ¬ K i) (n : Nat) : PickAt K W A (l.take n) := by
  rcases h with h | ⟨b, o, rfl, h1, h2⟩
  · left
    have : l = [] := by simpa [cellsZ] using h
    simp [this]
  · refine .inr ⟨b, o, rfl, Nat.lt_of_lt_of_le (by omega) hb.size, hK b h1, fun i hi => ?_⟩
    rw [World.cell?_of_block (w := w) (hb.block b h1)]
    refine h2 i _ ?_
    have : i < l.length := by rw [List.length_take] at hi; omega
    simp [cellsZ, this]
def endF (n : Nat) : Fil := ⟨(List.range n).map fun i : Nat => ⟨some (secI (i : Int)), none⟩, List.range n⟩
theorem endF_len (n : Nat) : (endF n).l.length = n := by simp [endF]
theorem endF_zero : endF 0 = newF := by rfl
theorem endF_succ (n : Nat) : wrF (endF n) n (secI n) = endF (n + 1) := by
  unfold wrF
  rw [endF_len, if_neg (Nat.lt_irrefl _)]
  have : (endF n).l[n]? = none := List.getElem?_eq_none (by rw [endF_len]; exact Nat.le_refl _)
  rw [this]
  simp [endF, List.range_succ]
theorem sortN_range (n : Nat) : sortN (List.range n) = List.range n := by
  unfold sortN
  exact List.mergeSort_of_pairwise (List.pairwise_lt_range.imp (fun h => by simp; omega))
/-- where a file ends whose sectors these picks settle -/
def endN (ps : List Int) : Nat → Nat
  | 0 => 0
  | n + 1 => if ps.getD n 0 % 3 = 0 then endN ps n else n + 1
theorem endN_le (ps : List Int) (n : Nat) : endN ps n ≤ n := by
  induction n with
  | zero => exact Nat.le_refl _
  | succ n ih => unfold endN; split; omega; exact Nat.le_refl _
theorem stAll_range (n : Nat) (F : Fil) (ps : List Int) (hF : F.l.length = n) (m : Nat) (hm : m ≤ n) : (stAll F (List.range m) ps).2 = ps.drop m ∧ ∀ j s, F.l[j]? = some s → (stAll F (List.range m) ps).1.l[j]? = some (if j < m then stl (ps.getD j 0 % 3) s else s) := by
  induction m with
  | zero => exact ⟨rfl, fun j s hs => by simpa [stAll] using hs⟩
  | succ m ih =>
    obtain ⟨i1, i2⟩ := ih (by omega)
    rw [List.range_succ, stAll_snoc]
    unfold stStep
    refine ⟨by rw [i1]; simp, fun j s hs => ?_⟩
    have hpk : pk (ps.drop m) = ps.getD m 0 % 3 := by
      rcases Nat.lt_or_ge m ps.length with h | h
      · rw [List.drop_eq_getElem_cons h]
        simp [pk, List.getD, h]
      · rw [List.drop_eq_nil_of_le h]
        simp [pk, List.getD, List.getElem?_eq_none h]
    rw [setF_get, i1, i2 j s hs, hpk]
    by_cases e : j = m
    · subst e
      simp
    · rw [if_neg e]
      by_cases h2 : j < m
      · rw [if_pos h2, if_pos (by omega)]
      · rw [if_neg h2, if_neg (by omega)]
theorem bdAll_fill (n : Nat) (ks : List Nat) (F : Fil) (j : Nat) (hj : j ∈ ks) (hn : j < n) (hl : j < F.l.length) (h : (F.l[j]?.bind (·.la)) = none) : ((bdAll n F ks).l[j]?.bind (·.la)) = some (zSec, true) := by
  induction ks generalizing F with
  | nil => cases hj
  | cons k ks ih =>
    unfold bdAll
    rw [List.foldl_cons]
    by_cases e : j = k
    · subst e
      have h1 : ((bd n F j).l[j]?.bind (·.la)) = some (zSec, true) := by
        unfold bd
        rw [if_pos ⟨hn, by rw [h]; rfl⟩, setF_get, if_pos rfl, List.getElem?_eq_getElem hl]
        rfl
      exact (bdAll_la_some n ks _ j (by rw [h1]; rfl)).trans h1
    · exact ih _ (by simpa [e] using hj) (by rw [bd_length]; exact hl) (by rw [bd_get n F k j (.inr e)]; exact h)
/-- what stands of a sector behind the crash -/
def endS (ps : List Int) (j : Nat) : Sct := ⟨none, if ps.getD j 0 % 3 = 1 then some (secI j, false) else some (zSec, true)⟩
theorem crash_end (mo : Nat) (nm : Nm) (n : Nat) (ps : List Int) (le : Int) :
    ∃ F', crash (one mo le nm (endF n)) ps = one mo (-1) nm F' ∧ F'.l.length = endN ps n ∧ ∀ j, j < endN ps n → F'.l[j]? = some (endS ps j) := by
  refine ⟨_, one_crash ps, ?_⟩
  have hs : sortN (endF n).wr = List.range n := sortN_range n
  rw [hs]
  obtain ⟨i1, i2⟩ := stAll_range n (endF n) ps (endF_len n) n (Nat.le_refl n)
  have hlen : (stAll (endF n) (List.range n) ps).1.l.length = n := (stAll_length _ _ _).trans (endF_len n)
  have hget : ∀ j, j < n → (stAll (endF n) (List.range n) ps).1.l[j]? = some (stl (ps.getD j 0 % 3) ⟨some (secI j), none⟩) := fun j hj => by
    have := i2 j ⟨some (secI j), none⟩ (by simp [endF, hj])
    rw [if_pos hj] at this
    exact this
  have hla : ∀ j, j < n → ((stAll (endF n) (List.range n) ps).1.l[j]?.bind (·.la)) = if ps.getD j 0 % 3 = 1 then some (secI j, false) else if ps.getD j 0 % 3 = 2 then some (zSec, true) else none := fun j hj => by
    rw [hget j hj]
    rfl
  have hlast : ∀ m, m ≤ n → lastN (stAll (endF n) (List.range n) ps).1.l m = endN ps m := by
    intro m hm
    induction m with
    | zero => rfl
    | succ m ih =>
      unfold lastN endN
      rw [hla m (by omega), ih (by omega)]
      have h0 : ps.getD m 0 % 3 = 0 ∨ ps.getD m 0 % 3 = 1 ∨ ps.getD m 0 % 3 = 2 := by omega
      rcases h0 with h | h | h <;> (rw [h]; simp)
  have hL : lastN (stAll (endF n) (List.range n) ps).1.l (stAll (endF n) (List.range n) ps).1.l.length = endN ps n := by rw [hlen]; exact hlast n (Nat.le_refl n)
  refine ⟨by rw [shF_length, hL], fun j hj => ?_⟩
  have hjn : j < n := Nat.lt_of_lt_of_le hj (endN_le ps n)
  rw [shF_get, hL, if_pos hj]
  generalize hG : (stAll (endF n) (List.range n) ps).1 = G at *
  have hbl : (bdAll (endN ps n) G (List.range n)).l.length = n := (bdAll_length _ _ _).trans hlen
  have hjb : j < (bdAll (endN ps n) G (List.range n)).l.length := by omega
  have h1 := bdAll_fr (endN ps n) (List.range n) G j
  rw [hget j hjn, List.getElem?_eq_getElem hjb] at h1
  have hfr : ((bdAll (endN ps n) G (List.range n)).l[j]).fr = none := h1
  have hla2 : ((bdAll (endN ps n) G (List.range n)).l[j]?.bind (·.la)) = if ps.getD j 0 % 3 = 1 then some (secI j, false) else some (zSec, true) := by
    have hjj := hla j hjn
    have h0 : ps.getD j 0 % 3 = 0 ∨ ps.getD j 0 % 3 = 1 ∨ ps.getD j 0 % 3 = 2 := by omega
    rcases h0 with h | h | h
    · rw [h] at hjj ⊢
      rw [bdAll_fill _ _ _ j (List.mem_range.2 hjn) hj (by omega) (by rw [hjj]; rfl)]
      rfl
    · rw [h] at hjj ⊢
      rw [bdAll_la_some _ _ _ j (by rw [hjj]; rfl), hjj]
      rfl
    · rw [h] at hjj ⊢
      rw [bdAll_la_some _ _ _ j (by rw [hjj]; rfl), hjj]
      rfl
  rw [List.getElem?_eq_getElem hjb] at hla2 ⊢
  congr 1
  unfold endS
  rw [← hfr, ← hla2]
  rfl
end Go.Proofs.Ytcmffifehpbjnaa
