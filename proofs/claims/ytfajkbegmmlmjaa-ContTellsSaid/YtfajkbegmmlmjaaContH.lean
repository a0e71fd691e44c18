/- Contracts of package cont: Frames, whatever the head; words for the rest of a content. -/
import Derived.Test.YtfajkbegmmlmjaaContF
namespace Go.Proofs.Ytfajkbegmmlmjaa
open Go.RowKit
set_option maxRecDepth 100000
set_option linter.unusedSimpArgs false
set_option linter.unusedVariables false

theorem cframes_at (A : Option Addr) (c n : Nat) (l : List UInt8) (B : Nat) (ch : Int) (s : Nat) (m : Int) (t : List UInt8) (AB : Option Addr) (nB : Nat) (body : List UInt8) (cB : Nat) (w : World) (r : Bool) (R : List UInt8) (hn : n = l.length) (hnB : nB = body.length) (hl : Lies w B A (B8 l)) (hB : B ≤ w.heap.size) (hs : l.length ≤ 70368744177664) (ht : t.length ≤ maxLen) (hbl : Lies w B AB (B8 body)) (hbn : body.length ≤ 20000) (hbc : body.length ≤ cB) (hcm : cB ≤ maxLen) (hr : (headOk m t && chanOk ch) = r) (hR : (if r then l ++ contB ch.toNat (headB body.length m t) body else l) = R) :
    Calls Try.prog 14 #[.slice A n c, .int .i64 ch, .agg #[.int .u64 s, .int .i64 m, .string ⟨t.toArray⟩], .slice AB nB cB] w (NewOctsOk w.heap.size R r w) := by
  subst hn hnB
  cases hok : headOk m t with
  | true =>
    have h := cframes_yes A c l B ch s m t AB body cB w hl hB hs hbl hbn hbc hcm hok
    rw [hok, Bool.true_and] at hr
    rw [hr] at h
    rw [hR] at h
    exact h
  | false =>
    rw [hok, Bool.false_and] at hr
    subst hr
    rw [if_neg (by decide)] at hR
    subst hR
    exact cframes_not A c l B ch s m t AB body.length cB w hl hB hs ht (by omega) hok

/-- the frames of a body from the part j on -/
def restB (ch : Nat) (l : List UInt8) (j : Nat) : List UInt8 := ((List.range (pcount l.length)).drop j).flatMap fun k => frameB 3 ch (part l k)
theorem contB_eq (ch : Nat) (H l : List UInt8) : contB ch H l = frameB 2 ch H ++ restB ch l 0 := rfl
theorem restB_step (ch : Nat) (l : List UInt8) (j : Nat) (h : j < pcount l.length) : restB ch l j = frameB 3 ch (part l j) ++ restB ch l (j + 1) := by
  unfold restB
  rw [List.drop_eq_getElem_cons (by simpa using h), List.flatMap_cons]
  simp
theorem restB_end (ch : Nat) (l : List UInt8) : restB ch l (pcount l.length) = [] := by
  unfold restB
  rw [List.drop_of_length_le (by simp)]
  rfl
theorem restB_le (ch : Nat) (l : List UInt8) (j : Nat) : (restB ch l j).length ≤ pcount l.length * 4096 := by
  have h : ∀ (ks : List Nat), (ks.flatMap fun k => frameB 3 ch (part l k)).length ≤ ks.length * 4096 := by
    intro ks
    induction ks with
    | nil => simp
    | cons k ks ih =>
      rw [List.flatMap_cons, List.length_append, frameB_length, List.length_cons]
      have := part_le l k
      omega
  have h2 := h ((List.range (pcount l.length)).drop j)
  rw [List.length_drop, List.length_range] at h2
  unfold restB
  have h3 : (pcount l.length - j) * 4096 ≤ pcount l.length * 4096 := Nat.mul_le_mul_right _ (by omega)
  omega
theorem take_part (l : List UInt8) (j : Nat) : l.take (4088 * j) ++ part l j = l.take (4088 * (j + 1)) := by
  unfold part
  rw [← List.take_add]
  congr 1
theorem take_all (l : List UInt8) : l.take (4088 * pcount l.length) = l := by
  rw [List.take_of_length_le]
  unfold pcount
  omega
theorem part_frameOk (ch : Nat) (l : List UInt8) (j : Nat) (hch : ch < 65536) : frameOk ((3 : Nat) : Int) (ch : Int) (part l j).length = true := by
  have := part_le l j
  unfold frameOk fkind
  simp
  omega
theorem head_frameOk (ch : Nat) (H : List UInt8) (hch : ch < 65536) (h : H.length ≤ 4088) : frameOk ((2 : Nat) : Int) (ch : Int) H.length = true := by
  unfold frameOk fkind
  simp
  omega
/-- a frame that lies in a block, stored anew -/
theorem three_is {w : World} {g : Nat} {t : TypeId} {x0 x1 x2 : Value} (h : Whole w g t #[x0, x1, x2]) (v0 v1 v2 : Value) :
    Whole (((w.setCell ⟨g, 0, none⟩ v0).setCell ⟨g, 1, none⟩ v1).setCell ⟨g, 2, none⟩ v2) g t #[v0, v1, v2] ∧ Below g w (((w.setCell ⟨g, 0, none⟩ v0).setCell ⟨g, 1, none⟩ v1).setCell ⟨g, 2, none⟩ v2) ∧ w.grownBy (((w.setCell ⟨g, 0, none⟩ v0).setCell ⟨g, 1, none⟩ v1).setCell ⟨g, 2, none⟩ v2) (some g) :=
  ⟨((h.put 0 v0).put 1 v1).put 2 v2, (((Below.refl g w).setCell (p := ⟨g, 0, none⟩) (Nat.le_refl _) v0).setCell (p := ⟨g, 1, none⟩) (Nat.le_refl _) v1).setCell (p := ⟨g, 2, none⟩) (Nat.le_refl _) v2,
   only_set (only_set (only_set (only_refl w _) 0 v0) 1 v1) 2 v2⟩
end Go.Proofs.Ytfajkbegmmlmjaa
