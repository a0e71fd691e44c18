/- That a great region may be walked in the order of its text, told operation by operation: each told by itself, so that the kernel bears a region of a hundred. -/
import Derived.WalkKit
import Derived.BigQuiet
import Derived.Deep.QuietTactic
namespace Go.Proofs.Ytflbjmpbkcjdhaa

def listedK (k f : Nat) : Array Bool := (List.replicate k true ++ List.replicate f false).toArray
theorem listedK_set (k f : Nat) : (listedK k (f + 1)).setIfInBounds k true = listedK (k + 1) f := by
  unfold listedK
  apply Array.ext'
  rw [Array.toList_setIfInBounds]
  simp only
  rw [List.set_append_right _ _ (by simp), List.length_replicate, Nat.sub_self, List.replicate_succ, List.set_cons_zero]
  have h : List.replicate (k + 1) true = List.replicate k true ++ [true] := List.replicate_succ'
  rw [h]
  simp
def LexAt (ops : Array Oper) (f k : Nat) : Prop := Region.lexFrom .any ops f k (listedK k f) = true
theorem LexAt.done {ops : Array Oper} {k : Nat} (h : (Region.ready .any ops (listedK k 0)).isEmpty = true) : LexAt ops 0 k := h
theorem LexAt.step {ops : Array Oper} (k k' f f' : Nat) (hk : k' = k + 1) (hf : f' = f + 1) (h1 : ((Region.ready .any ops (listedK k f')).contains k && Region.free .any ops (listedK k f') k) = true) (h2 : LexAt ops f k') : LexAt ops f' k := by
  subst hk hf
  unfold LexAt at *
  unfold Region.lexFrom
  rw [listedK_set, h2, Bool.and_true]
  exact h1
theorem LexAt.all {l : List Oper} (n : Nat) (hn : l.length = n) (hs : Region.noSelect l.toArray = true) (h : LexAt l.toArray n 0) : Region.lexB .any l.toArray = true := by
  unfold Region.lexB
  rw [hs, Bool.true_and]
  unfold LexAt at h
  have e : (Array.replicate l.toArray.size false) = listedK 0 n := by
    unfold listedK
    apply Array.ext'
    simp [hn]
  rw [e]
  have e2 : l.toArray.size = n := by simpa using hn
  rw [e2]
  exact h
end Go.Proofs.Ytflbjmpbkcjdhaa
