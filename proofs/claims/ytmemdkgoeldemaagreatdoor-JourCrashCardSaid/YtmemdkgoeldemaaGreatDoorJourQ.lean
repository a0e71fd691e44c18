/- Layer 8, plain: what a journal does to its device. -/
import Derived.Test.YtmemdkgoeldemaaGreatDoorJourP
import Derived.Test.YtmemdkgoeldemaaGreatDoorSectZ
namespace Go.Proofs.YtmemdkgoeldemaaGreatDoor
open Go.RowKit Go.Maps
set_option maxRecDepth 100000
set_option linter.unusedSimpArgs false
set_option linter.unusedVariables false
/-! ### reading of a file -/
def rdF (F : Fil) (k : Int) : Sec × Int :=
  if k < 0 ∨ (F.l.length : Int) ≤ k then (zSec, 1) else
  match F.l[k.toNat]? with
  | some ⟨some s, _⟩ => (s, 0)
  | some ⟨none, some y⟩ => if y.2 then (zSec, 7) else (y.1, 0)
  | _ => (zSec, 0)
theorem read_is (S : Dv) (nm : Nm) (k : Int) : pRead S nm k = match fnd S.fs nm with | none => (zSec, 10) | some F => rdF F k := by
  unfold pRead
  cases hf : fnd S.fs nm with
  | none => rfl
  | some F =>
    simp only []
    unfold rdF
    split
    · rfl
    · have e1 : S.fr (nm, k.toNat) = F.l[k.toNat]?.bind (·.fr) := by simp [Dv.fr, hf]
      have e2 : S.la (nm, k.toNat) = F.l[k.toNat]?.bind (·.la) := by simp [Dv.la, hf]
      rw [e1, e2]
      cases hg : F.l[k.toNat]? with
      | none => rfl
      | some s =>
        obtain ⟨fr, la⟩ := s
        cases fr with
        | some x => rfl
        | none =>
          cases la with
          | none => rfl
          | some y => rfl
theorem rdF_wr (F : Fil) (j : Nat) (x : Sec) (hj : j ≤ F.l.length) (k : Int) : rdF (wrF F j x) k = if k = (j : Int) then (x, 0) else rdF F k := by
  have hlen := wrF_length F j x
  by_cases e : k = (j : Int)
  · subst e
    rw [if_pos rfl]
    unfold rdF
    rw [if_neg (by rw [hlen]; split <;> omega)]
    rw [Int.toNat_natCast]
    rw [wrF_get F j x hj, if_pos rfl]
  · rw [if_neg e]
    unfold rdF
    by_cases h1 : k < 0 ∨ (F.l.length : Int) ≤ k
    · rw [if_pos h1, if_pos (by rw [hlen]; split <;> omega)]
    · rw [if_neg h1, if_neg (by rw [hlen]; split <;> omega), wrF_get F j x hj, if_neg (by omega)]
theorem rdF_sy (F : Fil) (k : Int) : rdF (syF F) k = rdF F k := by
  unfold rdF
  have e : (syF F).l.length = F.l.length := by simp [syF]
  rw [e]
  split
  · rfl
  · have e2 : (syF F).l[k.toNat]? = F.l[k.toNat]?.map syS := by simp [syF]
    rw [e2]
    cases hg : F.l[k.toNat]? with
    | none => rfl
    | some s =>
      obtain ⟨fr, la⟩ := s
      cases fr with
      | some x => rfl
      | none => rfl
theorem len_is (S : Dv) (nm : Nm) : S.len nm = match fnd S.fs nm with | some F => F.l.length | none => 0 := rfl
/-- sectors that are written at the end of a file -/
def appF (F : Fil) (l : List Sec) : Fil := l.foldl (fun F s => wrF F F.l.length s) F
theorem appF_cons (F : Fil) (s : Sec) (l : List Sec) : appF F (s :: l) = appF (wrF F F.l.length s) l := rfl
theorem appF_length (l : List Sec) : ∀ F : Fil, (appF F l).l.length = F.l.length + l.length := by
  induction l with
  | nil => intro F; rfl
  | cons s l ih =>
    intro F
    rw [appF_cons, ih, wrF_length, if_neg (by omega), List.length_cons]
    omega
theorem appF_old (l : List Sec) : ∀ (F : Fil) (k : Int), k < F.l.length → rdF (appF F l) k = rdF F k := by
  induction l with
  | nil => intro F k _; rfl
  | cons s l ih =>
    intro F k hk
    rw [appF_cons, ih _ _ (by rw [wrF_length, if_neg (by omega)]; omega), rdF_wr F _ s (Nat.le_refl _), if_neg (by omega)]
theorem appF_new (l : List Sec) : ∀ (F : Fil) (k : Nat) (hk : k < l.length), rdF (appF F l) ((F.l.length : Int) + (k : Int)) = (l[k], 0) := by
  induction l with
  | nil => intro F k hk; simp at hk
  | cons s l ih =>
    intro F k hk
    rw [appF_cons]
    have hlen : (wrF F F.l.length s).l.length = F.l.length + 1 := by rw [wrF_length, if_neg (by omega)]
    cases k with
    | zero =>
      rw [appF_old _ _ _ (by rw [hlen]; omega), rdF_wr F _ s (Nat.le_refl _), if_pos (by omega)]
      rfl
    | succ k =>
      have := ih (wrF F F.l.length s) k (by simpa using hk)
      rw [hlen] at this
      rw [show ((F.l.length : Int) + ((k + 1 : Nat) : Int)) = ((F.l.length + 1 : Nat) : Int) + (k : Int) by omega]
      exact this
/-! ### a journal -/
structure Jr where
  seq : Nat
  file : Nat
  next : Nat
  dead : Bool
/-- a batch's sectors are written, n of them are left; then its file is synced -/
def wrP (nm : Nm) (pos : Int) (x : Bt) : Nat → Dv → Int × Dv
  | 0, S => pSync S nm
  | n + 1, S =>
    if (pWrite S nm (pos + ((need x.b.length - (n + 1) : Nat) : Int)) (btSec x (need x.b.length - (n + 1)))).1 ≠ 0 then
      pWrite S nm (pos + ((need x.b.length - (n + 1) : Nat) : Int)) (btSec x (need x.b.length - (n + 1)))
    else wrP nm pos x n (pWrite S nm (pos + ((need x.b.length - (n + 1) : Nat) : Int)) (btSec x (need x.b.length - (n + 1)))).2
structure NxR where
  n : Int
  e : Int
  S : Dv
  J : Jr
def nxP (S : Dv) (J : Jr) : NxR :=
  if J.dead = true then ⟨0, 8, S, J⟩
  else if 999999 < J.next then ⟨0, 11, S, J⟩
  else if (pMake S (nmJ J.next)).1 ≠ 0 then ⟨0, (pMake S (nmJ J.next)).1, (pMake S (nmJ J.next)).2, { J with dead := true }⟩
  else ⟨J.next, 0, (pMake S (nmJ J.next)).2, { J with file := J.next, next := J.next + 1 }⟩
def rfP (S : Dv) (J : Jr) (kind : Int) (n : Nat) : Int :=
  if J.dead = true then 8 else if kind < 1 ∨ 255 < kind then 1 else if 4096 < n ∨ J.seq = 18446744073709551615 then 11 else if S.most < S.used + n then 6 else 0
structure ApR where
  x : Bt
  e : Int
  S : Dv
  J : Jr
/-- what is made, if it must be: the file that is open -/
def opP (S : Dv) (J : Jr) : NxR := if J.file = 0 ∨ 256 ≤ S.len (nmJ J.file) then nxP S J else ⟨0, 0, S, J⟩
def apB (S : Dv) (J : Jr) (kind : Int) (b : List UInt8) : Bt := ⟨J.seq + 1, kind.toNat, b, J.file, (S.len (nmJ J.file) : Int)⟩
def apP (S : Dv) (J : Jr) (kind : Int) (b : List UInt8) : ApR :=
  if rfP S J kind (need b.length) ≠ 0 then ⟨bt0, rfP S J kind (need b.length), S, J⟩
  else if (opP S J).e ≠ 0 then ⟨bt0, (opP S J).e, (opP S J).S, (opP S J).J⟩
  else if (wrP (nmJ (opP S J).J.file) ((opP S J).S.len (nmJ (opP S J).J.file)) (apB (opP S J).S (opP S J).J kind b) (need b.length) (opP S J).S).1 ≠ 0 then
    ⟨bt0, (wrP (nmJ (opP S J).J.file) ((opP S J).S.len (nmJ (opP S J).J.file)) (apB (opP S J).S (opP S J).J kind b) (need b.length) (opP S J).S).1, (wrP (nmJ (opP S J).J.file) ((opP S J).S.len (nmJ (opP S J).J.file)) (apB (opP S J).S (opP S J).J kind b) (need b.length) (opP S J).S).2, { (opP S J).J with dead := true }⟩
  else ⟨apB (opP S J).S (opP S J).J kind b, 0, (wrP (nmJ (opP S J).J.file) ((opP S J).S.len (nmJ (opP S J).J.file)) (apB (opP S J).S (opP S J).J kind b) (need b.length) (opP S J).S).2, { (opP S J).J with seq := (opP S J).J.seq + 1 }⟩
end Go.Proofs.YtmemdkgoeldemaaGreatDoor
