/- Contract of the document's Text, with the room of what it tells. -/
import Derived.Test.YtplijhhjclfhaaaTablL
import Derived.Test.YtplijhhjclfhaaaRef
namespace Go.Proofs.Ytplijhhjclfhaaa
open Go.RowKit

def TextYes2 (B : Nat) (l : List UInt8) (p k : Nat) (w : World) (e : Ending) (w' : World) : Prop :=
  ∃ A' c', e = .returned (.tuple #[.slice A' (txt k (l.drop p)).length c', .int .i64 (p + k + (txt k (l.drop p)).length : Nat), .bool true]) ∧ Lies w B A' (B8 (txt k (l.drop p))) ∧
    p + k + (txt k (l.drop p)).length ≤ l.length ∧ txtRest k (l.drop p) = l.drop (p + k + (txt k (l.drop p)).length) ∧ (txt k (l.drop p)).length ≤ c' ∧ c' ≤ maxLen ∧ w = w'
theorem text_yes2 (A : Option Addr) (c B : Nat) (l : List UInt8) (p k : Nat) (w : World) (hl : Lies w B A (B8 l)) (hp : p ≤ l.length) (hk1 : 1 ≤ k) (hk : k ≤ 8) (hs : l.length ≤ 140737488355328) (hc : l.length ≤ c) (hcm : c ≤ maxLen)
    (h : txtShort k (l.drop p) = false) :
    Calls Try.prog 48 #[.slice A l.length c, .int .i64 p, .int .i64 k] w (TextYes2 B l p k w) := by
  have hdl : (l.drop p).length = l.length - p := List.length_drop
  have e1 : short k (l.drop p) = false := by
    unfold txtShort at h
    cases hh : short k (l.drop p) <;> simp_all
  have h1 : k ≤ l.length - p := by
    rw [← hdl]
    simpa [short] using e1
  have er : rst k (l.drop p) = l.drop (p + k) := by rw [rst_yes (by omega), List.drop_drop]
  have erl : (l.drop (p + k)).length = l.length - (p + k) := List.length_drop
  obtain ⟨V, hV⟩ : ∃ V, V = nat (tk k (l.drop p)) := ⟨_, rfl⟩
  have h2 : V ≤ l.length - (p + k) := by
    unfold txtShort at h
    rw [e1, ← hV, er, Bool.false_or] at h
    rw [← erl]
    simpa [short] using h
  have et : txt k (l.drop p) = (l.drop (p + k)).take V := by
    unfold txt
    rw [← hV, er, tk_yes (by omega)]
  have etl : (txt k (l.drop p)).length = V := by rw [et, List.length_take]; omega
  have ers : txtRest k (l.drop p) = l.drop (p + k + V) := by
    unfold txtRest
    rw [← hV, er, rst_yes (by omega), List.drop_drop]
  unfold maxLen at hcm
  have done : ∀ (A' : Option Addr) (m n : Nat), n = V → V ≤ m → m ≤ maxLen → A' = (if c = p + k then A else A.map (·.add (p + k))) →
      TextYes2 B l p k w (.returned (.tuple #[.slice A' n m, .int .i64 ((p : Int) + k + V), .bool true])) w := by
    intro A' m n hn hvm hmm hA
    rw [hn]
    refine ⟨A', m, ?_, ?_, ?_, ?_, by rw [etl]; exact hvm, hmm, rfl⟩
    · rw [etl]; simp
    · have h3 := (hl.drop (p + k) c (by rw [B8_length]; omega) (by rw [B8_length]; omega)).take V
      rw [B8, ← List.map_drop, ← List.map_take, ← et, ← hA] at h3
      exact h3
    · rw [etl]; omega
    · rw [etl]; exact ers
  have HV := Lib.hid hV
  have HE := Lib.hid e1
  have HL := Lib.hid hl
  clear hV e1 et etl ers er erl hdl hl h
  have h7 : (V : Int) ≤ (l.length : Int) - (p : Int) - (k : Int) := by omega
  by_cases hcn : c = p + k
  · have d0 := done A (c - (p + k)) V rfl (by omega) (by unfold maxLen; omega) (by rw [if_pos hcn])
    have hv0 : V = 0 := by omega
    subst hv0
    rw [show ((0 : Nat) : Int) = 0 from rfl, Int.add_zero] at d0
    subst hcn
    have D := Lib.hid d0
    clear done d0
    go_enter Try.func48, Try.ntmps48
    go_wp2_with fail
    refine (num_any A (p + k) B l p k _ HL.out hp hk hs).mono ?_
    rintro e w' ⟨rfl, rfl⟩
    rw [HE.out, ← HV.out]
    go_wp2_with fail
    go_ret3
    exact D.out
  · have D := Lib.hid (done _ (c - (p + k)) (p + k + V - (p + k)) (by omega) (by omega) (by unfold maxLen; omega) (by rw [if_neg hcn]))
    clear done
    go_enter Try.func48, Try.ntmps48
    go_wp2_with fail
    refine (num_any A c B l p k _ HL.out hp hk hs).mono ?_
    rintro e w' ⟨rfl, rfl⟩
    rw [HE.out, ← HV.out]
    go_wp2_with fail
    go_ret3
    exact D.out
end Go.Proofs.Ytplijhhjclfhaaa
