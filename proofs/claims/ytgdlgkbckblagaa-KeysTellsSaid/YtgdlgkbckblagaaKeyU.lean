/- Layer 12: keys and messages that came in: what they are. -/
import Derived.Test.YtgdlgkbckblagaaKeyM
import Derived.Test.YtgdlgkbckblagaaOctO
namespace Go.Proofs.Ytgdlgkbckblagaa
open Go.RowKit Go.ChangeShapes Go.WideShapes
set_option maxRecDepth 100000
set_option linter.unusedSimpArgs false
set_option linter.unusedVariables false

theorem open_key {H : Type} {enc : TypeId × Value → H} {w : World} {base : Nat} {spare : Nat → Bool} {held : Bool} {fuel : Nat} {cs : List Value} {x : DataW H × List MemPlace} (h : DataW.trod enc Try.prog w base spare held fuel 28 cs = some x) :
    ∃ (k : Int) (A B C : List UInt8) (id : Nat), cs = [.int .i64 k, .string ⟨A.toArray⟩, .string ⟨B.toArray⟩, .string ⟨C.toArray⟩, .int .u64 id] ∧ A.length ≤ maxLen ∧ B.length ≤ maxLen ∧ C.length ≤ maxLen ∧ id < 18446744073709551616 := by
  obtain ⟨zs, n, _, _, hcl, hzl, hfs⟩ := DataW.trod_struct Try.underlying28 h
  have k3 : Try.prog.cellsOf 3 = 1 := by kernel_rfl
  have ku : Try.prog.cellsOf 22 = 1 := by kernel_rfl
  have ks : Try.prog.cellsOf 9 = 1 := by kernel_rfl
  have kf : Try.prog.cellsOf 28 = 5 := by kernel_rfl
  rw [kf] at hcl
  match cs, hcl with
  | [c0, c1, c2, c3, c4], _ =>
    have f0 : DataW.trod enc Try.prog w base spare held n 3 ((([c0, c1, c2, c3, c4] : List Value).drop 0).take (Try.prog.cellsOf 3)) = zs[0]? := hfs 0 _ rfl
    have f1 : DataW.trod enc Try.prog w base spare held n 9 ((([c0, c1, c2, c3, c4] : List Value).drop 1).take (Try.prog.cellsOf 9)) = zs[1]? := hfs 1 _ rfl
    have f2 : DataW.trod enc Try.prog w base spare held n 9 ((([c0, c1, c2, c3, c4] : List Value).drop 2).take (Try.prog.cellsOf 9)) = zs[2]? := hfs 2 _ rfl
    have f3 : DataW.trod enc Try.prog w base spare held n 9 ((([c0, c1, c2, c3, c4] : List Value).drop 3).take (Try.prog.cellsOf 9)) = zs[3]? := hfs 3 _ rfl
    have f4 : DataW.trod enc Try.prog w base spare held n 22 ((([c0, c1, c2, c3, c4] : List Value).drop 4).take (Try.prog.cellsOf 22)) = zs[4]? := hfs 4 _ rfl
    rw [k3] at f0
    rw [ks] at f1 f2 f3
    rw [ku] at f4
    have hz5 : zs.length = 5 := hzl
    obtain ⟨n0, e0, _, _⟩ := DataW.trod_int (cs := [c0]) Try.underlying3 (f0.trans (List.getElem?_eq_getElem (by omega)))
    obtain ⟨s1, e1, _, h1⟩ := DataW.trod_string (cs := [c1]) Try.underlying9 (f1.trans (List.getElem?_eq_getElem (by omega)))
    obtain ⟨s2, e2, _, h2⟩ := DataW.trod_string (cs := [c2]) Try.underlying9 (f2.trans (List.getElem?_eq_getElem (by omega)))
    obtain ⟨s3, e3, _, h3⟩ := DataW.trod_string (cs := [c3]) Try.underlying9 (f3.trans (List.getElem?_eq_getElem (by omega)))
    obtain ⟨n4, e4, _, hw4⟩ := DataW.trod_int (cs := [c4]) Try.underlying22 (f4.trans (List.getElem?_eq_getElem (by omega)))
    injection e0 with e0
    injection e1 with e1
    injection e2 with e2
    injection e3 with e3
    injection e4 with e4
    simp [Lit.wf, IntKind.min, IntKind.max, IntKind.signed, IntKind.bits] at hw4
    refine ⟨n0, s1.data.toList, s2.data.toList, s3.data.toList, n4.toNat, ?_, by simpa using h1, by simpa using h2, by simpa using h3, by omega⟩
    rw [e0, e1, e2, e3, e4]
    have : ((n4.toNat : Nat) : Int) = n4 := by omega
    rw [this]
theorem open_msg {H : Type} {enc : TypeId × Value → H} {w : World} {base : Nat} {spare : Nat → Bool} {held : Bool} {fuel : Nat} {cs : List Value} {x : DataW H × List MemPlace} (h : DataW.trod enc Try.prog w base spare held fuel 32 cs = some x) :
    ∃ (E K T : List UInt8) (m : Int) (a : Option Addr) (l : List UInt8) (cap : Nat), cs = [.string ⟨E.toArray⟩, .string ⟨K.toArray⟩, .string ⟨T.toArray⟩, .int .i64 m, .slice a l.length cap] ∧ E.length ≤ maxLen ∧ K.length ≤ maxLen ∧ T.length ≤ maxLen ∧ l.length ≤ cap ∧ cap ≤ maxLen ∧ Lies w w.heap.size a (B8 l) := by
  obtain ⟨zs, n, _, _, hcl, hzl, hfs⟩ := DataW.trod_struct Try.underlying32 h
  have k3 : Try.prog.cellsOf 3 = 1 := by kernel_rfl
  have ku : Try.prog.cellsOf 23 = 1 := by kernel_rfl
  have ks : Try.prog.cellsOf 9 = 1 := by kernel_rfl
  have kf : Try.prog.cellsOf 32 = 5 := by kernel_rfl
  rw [kf] at hcl
  match cs, hcl with
  | [c0, c1, c2, c3, c4], _ =>
    have f0 : DataW.trod enc Try.prog w base spare held n 9 ((([c0, c1, c2, c3, c4] : List Value).drop 0).take (Try.prog.cellsOf 9)) = zs[0]? := hfs 0 _ rfl
    have f1 : DataW.trod enc Try.prog w base spare held n 9 ((([c0, c1, c2, c3, c4] : List Value).drop 1).take (Try.prog.cellsOf 9)) = zs[1]? := hfs 1 _ rfl
    have f2 : DataW.trod enc Try.prog w base spare held n 9 ((([c0, c1, c2, c3, c4] : List Value).drop 2).take (Try.prog.cellsOf 9)) = zs[2]? := hfs 2 _ rfl
    have f3 : DataW.trod enc Try.prog w base spare held n 3 ((([c0, c1, c2, c3, c4] : List Value).drop 3).take (Try.prog.cellsOf 3)) = zs[3]? := hfs 3 _ rfl
    have f4 : DataW.trod enc Try.prog w base spare held n 23 ((([c0, c1, c2, c3, c4] : List Value).drop 4).take (Try.prog.cellsOf 23)) = zs[4]? := hfs 4 _ rfl
    rw [k3] at f3
    rw [ks] at f0 f1 f2
    rw [ku] at f4
    have hz5 : zs.length = 5 := hzl
    obtain ⟨s0, e0, _, h0⟩ := DataW.trod_string (cs := [c0]) Try.underlying9 (f0.trans (List.getElem?_eq_getElem (by omega)))
    obtain ⟨s1, e1, _, h1⟩ := DataW.trod_string (cs := [c1]) Try.underlying9 (f1.trans (List.getElem?_eq_getElem (by omega)))
    obtain ⟨s2, e2, _, h2⟩ := DataW.trod_string (cs := [c2]) Try.underlying9 (f2.trans (List.getElem?_eq_getElem (by omega)))
    obtain ⟨n3, e3, _, _⟩ := DataW.trod_int (cs := [c3]) Try.underlying3 (f3.trans (List.getElem?_eq_getElem (by omega)))
    obtain ⟨a, l, cap, e4, g1, g2, g3⟩ := open_octets (cs := [c4]) (f4.trans (List.getElem?_eq_getElem (by omega)))
    injection e0 with e0
    injection e1 with e1
    injection e2 with e2
    injection e3 with e3
    injection e4 with e4
    exact ⟨s0.data.toList, s1.data.toList, s2.data.toList, n3, a, l, cap, by rw [e0, e1, e2, e3, e4], by simpa using h0, by simpa using h1, by simpa using h2, g1, g2, g3⟩
end Go.Proofs.Ytgdlgkbckblagaa
