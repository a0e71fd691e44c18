/- The library's strings.Split at a point, laid over this program; package topc's Words. -/
import Derived.Test.YtphjpadjlmdfcaaDoorStrP
import Derived.Test.YtphjpadjlmdfcaaDoorWords
import Derived.Shelf.Strings.Split
import Derived.Test.YtphjpadjlmdfcaaDoorChecked
namespace Go.Proofs.YtphjpadjlmdfcaaDoor
open Go.RowKit Go.Shelf
set_option maxRecDepth 100000
set_option linter.unusedSimpArgs false
set_option linter.unusedVariables false

def lays221_ren : Go.Shelf.Ren := ⟨fun | 221 => 18 | 268 => 19 | 138 => 20 | 143 => 21 | 195 => 22 | 197 => 23 | 218 => 24 | 219 => 25 | 260 => 26 | 217 => 27 | 225 => 28 | 224 => 29 | 267 => 30 | 266 => 31 | 314 => 32 | n => n, fun | 9 => 9 | 3 => 3 | 31 => 27 | 4 => 4 | 0 => 0 | 105 => 38 | 21 => 21 | 5 => 5 | 46 => 42 | 119 => 43 | 139 => 46 | 138 => 45 | 146 => 48 | 51 => 47 | n => n, fun | 1 => 0 | 3 => 1 | 4 => 2 | n => n⟩
theorem lays221 : Go.Proofs.Lays.n221 Tryd.prog lays221_ren := {
  mixed := by kernel_rfl
  f138 := Tryd.func20.trans (congrArg some (by kernel_rfl))
  f143 := Tryd.func21.trans (congrArg some (by kernel_rfl))
  f195 := Tryd.func22.trans (congrArg some (by kernel_rfl))
  f197 := Tryd.func23.trans (congrArg some (by kernel_rfl))
  f217 := Tryd.func27.trans (congrArg some (by kernel_rfl))
  f218 := Tryd.func24.trans (congrArg some (by kernel_rfl))
  f219 := Tryd.func25.trans (congrArg some (by kernel_rfl))
  f221 := Tryd.func18.trans (congrArg some (by kernel_rfl))
  f224 := Tryd.func29.trans (congrArg some (by kernel_rfl))
  f225 := Tryd.func28.trans (congrArg some (by kernel_rfl))
  f260 := Tryd.func26.trans (congrArg some (by kernel_rfl))
  f266 := Tryd.func31.trans (congrArg some (by kernel_rfl))
  f267 := Tryd.func30.trans (congrArg some (by kernel_rfl))
  f268 := Tryd.func19.trans (congrArg some (by kernel_rfl))
  f314 := Tryd.func32.trans (congrArg some (by kernel_rfl))
  t0 := Tryd.underlying0
  a0 := Tryd.isAgg0
  z0 := Tryd.sizeOf0
  v0 := Tryd.zeroValue0
  t3 := Tryd.underlying3
  a3 := Tryd.isAgg3
  z3 := Tryd.sizeOf3
  v3 := Tryd.zeroValue3
  t4 := Tryd.underlying4
  a4 := Tryd.isAgg4
  z4 := Tryd.sizeOf4
  v4 := Tryd.zeroValue4
  t5 := Tryd.underlying5
  a5 := Tryd.isAgg5
  z5 := Tryd.sizeOf5
  v5 := Tryd.zeroValue5
  t9 := Tryd.underlying9
  a9 := Tryd.isAgg9
  z9 := Tryd.sizeOf9
  v9 := Tryd.zeroValue9
  t21 := Tryd.underlying21
  a21 := Tryd.isAgg21
  z21 := Tryd.sizeOf21
  v21 := Tryd.zeroValue21
  t31 := Tryd.underlying27
  a31 := Tryd.isAgg27
  z31 := Tryd.sizeOf27
  v31 := Tryd.zeroValue27
  t46 := Tryd.underlying42
  a46 := Tryd.isAgg42
  z46 := Tryd.sizeOf42
  v46 := Tryd.zeroValue42
  t51 := Tryd.underlying47
  a51 := Tryd.isAgg47
  z51 := Tryd.sizeOf47
  v51 := Tryd.zeroValue47
  t105 := Tryd.underlying38
  a105 := Tryd.isAgg38
  z105 := Tryd.sizeOf38
  v105 := Tryd.zeroValue38
  t119 := Tryd.underlying43
  a119 := Tryd.isAgg43
  z119 := Tryd.sizeOf43
  t138 := Tryd.underlying45
  a138 := Tryd.isAgg45
  z138 := Tryd.sizeOf45
  v138 := Tryd.zeroValue45
  t139 := Tryd.underlying46
  a139 := Tryd.isAgg46
  z139 := Tryd.sizeOf46
  v139 := Tryd.zeroValue46
  t146 := Tryd.underlying48
  a146 := Tryd.isAgg48
  z146 := Tryd.sizeOf48
  v146 := Tryd.zeroValue48
  g1 := by kernel_rfl
  g3 := by kernel_rfl
  g4 := by kernel_rfl }

theorem string_info : (Tryd.prog.info? (lays221_ren.t 9)).map (fun i => (i.zero, i.size, i.bytes)) = some (some (.string ByteArray.empty), 1, 16) := by kernel_rfl
theorem genSplit_point (s : List UInt8) (w : World) (hs : s.length < 4294967281) :
    Calls Tryd.prog 18 #[.string ⟨s.toArray⟩, .string ⟨#[46]⟩, .int .i64 0, .int .i64 (-1)] w fun e w' =>
      e = .returned (.slice (some ⟨w.heap.size, 0, none⟩) (wsL s).length (wsL s).length) ∧ w' = w.alloc (.cells (S8 (wsL s)).toArray 9) := by
  have hle := Lib.countB_le ⟨#[46]⟩ (by decide) s.length ⟨s.toArray⟩ (by show s.toArray.size ≤ _; simp)
  have hlen := Lib.splitB_all ⟨#[46]⟩ (by decide) 0 _ ⟨s.toArray⟩ rfl
  have hsz : (⟨s.toArray⟩ : ByteArray).size = s.length := by show s.toArray.size = _; simp
  rw [hsz] at hle
  have c := Any.strings_genSplit_core lays221 string_info ⟨s.toArray⟩ ⟨#[46]⟩ 0 (-1) (Lib.countB ⟨s.toArray⟩ ⟨#[46]⟩ + 1) w (by rw [hsz]; exact hs) (by decide) (Nat.zero_le _)
    (fun x c hx => (Any.strings_Index_one { lays221 with } x 46 _).mono (fun e w' ⟨he, hw⟩ => ⟨by rw [he]; congr 3; exact (index_one 46 _).symm, hw⟩))
    ((Any.strings_Count_one { lays221 with } ⟨s.toArray⟩ 46 w).mono (fun e w' ⟨he, hw⟩ => ⟨by rw [he]; congr 3; exact congrArg Nat.cast (Lib.count_one 46 s).symm, hw⟩))
    (by decide) (by decide) (by rw [if_pos (by decide), hsz]; omega)
  rw [Nat.add_sub_cancel, hlen] at c
  have e2 : Lib.cellsOf (Lib.splitB ⟨#[46]⟩ 0 (Lib.countB ⟨s.toArray⟩ ⟨#[46]⟩) ⟨s.toArray⟩) (Lib.countB ⟨s.toArray⟩ ⟨#[46]⟩ + 1) = (S8 (wsL s)).toArray := by
    rw [← hlen, Lib.cellsOf_full, splitB_words]
  rw [e2, countB_words] at c
  exact c
theorem split_point (s : List UInt8) (w : World) (hs : s.length < 4294967281) :
    Calls Tryd.prog 17 #[.string ⟨s.toArray⟩, .string ⟨#[46]⟩] w fun e w' =>
      e = .returned (.slice (some ⟨w.heap.size, 0, none⟩) (wsL s).length (wsL s).length) ∧ w' = w.alloc (.cells (S8 (wsL s)).toArray 9) := by
  have c := genSplit_point s w hs
  go_enter Tryd.func17, Tryd.ntmps17
  go_wp2_with fail
  refine c.mono ?_
  rintro e w' ⟨rfl, rfl⟩
  go_wp2_with fail
  go_ret
  exact ⟨rfl, rfl⟩
theorem words_any (s : List UInt8) (w : World) (hs : s.length < 4294967281) :
    Calls Tryd.prog 13 #[.string ⟨s.toArray⟩] w fun e w' =>
      e = .returned (.slice (some ⟨w.heap.size, 0, none⟩) (wsL s).length (wsL s).length) ∧ w' = w.alloc (.cells (S8 (wsL s)).toArray 9) := by
  have c := split_point s w hs
  go_enter Tryd.func13, Tryd.ntmps13
  go_wp2_with fail
  refine c.mono ?_
  rintro e w' ⟨rfl, rfl⟩
  go_wp2_with fail
  go_ret
  exact ⟨rfl, rfl⟩
end Go.Proofs.YtphjpadjlmdfcaaDoor
