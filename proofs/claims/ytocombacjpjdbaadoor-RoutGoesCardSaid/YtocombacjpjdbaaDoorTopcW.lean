/- The library's strings.Split at a point, laid over this program; package topc's Words. -/
import Derived.Test.YtocombacjpjdbaaDoorStrP
import Derived.Test.YtocombacjpjdbaaDoorWords
import Derived.Shelf.Strings.Split
import Derived.Test.YtocombacjpjdbaaDoorChecked
namespace Go.Proofs.YtocombacjpjdbaaDoor
open Go.RowKit Go.Shelf
set_option maxRecDepth 100000
set_option linter.unusedSimpArgs false
set_option linter.unusedVariables false

def lays221_ren : Go.Shelf.Ren := ⟨fun | 221 => 57 | 268 => 67 | 138 => 68 | 143 => 69 | 195 => 79 | 197 => 80 | 218 => 81 | 219 => 82 | 260 => 86 | 217 => 87 | 225 => 88 | 224 => 89 | 267 => 90 | 266 => 92 | 314 => 93 | n => n, fun | 9 => 9 | 3 => 3 | 31 => 29 | 4 => 4 | 0 => 0 | 105 => 109 | 21 => 21 | 5 => 5 | 46 => 69 | 119 => 116 | 139 => 119 | 138 => 118 | 146 => 120 | 51 => 85 | n => n, fun | 1 => 0 | 3 => 1 | 4 => 2 | n => n⟩
theorem lays221 : Go.Proofs.Lays.n221 Tryd.prog lays221_ren := {
  mixed := by kernel_rfl
  f138 := Tryd.func68.trans (congrArg some (by kernel_rfl))
  f143 := Tryd.func69.trans (congrArg some (by kernel_rfl))
  f195 := Tryd.func79.trans (congrArg some (by kernel_rfl))
  f197 := Tryd.func80.trans (congrArg some (by kernel_rfl))
  f217 := Tryd.func87.trans (congrArg some (by kernel_rfl))
  f218 := Tryd.func81.trans (congrArg some (by kernel_rfl))
  f219 := Tryd.func82.trans (congrArg some (by kernel_rfl))
  f221 := Tryd.func57.trans (congrArg some (by kernel_rfl))
  f224 := Tryd.func89.trans (congrArg some (by kernel_rfl))
  f225 := Tryd.func88.trans (congrArg some (by kernel_rfl))
  f260 := Tryd.func86.trans (congrArg some (by kernel_rfl))
  f266 := Tryd.func92.trans (congrArg some (by kernel_rfl))
  f267 := Tryd.func90.trans (congrArg some (by kernel_rfl))
  f268 := Tryd.func67.trans (congrArg some (by kernel_rfl))
  f314 := Tryd.func93.trans (congrArg some (by kernel_rfl))
  t0 := Tryd.underlying0
  a0 := Tryd.isAgg0
  z0 := Tryd.sizeOf0
  v0 := Tryd.zeroValue0
  t3 := Tryd.underlying3
  a3 := Tryd.isAgg3
  z3 := Tryd.sizeOf3
  v3 := Tryd.zeroValue3
  t4 := Tryd.underlying4
  a4 := Tryd.isAgg4
  z4 := Tryd.sizeOf4
  v4 := Tryd.zeroValue4
  t5 := Tryd.underlying5
  a5 := Tryd.isAgg5
  z5 := Tryd.sizeOf5
  v5 := Tryd.zeroValue5
  t9 := Tryd.underlying9
  a9 := Tryd.isAgg9
  z9 := Tryd.sizeOf9
  v9 := Tryd.zeroValue9
  t21 := Tryd.underlying21
  a21 := Tryd.isAgg21
  z21 := Tryd.sizeOf21
  v21 := Tryd.zeroValue21
  t31 := Tryd.underlying29
  a31 := Tryd.isAgg29
  z31 := Tryd.sizeOf29
  v31 := Tryd.zeroValue29
  t46 := Tryd.underlying69
  a46 := Tryd.isAgg69
  z46 := Tryd.sizeOf69
  v46 := Tryd.zeroValue69
  t51 := Tryd.underlying85
  a51 := Tryd.isAgg85
  z51 := Tryd.sizeOf85
  v51 := Tryd.zeroValue85
  t105 := Tryd.underlying109
  a105 := Tryd.isAgg109
  z105 := Tryd.sizeOf109
  v105 := Tryd.zeroValue109
  t119 := Tryd.underlying116
  a119 := Tryd.isAgg116
  z119 := Tryd.sizeOf116
  t138 := Tryd.underlying118
  a138 := Tryd.isAgg118
  z138 := Tryd.sizeOf118
  v138 := Tryd.zeroValue118
  t139 := Tryd.underlying119
  a139 := Tryd.isAgg119
  z139 := Tryd.sizeOf119
  v139 := Tryd.zeroValue119
  t146 := Tryd.underlying120
  a146 := Tryd.isAgg120
  z146 := Tryd.sizeOf120
  v146 := Tryd.zeroValue120
  g1 := by kernel_rfl
  g3 := by kernel_rfl
  g4 := by kernel_rfl }

theorem string_info : (Tryd.prog.info? (lays221_ren.t 9)).map (fun i => (i.zero, i.size, i.bytes)) = some (some (.string ByteArray.empty), 1, 16) := by kernel_rfl
theorem genSplit_point (s : List UInt8) (w : World) (hs : s.length < 4294967281) :
    Calls Tryd.prog 57 #[.string ⟨s.toArray⟩, .string ⟨#[46]⟩, .int .i64 0, .int .i64 (-1)] w fun e w' =>
      e = .returned (.slice (some ⟨w.heap.size, 0, none⟩) (wsL s).length (wsL s).length) ∧ w' = w.alloc (.cells (S8 (wsL s)).toArray 9) := by
  have hle := Lib.countB_le ⟨#[46]⟩ (by decide) s.length ⟨s.toArray⟩ (by show s.toArray.size ≤ _; simp)
  have hlen := Lib.splitB_all ⟨#[46]⟩ (by decide) 0 _ ⟨s.toArray⟩ rfl
  have hsz : (⟨s.toArray⟩ : ByteArray).size = s.length := by show s.toArray.size = _; simp
  rw [hsz] at hle
  have c := Any.strings_genSplit_core lays221 string_info ⟨s.toArray⟩ ⟨#[46]⟩ 0 (-1) (Lib.countB ⟨s.toArray⟩ ⟨#[46]⟩ + 1) w (by rw [hsz]; exact hs) (by decide) (Nat.zero_le _)
    (fun x c hx => (Any.strings_Index_one { lays221 with } x 46 _).mono (fun e w' ⟨he, hw⟩ => ⟨by rw [he]; congr 3; exact (index_one 46 _).symm, hw⟩))
    ((Any.strings_Count_one { lays221 with } ⟨s.toArray⟩ 46 w).mono (fun e w' ⟨he, hw⟩ => ⟨by rw [he]; congr 3; exact congrArg Nat.cast (Lib.count_one 46 s).symm, hw⟩))
    (by decide) (by decide) (by rw [if_pos (by decide), hsz]; omega)
  rw [Nat.add_sub_cancel, hlen] at c
  have e2 : Lib.cellsOf (Lib.splitB ⟨#[46]⟩ 0 (Lib.countB ⟨s.toArray⟩ ⟨#[46]⟩) ⟨s.toArray⟩) (Lib.countB ⟨s.toArray⟩ ⟨#[46]⟩ + 1) = (S8 (wsL s)).toArray := by
    rw [← hlen, Lib.cellsOf_full, splitB_words]
  rw [e2, countB_words] at c
  exact c
theorem split_point (s : List UInt8) (w : World) (hs : s.length < 4294967281) :
    Calls Tryd.prog 37 #[.string ⟨s.toArray⟩, .string ⟨#[46]⟩] w fun e w' =>
      e = .returned (.slice (some ⟨w.heap.size, 0, none⟩) (wsL s).length (wsL s).length) ∧ w' = w.alloc (.cells (S8 (wsL s)).toArray 9) := by
  have c := genSplit_point s w hs
  go_enter Tryd.func37, Tryd.ntmps37
  go_wp2_with fail
  refine c.mono ?_
  rintro e w' ⟨rfl, rfl⟩
  go_wp2_with fail
  go_ret
  exact ⟨rfl, rfl⟩
theorem words_any (s : List UInt8) (w : World) (hs : s.length < 4294967281) :
    Calls Tryd.prog 22 #[.string ⟨s.toArray⟩] w fun e w' =>
      e = .returned (.slice (some ⟨w.heap.size, 0, none⟩) (wsL s).length (wsL s).length) ∧ w' = w.alloc (.cells (S8 (wsL s)).toArray 9) := by
  have c := split_point s w hs
  go_enter Tryd.func22, Tryd.ntmps22
  go_wp2_with fail
  refine c.mono ?_
  rintro e w' ⟨rfl, rfl⟩
  go_wp2_with fail
  go_ret
  exact ⟨rfl, rfl⟩
end Go.Proofs.YtocombacjpjdbaaDoor
