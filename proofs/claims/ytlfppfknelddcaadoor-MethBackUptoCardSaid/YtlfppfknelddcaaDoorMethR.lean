/- The document's own table of forms. -/
import Derived.Test.YtlfppfknelddcaaDoorMethG
namespace Go.Proofs.YtlfppfknelddcaaDoor
open Go.RowKit
set_option maxRecDepth 100000
set_option linter.unusedSimpArgs false
set_option linter.unusedVariables false

theorem formV_none {c i : Int} (h : ∀ r ∈ formRows, ¬ (r.1 = c ∧ r.2.1 = i)) : formV c i = .tuple #[.string ⟨#[]⟩, .bool false] := by
  unfold formV formB
  rw [formF_none h]
theorem formV_some {r : FRow} (hr : r ∈ formRows) {c i : Int} {s : List UInt8} (h1 : r.1 = c) (h2 : r.2.1 = i) (h3 : r.2.2 = s) : formV c i = .tuple #[.string ⟨s.toArray⟩, .bool true] := by
  unfold formV formB
  rw [formF_some rows_apart hr h1 h2, h3]

theorem rbasic_any (i : Int) (w : World) : Calls Tryd.prog 37 #[.int .i64 i] w fun e w' => e = .returned (formV 60 i) ∧ w = w' := by
  by_cases h10 : i = 10
  · subst h10
    have D : Hid (formV 60 10 = .tuple #[.string ⟨#[52, 50, 102]⟩, .bool true]) := Lib.hid rfl
    go_enter Tryd.func37, Tryd.ntmps37
    go_wp2_with fail
    go_ret2
    exact ⟨by rw [D.out]; rfl, rfl⟩
  by_cases h11 : i = 11
  · subst h11
    have D : Hid (formV 60 11 = .tuple #[.string ⟨#[]⟩, .bool true]) := Lib.hid rfl
    go_enter Tryd.func37, Tryd.ntmps37
    go_wp2_with fail
    go_ret2
    exact ⟨by rw [D.out]; rfl, rfl⟩
  by_cases h20 : i = 20
  · subst h20
    have D : Hid (formV 60 20 = .tuple #[.string ⟨#[50, 115, 115, 102, 102, 102, 102, 116]⟩, .bool true]) := Lib.hid rfl
    go_enter Tryd.func37, Tryd.ntmps37
    go_wp2_with fail
    go_ret2
    exact ⟨by rw [D.out]; rfl, rfl⟩
  by_cases h21 : i = 21
  · subst h21
    have D : Hid (formV 60 21 = .tuple #[.string ⟨#[115]⟩, .bool true]) := Lib.hid rfl
    go_enter Tryd.func37, Tryd.ntmps37
    go_wp2_with fail
    go_ret2
    exact ⟨by rw [D.out]; rfl, rfl⟩
  by_cases h30 : i = 30
  · subst h30
    have D : Hid (formV 60 30 = .tuple #[.string ⟨#[115, 102]⟩, .bool true]) := Lib.hid rfl
    go_enter Tryd.func37, Tryd.ntmps37
    go_wp2_with fail
    go_ret2
    exact ⟨by rw [D.out]; rfl, rfl⟩
  by_cases h31 : i = 31
  · subst h31
    have D : Hid (formV 60 31 = .tuple #[.string ⟨#[115]⟩, .bool true]) := Lib.hid rfl
    go_enter Tryd.func37, Tryd.ntmps37
    go_wp2_with fail
    go_ret2
    exact ⟨by rw [D.out]; rfl, rfl⟩
  by_cases h40 : i = 40
  · subst h40
    have D : Hid (formV 60 40 = .tuple #[.string ⟨#[50, 115, 115, 102, 102]⟩, .bool true]) := Lib.hid rfl
    go_enter Tryd.func37, Tryd.ntmps37
    go_wp2_with fail
    go_ret2
    exact ⟨by rw [D.out]; rfl, rfl⟩
  by_cases h50 : i = 50
  · subst h50
    have D : Hid (formV 60 50 = .tuple #[.string ⟨#[50, 115, 115, 115]⟩, .bool true]) := Lib.hid rfl
    go_enter Tryd.func37, Tryd.ntmps37
    go_wp2_with fail
    go_ret2
    exact ⟨by rw [D.out]; rfl, rfl⟩
  by_cases h60 : i = 60
  · subst h60
    have D : Hid (formV 60 60 = .tuple #[.string ⟨#[115, 56, 102, 115, 115]⟩, .bool true]) := Lib.hid rfl
    go_enter Tryd.func37, Tryd.ntmps37
    go_wp2_with fail
    go_ret2
    exact ⟨by rw [D.out]; rfl, rfl⟩
  by_cases h70 : i = 70
  · subst h70
    have D : Hid (formV 60 70 = .tuple #[.string ⟨#[50, 115, 102]⟩, .bool true]) := Lib.hid rfl
    go_enter Tryd.func37, Tryd.ntmps37
    go_wp2_with fail
    go_ret2
    exact ⟨by rw [D.out]; rfl, rfl⟩
  by_cases h71 : i = 71
  · subst h71
    have D : Hid (formV 60 71 = .tuple #[.string ⟨#[56, 102, 115, 115, 52]⟩, .bool true]) := Lib.hid rfl
    go_enter Tryd.func37, Tryd.ntmps37
    go_wp2_with fail
    go_ret2
    exact ⟨by rw [D.out]; rfl, rfl⟩
  by_cases h72 : i = 72
  · subst h72
    have D : Hid (formV 60 72 = .tuple #[.string ⟨#[115]⟩, .bool true]) := Lib.hid rfl
    go_enter Tryd.func37, Tryd.ntmps37
    go_wp2_with fail
    go_ret2
    exact ⟨by rw [D.out]; rfl, rfl⟩
  by_cases h80 : i = 80
  · subst h80
    have D : Hid (formV 60 80 = .tuple #[.string ⟨#[56, 102]⟩, .bool true]) := Lib.hid rfl
    go_enter Tryd.func37, Tryd.ntmps37
    go_wp2_with fail
    go_ret2
    exact ⟨by rw [D.out]; rfl, rfl⟩
  by_cases h90 : i = 90
  · subst h90
    have D : Hid (formV 60 90 = .tuple #[.string ⟨#[56, 102]⟩, .bool true]) := Lib.hid rfl
    go_enter Tryd.func37, Tryd.ntmps37
    go_wp2_with fail
    go_ret2
    exact ⟨by rw [D.out]; rfl, rfl⟩
  by_cases h110 : i = 110
  · subst h110
    have D : Hid (formV 60 110 = .tuple #[.string ⟨#[102]⟩, .bool true]) := Lib.hid rfl
    go_enter Tryd.func37, Tryd.ntmps37
    go_wp2_with fail
    go_ret2
    exact ⟨by rw [D.out]; rfl, rfl⟩
  by_cases h111 : i = 111
  · subst h111
    have D : Hid (formV 60 111 = .tuple #[.string ⟨#[]⟩, .bool true]) := Lib.hid rfl
    go_enter Tryd.func37, Tryd.ntmps37
    go_wp2_with fail
    go_ret2
    exact ⟨by rw [D.out]; rfl, rfl⟩
  by_cases h120 : i = 120
  · subst h120
    have D : Hid (formV 60 120 = .tuple #[.string ⟨#[56, 102, 102]⟩, .bool true]) := Lib.hid rfl
    go_enter Tryd.func37, Tryd.ntmps37
    go_wp2_with fail
    go_ret2
    exact ⟨by rw [D.out]; rfl, rfl⟩
  have D : Hid (formV 60 i = .tuple #[.string ⟨#[]⟩, .bool false]) := Lib.hid (formV_none (fun r hr => by
    simp only [formRows, List.mem_cons, List.not_mem_nil, or_false] at hr
    rcases hr with rfl | rfl | rfl | rfl | rfl | rfl | rfl | rfl | rfl | rfl | rfl | rfl | rfl | rfl | rfl | rfl | rfl | rfl | rfl | rfl | rfl | rfl | rfl | rfl | rfl | rfl | rfl | rfl | rfl | rfl | rfl | rfl | rfl | rfl | rfl | rfl | rfl | rfl | rfl | rfl | rfl | rfl | rfl | rfl | rfl | rfl | rfl | rfl | rfl <;> simp only [not_and] <;> omega))
  go_enter Tryd.func37, Tryd.ntmps37
  go_wp2_with fail
  go_ret2
  exact ⟨by rw [D.out]; rfl, rfl⟩

theorem rform_any (c i : Int) (w : World) : Calls Tryd.prog 16 #[.int .i64 c, .int .i64 i] w fun e w' => e = .returned (formV c i) ∧ w = w' := by
  by_cases h10 : c = 10
  · subst h10
    by_cases i10 : i = 10
    · subst i10
      have D : Hid (formV 10 10 = .tuple #[.string ⟨#[49, 49, 116, 108, 108]⟩, .bool true]) := Lib.hid rfl
      go_enter Tryd.func16, Tryd.ntmps16
      go_wp2_with fail
      go_ret2
      exact ⟨by rw [D.out]; rfl, rfl⟩
    by_cases i11 : i = 11
    · subst i11
      have D : Hid (formV 10 11 = .tuple #[.string ⟨#[116, 115, 108, 115]⟩, .bool true]) := Lib.hid rfl
      go_enter Tryd.func16, Tryd.ntmps16
      go_wp2_with fail
      go_ret2
      exact ⟨by rw [D.out]; rfl, rfl⟩
    by_cases i30 : i = 30
    · subst i30
      have D : Hid (formV 10 30 = .tuple #[.string ⟨#[50, 52, 50]⟩, .bool true]) := Lib.hid rfl
      go_enter Tryd.func16, Tryd.ntmps16
      go_wp2_with fail
      go_ret2
      exact ⟨by rw [D.out]; rfl, rfl⟩
    by_cases i31 : i = 31
    · subst i31
      have D : Hid (formV 10 31 = .tuple #[.string ⟨#[50, 52, 50]⟩, .bool true]) := Lib.hid rfl
      go_enter Tryd.func16, Tryd.ntmps16
      go_wp2_with fail
      go_ret2
      exact ⟨by rw [D.out]; rfl, rfl⟩
    by_cases i40 : i = 40
    · subst i40
      have D : Hid (formV 10 40 = .tuple #[.string ⟨#[115, 115, 102]⟩, .bool true]) := Lib.hid rfl
      go_enter Tryd.func16, Tryd.ntmps16
      go_wp2_with fail
      go_ret2
      exact ⟨by rw [D.out]; rfl, rfl⟩
    by_cases i41 : i = 41
    · subst i41
      have D : Hid (formV 10 41 = .tuple #[.string ⟨#[115]⟩, .bool true]) := Lib.hid rfl
      go_enter Tryd.func16, Tryd.ntmps16
      go_wp2_with fail
      go_ret2
      exact ⟨by rw [D.out]; rfl, rfl⟩
    by_cases i50 : i = 50
    · subst i50
      have D : Hid (formV 10 50 = .tuple #[.string ⟨#[50, 115, 50, 50]⟩, .bool true]) := Lib.hid rfl
      go_enter Tryd.func16, Tryd.ntmps16
      go_wp2_with fail
      go_ret2
      exact ⟨by rw [D.out]; rfl, rfl⟩
    by_cases i51 : i = 51
    · subst i51
      have D : Hid (formV 10 51 = .tuple #[.string ⟨#[]⟩, .bool true]) := Lib.hid rfl
      go_enter Tryd.func16, Tryd.ntmps16
      go_wp2_with fail
      go_ret2
      exact ⟨by rw [D.out]; rfl, rfl⟩
    have D : Hid (formV 10 i = .tuple #[.string ⟨#[]⟩, .bool false]) := Lib.hid (formV_none (fun r hr => by
      simp only [formRows, List.mem_cons, List.not_mem_nil, or_false] at hr
      rcases hr with rfl | rfl | rfl | rfl | rfl | rfl | rfl | rfl | rfl | rfl | rfl | rfl | rfl | rfl | rfl | rfl | rfl | rfl | rfl | rfl | rfl | rfl | rfl | rfl | rfl | rfl | rfl | rfl | rfl | rfl | rfl | rfl | rfl | rfl | rfl | rfl | rfl | rfl | rfl | rfl | rfl | rfl | rfl | rfl | rfl | rfl | rfl | rfl | rfl <;> simp only [not_and] <;> omega))
    go_enter Tryd.func16, Tryd.ntmps16
    go_wp2_with fail
    go_ret2
    exact ⟨by rw [D.out]; rfl, rfl⟩
  by_cases h20 : c = 20
  · subst h20
    by_cases i10 : i = 10
    · subst i10
      have D : Hid (formV 20 10 = .tuple #[.string ⟨#[115]⟩, .bool true]) := Lib.hid rfl
      go_enter Tryd.func16, Tryd.ntmps16
      go_wp2_with fail
      go_ret2
      exact ⟨by rw [D.out]; rfl, rfl⟩
    by_cases i11 : i = 11
    · subst i11
      have D : Hid (formV 20 11 = .tuple #[.string ⟨#[108]⟩, .bool true]) := Lib.hid rfl
      go_enter Tryd.func16, Tryd.ntmps16
      go_wp2_with fail
      go_ret2
      exact ⟨by rw [D.out]; rfl, rfl⟩
    by_cases i40 : i = 40
    · subst i40
      have D : Hid (formV 20 40 = .tuple #[.string ⟨#[50, 115, 50, 50]⟩, .bool true]) := Lib.hid rfl
      go_enter Tryd.func16, Tryd.ntmps16
      go_wp2_with fail
      go_ret2
      exact ⟨by rw [D.out]; rfl, rfl⟩
    by_cases i41 : i = 41
    · subst i41
      have D : Hid (formV 20 41 = .tuple #[.string ⟨#[]⟩, .bool true]) := Lib.hid rfl
      go_enter Tryd.func16, Tryd.ntmps16
      go_wp2_with fail
      go_ret2
      exact ⟨by rw [D.out]; rfl, rfl⟩
    have D : Hid (formV 20 i = .tuple #[.string ⟨#[]⟩, .bool false]) := Lib.hid (formV_none (fun r hr => by
      simp only [formRows, List.mem_cons, List.not_mem_nil, or_false] at hr
      rcases hr with rfl | rfl | rfl | rfl | rfl | rfl | rfl | rfl | rfl | rfl | rfl | rfl | rfl | rfl | rfl | rfl | rfl | rfl | rfl | rfl | rfl | rfl | rfl | rfl | rfl | rfl | rfl | rfl | rfl | rfl | rfl | rfl | rfl | rfl | rfl | rfl | rfl | rfl | rfl | rfl | rfl | rfl | rfl | rfl | rfl | rfl | rfl | rfl | rfl <;> simp only [not_and] <;> omega))
    go_enter Tryd.func16, Tryd.ntmps16
    go_wp2_with fail
    go_ret2
    exact ⟨by rw [D.out]; rfl, rfl⟩
  by_cases h40 : c = 40
  · subst h40
    by_cases i10 : i = 10
    · subst i10
      have D : Hid (formV 40 10 = .tuple #[.string ⟨#[50, 115, 115, 102, 102, 102, 102, 102, 116]⟩, .bool true]) := Lib.hid rfl
      go_enter Tryd.func16, Tryd.ntmps16
      go_wp2_with fail
      go_ret2
      exact ⟨by rw [D.out]; rfl, rfl⟩
    by_cases i11 : i = 11
    · subst i11
      have D : Hid (formV 40 11 = .tuple #[.string ⟨#[]⟩, .bool true]) := Lib.hid rfl
      go_enter Tryd.func16, Tryd.ntmps16
      go_wp2_with fail
      go_ret2
      exact ⟨by rw [D.out]; rfl, rfl⟩
    by_cases i20 : i = 20
    · subst i20
      have D : Hid (formV 40 20 = .tuple #[.string ⟨#[50, 115, 102, 102]⟩, .bool true]) := Lib.hid rfl
      go_enter Tryd.func16, Tryd.ntmps16
      go_wp2_with fail
      go_ret2
      exact ⟨by rw [D.out]; rfl, rfl⟩
    by_cases i21 : i = 21
    · subst i21
      have D : Hid (formV 40 21 = .tuple #[.string ⟨#[]⟩, .bool true]) := Lib.hid rfl
      go_enter Tryd.func16, Tryd.ntmps16
      go_wp2_with fail
      go_ret2
      exact ⟨by rw [D.out]; rfl, rfl⟩
    have D : Hid (formV 40 i = .tuple #[.string ⟨#[]⟩, .bool false]) := Lib.hid (formV_none (fun r hr => by
      simp only [formRows, List.mem_cons, List.not_mem_nil, or_false] at hr
      rcases hr with rfl | rfl | rfl | rfl | rfl | rfl | rfl | rfl | rfl | rfl | rfl | rfl | rfl | rfl | rfl | rfl | rfl | rfl | rfl | rfl | rfl | rfl | rfl | rfl | rfl | rfl | rfl | rfl | rfl | rfl | rfl | rfl | rfl | rfl | rfl | rfl | rfl | rfl | rfl | rfl | rfl | rfl | rfl | rfl | rfl | rfl | rfl | rfl | rfl <;> simp only [not_and] <;> omega))
    go_enter Tryd.func16, Tryd.ntmps16
    go_wp2_with fail
    go_ret2
    exact ⟨by rw [D.out]; rfl, rfl⟩
  by_cases h50 : c = 50
  · subst h50
    by_cases i10 : i = 10
    · subst i10
      have D : Hid (formV 50 10 = .tuple #[.string ⟨#[50, 115, 102, 102, 102, 102, 102, 116]⟩, .bool true]) := Lib.hid rfl
      go_enter Tryd.func16, Tryd.ntmps16
      go_wp2_with fail
      go_ret2
      exact ⟨by rw [D.out]; rfl, rfl⟩
    by_cases i11 : i = 11
    · subst i11
      have D : Hid (formV 50 11 = .tuple #[.string ⟨#[115, 52, 52]⟩, .bool true]) := Lib.hid rfl
      go_enter Tryd.func16, Tryd.ntmps16
      go_wp2_with fail
      go_ret2
      exact ⟨by rw [D.out]; rfl, rfl⟩
    by_cases i20 : i = 20
    · subst i20
      have D : Hid (formV 50 20 = .tuple #[.string ⟨#[50, 115, 115, 115, 102, 116]⟩, .bool true]) := Lib.hid rfl
      go_enter Tryd.func16, Tryd.ntmps16
      go_wp2_with fail
      go_ret2
      exact ⟨by rw [D.out]; rfl, rfl⟩
    by_cases i21 : i = 21
    · subst i21
      have D : Hid (formV 50 21 = .tuple #[.string ⟨#[]⟩, .bool true]) := Lib.hid rfl
      go_enter Tryd.func16, Tryd.ntmps16
      go_wp2_with fail
      go_ret2
      exact ⟨by rw [D.out]; rfl, rfl⟩
    by_cases i30 : i = 30
    · subst i30
      have D : Hid (formV 50 30 = .tuple #[.string ⟨#[50, 115, 102]⟩, .bool true]) := Lib.hid rfl
      go_enter Tryd.func16, Tryd.ntmps16
      go_wp2_with fail
      go_ret2
      exact ⟨by rw [D.out]; rfl, rfl⟩
    by_cases i31 : i = 31
    · subst i31
      have D : Hid (formV 50 31 = .tuple #[.string ⟨#[52]⟩, .bool true]) := Lib.hid rfl
      go_enter Tryd.func16, Tryd.ntmps16
      go_wp2_with fail
      go_ret2
      exact ⟨by rw [D.out]; rfl, rfl⟩
    by_cases i40 : i = 40
    · subst i40
      have D : Hid (formV 50 40 = .tuple #[.string ⟨#[50, 115, 102, 102, 102]⟩, .bool true]) := Lib.hid rfl
      go_enter Tryd.func16, Tryd.ntmps16
      go_wp2_with fail
      go_ret2
      exact ⟨by rw [D.out]; rfl, rfl⟩
    by_cases i41 : i = 41
    · subst i41
      have D : Hid (formV 50 41 = .tuple #[.string ⟨#[52]⟩, .bool true]) := Lib.hid rfl
      go_enter Tryd.func16, Tryd.ntmps16
      go_wp2_with fail
      go_ret2
      exact ⟨by rw [D.out]; rfl, rfl⟩
    by_cases i50 : i = 50
    · subst i50
      have D : Hid (formV 50 50 = .tuple #[.string ⟨#[50, 115, 115, 115, 116]⟩, .bool true]) := Lib.hid rfl
      go_enter Tryd.func16, Tryd.ntmps16
      go_wp2_with fail
      go_ret2
      exact ⟨by rw [D.out]; rfl, rfl⟩
    by_cases i51 : i = 51
    · subst i51
      have D : Hid (formV 50 51 = .tuple #[.string ⟨#[]⟩, .bool true]) := Lib.hid rfl
      go_enter Tryd.func16, Tryd.ntmps16
      go_wp2_with fail
      go_ret2
      exact ⟨by rw [D.out]; rfl, rfl⟩
    have D : Hid (formV 50 i = .tuple #[.string ⟨#[]⟩, .bool false]) := Lib.hid (formV_none (fun r hr => by
      simp only [formRows, List.mem_cons, List.not_mem_nil, or_false] at hr
      rcases hr with rfl | rfl | rfl | rfl | rfl | rfl | rfl | rfl | rfl | rfl | rfl | rfl | rfl | rfl | rfl | rfl | rfl | rfl | rfl | rfl | rfl | rfl | rfl | rfl | rfl | rfl | rfl | rfl | rfl | rfl | rfl | rfl | rfl | rfl | rfl | rfl | rfl | rfl | rfl | rfl | rfl | rfl | rfl | rfl | rfl | rfl | rfl | rfl | rfl <;> simp only [not_and] <;> omega))
    go_enter Tryd.func16, Tryd.ntmps16
    go_wp2_with fail
    go_ret2
    exact ⟨by rw [D.out]; rfl, rfl⟩
  by_cases h90 : c = 90
  · subst h90
    by_cases i10 : i = 10
    · subst i10
      have D : Hid (formV 90 10 = .tuple #[.string ⟨#[]⟩, .bool true]) := Lib.hid rfl
      go_enter Tryd.func16, Tryd.ntmps16
      go_wp2_with fail
      go_ret2
      exact ⟨by rw [D.out]; rfl, rfl⟩
    by_cases i11 : i = 11
    · subst i11
      have D : Hid (formV 90 11 = .tuple #[.string ⟨#[]⟩, .bool true]) := Lib.hid rfl
      go_enter Tryd.func16, Tryd.ntmps16
      go_wp2_with fail
      go_ret2
      exact ⟨by rw [D.out]; rfl, rfl⟩
    by_cases i20 : i = 20
    · subst i20
      have D : Hid (formV 90 20 = .tuple #[.string ⟨#[]⟩, .bool true]) := Lib.hid rfl
      go_enter Tryd.func16, Tryd.ntmps16
      go_wp2_with fail
      go_ret2
      exact ⟨by rw [D.out]; rfl, rfl⟩
    by_cases i21 : i = 21
    · subst i21
      have D : Hid (formV 90 21 = .tuple #[.string ⟨#[]⟩, .bool true]) := Lib.hid rfl
      go_enter Tryd.func16, Tryd.ntmps16
      go_wp2_with fail
      go_ret2
      exact ⟨by rw [D.out]; rfl, rfl⟩
    by_cases i30 : i = 30
    · subst i30
      have D : Hid (formV 90 30 = .tuple #[.string ⟨#[]⟩, .bool true]) := Lib.hid rfl
      go_enter Tryd.func16, Tryd.ntmps16
      go_wp2_with fail
      go_ret2
      exact ⟨by rw [D.out]; rfl, rfl⟩
    by_cases i31 : i = 31
    · subst i31
      have D : Hid (formV 90 31 = .tuple #[.string ⟨#[]⟩, .bool true]) := Lib.hid rfl
      go_enter Tryd.func16, Tryd.ntmps16
      go_wp2_with fail
      go_ret2
      exact ⟨by rw [D.out]; rfl, rfl⟩
    have D : Hid (formV 90 i = .tuple #[.string ⟨#[]⟩, .bool false]) := Lib.hid (formV_none (fun r hr => by
      simp only [formRows, List.mem_cons, List.not_mem_nil, or_false] at hr
      rcases hr with rfl | rfl | rfl | rfl | rfl | rfl | rfl | rfl | rfl | rfl | rfl | rfl | rfl | rfl | rfl | rfl | rfl | rfl | rfl | rfl | rfl | rfl | rfl | rfl | rfl | rfl | rfl | rfl | rfl | rfl | rfl | rfl | rfl | rfl | rfl | rfl | rfl | rfl | rfl | rfl | rfl | rfl | rfl | rfl | rfl | rfl | rfl | rfl | rfl <;> simp only [not_and] <;> omega))
    go_enter Tryd.func16, Tryd.ntmps16
    go_wp2_with fail
    go_ret2
    exact ⟨by rw [D.out]; rfl, rfl⟩
  by_cases h60 : c = 60
  · subst h60
    obtain ⟨V, hV⟩ : ∃ V, V = formV 60 i := ⟨_, rfl⟩
    rw [← hV]
    have HV := Lib.hid hV
    have hs : ∃ s b, V = .tuple #[.string s, .bool b] := by rw [hV]; unfold formV; split <;> exact ⟨_, _, rfl⟩
    obtain ⟨s, b, hs⟩ := hs
    subst hs
    clear hV
    go_enter Tryd.func16, Tryd.ntmps16
    go_wp2_with fail
    refine (rbasic_any i _).mono ?_
    rw [← HV.out]
    rintro e w1 ⟨rfl, rfl⟩
    go_wp2_with fail
    go_ret2
    exact ⟨rfl, rfl⟩
  have D : Hid (formV c i = .tuple #[.string ⟨#[]⟩, .bool false]) := Lib.hid (formV_none (fun r hr => by
    simp only [formRows, List.mem_cons, List.not_mem_nil, or_false] at hr
    rcases hr with rfl | rfl | rfl | rfl | rfl | rfl | rfl | rfl | rfl | rfl | rfl | rfl | rfl | rfl | rfl | rfl | rfl | rfl | rfl | rfl | rfl | rfl | rfl | rfl | rfl | rfl | rfl | rfl | rfl | rfl | rfl | rfl | rfl | rfl | rfl | rfl | rfl | rfl | rfl | rfl | rfl | rfl | rfl | rfl | rfl | rfl | rfl | rfl | rfl <;> simp only [not_and] <;> omega))
  go_enter Tryd.func16, Tryd.ntmps16
  go_wp2_with fail
  go_ret2
  exact ⟨by rw [D.out]; rfl, rfl⟩
end Go.Proofs.YtlfppfknelddcaaDoor
