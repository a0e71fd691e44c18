/- Contracts of the document's own answer for layer 6: words, and whether a pattern matches. -/
import Derived.Test.YtphjpadjlmdfcaaDoorTopcM
import Derived.Maps.AppendAt
namespace Go.Proofs.YtphjpadjlmdfcaaDoor
open Go.RowKit
set_option maxRecDepth 100000
set_option linter.unusedSimpArgs false
set_option linter.unusedVariables false

theorem str_info : (Tryd.prog.info? 9).map (fun i => (i.zero, i.size, i.bytes)) = some (some (.string ⟨#[]⟩), 1, 16) := by kernel_rfl
/-- where the document's words stand behind j octets -/
structure WI (s : List UInt8) (j f : Nat) (done : List (List UInt8)) : Prop where
  hf : f ≤ j
  hj : j ≤ s.length
  none : (46 : UInt8) ∉ (s.drop f).take (j - f)
  says : wsL s = done ++ wsL (s.drop f)
  len : done.length ≤ f
section
variable {s : List UInt8} {j f : Nat} {done : List (List UInt8)}
theorem WI.start (s : List UInt8) : WI s 0 0 [] := ⟨by omega, by omega, by simp, by simp, by simp⟩
theorem WI.other (h : WI s j f done) (hj : j < s.length) (hc : s[j] ≠ 46) : WI s (j + 1) f done := by
  refine ⟨by have := h.hf; omega, by omega, ?_, h.says, h.len⟩
  have hf := h.hf
  rw [show j + 1 - f = (j - f) + 1 from by omega, List.take_succ_eq_append_getElem (by rw [List.length_drop]; omega), List.mem_append]
  rintro (hm | hm)
  · exact h.none hm
  · rw [List.mem_singleton, List.getElem_drop] at hm
    have e : f + (j - f) = j := by omega
    simp only [e] at hm
    exact hc hm.symm
theorem WI.point (h : WI s j f done) (hj : j < s.length) (hc : s[j] = 46) : WI s (j + 1) (j + 1) (done ++ [(s.drop f).take (j - f)]) := by
  have hf := h.hf
  refine ⟨by omega, by omega, by simp, ?_, by rw [List.length_append]; simp; have := h.len; omega⟩
  have e : s.drop f = (s.drop f).take (j - f) ++ 46 :: s.drop (j + 1) := by
    have h1 := (List.take_append_drop (j - f) (s.drop f)).symm
    rw [List.drop_drop, show f + (j - f) = j from by omega, List.drop_eq_getElem_cons hj, hc] at h1
    exact h1
  rw [h.says]
  conv => lhs; rw [e]
  rw [wsL_join, wsL_word h.none, List.append_assoc]
theorem WI.last (h : WI s s.length f done) : wsL s = done ++ [(s.drop f).take (s.length - f)] := by
  have e : (s.drop f).take (s.length - f) = s.drop f := List.take_of_length_le (by rw [List.length_drop]; exact Nat.le_refl _)
  have hn := h.none
  rw [e] at hn ⊢
  rw [h.says, wsL_word hn]
end
theorem extract_list (s : List UInt8) (f j : Nat) : (⟨s.toArray⟩ : ByteArray).extract f j = ⟨((s.drop f).take (j - f)).toArray⟩ := by
  have e : ((⟨s.toArray⟩ : ByteArray).extract f j).data = ((s.drop f).take (j - f)).toArray := by simp
  cases h : (⟨s.toArray⟩ : ByteArray).extract f j with
  | mk d => rw [h] at e; simp only at e; rw [e]
theorem S8_append (a b : List (List UInt8)) : S8 (a ++ b) = S8 a ++ S8 b := by simp [S8]

set_option maxHeartbeats 1000000 in
theorem rwords_any (s : List UInt8) (w : World) (hs : s.length ≤ 1000000) :
    Calls Tryd.prog 14 #[.string ⟨s.toArray⟩] w fun e w' => ∃ A c, e = .returned (.slice A (wsL s).length c) ∧ (wsL s).length ≤ c ∧ c ≤ maxLen ∧ Lies w' w'.heap.size A (S8 (wsL s)) ∧ Below w.heap.size w w' := by
  obtain ⟨i0, hi, hz0, hz1, hz2⟩ := info_parts str_info
  have HI := Lib.hid hi
  have H0 := Lib.hid hz0
  have H1 := Lib.hid hz1
  have H2 := Lib.hid hz2
  clear hi hz0 hz1 hz2
  obtain ⟨Z, hZ⟩ : ∃ Z, Z = wsL s := ⟨_, rfl⟩
  rw [← hZ]
  have HZ := Lib.hid hZ
  clear hZ
  go_enter Tryd.func14, Tryd.ntmps14
  go_wp2_with fail
  go_loopw [3, 4, 5] (fun v vf vi wr => ∃ (j f : Nat) (done : List (List UInt8)), vi = .int .i64 j ∧ vf = .int .i64 f ∧ j ≤ s.length + 1 ∧ (j ≤ s.length → WI s j f done) ∧ (j = s.length + 1 → Z = done) ∧ done.length ≤ 1000001 ∧ wr.ownsRow w.heap.size 9 1 v done.length (S8 done) ∧ Below w.heap.size w wr) (fun _ _ vi _ => s.length + 1 - (intOf vi).toNat)
  case atStart => exact ⟨0, 0, [], rfl, rfl, by omega, fun _ => WI.start s, fun h => by omega, by simp, ⟨rfl, .inl ⟨rfl, rfl⟩⟩, Below.refl _ _⟩
  case round =>
    obtain ⟨j, f, done, rfl, rfl, hj, hw, hz, hdl, hown, hbel⟩ := hrel
    have HO := Lib.hid hown
    have HB := Lib.hid hbel
    have HW := Lib.hid hw
    have hsz := hbel.size
    clear hown hbel hw
    by_cases hlt : j ≤ s.length
    · have hwi := HW.out hlt
      have hf := hwi.hf
      have q0 : (0 : Int) ≤ (f : Int) := by omega
      have q1 : (f : Int) ≤ (j : Int) := by omega
      have q2 : (j : Int) ≤ (s.length : Int) := by omega
      clear hz
      obtain ⟨seg, hseg⟩ : ∃ seg, seg = (s.drop f).take (j - f) := ⟨_, rfl⟩
      have hsl : seg.length ≤ s.length := by rw [hseg, List.length_take, List.length_drop]; omega
      have HS := Lib.hid hseg
      have hone : ∀ u ∈ [Value.string ((⟨s.toArray⟩ : ByteArray).extract f j)], u.oneCell' = true := by simp [Value.oneCell']
      have HN := Lib.hid hone
      have WIH := Lib.hid hwi
      have hbs : ∀ o : Obj, w.heap.size ≤ (wr.alloc o).heap.size := by intro o; simp; omega
      have HBS := Lib.hid hbs
      have hs2 : done.length + 1 ≤ maxLen := by unfold maxLen; omega
      have hs3 : (done.length + 1) * 16 ≤ 140737488355328 := by omega
      have HS2 := Lib.hid hs2
      have HS3 := Lib.hid hs3
      clear hseg hone hwi hbs hs2 hs3 HW
      by_cases hend : j = s.length
      · subst hend
        go_wp2_with (at_builtin; refine wpList_append_cells rfl _ _ 27 rfl w.heap.size 9 i0 (.string ⟨#[]⟩) 1 16 Tryd.underlying27 HI.out H0.out H1.out H2.out rfl (by omega) _ done.length (S8 done) rfl (HO.out.alloc _) _ _ 1 1 _ rfl (Lies.one wr 9 _) rfl HN.out HS2.out HS3.out (HBS.out _) ?_; intro v' w2 hown2 hbel2)
        have D : Hid (Z = done ++ [seg]) := Lib.hid (by rw [HZ.out, HS.out]; exact WIH.out.last)
        rw [extract_list s f s.length, ← HS.out, show S8 done ++ [Value.string ⟨seg.toArray⟩] = S8 (done ++ [seg]) from by rw [S8_append]; rfl] at hown2
        have HO2 : Hid (w2.ownsRow w.heap.size 9 1 v' (done ++ [seg]).length (S8 (done ++ [seg]))) := Lib.hid (by rw [List.length_append]; exact hown2)
        have HB2 := Lib.hid ((HB.out.alloc hsz _).trans hbel2)
        have hd2 : (done ++ [seg]).length ≤ 1000001 := by rw [List.length_append]; have := WIH.out.len; simp; omega
        clear hown2 hbel2
        go_wp2_with fail
        go_roundw
        case rel => exact ⟨s.length + 1, s.length + 1, done ++ [seg], by go_num, by go_num, by omega, fun h => by omega, fun _ => D.out, hd2, HO2.out, HB2.out⟩
        case measure => first | (simp [intOf]; done) | (simp [intOf]; omega)
      · have hlj : j < s.length := by omega
        have q3 : (j : Int) < (s.length : Int) := by omega
        have q4 : ((j : Int) == (s.length : Int)) = false := beq_false_of_ne (by omega)
        obtain ⟨c, hc⟩ : ∃ c, c = s[j] := ⟨_, rfl⟩
        have HC := Lib.hid hc
        by_cases h46 : c = 46
        · have hx : s[j] = 46 := by rw [← hc]; exact h46
          have D := Lib.hid (WIH.out.point hlj hx)
          have hjs : j < (⟨s.toArray⟩ : ByteArray).size := by show j < s.toArray.size; simpa using hlj
          have q5 : ((((⟨s.toArray⟩ : ByteArray)[j]'hjs).toNat : Int) == 46) = true := by
            show ((s[j].toNat : Int) == 46) = true
            rw [hx]; rfl
          clear hc h46 hx
          go_wp2_with (at_builtin; refine wpList_append_cells rfl _ _ 27 rfl w.heap.size 9 i0 (.string ⟨#[]⟩) 1 16 Tryd.underlying27 HI.out H0.out H1.out H2.out rfl (by omega) _ done.length (S8 done) rfl (HO.out.alloc _) _ _ 1 1 _ rfl (Lies.one wr 9 _) rfl HN.out HS2.out HS3.out (HBS.out _) ?_; intro v' w2 hown2 hbel2)
          rw [extract_list s f j, ← HS.out, show S8 done ++ [Value.string ⟨seg.toArray⟩] = S8 (done ++ [seg]) from by rw [S8_append]; rfl] at hown2
          have HO2 : Hid (w2.ownsRow w.heap.size 9 1 v' (done ++ [seg]).length (S8 (done ++ [seg]))) := Lib.hid (by rw [List.length_append]; exact hown2)
          have HB2 := Lib.hid ((HB.out.alloc hsz _).trans hbel2)
          have D2 := D.out
          rw [← HS.out] at D2
          have hd2 : (done ++ [seg]).length ≤ 1000001 := by have := D2.len; omega
          have HD2 := Lib.hid D2
          clear hown2 hbel2 D2 D
          go_wp2_with fail
          go_roundw
          case rel => exact ⟨j + 1, j + 1, done ++ [seg], by go_num, by go_num, by omega, fun _ => HD2.out, fun h => by omega, hd2, HO2.out, HB2.out⟩
          case measure => first | (simp [intOf]; done) | (simp [intOf]; omega)
        · have hx : s[j] ≠ 46 := by rw [← hc]; exact h46
          have D := Lib.hid (WIH.out.other hlj hx)
          have hjs : j < (⟨s.toArray⟩ : ByteArray).size := by show j < s.toArray.size; simpa using hlj
          have q5 : ((((⟨s.toArray⟩ : ByteArray)[j]'hjs).toNat : Int) == 46) = false := by
            show ((s[j].toNat : Int) == 46) = false
            apply beq_false_of_ne
            intro e
            apply hx
            apply UInt8.toNat_inj.1
            have : s[j].toNat = 46 := by omega
            exact this
          clear hc h46 hx
          go_wp2_with fail
          go_roundw
          case rel => exact ⟨j + 1, f, done, by go_num, rfl, by omega, fun _ => D.out, fun h => by omega, hdl, HO.out, HB.out⟩
          case measure => first | (simp [intOf]; done) | (simp [intOf]; omega)
    · obtain rfl : j = s.length + 1 := by omega
      have HE := Lib.hid (hz rfl)
      have q1 : ¬ ((s.length : Int) + 1 ≤ (s.length : Int)) := by omega
      clear hz
      go_wp2_with fail
      go_ret
      obtain ⟨A, c, rfl, hc, hcm⟩ := own_form HO.out
      rw [HE.out]
      exact ⟨A, c, rfl, hc, hcm, Lies.own HO.out (Nat.le_refl _), HB.out⟩
end Go.Proofs.YtphjpadjlmdfcaaDoor
