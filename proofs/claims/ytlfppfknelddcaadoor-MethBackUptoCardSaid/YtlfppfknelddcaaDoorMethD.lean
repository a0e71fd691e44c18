/- Contracts of package meth: Append. -/
import Derived.Test.YtlfppfknelddcaaDoorMethP
import Derived.Test.YtlfppfknelddcaaDoorWords2
namespace Go.Proofs.YtlfppfknelddcaaDoor
open Go.RowKit
set_option maxRecDepth 100000
set_option linter.unusedSimpArgs false
set_option linter.unusedVariables false

/-- may a method be; its octets; b with them behind it -/
def okM (c i : Int) (p : Parts) : Bool := match formB c i with
  | some ls => okP ls p
  | none => false
def octM (c i : Int) (p : Parts) : List UInt8 := match formB c i with
  | some ls => be 2 c.toNat ++ be 2 i.toNat ++ pw ls 0 p
  | none => []
def appM (l : List UInt8) (c i : Int) (p : Parts) : List UInt8 := if okM c i p then l ++ octM c i p else l
/-- what a form of the table is -/
structure FormIs (c i : Int) (ls : List UInt8) : Prop where
  c0 : 0 ≤ c
  c1 : c < 256
  i0 : 0 ≤ i
  i1 : i < 256
  len : ls.length ≤ 20
  good : ∀ ch ∈ ls, okL ch
  once : ls.count 116 ≤ 1
  run : ∀ j, j ≤ ls.length → tr (ls.take j) ≤ 7
theorem form_row {R : List FRow} {c i : Int} {ls : List UInt8} (h : formF R c i = some ls) : ∃ r ∈ R, r.1 = c ∧ r.2.1 = i ∧ r.2.2 = ls := by
  unfold formF at h
  cases hf : R.find? (fun r => r.1 == c && r.2.1 == i) with
  | none => rw [hf] at h; cases h
  | some r =>
    rw [hf] at h
    have h1 := List.find?_some hf
    have h2 := List.mem_of_find?_eq_some hf
    simp only [Bool.and_eq_true, beq_iff_eq] at h1
    simp only [Option.map_some, Option.some.injEq] at h
    exact ⟨r, h2, h1.1, h1.2, h⟩
instance (ch : UInt8) : Decidable (okL ch) := inferInstanceAs (Decidable (_ ∨ _))
theorem forms_good : ∀ r ∈ formRows, (0 ≤ r.1 ∧ r.1 < 256) ∧ (0 ≤ r.2.1 ∧ r.2.1 < 256) ∧ r.2.2.length ≤ 20 ∧ (∀ ch ∈ r.2.2, okL ch) ∧ r.2.2.count 116 ≤ 1 ∧ ∀ j, j < 21 → tr (r.2.2.take j) ≤ 7 := by decide +kernel
theorem form_is {c i : Int} {ls : List UInt8} (h : formB c i = some ls) : FormIs c i ls := by
  obtain ⟨r, hr, rfl, rfl, rfl⟩ := form_row h
  obtain ⟨⟨a1, a2⟩, ⟨b1, b2⟩, c1, d1, e1, f1⟩ := forms_good r hr
  exact ⟨a1, a2, b1, b2, c1, d1, e1, fun j hj => f1 j (by omega)⟩

set_option maxHeartbeats 1000000 in
theorem mappend_any (A : Option Addr) (cap : Nat) (l : List UInt8) (B : Nat) (c i : Int) (p : Parts) (vN vS vF vT : Value) (w : World) (hl : Lies w B A (B8 l)) (hB : B ≤ w.heap.size) (hp : PartsAt w B p vN vS vF vT) (hf : Fine p) (hc : (Lit.int .i64 c).wf = true) (hi : (Lit.int .i64 i).wf = true) (hs : l.length ≤ 1000000000000) :
    Calls Tryd.prog 7 #[.slice A l.length cap, .agg #[.int .i64 c, .int .i64 i, vN, vS, vF, vT]] w (NewOctsOk w.heap.size (appM l c i p) (okM c i p) w) := by
  obtain ⟨AN, cN_, rfl, _, _, _⟩ := hp.n
  obtain ⟨AS, cS_, rfl, _, _, _⟩ := hp.s
  obtain ⟨AF, cF_, rfl, _, _, _⟩ := hp.f
  obtain ⟨AT, cT_, dT, rfl, ht⟩ := hp.t
  obtain ⟨w0, hw0⟩ : ∃ w0, w0 = w.alloc (.cells #[.int .i64 c, .int .i64 i, .slice AN p.n.length cN_, .slice AS p.s.length cS_, .slice AF p.f.length cF_, .slice AT p.t.length cT_] 32) := ⟨_, rfl⟩
  have hb0 : Below w.heap.size w w0 := by rw [hw0]; exact (Below.refl _ _).alloc (Nat.le_refl _) _
  have hk0 : Whole w0 w.heap.size 32 #[.int .i64 c, .int .i64 i, .slice AN p.n.length cN_, .slice AS p.s.length cS_, .slice AF p.f.length cF_, .slice AT p.t.length cT_] := by rw [hw0]; exact Whole.new _ _ _
  have hs0 : w0.heap.size = w.heap.size + 1 := by rw [hw0]; simp
  have HW0 := Lib.hid hw0
  have HB0 := Lib.hid hb0
  have HS0 := Lib.hid hs0
  have HP := Lib.hid hp
  have HL := Lib.hid hl
  have HF := Lib.hid hf
  have HC := Lib.hid hc
  have HI := Lib.hid hi
  have cells0 : ∀ w1, Below w0.heap.size w0 w1 → w1.cell? ⟨w.heap.size, 0, none⟩ = some (.int .i64 c) ∧ w1.cell? ⟨w.heap.size, 1, none⟩ = some (.int .i64 i) ∧ w1.cell? ⟨w.heap.size, 2, none⟩ = some (.slice AN p.n.length cN_) ∧ w1.cell? ⟨w.heap.size, 3, none⟩ = some (.slice AS p.s.length cS_) ∧ w1.cell? ⟨w.heap.size, 4, none⟩ = some (.slice AF p.f.length cF_) ∧ w1.cell? ⟨w.heap.size, 5, none⟩ = some (.slice AT p.t.length cT_) := by
    intro w1 hb1
    have hk := hk0.below hb1 hk0.lt
    exact ⟨hk.cell 0, hk.cell 1, hk.cell 2, hk.cell 3, hk.cell 4, hk.cell 5⟩
  have CL := Lib.hid cells0
  obtain ⟨i0, hi0, hz0, hz1, hz2⟩ := info_parts u8_info
  have GI := Lib.hid hi0
  have G0 := Lib.hid hz0
  have G1 := Lib.hid hz1
  have G2 := Lib.hid hz2
  clear hp ht hw0 hb0 hk0 hs0 hl hf hc hi cells0 hi0 hz0 hz1 hz2
  obtain ⟨ok, hok⟩ : ∃ ok, ok = okM c i p := ⟨_, rfl⟩
  obtain ⟨Z, hZ⟩ : ∃ Z, Z = appM l c i p := ⟨_, rfl⟩
  rw [← hok, ← hZ]
  have HOK := Lib.hid hok
  have HZ := Lib.hid hZ
  clear hok hZ
  go_enter Tryd.func7, Tryd.ntmps7
  go_wp2_with fail
  rw [← HW0.out]
  refine (clone_any A cap l B w0 (HL.out.below (HB0.out.mono hB)) (by have := HS0.out; omega) (by omega)).mono ?_
  rintro e w1 ⟨v1, rfl, ho1, hb1⟩
  obtain ⟨A1, c1, rfl, _, _⟩ := own_form ho1
  obtain ⟨m0, m1, m2, m3, m4, m5⟩ := CL.out w1 hb1
  have HO1 := Lib.hid ho1
  have HB1 := Lib.hid hb1
  have hz1 := hb1.size
  clear ho1 hb1
  go_wp2_with fail
  refine (form_any c i w1 HC.out HI.out).mono ?_
  rintro e w2 ⟨rfl, hb2⟩
  have HB2 := Lib.hid (HB1.out.trans (hb2.mono hz1))
  have HO2 : Hid (w2.ownsRow w0.heap.size 5 1 (.slice A1 l.length c1) l.length (B8 l)) := Lib.hid (by
    refine ⟨HO1.out.1, ?_⟩
    rcases HO1.out.2 with h | ⟨b, cap, cur, hv, hbb, hg, rest⟩
    · exact .inl h
    · exact .inr ⟨b, cap, cur, hv, hbb, (hb2.block b ((Array.getElem?_eq_some_iff.1 hg).1)).trans hg, rest⟩)
  have hz2 := hb2.size
  obtain ⟨n0, n1, n2, n3, n4, n5⟩ := CL.out w2 HB2.out
  clear m0 m1 m2 m3 m4 m5 hb2
  cases hform : formB c i with
  | none =>
    have hfv : formV c i = .tuple #[.string ⟨#[]⟩, .bool false] := by unfold formV; rw [hform]
    have D : Hid (NewOctsOk w.heap.size Z ok w (.returned (.tuple #[.slice A1 l.length c1, .bool false])) w2) := Lib.hid (by
      have h1 : okM c i p = false := by unfold okM; rw [hform]
      have h2 : appM l c i p = l := by unfold appM; rw [h1]; rfl
      rw [HOK.out, HZ.out, h1, h2]
      exact ⟨_, rfl, own_base HO2.out (by have := HS0.out; omega), HB0.out.trans (HB2.out.mono (by have := HS0.out; omega))⟩)
    rw [hfv]
    clear hform hfv
    go_wp2_with fail
    go_ret2
    exact D.out
  | some ls =>
    have hfv : formV c i = .tuple #[.string ⟨ls.toArray⟩, .bool true] := by unfold formV; rw [hform]
    have hfi := form_is hform
    have h1 : okM c i p = okP ls p := by unfold okM; rw [hform]
    have h2 : okP ls p = true → appM l c i p = l ++ (be 2 c.toNat ++ be 2 i.toNat) ++ pw ls 0 p := by
      intro h
      unfold appM octM
      rw [h1, h, if_pos rfl, hform]
      simp
    have h3 : okP ls p = false → appM l c i p = l := by
      intro h
      unfold appM
      rw [h1, h]
      rfl
    have H1 := Lib.hid h1
    have H2 := Lib.hid h2
    have H3 := Lib.hid h3
    have HFI := Lib.hid hfi
    rw [hfv]
    clear hform hfv h1 h2 h3 hfi
    go_wp2_with fail
    refine (wparts_any ls c i p _ _ _ _ B w2 (HP.out.below ((HB0.out.trans (HB2.out.mono (by have := HS0.out; omega))).mono hB)) (by have := HS0.out; omega) HFI.out.len HFI.out.good HF.out).mono ?_
    rintro e w3 ⟨v3, b3, rfl, ho3, hl3, he3, hb3⟩
    obtain ⟨A3, c3, rfl, _, _⟩ := own_form ho3
    have HB3 := Lib.hid (HB2.out.trans (hb3.mono (by omega)))
    have HO3 : Hid (w3.ownsRow w0.heap.size 5 1 (.slice A1 l.length c1) l.length (B8 l)) := Lib.hid (by
      refine ⟨HO2.out.1, ?_⟩
      rcases HO2.out.2 with h | ⟨b, cap, cur, hv, hbb, hg, rest⟩
      · exact .inl h
      · exact .inr ⟨b, cap, cur, hv, hbb, (hb3.block b ((Array.getElem?_eq_some_iff.1 hg).1)).trans hg, rest⟩)
    have HL3 := Lib.hid (Lies.own ho3 (Nat.le_refl _))
    have HE3 := Lib.hid he3
    have HOW3 := Lib.hid ho3
    have hz3 := hb3.size
    have hlen3 := hl3
    obtain ⟨k0, k1, _⟩ := CL.out w3 HB3.out
    clear ho3 hb3 he3 n0 n1 n2 n3 n4 n5 hl3
    cases hokp : okP ls p with
    | false =>
      have D : Hid (NewOctsOk w.heap.size Z ok w (.returned (.tuple #[.slice A1 l.length c1, .bool false])) w3) := Lib.hid (by
        rw [HOK.out, HZ.out, H1.out, hokp, H3.out hokp]
        exact ⟨_, rfl, own_base HO3.out (by have := HS0.out; omega), HB0.out.trans (HB3.out.mono (by have := HS0.out; omega))⟩)
      clear hokp
      go_wp2_with fail
      go_ret2
      exact D.out
    | true =>
      have hb : b3 = pw ls 0 p := HE3.out hokp
      have HZ2 : Hid (Z = l ++ (be 2 c.toNat ++ be 2 i.toNat) ++ b3) := Lib.hid (by rw [HZ.out, H2.out hokp, hb])
      have HOK2 : Hid (ok = true) := Lib.hid (by rw [HOK.out, H1.out, hokp])
      obtain ⟨cn, hcn⟩ : ∃ cn : Nat, c = (cn : Int) := ⟨c.toNat, by have := HFI.out.c0; omega⟩
      obtain ⟨im, hin⟩ : ∃ im : Nat, i = (im : Int) := ⟨i.toNat, by have := HFI.out.i0; omega⟩
      have hc1 := HFI.out.c1
      have hi1 := HFI.out.i1
      rw [hcn] at hc1 k0
      rw [hin] at hi1 k1
      obtain ⟨I, hI⟩ : ∃ I, I = be 2 cn ++ be 2 im := ⟨_, rfl⟩
      have HZ3 : Hid (Z = l ++ I ++ b3) := Lib.hid (by rw [HZ2.out, hI, hcn, hin]; rfl)
      have HIL : Hid (I.length = 4) := Lib.hid (by rw [hI, List.length_append, be_length, be_length])
      have HII := Lib.hid hI
      obtain ⟨wd, hwd⟩ : ∃ wd, wd = w3.drew := ⟨_, rfl⟩
      have k0' : wd.cell? ⟨w.heap.size, 0, none⟩ = some (.int .i64 (cn : Int)) := by rw [hwd]; exact k0
      have k1' : wd.cell? ⟨w.heap.size, 1, none⟩ = some (.int .i64 (im : Int)) := by rw [hwd]; exact k1
      have HKD : Hid (∀ w', Below wd.heap.size wd w' → w'.cell? ⟨w.heap.size, 1, none⟩ = some (.int .i64 (im : Int))) := Lib.hid (fun w' hb' => (hb'.cell (p := ⟨w.heap.size, 1, none⟩) (by rw [hwd]; show w.heap.size < w3.heap.size; have := HS0.out; omega)).trans k1')
      have HWD := Lib.hid hwd
      have HSD : Hid (wd.heap.size = w3.heap.size) := Lib.hid (by rw [hwd]; rfl)
      rw [hwd] at k0' k1'
      have a0 : IntKind.u64.wrap (cn : Int) = cn := IntWalk.u64_in _ (by omega)
      have a1 : IntKind.u64.wrap (im : Int) = im := IntWalk.u64_in _ (by omega)
      have AFT : Hid (∀ w6, Below wd.heap.size wd w6 → w6.ownsRow w.heap.size 5 1 (.slice A1 l.length c1) l.length (B8 l) ∧ Lies w6 w3.heap.size A3 (B8 b3) ∧ Below w.heap.size w w6 ∧ w3.heap.size ≤ w6.heap.size) := Lib.hid (by
        intro w6 hb6
        have hb36 : Below w3.heap.size w3 w6 := (show Below w3.heap.size w3 wd by rw [hwd]; exact (Below.refl _ _).drew).trans (by rw [HSD.out] at hb6; exact hb6)
        refine ⟨?_, HL3.out.below hb36, (HB0.out.trans (HB3.out.mono (by have := HS0.out; omega))).trans (hb36.mono (by have := HS0.out; omega)), hb36.size⟩
        refine ⟨HO3.out.1, ?_⟩
        rcases HO3.out.2 with h | ⟨b, cap, cur, hv, hbb, hg, rest⟩
        · exact .inl h
        · exact .inr ⟨b, cap, cur, hv, by have := HS0.out; omega, (hb36.block b ((Array.getElem?_eq_some_iff.1 hg).1)).trans hg, rest⟩)
      have AFU : Hid (∀ w6 w7, Below wd.heap.size wd w6 → w6.grownBy w7 (Value.slice A1 l.length c1).ownBlock → Lies w7 w7.heap.size A3 (B8 b3)) := Lib.hid (by
        intro w6 w7 hb6 hg7
        have hb36 : Below w3.heap.size w3 w6 := (show Below w3.heap.size w3 wd by rw [hwd]; exact (Below.refl _ _).drew).trans (by rw [HSD.out] at hb6; exact hb6)
        have ho6 : w6.ownsRow w2.heap.size 5 1 (.slice A3 b3.length c3) b3.length (B8 b3) := by
          refine ⟨HOW3.out.1, ?_⟩
          rcases HOW3.out.2 with h | ⟨b, cap, cur, hv, hbb, hg, rest⟩
          · exact .inl h
          · exact .inr ⟨b, cap, cur, hv, hbb, (hb36.block b ((Array.getElem?_eq_some_iff.1 hg).1)).trans hg, rest⟩
        exact Lies.own (ho6.kept hg7 (own_apart HOW3.out HO2.out (Nat.le_refl _))) (Nat.le_refl _))
      clear hokp hb hwd hcn hin hI
      go_wp2_with fail
      first | go_region_with (first
        | (go_at_call 20; rw [← HWD.out]; refine (int_any none 0 [] 0 2 cn wd (Lies.empty _ _ _) (Nat.zero_le _) (by simp)).mono ?_; rintro e w5 ⟨v5, rfl, ho5, hb5⟩; rw [show wid 2 = 2 from rfl, List.nil_append, be_length] at ho5; obtain ⟨A5, c5, rfl, _, _⟩ := own_form ho5; have HL5 := Lib.hid (Lies.own ho5 (Nat.le_refl _)); have HB5 := Lib.hid hb5; have k5 := HKD.out w5 hb5; clear ho5 hb5)
        | (go_at_call 20; refine (int_any A5 c5 (be 2 cn) w5.heap.size 2 im w5 HL5.out (Nat.le_refl _) (by rw [be_length]; omega)).mono ?_; rintro e w6 ⟨v6, rfl, ho6, hb6⟩; rw [show wid 2 = 2 from rfl, ← HII.out] at ho6; obtain ⟨A6, c6, rfl, _, _⟩ := own_form ho6; have HL6 := Lib.hid (Lies.own ho6 (Nat.le_refl _)); have HB6 := Lib.hid (HB5.out.trans (hb6.mono HB5.out.size)); clear ho6 hb6)) | fail
      all_goals
        obtain ⟨p1, p2, p3, p4⟩ := AFT.out w6 HB6.out
        have P1 := Lib.hid p1
        have P2 := Lib.hid p2
        have P3 := Lib.hid p3
        have hz6 : w.heap.size ≤ w6.heap.size := p3.size
        have hn1 : l.length + I.length ≤ 140737488355328 := by have := HIL.out; omega
        have hn2 : l.length + I.length + b3.length ≤ 140737488355328 := by have := HIL.out; omega
        have N1 := Lib.hid hn1
        have N2 := Lib.hid hn2
        clear p1 p2 p3 hn1 hn2
        go_wp2_with (first
          | (at_builtin; refine wpList_append_apart rfl _ _ 24 rfl w.heap.size 5 i0 (.int .u8 0) 1 1 Tryd.underlying24 GI.out G0.out G1.out G2.out rfl (by omega) _ l.length (B8 l) rfl P1.out _ A6 I.length c6 (B8 I) rfl HL6.out (B8_len1 I) (B8_one I) (room63 N1.out) (room1 N1.out) hz6 ?_; intro v7 w7 hown7 hg7; rw [← B8_append] at hown7; have HO7 := Lib.hid hown7; have HB7 := Lib.hid (P3.out.grown hg7 hz6 (fun k hk => (P1.out.lt k hk).1)); have HX7 := Lib.hid (AFU.out w6 w7 HB6.out hg7); clear hown7 hg7)
          | (at_builtin; refine wpList_append_cells rfl _ _ 24 rfl w.heap.size 5 i0 (.int .u8 0) 1 1 Tryd.underlying24 GI.out G0.out G1.out G2.out rfl (by omega) _ (l.length + I.length) _ rfl HO7.out w7.heap.size A3 b3.length c3 (B8 b3) rfl HX7.out (B8_len1 b3) (B8_one b3) (room63 N2.out) (room1 N2.out) HB7.out.size ?_; intro v8 w8 hown8 hb8; rw [← B8_append] at hown8; have HO8 := Lib.hid hown8; have HB8 := Lib.hid (HB7.out.trans hb8); clear hown8 hb8))
        have DD : Hid (NewOctsOk w.heap.size Z ok w (.returned (.tuple #[v8, .bool true])) w8) := Lib.hid (by
          rw [HOK2.out, HZ3.out]
          refine ⟨v8, rfl, ?_, HB8.out⟩
          have h8 := HO8.out
          rw [List.length_append, List.length_append]
          exact h8)
        go_ret2
        exact DD.out
end Go.Proofs.YtlfppfknelddcaaDoor
