/- Layer 8: a part of a batch is read. Layer 8: a journal within a law's walk. Layer 8: what the document fixes, walked. -/
import Derived.Test.YtmemdkgoeldemaaGreatDoorJourW
import Derived.Test.YtmemdkgoeldemaaGreatDoorJourV
import Derived.Test.YtmemdkgoeldemaaGreatDoorJourZ
import Derived.Test.YtmemdkgoeldemaaGreatDoorJourT
import Derived.Lib.SlBytesConst
namespace Go.Proofs.YtmemdkgoeldemaaGreatDoor
section
open Go.RowKit Go.Maps
set_option maxRecDepth 100000
set_option linter.unusedSimpArgs false
set_option linter.unusedVariables false
/-- what Read answers: how many octets of which batch, and the reason -/
def rdP (S : Dv) (file at0 n : Int) : List UInt8 × Int :=
  if n < 0 then ([], 1) else if (whP S (nmJ file) file at0).1 ≠ 0 then ([], (whP S (nmJ file) file at0).1)
  else if ((whP S (nmJ file) file at0).2.b.length : Int) < n then ([], 1) else ((whP S (nmJ file) file at0).2.b.take n.toNat, 0)
section
variable {B g : Nat} {X : Nat → Prop} {w0 W : World} {S : Dv}
set_option maxHeartbeats 4000000 in
theorem jread_any (h : At B X w0 g S W) (file : Int) (hf : -9223372036854775808 ≤ file ∧ file < 9223372036854775808) (hI : 1 ≤ file ∧ file ≤ 999999 → ∀ w', Itoas file w') (at0 : Int) (ha : -9223372036854775808 ≤ at0 ∧ at0 < 9223372036854775808) (n : Int) (hn : -9223372036854775808 ≤ n ∧ n < 9223372036854775808) :
    Calls Tryz.prog 37 #[ptr g, .int .i64 file, .int .i64 at0, .int .i64 n] W fun e w' => ∃ A c, e = .returned (.tuple #[.slice A (rdP S file at0 n).1.length c, .int .i64 (rdP S file at0 n).2]) ∧ LiesP w' (fun i => W.heap.size ≤ i) A (B8 (rdP S file at0 n).1) ∧ Below W.heap.size W w' := by
  have HW := Lib.hid (fun w (h' : At B X w0 g S w) => whole_any h' file hf hI at0 ha)
  have H := Lib.hid h
  have hwb : (whP S (nmJ file) file at0).1 = 0 → (whP S (nmJ file) file at0).2.b.length ≤ 196608 := fun e => (whP_ok (Prod.ext e rfl)).2.2.2.2.2.2.2.2.2
  have HWB := Lib.hid hwb
  clear hf hI ha h hwb
  unfold rdP
  by_cases h0 : n < 0
  · rw [if_pos h0]
    go_enter Tryz.func37, Tryz.ntmps37
    go_wp2_with fail
    go_ret2
    exact ⟨none, 0, rfl, LiesP.nil _ _ _, Below.refl _ _⟩
  · rw [if_neg h0]
    obtain ⟨m, hm⟩ : ∃ m : Nat, n = (m : Int) := ⟨n.toNat, by omega⟩
    subst hm
    obtain ⟨e1, x, hx⟩ : ∃ e1 x, whP S (nmJ file) file at0 = (e1, x) := ⟨_, _, rfl⟩
    rw [hx]
    have HX := Lib.hid hx
    clear hx
    simp only [Int.toNat_natCast]
    by_cases he : e1 = 0
    · subst he
      have hxl : x.b.length ≤ 196608 := by have := HWB.out (by rw [HX.out]); rw [HX.out] at this; exact this
      rw [if_neg (by simp)]
      by_cases hl : (x.b.length : Int) < (m : Int)
      · rw [if_pos hl]
        go_enter Tryz.func37, Tryz.ntmps37
        go_wp2_with (go_at_call 74; go_must (refine (HW.out _ H.out).mono ?_); rintro e w1 ⟨⟨x', A, c⟩, he, hx', hown, hb1⟩; rw [HX.out] at he hx'; simp only at hx'; subst hx'; subst he; unfold btV; have B1 := Lib.hid hb1; clear hb1 hown)
        go_ret2
        exact ⟨none, 0, rfl, LiesP.nil _ _ _, B1.out.alloc B1.out.size _⟩
      · rw [if_neg hl]
        have hml : m ≤ x.b.length := by omega
        have HML := Lib.hid hml
        go_enter Tryz.func37, Tryz.ntmps37
        have hwa : Calls Tryz.prog 74 #[ptr g, .int .i64 file, .int .i64 at0] W fun e w' => ∃ A c, e = .returned (.tuple #[.agg #[.int .u64 (x.seq : Int), .int .i64 (x.kind : Int), .slice A x.b.length c, .int .i64 x.file, .int .i64 x.pos], .int .i64 0]) ∧ LiesP w' (fun i => W.heap.size ≤ i) A (B8 x.b) ∧ x.b.length ≤ c ∧ c ≤ maxLen ∧ Below W.heap.size W w' :=
          (HW.out _ H.out).mono fun e w' ⟨⟨x', A, c⟩, h1, h2, h3, h4⟩ => by
            rw [HX.out] at h1 h2
            have h2' : x' = x := h2
            subst h2'
            have hb := BmAt.own (m := ⟨x', A, c⟩) h3
            exact ⟨A, c, h1, hb.liesP, hb.cap.1, hb.cap.2, h4⟩
        have HWA := Lib.hid hwa
        clear hwa
        go_wp2_with (go_at_call 74; go_must (refine HWA.out.mono ?_); rintro e w1 ⟨A, c, rfl, hl1, hc1, hc2, hb1⟩; have B1 := Lib.hid hb1; have L1 := Lib.hid hl1; have hm2 : (m : Int) ≤ (c : Int) := (by omega); have hm3 : ¬ (c : Int) < (m : Int) := (by omega); clear hb1 hl1)
        go_ret2
        have et : (x.b.take m).length = m := by rw [List.length_take]; have := HML.out; omega
        refine ⟨A, m, by rw [et]; rfl, ?_, B1.out.alloc B1.out.size _⟩
        rw [show B8 (x.b.take m) = (B8 x.b).take m by simp [B8]]
        exact ((L1.out.below ((Below.refl _ _).alloc (Nat.le_refl _) _))).take m
    · rw [if_pos he]
      go_enter Tryz.func37, Tryz.ntmps37
      go_wp2_with (go_at_call 74; go_must (refine (HW.out _ H.out).mono ?_); rintro e w1 ⟨⟨x', A, c⟩, he, hx', hown, hb1⟩; rw [HX.out] at he hx'; simp only at hx'; subst hx'; subst he; unfold btV; have B1 := Lib.hid hb1; clear hb1 hown)
      go_ret2
      exact ⟨none, 0, rfl, LiesP.nil _ _ _, B1.out.alloc B1.out.size _⟩
end
end
section
open Go.RowKit Go.Maps
set_option maxRecDepth 100000
set_option linter.unusedSimpArgs false
set_option linter.unusedVariables false
structure LAt (B g jb mo : Nat) (X : Nat → Prop) (w0 : World) (bss : List (List Bt)) (S : Dv) (J : Jr) (W : World) : Prop where
  at_ : At B X w0 g S W
  x : X jb
  j : JAt W jb g J
  i : JI mo bss S J
theorem nums_in {n : Nat} (h : n < 100) : ∀ k ∈ nums n, 1 ≤ k ∧ k < 100 := by
  intro k hk
  obtain ⟨i, hi, rfl⟩ := List.mem_map.1 hk
  have := List.mem_range.1 hi
  omega
theorem own_bms {W : World} {base : Nat} {v : Value} {ms : List Bm} (h : OwnBs W base v ms) : ∃ A c, v = .slice A ms.length c ∧ BmsAt W (fun i => base ≤ i) ms A c := by
  obtain ⟨A, c, rfl, h1, h2⟩ := own_form h.1
  exact ⟨A, c, rfl, h1, h2, LiesP.own h.1 (fun i hi => (h.1.lt i hi).1), fun m hm => (h.2 m hm).1⟩
theorem lastSeq_seqs {l : List Bt} (h : Seqs l) : lastSeq l = l.length := by
  unfold lastSeq
  cases hl : l.getLast? with
  | none =>
    have : l = [] := List.getLast?_eq_none_iff.1 hl
    subst this
    rfl
  | some y =>
    have h1 : l[l.length - 1]? = some y := by rw [← List.getLast?_eq_getElem?]; exact hl
    have h2 := h _ _ h1
    have h3 := (List.getElem?_eq_some_iff.1 h1).1
    simp only []
    omega
theorem row_mem {F : Fil} : ∀ (bs : List Bt) (p : Nat), RowAt F p bs → ∀ x ∈ bs, ∃ q : Nat, x.pos = (q : Int) ∧ SecsAt F q x := by
  intro bs
  induction bs with
  | nil => intro p _ x hx; cases hx
  | cons y r ih =>
    intro p ⟨h1, h2, h3⟩ x hx
    rcases List.mem_cons.1 hx with rfl | hx
    · exact ⟨p, h2, h1⟩
    · exact ih _ h3 x hx
theorem JD.whole {mo : Nat} {bss : List (List Bt)} {S : Dv} (h : JD mo bss S) (hl : bss.length ≤ 999999) {x : Bt} (hx : x ∈ bss.flatten) : whP S (nmJ x.file) x.file x.pos = (0, x) := by
  obtain ⟨l, rfl, e1, e2⟩ := h
  obtain ⟨bs, hb, hx⟩ := List.mem_flatten.1 hx
  obtain ⟨k, hk, rfl⟩ := List.getElem_of_mem hb
  have hg : l[k]? = some (l[k]'(by omega)) := List.getElem?_eq_getElem (by omega)
  obtain ⟨_, a2, a3⟩ := e2 k _ _ hg (List.getElem?_eq_getElem hk)
  obtain ⟨a4, a5⟩ := a3 x hx
  obtain ⟨q, a6, a7⟩ := row_mem _ _ a2 x hx
  have hf : fnd (jrD mo (-1) l).fs (nmJ ((k + 1 : Nat) : Int)) = some (l[k]'(by omega)) := by
    rw [jrD_fnd (by omega) (by omega) (by omega), show k + 1 - 1 = k by omega]
    exact hg
  have := whP_at hf a4 a7 x.file
  rw [a5] at this ⊢
  rw [a6, this]
  obtain ⟨seq, kind, b, file, pos⟩ := x
  simp only at a5 a6
  subst a5 a6
  rfl
section
variable {B g jb mo : Nat} {X : Nat → Prop} {w0 W w' : World} {bss : List (List Bt)} {S : Dv} {J : Jr}
theorem LAt.below (h : LAt B g jb mo X w0 bss S J W) (hb : Below W.heap.size W w') : LAt B g jb mo X w0 bss S J w' :=
  ⟨(h.at_.below hb).1, h.x, (hb.block jb (Whole.lt h.j)).trans h.j, h.i⟩
theorem LAt.fence (h : LAt B g jb mo X w0 bss S J W) (hb : Below W.heap.size W w') : LAt B g jb mo (fun i => X i ∨ (W.heap.size ≤ i ∧ i < w'.heap.size)) w0 bss S J w' :=
  ⟨h.at_.fence hb, .inl h.x, (hb.block jb (Whole.lt h.j)).trans h.j, h.i⟩
theorem LAt.jlt (h : LAt B g jb mo X w0 bss S J W) : jb < W.heap.size := Whole.lt h.j
theorem k_append (h : LAt B g jb mo X w0 bss S J W) (kind : Int) (hk : 1 ≤ kind ∧ kind ≤ 255) (A : Option Addr) (c : Nat) (b : List UInt8) (hl : LiesP W (fun i => X i ∧ i ≠ jb) A (B8 b)) (hb : b.length ≤ 196608) (hroom : needss bss + need b.length ≤ mo) (hn : bss.length < 98) (hs : bss.flatten.length < 1000000) :
    Calls Tryz.prog 12 #[ptr jb, .int .i64 kind, .slice A b.length c] W fun e w' => ∃ (A' : Option Addr) (c' : Nat) (X' : Nat → Prop) (S' : Dv), e = .returned (.tuple #[btV ⟨newB bss J kind b, A', c'⟩, .int .i64 0]) ∧ (∀ i, X i → X' i) ∧
      LAt B g jb mo X' w0 (addB bss J (newB bss J kind b)) S' (newJ bss J) w' ∧ KeptO X jb W w' ∧ BmAt w' (fun i => X' i ∧ W.heap.size ≤ i) ⟨newB bss J kind b, A', c'⟩ := by
  obtain ⟨h1, h2, h3, h4⟩ := h
  have hf := h4.file
  obtain ⟨S', ha, hJ⟩ := h4.append hk hb hroom (by omega) (by rw [h4.seq]; omega)
  refine (append_any h1 h2 h3 kind (by omega) A c b hl (by omega) ⟨by rw [h4.seq]; omega, by omega, by rw [h4.next]; omega, by rw [h4.next]; omega⟩ (by rw [h4.dev.files]; omega)).mono ?_
  rintro e w' ⟨⟨x, A', c'⟩, X', he, hx, hXX, hat, hj, hk', hbm⟩
  rw [ha] at he hx hat hj
  have hx' : x = newB bss J kind b := hx
  subst hx'
  exact ⟨A', c', X', S', he, hXX, ⟨hat, hXX _ h2, hj, hJ⟩, hk', hbm⟩
theorem k_append_no (h : LAt B g jb mo X w0 bss S J W) (kind : Int) (hk : -9223372036854775808 ≤ kind ∧ kind < 9223372036854775808) (A : Option Addr) (c : Nat) (b : List UInt8) (rf : Int) (hrf : rfP S J kind (need b.length) = rf) (hne : rf ≠ 0) (hl : LiesP W (fun i => X i ∧ i ≠ jb) A (B8 b)) (hb : b.length ≤ 300000) (hn : bss.length < 98) (hs : bss.flatten.length < 1000000) :
    Calls Tryz.prog 12 #[ptr jb, .int .i64 kind, .slice A b.length c] W fun e w' => ∃ (A' : Option Addr) (c' : Nat) (X' : Nat → Prop), e = .returned (.tuple #[btV ⟨bt0, A', c'⟩, .int .i64 rf]) ∧ (∀ i, X i → X' i) ∧ LAt B g jb mo X' w0 bss S J w' ∧ KeptO X jb W w' := by
  obtain ⟨h1, h2, h3, h4⟩ := h
  have hf := h4.file
  have ha : apP S J kind b = ⟨bt0, rf, S, J⟩ := by
    unfold apP
    rw [hrf, if_pos hne]
  refine (append_any h1 h2 h3 kind hk A c b hl hb ⟨by rw [h4.seq]; omega, by omega, by rw [h4.next]; omega, by rw [h4.next]; omega⟩ (by rw [h4.dev.files]; omega)).mono ?_
  rintro e w' ⟨⟨x, A', c'⟩, X', he, hx, hXX, hat, hj, hk', hbm⟩
  rw [ha] at he hx hat hj
  have hx' : x = bt0 := hx
  subst hx'
  exact ⟨A', c', X', he, hXX, ⟨hat, hXX _ h2, hj, h4⟩, hk'⟩
theorem k_scan (h : At B X w0 g S W) (hd : JD mo bss S) (hs : Seqs bss.flatten) (hn : bss.length < 99) :
    Calls Tryz.prog 19 #[ptr g] W fun e w' => ∃ A c ms, e = .returned (.slice A ms.length c) ∧ ms.map (·.x) = bss.flatten ∧ BmsAt w' (fun i => W.heap.size ≤ i) ms A c ∧ Below W.heap.size W w' := by
  refine (scan_any h (nums bss.length) hd.names (nums_in (by omega))).mono ?_
  rintro e w' ⟨v, ms, rfl, hm, ho, hb⟩
  obtain ⟨A, c, rfl, hbm⟩ := own_bms ho
  exact ⟨A, c, ms, rfl, by rw [hm, hd.scan (by omega) hs], hbm, hb⟩
theorem k_open (h : At B X w0 g S W) (hd : JD mo bss S) (hs : Seqs bss.flatten) (hn : bss.length < 99) :
    Calls Tryz.prog 11 #[ptr g] W fun e w' => ∃ (jb : Nat) (A : Option Addr) (c : Nat) (ms : List Bm) (X' : Nat → Prop) (S' : Dv), e = .returned (.tuple #[ptr jb, .slice A ms.length c]) ∧ ms.map (·.x) = bss.flatten ∧ (∀ i, X i → X' i) ∧ ¬ X jb ∧ W.heap.size ≤ jb ∧
      LAt B g jb mo X' w0 bss S' ⟨bss.flatten.length, 0, bss.length + 1, false⟩ w' ∧ KeptX X W w' ∧ BmsAt w' (fun i => X' i ∧ W.heap.size ≤ i ∧ i ≠ jb) ms A c := by
  have hsc := hd.scan (by omega) hs
  obtain ⟨S', hsy, hd'⟩ := JD.syncs (by omega) bss.flatten 0 S hd (fun x hx => (hd.mem hx).2)
  refine (open_any h (nums bss.length) hd.names (nums_in (by omega))).mono ?_
  rintro e w' ⟨jb, A, c, ms, X', he, hm, hXX, hXj, hnj, hjb, hat, hj, hk, hbm⟩
  rw [hsc] at hm hat hj
  rw [hsy] at hat hj
  rw [lastSeq_seqs hs, grN_nums, Int.toNat_natCast] at hj
  refine ⟨jb, A, c, ms, X', S', he, hm, hXX, hnj, hjb, ⟨hat, hXj, by simpa using hj, ⟨hd', rfl, rfl, .inl rfl, rfl, hs⟩⟩, hk, hbm⟩
end
end
section
open Go.RowKit Go.Maps
set_option maxRecDepth 100000
set_option linter.unusedSimpArgs false
set_option linter.unusedVariables false
def jr0 : Jr := ⟨0, 0, 1, false⟩
def aw1 : Bt := ⟨1, 1, [97, 98, 99], 1, 0⟩
theorem aw_new : newB [] jr0 1 [97, 98, 99] = aw1 := by
  unfold newB
  rw [if_neg (fun h => h.1 rfl), if_neg (fun h => h.1 rfl)]
  rfl
theorem aw_add : addB [] jr0 aw1 = [[aw1]] := by
  unfold addB
  rw [if_neg (fun h => h.1 rfl)]
  rfl
theorem LiesP.litm (w : World) (t : TypeId) (cs : List Value) (fr : Nat × Nat) (P : Nat → Prop) (hP : P w.heap.size) : LiesP (w.alloc (.cells cs.toArray t fr)) P (some ⟨w.heap.size, 0, none⟩) cs := by
  refine .inr ⟨w.heap.size, 0, rfl, hP, by simp, fun j x hx => ?_⟩
  rw [World.cell?_alloc_mark w cs.toArray t fr (0 + j), Nat.zero_add]
  simpa using hx
theorem map_one {α β : Type} {f : α → β} {l : List α} {b : β} (h : l.map f = [b]) : ∃ a, l = [a] ∧ f a = b := by
  cases l with
  | nil => cases h
  | cons a r =>
    cases r with
    | nil => exact ⟨a, rfl, by simpa using h⟩
    | cons a' r' => simp at h
theorem aw_flat : ([[aw1]] : List (List Bt)).flatten = [aw1] := rfl
theorem nmJ_12 : nmJ 12 = [106, 48, 48, 48, 48, 49, 50] := by decide
set_option maxHeartbeats 8000000 in
theorem awake8 (W : World) : Calls Tryz.prog 14 #[] W fun e w' => e = .returned (.bool true) ∧ Below W.heap.size W w' := by
  have hn12 := fun w => name_any 12 w (by omega) (fun _ => itoas_small 12 (by omega) w)
  rw [nmJ_12] at hn12
  have HN := Lib.hid hn12
  have hne := fun w => need_any 49 w (by omega)
  have HNE := Lib.hid hne
  clear hn12 hne
  go_enter Tryz.func14, Tryz.ntmps14
  go_upto_region 4 with (go_at_call 10; go_must (refine (at_new 100 _ (by omega)).mono ?_); rintro e w1 ⟨g, rfl, h1⟩; have A1 := Lib.hid h1; clear h1)
  have hop := k_open A1.out (JD.new 100) Seqs.nil (by simp)
  have HOP := Lib.hid hop
  clear hop
  go_upto_region 5 with (go_at_call 11; go_must (refine HOP.out.mono ?_); rintro e w2 ⟨jb, A, c, ms, X2, S2, rfl, hms, hXX, hnj, hjb, hL, hk, hbm⟩; have L2 := Lib.hid hL)
  have hm0 : ms = [] := by
    have := congrArg List.length hms
    exact List.eq_nil_of_length_eq_zero (by simpa using this)
  subst hm0
  clear hms hXX hnj hjb hk hbm hL
  have hL2 : LAt W.heap.size g jb (newDv 100).most X2 W [] S2 jr0 w2 := L2.out
  have L2' := Lib.hid hL2
  clear hL2
  have cvt := Lib.run_convert_bytes_const (P := Tryz.prog) w2 30 5 #[.int .u8 97, .int .u8 98, .int .u8 99] 3 3 Tryz.underlying30 Tryz.underlying5
  obtain ⟨w3, hw3⟩ : ∃ w3, w3 = w2.alloc (.cells #[.int .u8 97, .int .u8 98, .int .u8 99] 5 ((#[Value.int .u8 97, .int .u8 98, .int .u8 99] : Array Value).size, (#[Value.int .u8 97, .int .u8 98, .int .u8 99] : Array Value).size + 1)) := ⟨_, rfl⟩
  have b3 : Below w2.heap.size w2 w3 := by rw [hw3]; exact (Below.refl _ _).alloc (Nat.le_refl _) _
  have l3 := L2'.out.fence b3
  obtain ⟨X3, hX3⟩ : ∃ X3 : Nat → Prop, X3 = fun i => X2 i ∨ (w2.heap.size ≤ i ∧ i < w3.heap.size) := ⟨_, rfl⟩
  rw [← hX3] at l3
  have hb3 : LiesP w3 (fun i => X3 i ∧ i ≠ jb) (some ⟨w2.heap.size, 0, none⟩) (B8 [97, 98, 99]) := by
    have hlt := L2'.out.jlt
    have hP : X3 w2.heap.size ∧ w2.heap.size ≠ jb := ⟨by rw [hX3]; exact .inr ⟨Nat.le_refl _, by rw [hw3]; simp⟩, by omega⟩
    rw [hw3]
    exact LiesP.litm w2 5 [.int .u8 97, .int .u8 98, .int .u8 99] _ _ hP
  have hap := k_append l3 1 (by omega) (some ⟨w2.heap.size, 0, none⟩) 3 [97, 98, 99] hb3 (by simp) (by decide) (by simp) (by simp)
  rw [aw_new, aw_add] at hap
  have HAP := Lib.hid hap
  rw [← hw3] at cvt
  clear hap hb3 l3 b3 hX3 hw3
  go_upto_region 8 with (go_at_call 12; go_must (refine HAP.out.mono ?_); rintro e w4 ⟨A4, c4, X4, S4, rfl, hXX4, hL4, _, hbm4⟩; have L4 := Lib.hid hL4; unfold btV aw1; clear hL4 hXX4 hbm4)
  have hsc := fun (w : World) (hb : Below w4.heap.size w4 w) => (k_scan (L4.out.below hb).at_ L4.out.i.dev L4.out.i.seqs (by simp)).mono (R' := fun e w' => ∃ A5 c5 A6 c6, e = .returned (.slice A5 1 c5) ∧ BmsAt w' (fun i => w.heap.size ≤ i) [⟨aw1, A6, c6⟩] A5 c5 ∧ Below w.heap.size w w') fun e w' ⟨A5, c5, ms5, h1, h2, h3, h4⟩ => by
    obtain ⟨⟨x, A6, c6⟩, h5, h6⟩ := map_one (show ms5.map (·.x) = [aw1] from h2)
    subst h5
    have h6' : x = aw1 := h6
    subst h6'
    exact ⟨A5, c5, A6, c6, h1, h3, h4⟩
  have HSC := Lib.hid hsc
  have hrd : rdP S4 1 0 2 = ([97, 98], 0) := by
    have hw := L4.out.i.dev.whole (by simp) (x := aw1) (by simp)
    have hw' : whP S4 (nmJ 1) 1 0 = (0, aw1) := hw
    unfold rdP
    rw [hw', if_neg (by omega), if_neg (by simp)]
    rfl
  have hre := fun (w : World) (hb : Below w4.heap.size w4 w) => jread_any (L4.out.below hb).at_ 1 (by omega) (fun _ w' => itoas_small 1 (by omega) w') 0 (by omega) 2 (by omega)
  simp only [hrd] at hre
  have HRE := Lib.hid hre
  clear hsc hre hrd cvt
  have W4 : Hid (Below W.heap.size W w4) := Lib.hid L4.out.at_.bel
  have hl4 := Lib.hid L4.out.at_.le
  go_upto_region 10 with (first
    | (go_at_call 19; go_must (refine (HSC.out _ ((Below.refl _ _).alloc (Nat.le_refl _) _)).mono ?_); rintro e w5 ⟨A5, c5, A6, c6, rfl, hbm5, hb5⟩; have BM5 := Lib.hid hbm5; have B5 := Lib.hid (((Below.refl _ w4).alloc (Nat.le_refl _) (.cells #[.int .u64 1, .int .i64 1, .slice A4 3 c4, .int .i64 1, .int .i64 0] 32)).trans (hb5.mono (by simp))); have BX5 := Lib.hid ((Whole.new w4 32 #[.int .u64 1, .int .i64 1, .slice A4 3 c4, .int .i64 1, .int .i64 0]).below hb5 (by simp)); clear hbm5 hb5)
    | (go_at_call 37; go_must (refine (HRE.out _ B5.out).mono ?_); rintro e w6 ⟨A7, c7, rfl, hl7, hb6⟩; have BM6 := Lib.hid (BM5.out.below hb6); have B6 := Lib.hid (B5.out.trans (hb6.mono B5.out.size)); have BX6 := Lib.hid (BX5.out.below hb6 BX5.out.lt); have L7 := Lib.hid hl7; clear hl7 hb6))
  obtain ⟨x0, x1, x2, x3, x4⟩ := BX6.out.five
  obtain ⟨b, o, rfl, _, d0, d1, d2, d3, d4⟩ := lies_bm BM6.out.2.2.1.lies 0 (by simp)
  have b6 := BM6.out.2.2.2 _ (List.mem_singleton.2 rfl)
  have cv1 : (convert 30 9 (.slice A6 3 c6)).run Tryz.prog w6 = .ok (.string ⟨#[97, 98, 99]⟩) w6 := run_octets_string (P := Tryz.prog) 30 9 5 Tryz.underlying30 Tryz.underlying5 Tryz.underlying9 b6.lies c6
  have cv2 : (convert 30 9 (.slice A7 2 c7)).run Tryz.prog w6 = .ok (.string ⟨#[97, 98]⟩) w6 := run_octets_string (P := Tryz.prog) 30 9 5 Tryz.underlying30 Tryz.underlying5 Tryz.underlying9 L7.out.lies c7
  simp only [aw1, List.getElem_cons_zero] at d0 d1 d2 d3 d4
  clear b6
  go_wp2_with (first
    | (go_at_call 16; go_must (refine (HN.out _).mono ?_); rintro e w7 ⟨rfl, hb7⟩; have B7 := Lib.hid (B6.out.trans (hb7.mono B6.out.size)); have L77 := Lib.hid (L4.out.below B7.out); clear hb7)
    | (go_at_call 17; go_must (refine (HNE.out _).mono ?_); rintro e w8 ⟨rfl, rfl⟩)
    | (go_at_call 20; go_must (refine (jseq_any L77.out.j).mono ?_); rintro e w9 ⟨rfl, rfl⟩))
  go_ret
  refine ⟨?_, W4.out.trans (B7.out.mono hl4.out)⟩
  first | rfl | decide | trace_state
end
end Go.Proofs.YtmemdkgoeldemaaGreatDoor
