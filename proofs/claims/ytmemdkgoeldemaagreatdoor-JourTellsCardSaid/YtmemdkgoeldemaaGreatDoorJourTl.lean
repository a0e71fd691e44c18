/- The law on telling: its walk. Plain and memory: batches of a journal rise; rows of lengths that came in; the states of the law on telling; the opening of such rows. -/
import Derived.Test.YtmemdkgoeldemaaGreatDoorJourRd
import Derived.Test.YtmemdkgoeldemaaGreatDoorSectW
import Derived.Deep.Matrix
import Derived.BigQuiet
namespace Go.Proofs.YtmemdkgoeldemaaGreatDoor
open Go.RowKit Go.Maps
set_option maxRecDepth 100000
set_option linter.unusedSimpArgs false
set_option linter.unusedVariables false
/-- one batch stands ahead of another: in an elder file, or further ahead in the same one -/
def Ahd (x y : Bt) : Prop := x.file < y.file ∨ (x.file = y.file ∧ x.pos < y.pos)
theorem row_rise {F : Fil} : ∀ (bs : List Bt) (p : Nat), RowAt F p bs → (∀ x ∈ bs, (p : Int) ≤ x.pos) ∧ bs.Pairwise (fun x y => x.pos < y.pos) := by
  intro bs
  induction bs with
  | nil => intro p _; exact ⟨fun x hx => (by cases hx), List.Pairwise.nil⟩
  | cons y r ih =>
    intro p ⟨_, h2, h3⟩
    obtain ⟨i1, i2⟩ := ih _ h3
    have hn := need_pos y.b.length
    refine ⟨fun x hx => ?_, List.pairwise_cons.2 ⟨fun x hx => ?_, i2⟩⟩
    · rcases List.mem_cons.1 hx with rfl | hx
      · omega
      · have := i1 x hx; omega
    · have := i1 x hx; omega
theorem JD.rise {mo : Nat} {bss : List (List Bt)} {S : Dv} (h : JD mo bss S) : bss.flatten.Pairwise Ahd := by
  obtain ⟨l, _, e1, e2⟩ := h
  have hk : ∀ k (hk : k < bss.length), ∃ F, RowAt F 0 bss[k] ∧ ∀ x ∈ bss[k], x.file = ((k + 1 : Nat) : Int) := fun k hk => by
    obtain ⟨_, a2, a3⟩ := e2 k _ _ (List.getElem?_eq_getElem (show k < l.length by omega)) (List.getElem?_eq_getElem hk)
    exact ⟨_, a2, fun x hx => (a3 x hx).2⟩
  rw [List.pairwise_flatten]
  refine ⟨fun bs hb => ?_, ?_⟩
  · obtain ⟨k, hk1, rfl⟩ := List.getElem_of_mem hb
    obtain ⟨F, h1, h2⟩ := hk k hk1
    refine (row_rise _ 0 h1).2.imp_of_mem fun {x y} hx hy hxy => ?_
    exact .inr ⟨by rw [h2 x hx, h2 y hy], hxy⟩
  · rw [List.pairwise_iff_getElem]
    intro i j hi hj hij x hx y hy
    obtain ⟨_, _, h1⟩ := hk i hi
    obtain ⟨_, _, h2⟩ := hk j hj
    left
    rw [h1 x hx, h2 y hy]
    omega
theorem newB_file {mo : Nat} {bss : List (List Bt)} {S : Dv} {J : Jr} (h : JI mo bss S J) (kind : Int) (b : List UInt8) :
    ∃ f : Nat, (newB bss J kind b).file = (f : Int) ∧ f ≤ (addB bss J (newB bss J kind b)).length ∧ (J.file = 0 → f = bss.length + 1) := by
  unfold newB addB
  by_cases hs : Go.Proofs.YtmemdkgoeldemaaGreatDoor.stays bss J
  · have hp := h.stays hs
    simp only [if_pos hs]
    exact ⟨bss.length, rfl, by simp; omega, fun e => absurd e hs.1⟩
  · simp only [if_neg hs]
    exact ⟨bss.length + 1, rfl, by simp, fun _ => rfl⟩
/-- rows of lengths as they came in -/
def Grid (B : Nat) (W : World) (l : List (List Int)) (A : Option Addr) : Prop :=
  ∃ cs, Lies W B A cs ∧ cs.length = l.length ∧ ∀ i (hi : i < l.length), ∃ A' c', cs[i]? = some (.slice A' l[i].length c') ∧ l[i].length ≤ c' ∧ c' ≤ maxLen ∧ Lies W B A' (cellsZ l[i])
theorem lies_all {W : World} {B : Nat} {A : Option Addr} {cs : List Value} (h : Lies W B A cs) (i : Nat) (hi : i < cs.length) :
    ∃ b o, A = some ⟨b, o, none⟩ ∧ ∀ w x, Below B W w → cs[i]? = some x → w.cell? ⟨b, o + i, none⟩ = some x := by
  rcases h with h | ⟨b, o, rfl, h1, h2⟩
  · subst h
    simp at hi
  · refine ⟨b, o, rfl, fun w x hb hx => ?_⟩
    rw [World.cell?_of_block (w := W) (hb.block b h1)]
    exact h2 i x hx
theorem Grid.row {B : Nat} {W : World} {l : List (List Int)} {A : Option Addr} (h : Grid B W l A) (i : Nat) (hi : i < l.length) :
    ∃ b o A' c', A = some ⟨b, o, none⟩ ∧ (∀ w, Below B W w → w.cell? ⟨b, o + i, none⟩ = some (.slice A' l[i].length c')) ∧ l[i].length ≤ c' ∧ c' ≤ maxLen ∧ Lies W B A' (cellsZ l[i]) := by
  obtain ⟨cs, h1, h2, h3⟩ := h
  obtain ⟨A', c', e1, e2, e3, e4⟩ := h3 i hi
  obtain ⟨b, o, e5, e6⟩ := lies_all h1 i (by omega)
  exact ⟨b, o, A', c', e5, fun w hb => e6 w _ hb e1, e2, e3, e4⟩
theorem zs_row {B : Nat} {W : World} {l : List Int} {A : Option Addr} (h : Lies W B A (cellsZ l)) (i : Nat) (hi : i < l.length) :
    ∃ b o, A = some ⟨b, o, none⟩ ∧ ∀ w, Below B W w → w.cell? ⟨b, o + i, none⟩ = some (.int .i64 (l.getD i 0)) := by
  obtain ⟨b, o, e, h2⟩ := lies_all h i (by simpa [cellsZ] using hi)
  exact ⟨b, o, e, fun w hb => h2 w _ hb (by simp [cellsZ, List.getD, hi])⟩
/-- between two starts -/
def TeOut (W : World) (g L : Nat) (v4 v5 v6 : Value) (wr : World) : Prop :=
  ∃ (i : Nat) (X : Nat → Prop) (bss : List (List Bt)) (S : Dv) (f : Nat), i ≤ L ∧ i ≤ 6 ∧ At W.heap.size X W g S wr ∧ JD 20000 bss S ∧ Seqs bss.flatten ∧ v4 = .int .u64 (bss.flatten.length : Int) ∧ v5 = .int .i64 (f : Int) ∧ v6 = .int .i64 (i : Int) ∧
    f ≤ bss.length ∧ bss.length ≤ 8 * i ∧ bss.flatten.length ≤ 8 * i ∧ needss bss ≤ 176 * i
/-- behind k batches of a start -/
def TeIn (W : World) (g jb i n : Nat) (v4 v5 v9 : Value) (wr : World) : Prop :=
  ∃ (k : Nat) (X : Nat → Prop) (bss : List (List Bt)) (S : Dv) (J : Jr) (f : Nat), k ≤ n ∧ k ≤ 8 ∧ LAt W.heap.size g jb 20000 X W bss S J wr ∧ v4 = .int .u64 (bss.flatten.length : Int) ∧ v5 = .int .i64 (f : Int) ∧ v9 = .int .i64 (k : Int) ∧
    f ≤ bss.length ∧ (k = 0 → J.file = 0) ∧ bss.length ≤ 8 * i + k ∧ bss.flatten.length ≤ 8 * i + k ∧ needss bss ≤ 176 * i + 22 * k
/-- a batch was appended: its box, and what stands -/
def TeCut (W : World) (g jb : Nat) (bss : List (List Bt)) (J : Jr) (kd : Int) (n : Nat) (v10 v11 : Value) (wx : World) : Prop :=
  ∃ (bx : Nat) (X : Nat → Prop) (S : Dv) (lb : List UInt8) (A : Option Addr) (c : Nat), v10 = .pointer (some ⟨bx, 0, none⟩) ∧ v11 = .int .i64 0 ∧ lb.length = n ∧ LAt W.heap.size g jb 20000 X W (addB bss J (newB bss J kd lb)) S (newJ bss J) wx ∧
    Whole wx bx 32 #[.int .u64 ((newB bss J kd lb).seq : Int), .int .i64 ((newB bss J kd lb).kind : Int), .slice A (newB bss J kd lb).b.length c, .int .i64 (newB bss J kd lb).file, .int .i64 (newB bss J kd lb).pos]
section
open Go.ChangeShapes Go.WideShapes
theorem addr_add (b o j : Nat) : (⟨b, o, none⟩ : Addr).add j = ⟨b, o + j, none⟩ := by unfold Addr.add; split <;> simp_all
/-- a row of cells as they came in lies where it lies -/
theorem lies_open {w : World} {a : Addr} {xs : List Value} (h : ∀ i (hi : i < xs.length), w.cell? (a.add i) = some xs[i]) : Lies w w.heap.size (some a) xs := by
  obtain ⟨b, o, spot⟩ := a
  rcases Nat.eq_zero_or_pos xs.length with h0 | h0
  · exact .inl (List.eq_nil_of_length_eq_zero h0)
  · have hc0 := h 0 h0
    have hspot : spot = none := by simpa [Addr.add] using World.cell?_spot hc0
    subst hspot
    rw [addr_add] at hc0
    refine .inr ⟨b, o, rfl, World.block_lt_of_cell? w ⟨b, o + 0, none⟩ hc0, fun j u hu => ?_⟩
    obtain ⟨hj, e⟩ := List.getElem?_eq_some_iff.1 hu
    have hc := h j hj
    rw [addr_add, e] at hc
    exact hc
theorem open_grid {H : Type} {enc : TypeId × Value → H} {w : World} {base : Nat} {held : Bool} {fuel : Nat} {cs : List Value} {x : DataW H × List MemPlace} (h : DataW.trod enc Tryz.prog w base (fun _ => true) held fuel 45 cs = some x) :
    ∃ (a : Option Addr) (l : List (List Int)) (cap : Nat), cs = [.slice a l.length cap] ∧ l.length ≤ cap ∧ cap ≤ maxLen ∧ Grid w.heap.size w l a := by
  rcases Go.Deep.open_int_rows Tryz.underlying45 Tryz.underlying22 Tryz.underlying3 (by kernel_rfl) (by kernel_rfl) h with ⟨rfl, _⟩ | ⟨a, len, cap, A, L, C, Z, rfl, _, h1, h2, _, h3⟩
  · exact ⟨none, [], 0, rfl, Nat.le_refl _, Nat.zero_le _, [], Lies.empty _ _ _, rfl, fun i hi => by simp at hi⟩
  · have hl : ((List.range len).map fun r => (Z r).take (L r)).length = len := by simp
    refine ⟨some a, (List.range len).map fun r => (Z r).take (L r), cap, by rw [hl], by omega, h2, (List.range len).map fun r => .slice (A r) (L r) (C r), ?_, by simp, fun i hi => ?_⟩
    · refine lies_open fun i hi => ?_
      simp at hi
      rw [(h3 i (by omega)).1]
      simp
    · rw [hl] at hi
      obtain ⟨g1, g2, g3, g4, g5, g6, g7⟩ := h3 i (by omega)
      have e : (((List.range len).map fun r => (Z r).take (L r))[i]'(by rw [hl]; exact hi)) = (Z i).take (L i) := by simp
      have el : ((Z i).take (L i)).length = L i := by rw [List.length_take]; omega
      rw [e, el]
      refine ⟨A i, C i, by simp [hi], g2, g3, ?_⟩
      cases hA : A i with
      | none =>
        have := g6 hA
        have h0 : (Z i).take (L i) = [] := by apply List.eq_nil_of_length_eq_zero; omega
        rw [h0]
        exact .inl rfl
      | some a' =>
        obtain ⟨_, g8⟩ := g7 a' hA
        refine lies_open fun j hj => ?_
        have hj' : j < L i := by have := hj; simp only [cellsZ, List.length_map] at this; omega
        rw [g8 j (by omega)]
        have : j < (Z i).length := by omega
        simp [cellsZ, List.getD, this]
end
theorem te_put {B g jb mo bx : Nat} {X : Nat → Prop} {w0 W : World} {bss : List (List Bt)} {S : Dv} {J : Jr} (h : LAt B g jb mo X w0 bss S J W) (hx : X bx) (hn : bx ≠ jb) (u0 u1 u2 u3 u4 : Value) :
    LAt B g jb mo X w0 bss S J (((((W.setCell ⟨bx, 0, none⟩ u0).setCell ⟨bx, 1, none⟩ u1).setCell ⟨bx, 2, none⟩ u2).setCell ⟨bx, 3, none⟩ u3).setCell ⟨bx, 4, none⟩ u4) :=
  ⟨((((h.at_.cell bx 0 hx u0).cell bx 1 hx u1).cell bx 2 hx u2).cell bx 3 hx u3).cell bx 4 hx u4, h.x, (other_put5 (Ne.symm hn) u0 u1 u2 u3 u4).trans h.j, h.i⟩
theorem below_drewN8 {B : Nat} {w w' : World} (h : Below B w w') : ∀ q, Below B w (w'.drewN q) := by
  intro q
  induction q with
  | zero => exact h
  | succ q ih => exact ih.drew
theorem need_1023 {n : Nat} (h : n ≤ 1023) : need n ≤ 22 := by unfold need; split <;> omega
set_option maxHeartbeats 40000000 in
theorem tells_law (l : List (List Int)) (A : Option Addr) (cap : Nat) (W : World) (hc1 : l.length ≤ cap) (hc2 : cap ≤ maxLen) (hl : Grid W.heap.size W l A) :
    Calls Tryz.prog 4 #[.slice A l.length cap] W fun e w' => e = .returned (.bool true) ∧ Below W.heap.size W w' := by
  have hmo : (newDv (20000 : Int)).most = 20000 := rfl
  have hlm : l.length ≤ maxLen := Nat.le_trans hc1 hc2
  unfold maxLen at hlm hc2
  have HL := Lib.hid hl
  have HMO := Lib.hid hmo
  clear hmo hl
  go_enter Tryz.func4, Tryz.ntmps4
  go_upto_region 4 with (go_at_call 10; go_must (refine (at_new (20000 : Int) _ (by omega)).mono ?_); rintro e w1 ⟨g, rfl, h1⟩; have A1 := Lib.hid h1; clear h1)
  have JD0 := Lib.hid (JD.new (20000 : Int))
  rw [HMO.out] at JD0
  go_wp2_with fail
  go_loopw [4, 5, 6] (fun v4 v5 v6 wr => TeOut W g l.length v4 v5 v6 wr) (fun _ _ v6 _ => 6 - (intOf v6).toNat)
  case atStart => exact ⟨0, _, [], newDv 20000, 0, Nat.zero_le _, by omega, A1.out, JD0.out, Seqs.nil, rfl, rfl, rfl, by simp, by simp, by simp, by simp [needss]⟩
  case round =>
    obtain ⟨i, X, bss, S, f, hi1, hi2, hA, hD, hS, rfl, rfl, rfl, hf, hb1, hb2, hb3⟩ := hrel
    obtain ⟨w1, hw1⟩ : ∃ w1 : World, w1 = wr := ⟨_, rfl⟩
    subst hw1
    have AA := Lib.hid hA
    have DD := Lib.hid hD
    have SS := Lib.hid hS
    obtain ⟨q, hq⟩ : ∃ q, bss.flatten.length = q := ⟨_, rfl⟩
    rw [hq] at hb2
    rw [hq]
    have BD := Lib.hid (show f ≤ bss.length ∧ bss.length ≤ 8 * i ∧ q ≤ 8 * i ∧ needss bss ≤ 176 * i from ⟨hf, hb1, hb2, hb3⟩)
    have HQ := Lib.hid hq
    clear hA hD hS hf hb1 hb2 hb3 hq
    by_cases hlt : i < l.length ∧ i < 6
    · obtain ⟨hl1, hl2⟩ := hlt
      have hg1 : (i : Int) < (l.length : Int) := by omega
      have hg2 : (i : Int) < 6 := by omega
      obtain ⟨b, o, Ai, ci, rfl, hcell, hn1, hn2, hrow⟩ := HL.out.row i hl1
      obtain ⟨r, hr⟩ : ∃ r, r = l[i] := ⟨_, rfl⟩
      rw [← hr] at hcell hn1 hrow
      obtain ⟨n, hn⟩ : ∃ n, n = r.length := ⟨_, rfl⟩
      rw [← hn] at hcell hn1
      have HC := Lib.hid hcell
      have HR := Lib.hid hrow
      have HN := Lib.hid hn
      unfold maxLen at hn2
      have hqb : q ≤ 8 * i := BD.out.2.2.1
      clear hr hcell hrow hn
      have hop := k_open AA.out DD.out SS.out (by have := BD.out; omega)
      obtain ⟨J2, hJ2⟩ : ∃ J2 : Jr, J2 = ⟨bss.flatten.length, 0, bss.length + 1, false⟩ := ⟨_, rfl⟩
      rw [← hJ2] at hop
      have J2q : Hid (J2.seq = q) := Lib.hid (by rw [hJ2, ← HQ.out])
      have J2f : Hid (J2.file = 0) := Lib.hid (by rw [hJ2])
      have HOP := Lib.hid hop
      clear hop hJ2
      go_upto_region 9 with (go_at_call 11; go_must (refine HOP.out.mono ?_); rintro e w2 ⟨jb, A2, c2, ms, X2, S2, rfl, hms, hXX, hnj, hjb, hL, hk, hbm⟩; have L2 := Lib.hid hL; have hml := congrArg List.length hms; clear hms hXX hnj hjb hL hk hbm)
      rw [List.length_map, HQ.out] at hml
      rw [hml]
      have HSE : Hid (Calls Tryz.prog 20 #[ptr jb] w2 fun e w' => e = .returned (.int .u64 (q : Int)) ∧ w2 = w') := Lib.hid (by have := jseq_any L2.out.j; rw [J2q.out] at this; exact this)
      have HFI : Hid (Calls Tryz.prog 21 #[ptr jb] w2 fun e w' => e = .returned (.int .i64 0) ∧ w2 = w') := Lib.hid (by have := jfile_any L2.out.j; rw [J2f.out] at this; exact this)
      have hqw : IntKind.u64.wrap (q : Int) = (q : Int) := IntWalk.u64_in _ ⟨by omega, by omega⟩
      clear hml HOP
      go_wp2_with (first
        | (go_at_call 20; go_must (refine HSE.out.mono ?_); rintro e w3 ⟨rfl, rfl⟩)
        | (go_at_call 21; go_must (refine HFI.out.mono ?_); rintro e w4 ⟨rfl, rfl⟩))
      go_loopw [4, 5, 9] (fun v4 v5 v9 wr => TeIn W g jb i n v4 v5 v9 wr) (fun _ _ v9 _ => 8 - (intOf v9).toNat)
      case atStart => exact ⟨0, X2, bss, S2, J2, f, Nat.zero_le _, Nat.zero_le _, L2.out, by rw [HQ.out], rfl, rfl, BD.out.1, fun _ => J2f.out, BD.out.2.1, by rw [HQ.out]; exact BD.out.2.2.1, BD.out.2.2.2⟩
      case round =>
        clear HSE HFI L2 J2q J2f AA DD SS BD HQ hqb hqw
        obtain ⟨k, X, bss, S, J, f, hk1, hk2, hL, rfl, rfl, rfl, hf, hj0, hb1, hb2, hb3⟩ := hrel
        have LL := Lib.hid hL
        have hcl := HC.out wr hL.at_.bel
        have HJ0 := Lib.hid hj0
        obtain ⟨q, hq⟩ : ∃ q, bss.flatten.length = q := ⟨_, rfl⟩
        rw [hq] at hb2
        rw [hq]
        have BD := Lib.hid (show f ≤ bss.length ∧ bss.length ≤ 8 * i + k ∧ q ≤ 8 * i + k ∧ needss bss ≤ 176 * i + 22 * k from ⟨hf, hb1, hb2, hb3⟩)
        have HQ := Lib.hid hq
        have hqb : q ≤ 8 * i + k := hb2
        clear hL hf hj0 hb1 hb2 hb3 hq
        by_cases hkn : k < n ∧ k < 8
        · obtain ⟨hk3, hk4⟩ := hkn
          have hg3 : (k : Int) < (n : Int) := by omega
          have hg4 : (k : Int) < 8 := by omega
          obtain ⟨b2, o2, rfl, hv⟩ := zs_row HR.out k (by rw [← HN.out]; exact hk3)
          obtain ⟨v, hv'⟩ : ∃ v, v = r.getD k 0 := ⟨_, rfl⟩
          rw [← hv'] at hv
          have HV := Lib.hid hv
          clear hv hv'
          obtain ⟨nn, hnn, _, hne⟩ := mask_is v 1023 10 (by omega) (by decide)
          have hnn' : nn < 1024 := hnn
          obtain ⟨kb, hkb, _, hke⟩ := mask_is (v / 4096) 1 1 (by omega) (by decide)
          have hkb' : kb < 2 := hkb
          obtain ⟨kd, hkd⟩ : ∃ kd : Int, kd = 1 + (kb : Int) := ⟨_, rfl⟩
          have hkw : IntKind.i64.wrap (1 + (kb : Int)) = kd := by rw [hkd]; exact IntWalk.i64_in _ ⟨by omega, by omega⟩
          have hkr : 1 ≤ kd ∧ kd ≤ 255 := by omega
          have HKR := Lib.hid hkr
          have hnd : need nn ≤ 22 := need_1023 (by omega)
          have HOC := Lib.hid (fun w => octets_any nn (by omega) (k : Int) ⟨by omega, by omega⟩ w)
          have HND := Lib.hid hnd
          have hap := fun (X3 : Nat → Prop) (w : World) (A3 : Option Addr) (c3 : Nat) (lb : List UInt8) (hlb : lb.length = nn) (h : LAt W.heap.size g jb 20000 X3 W bss S J w) (hl : LiesP w (fun i => X3 i ∧ i ≠ jb) A3 (B8 lb)) => k_append h kd HKR.out A3 c3 lb hl (by omega) (by rw [hlb]; have := BD.out; have := HND.out; omega) (by have := BD.out; omega) (by rw [HQ.out]; omega)
          have HAP := Lib.hid hap
          clear hap hnn hnd hkb hkr hkd
          go_upto_region 14 with fail
          go_cut [10, 11] from 52 to 111 (fun v10 v11 wx => TeCut W g jb bss J kd nn v10 v11 wx)
          case first =>
            refine wp_region_held_drew (S := fun w' => w'.cell? ⟨b, o + i, none⟩ = some (.slice (some ⟨b2, o2, none⟩) n ci) ∧ w'.cell? ⟨b2, o2 + k, none⟩ = some (.int .i64 v)) (by kernel_rfl) ⟨HC.out wr LL.out.at_.bel, HV.out wr LL.out.at_.bel⟩ (fun hS0 => ?_)
            refine wpAnyH_take (i := 0) (oi := ⟨some 66, _, _, _, _, _⟩) (v := ?_) rfl (by kernel_rfl) (by kernel_rfl) (by kernel_rfl) (fun _ _ _ h => h) (Or.inl ⟨by rfl, ?_⟩) hS0 ?_
            rotate_left
            · (intro wS hSw; (try dsimp only at hSw); go_simp); all_goals (with_reducible rfl)
            try simp only [Act.put, List.setIfInBounds_toArray, List.set_cons_zero, List.set_cons_succ]
            refine wpAnyH_take (i := 1) (oi := ⟨some 67, _, _, _, _, _⟩) (v := ?_) rfl (by kernel_rfl) (by kernel_rfl) (by kernel_rfl) (fun _ _ _ h => h) (Or.inl ⟨by rfl, ?_⟩) hS0 ?_
            rotate_left
            · (intro wS hSw; (try dsimp only at hSw); go_simp); all_goals (with_reducible rfl)
            try simp only [Act.put, List.setIfInBounds_toArray, List.set_cons_zero, List.set_cons_succ]
            refine wpAnyH_take (i := 2) (oi := ⟨some 68, _, _, _, _, _⟩) (v := ?_) rfl (by kernel_rfl) (by kernel_rfl) (by kernel_rfl) (fun _ _ _ h => h) (Or.inl ⟨by rfl, ?_⟩) hS0 ?_
            rotate_left
            · (intro wS hSw; (try dsimp only at hSw); go_simp); all_goals (with_reducible rfl)
            try simp only [Act.put, List.setIfInBounds_toArray, List.set_cons_zero, List.set_cons_succ]
            refine wpAnyH_take (i := 3) (oi := ⟨some 69, _, _, _, _, _⟩) (v := ?_) rfl (by kernel_rfl) (by kernel_rfl) (by kernel_rfl) (fun _ _ _ h => h) (Or.inl ⟨by rfl, ?_⟩) hS0 ?_
            rotate_left
            · (intro wS hSw; (try dsimp only at hSw); go_simp); all_goals (with_reducible rfl)
            try simp only [Act.put, List.setIfInBounds_toArray, List.set_cons_zero, List.set_cons_succ]
            refine wpAnyH_take (i := 4) (oi := ⟨some 70, _, _, _, _, _⟩) (v := ?_) rfl (by kernel_rfl) (by kernel_rfl) (by kernel_rfl) (fun _ _ _ h => h) (Or.inl ⟨by rfl, ?_⟩) hS0 ?_
            rotate_left
            · (intro wS hSw; (try dsimp only at hSw); go_simp); all_goals (with_reducible rfl)
            try simp only [Act.put, List.setIfInBounds_toArray, List.set_cons_zero, List.set_cons_succ]
            refine wpAnyH_take (i := 5) (oi := ⟨some 71, _, _, _, _, _⟩) (v := ?_) rfl (by kernel_rfl) (by kernel_rfl) (by kernel_rfl) (fun _ _ _ h => h) (Or.inl ⟨by rfl, ?_⟩) hS0 ?_
            rotate_left
            · (intro wS hSw; (try dsimp only at hSw); go_simp); all_goals (with_reducible rfl)
            try simp only [Act.put, List.setIfInBounds_toArray, List.set_cons_zero, List.set_cons_succ]
            refine wpAnyH_take (i := 6) (oi := ⟨some 72, _, _, _, _, _⟩) (v := ?_) rfl (by kernel_rfl) (by kernel_rfl) (by kernel_rfl) (fun _ _ _ h => h) (Or.inl ⟨by rfl, ?_⟩) hS0 ?_
            rotate_left
            · (intro wS hSw; (try dsimp only at hSw); go_simp); all_goals (with_reducible rfl)
            try simp only [Act.put, List.setIfInBounds_toArray, List.set_cons_zero, List.set_cons_succ]
            refine wpAnyH_take (i := 7) (oi := ⟨some 73, _, _, _, _, _⟩) (v := ?_) rfl (by kernel_rfl) (by kernel_rfl) (by kernel_rfl) (fun _ _ _ h => h) (Or.inl ⟨by rfl, ?_⟩) hS0 ?_
            rotate_left
            · (intro wS hSw; (try dsimp only at hSw); go_simp); all_goals (with_reducible rfl)
            try simp only [Act.put, List.setIfInBounds_toArray, List.set_cons_zero, List.set_cons_succ]
            refine wpAnyH_take (i := 8) (oi := ⟨some 74, _, _, _, _, _⟩) (v := ?_) rfl (by kernel_rfl) (by kernel_rfl) (by kernel_rfl) (fun _ _ _ h => h) (Or.inl ⟨by rfl, ?_⟩) hS0 ?_
            rotate_left
            · (intro wS hSw; (try dsimp only at hSw); go_simp); all_goals (with_reducible rfl)
            try simp only [Act.put, List.setIfInBounds_toArray, List.set_cons_zero, List.set_cons_succ]
            refine wpAnyH_take (i := 9) (oi := ⟨some 75, _, _, _, _, _⟩) (v := ?_) rfl (by kernel_rfl) (by kernel_rfl) (by kernel_rfl) (fun _ _ _ h => h) (Or.inl ⟨by rfl, ?_⟩) hS0 ?_
            rotate_left
            · (intro wS hSw; (try dsimp only at hSw); go_simp); all_goals (with_reducible rfl)
            try simp only [Act.put, List.setIfInBounds_toArray, List.set_cons_zero, List.set_cons_succ]
            refine wpAnyH_take (i := 10) (oi := ⟨some 76, _, _, _, _, _⟩) (v := ?_) rfl (by kernel_rfl) (by kernel_rfl) (by kernel_rfl) (fun _ _ _ h => h) (Or.inl ⟨by rfl, ?_⟩) hS0 ?_
            rotate_left
            · (intro wS hSw; (try dsimp only at hSw); go_simp); all_goals (with_reducible rfl)
            try simp only [Act.put, List.setIfInBounds_toArray, List.set_cons_zero, List.set_cons_succ]
            refine wpAnyH_take (i := 11) (oi := ⟨some 77, _, _, _, _, _⟩) (v := ?_) rfl (by kernel_rfl) (by kernel_rfl) (by kernel_rfl) (fun _ _ _ h => h) (Or.inl ⟨by rfl, ?_⟩) hS0 ?_
            rotate_left
            · (intro wS hSw; (try dsimp only at hSw); go_simp); all_goals (with_reducible rfl)
            try simp only [Act.put, List.setIfInBounds_toArray, List.set_cons_zero, List.set_cons_succ]
            refine wpAnyH_take (i := 12) (oi := ⟨some 78, _, _, _, _, _⟩) (v := ?_) rfl (by kernel_rfl) (by kernel_rfl) (by kernel_rfl) (fun _ _ _ h => h) (Or.inl ⟨by rfl, ?_⟩) hS0 ?_
            rotate_left
            · (intro wS hSw; (try dsimp only at hSw); go_simp); all_goals (with_reducible rfl)
            try simp only [Act.put, List.setIfInBounds_toArray, List.set_cons_zero, List.set_cons_succ]
            refine wpAnyH_take (i := 13) (oi := ⟨some 79, _, _, _, _, _⟩) (v := ?_) rfl (by kernel_rfl) (by kernel_rfl) (by kernel_rfl) (fun _ _ _ h => h) (Or.inl ⟨by rfl, ?_⟩) hS0 ?_
            rotate_left
            · (intro wS hSw; (try dsimp only at hSw); go_simp); all_goals (with_reducible rfl)
            try simp only [Act.put, List.setIfInBounds_toArray, List.set_cons_zero, List.set_cons_succ]
            refine wpAnyH_take (i := 14) (oi := ⟨some 80, _, _, _, _, _⟩) (v := ?_) rfl (by kernel_rfl) (by kernel_rfl) (by kernel_rfl) (fun _ _ _ h => h) (Or.inl ⟨by rfl, ?_⟩) hS0 ?_
            rotate_left
            · (intro wS hSw; (try dsimp only at hSw); go_simp); all_goals (with_reducible rfl)
            try simp only [Act.put, List.setIfInBounds_toArray, List.set_cons_zero, List.set_cons_succ]
            refine wpAnyH_take (i := 15) (oi := ⟨some 81, _, _, _, _, _⟩) (v := ?_) rfl (by kernel_rfl) (by kernel_rfl) (by kernel_rfl) (fun _ _ _ h => h) (Or.inl ⟨by rfl, ?_⟩) hS0 ?_
            rotate_left
            · (intro wS hSw; (try dsimp only at hSw); go_simp); all_goals (with_reducible rfl)
            try simp only [Act.put, List.setIfInBounds_toArray, List.set_cons_zero, List.set_cons_succ]
            refine wpAnyH_take (i := 16) (oi := ⟨some 82, _, _, _, _, _⟩) (v := ?_) rfl (by kernel_rfl) (by kernel_rfl) (by kernel_rfl) (fun _ _ _ h => h) (Or.inl ⟨by rfl, ?_⟩) hS0 ?_
            rotate_left
            · (intro wS hSw; (try dsimp only at hSw); go_simp); all_goals (with_reducible rfl)
            try simp only [Act.put, List.setIfInBounds_toArray, List.set_cons_zero, List.set_cons_succ]
            refine wpAnyH_take (i := 17) (oi := ⟨some 83, _, _, _, _, _⟩) (v := ?_) rfl (by kernel_rfl) (by kernel_rfl) (by kernel_rfl) (fun _ _ _ h => h) (Or.inl ⟨by rfl, ?_⟩) hS0 ?_
            rotate_left
            · (intro wS hSw; (try dsimp only at hSw); go_simp); all_goals (with_reducible rfl)
            try simp only [Act.put, List.setIfInBounds_toArray, List.set_cons_zero, List.set_cons_succ]
            refine wpAnyH_take (i := 18) (oi := ⟨some 84, _, _, _, _, _⟩) (v := ?_) rfl (by kernel_rfl) (by kernel_rfl) (by kernel_rfl) (fun _ _ _ h => h) (Or.inl ⟨by rfl, ?_⟩) hS0 ?_
            rotate_left
            · (intro wS hSw; (try dsimp only at hSw); go_simp); all_goals (with_reducible rfl)
            try simp only [Act.put, List.setIfInBounds_toArray, List.set_cons_zero, List.set_cons_succ]
            refine wpAnyH_take (i := 19) (oi := ⟨some 85, _, _, _, _, _⟩) (v := ?_) rfl (by kernel_rfl) (by kernel_rfl) (by kernel_rfl) (fun _ _ _ h => h) (Or.inl ⟨by rfl, ?_⟩) hS0 ?_
            rotate_left
            · (intro wS hSw; (try dsimp only at hSw); go_simp); all_goals (with_reducible rfl)
            try simp only [Act.put, List.setIfInBounds_toArray, List.set_cons_zero, List.set_cons_succ]
            obtain ⟨wd, hwd⟩ : ∃ wd, wd = wr.drew := ⟨_, rfl⟩
            have DD : Hid (LAt W.heap.size g jb 20000 X W bss S J wd) := Lib.hid (by rw [hwd]; exact ⟨LL.out.at_.drewN 1, LL.out.x, LL.out.j, LL.out.i⟩)
            rw [← hwd] at hS0 ⊢
            clear hwd
            refine wpAnyH_ready (rs := [20, 25]) (by kernel_rfl) (by simp) ?_
            refine (AllReadyH.cons (o := ⟨some 86, _, _, _, _, _⟩) rfl (fun K hK => ?_) (AllReadyH.cons (o := ⟨some 10, _, _, _, _, _⟩) rfl (fun K hK => ?_) AllReadyH.nil))
            · go_simp
              refine (HOC.out wd).mono ?_
              rintro e w3 ⟨A3, c3, lb, rfl, hlb, ho3, hb3⟩
              obtain ⟨X3, hXX3, l3, lb3⟩ := oct_ready DD.out ho3 hb3
              have D3 := Lib.hid l3
              have L3 := Lib.hid lb3
              have HLB := Lib.hid hlb
              clear hlb ho3 hb3 l3 lb3 hXX3
              go_wp2_with fail
              refine hK.out _ _ ⟨HC.out _ D3.out.at_.bel, HV.out _ D3.out.at_.bel⟩ (fun hS1 => ?_)
              clear hK K
              try simp only [Act.put, List.setIfInBounds_toArray, List.set_cons_zero, List.set_cons_succ]
              refine wpAnyH_ready (rs := [21, 25]) (by kernel_rfl) (by simp) ?_
              refine (AllReadyH.cons (o := ⟨some 87, _, _, _, _, _⟩) rfl (fun K hK => ?_) (AllReadyH.cons (o := ⟨some 10, _, _, _, _, _⟩) rfl (fun K hK => ?_) AllReadyH.nil))
              · go_simp
                refine (HAP.out X3 w3 A3 c3 lb HLB.out D3.out L3.out).mono ?_
                rintro e w4 ⟨A4, c4, X4, S4, rfl, hXX4, hL4, hk4, hbm4⟩
                unfold btV
                have D4 := Lib.hid hL4
                clear hL4 hXX4 hk4 hbm4
                go_wp2_with fail
                refine hK.out _ _ ⟨HC.out _ D4.out.at_.bel, HV.out _ D4.out.at_.bel⟩ (fun hS2 => ?_)
                clear hK K
                try simp only [Act.put, List.setIfInBounds_toArray, List.set_cons_zero, List.set_cons_succ]
                refine wpAnyH_take (i := 22) (oi := ⟨some 65, _, _, _, _, _⟩) (v := ?_) rfl (by kernel_rfl) (by kernel_rfl) (by kernel_rfl) (fun _ _ _ h => h) (Or.inl ⟨by rfl, ?_⟩) hS2 ?_
                rotate_left
                · (intro wS hSw; (try dsimp only at hSw); go_simp); all_goals (with_reducible rfl)
                try simp only [Act.put, List.setIfInBounds_toArray, List.set_cons_zero, List.set_cons_succ]
                refine wpAnyH_take (i := 23) (oi := ⟨some 88, _, _, _, _, _⟩) (v := ?_) rfl (by kernel_rfl) (by kernel_rfl) (by kernel_rfl) (fun _ _ _ h => h) (Or.inl ⟨by rfl, ?_⟩) hS2 ?_
                rotate_left
                · (intro wS hSw; (try dsimp only at hSw); go_simp); all_goals (with_reducible rfl)
                try simp only [Act.put, List.setIfInBounds_toArray, List.set_cons_zero, List.set_cons_succ]
                refine wpAnyH_take (i := 24) (oi := ⟨some 89, _, _, _, _, _⟩) (v := ?_) rfl (by kernel_rfl) (by kernel_rfl) (by kernel_rfl) (fun _ _ _ h => h) (Or.inl ⟨by rfl, ?_⟩) hS2 ?_
                rotate_left
                · (intro wS hSw; (try dsimp only at hSw); go_simp); all_goals (with_reducible rfl)
                try simp only [Act.put, List.setIfInBounds_toArray, List.set_cons_zero, List.set_cons_succ]
                refine wpAnyH_ready (rs := [25]) (by kernel_rfl) (by simp) ?_
                refine (AllReadyH.cons (o := ⟨some 10, _, _, _, _, _⟩) rfl (fun K hK => ?_) AllReadyH.nil)
                · go_simp
                  have DN3 := Lib.hid (D4.out.fence (((Below.refl _ _).alloc (Nat.le_refl _) (.cells #[.int .u64 0, .int .i64 0, .slice none 0 0, .int .i64 0, .int .i64 0] 32)) : Below w4.heap.size w4 (w4.alloc (.cells #[.int .u64 0, .int .i64 0, .slice none 0 0, .int .i64 0, .int .i64 0] 32))))
                  have ZN3 : Hid (Whole (w4.alloc (.cells #[.int .u64 0, .int .i64 0, .slice none 0 0, .int .i64 0, .int .i64 0] 32)) w4.heap.size 32 #[.int .u64 0, .int .i64 0, .slice none 0 0, .int .i64 0, .int .i64 0]) := Lib.hid (Whole.new _ _ _)
                  go_wp2_with fail
                  refine hK.out _ _ ⟨HC.out _ DN3.out.at_.bel, HV.out _ DN3.out.at_.bel⟩ (fun hS3 => ?_)
                  clear hK K
                  try simp only [Act.put, List.setIfInBounds_toArray, List.set_cons_zero, List.set_cons_succ]
                  obtain ⟨X3, hX3⟩ : ∃ Y : Nat → Prop, Y = fun i => X4 i ∨ (w4.heap.size ≤ i ∧ i < (w4.alloc (.cells #[.int .u64 0, .int .i64 0, .slice none 0 0, .int .i64 0, .int .i64 0] 32)).heap.size) := ⟨_, rfl⟩
                  rw [← hX3] at DN3
                  have IN3 : Hid (X3 w4.heap.size) := Lib.hid (by rw [hX3]; exact .inr ⟨Nat.le_refl _, by simp⟩)
                  have NJ3 : Hid (w4.heap.size ≠ jb) := Lib.hid (by have := D4.out.jlt; omega)
                  obtain ⟨wn3, hwn3⟩ : ∃ wn, wn = w4.alloc (.cells #[.int .u64 0, .int .i64 0, .slice none 0 0, .int .i64 0, .int .i64 0] 32) := ⟨_, rfl⟩
                  obtain ⟨bx, hbx⟩ : ∃ bx, bx = w4.heap.size := ⟨_, rfl⟩
                  rw [← hwn3] at hS3 DN3 ZN3 ⊢
                  rw [← hbx] at ZN3 IN3 NJ3 ⊢
                  clear hwn3 hbx hX3
                  refine wpAnyH_ready (rs := [26]) (by kernel_rfl) (by simp) ?_
                  refine (AllReadyH.cons (o := ⟨none, _, _, _, _, _⟩) rfl (fun K hK => ?_) AllReadyH.nil)
                  · obtain ⟨y0, y1, y2, y3, y4⟩ := ZN3.out.five
                    have yf := Whole.frozen ZN3.out
                    have FIN : Hid (TeCut W g jb bss J kd nn (.pointer (some ⟨bx, 0, none⟩)) (.int .i64 0) _) := Lib.hid ⟨bx, X3, S4, lb, A4, c4, rfl, rfl, HLB.out, te_put DN3.out IN3.out NJ3.out (.int .u64 ((newB bss J kd lb).seq : Int)) (.int .i64 ((newB bss J kd lb).kind : Int)) (.slice A4 (newB bss J kd lb).b.length c4) (.int .i64 (newB bss J kd lb).file) (.int .i64 (newB bss J kd lb).pos), ZN3.out.put5 _ _ _ _ _⟩
                    have DF := Lib.hid (te_put DN3.out IN3.out NJ3.out (.int .u64 ((newB bss J kd lb).seq : Int)) (.int .i64 ((newB bss J kd lb).kind : Int)) (.slice A4 (newB bss J kd lb).b.length c4) (.int .i64 (newB bss J kd lb).file) (.int .i64 (newB bss J kd lb).pos))
                    go_simp
                    go_wp2_with fail
                    refine hK.out _ _ ⟨HC.out _ DF.out.at_.bel, HV.out _ DF.out.at_.bel⟩ (fun hS4 => ?_)
                    clear hK K
                    try simp only [Act.put, List.setIfInBounds_toArray, List.set_cons_zero, List.set_cons_succ]
                    refine wpAnyH_take (i := 27) (oi := ⟨some 11, _, _, _, _, _⟩) (v := ?_) rfl (by kernel_rfl) (by kernel_rfl) (by kernel_rfl) (fun _ _ _ h => h) (Or.inl ⟨by rfl, ?_⟩) hS4 ?_
                    rotate_left
                    · (intro wS hSw; (try dsimp only at hSw); go_simp); all_goals (with_reducible rfl)
                    try simp only [Act.put, List.setIfInBounds_toArray, List.set_cons_zero, List.set_cons_succ]
                    refine wpAnyH_done (by kernel_rfl) ?_ _
                    go_wp2_with fail
                    go_meet
                    exact FIN.out
              · go_simp
                have DN5 := Lib.hid (D3.out.fence (((Below.refl _ _).alloc (Nat.le_refl _) (.cells #[.int .u64 0, .int .i64 0, .slice none 0 0, .int .i64 0, .int .i64 0] 32)) : Below w3.heap.size w3 (w3.alloc (.cells #[.int .u64 0, .int .i64 0, .slice none 0 0, .int .i64 0, .int .i64 0] 32))))
                have ZN5 : Hid (Whole (w3.alloc (.cells #[.int .u64 0, .int .i64 0, .slice none 0 0, .int .i64 0, .int .i64 0] 32)) w3.heap.size 32 #[.int .u64 0, .int .i64 0, .slice none 0 0, .int .i64 0, .int .i64 0]) := Lib.hid (Whole.new _ _ _)
                go_wp2_with fail
                refine hK.out _ _ ⟨HC.out _ DN5.out.at_.bel, HV.out _ DN5.out.at_.bel⟩ (fun hS5 => ?_)
                clear hK K
                try simp only [Act.put, List.setIfInBounds_toArray, List.set_cons_zero, List.set_cons_succ]
                obtain ⟨X5, hX5⟩ : ∃ Y : Nat → Prop, Y = fun i => X3 i ∨ (w3.heap.size ≤ i ∧ i < (w3.alloc (.cells #[.int .u64 0, .int .i64 0, .slice none 0 0, .int .i64 0, .int .i64 0] 32)).heap.size) := ⟨_, rfl⟩
                rw [← hX5] at DN5
                have IN5 : Hid (X5 w3.heap.size) := Lib.hid (by rw [hX5]; exact .inr ⟨Nat.le_refl _, by simp⟩)
                have NJ5 : Hid (w3.heap.size ≠ jb) := Lib.hid (by have := D3.out.jlt; omega)
                have LN5 := Lib.hid ((LiesP.below L3.out ((Below.refl _ _).alloc (Nat.le_refl _) (.cells #[.int .u64 0, .int .i64 0, .slice none 0 0, .int .i64 0, .int .i64 0] 32))).mono (Q := fun i => X5 i ∧ i ≠ jb) (fun i _ hi => ⟨by rw [hX5]; exact .inl hi.1, hi.2⟩))
                obtain ⟨wn5, hwn5⟩ : ∃ wn, wn = w3.alloc (.cells #[.int .u64 0, .int .i64 0, .slice none 0 0, .int .i64 0, .int .i64 0] 32) := ⟨_, rfl⟩
                obtain ⟨bx, hbx⟩ : ∃ bx, bx = w3.heap.size := ⟨_, rfl⟩
                rw [← hwn5] at hS5 DN5 ZN5 LN5 ⊢
                rw [← hbx] at ZN5 IN5 NJ5 ⊢
                clear hwn5 hbx hX5
                refine wpAnyH_ready (rs := [21]) (by kernel_rfl) (by simp) ?_
                refine (AllReadyH.cons (o := ⟨some 87, _, _, _, _, _⟩) rfl (fun K hK => ?_) AllReadyH.nil)
                · go_simp
                  refine (HAP.out X5 wn5 A3 c3 lb HLB.out DN5.out LN5.out).mono ?_
                  rintro e w4 ⟨A4, c4, X4, S4, rfl, hXX4, hL4, hk4, hbm4⟩
                  unfold btV
                  have D4 := Lib.hid hL4
                  have Z4 : Hid (Whole w4 bx 32 #[.int .u64 0, .int .i64 0, .slice none 0 0, .int .i64 0, .int .i64 0]) := Lib.hid ((hk4.1 _ IN5.out NJ5.out).trans ZN5.out)
                  have I4 := Lib.hid (hXX4 _ IN5.out)
                  clear hL4 hXX4 hk4 hbm4
                  go_wp2_with fail
                  refine hK.out _ _ ⟨HC.out _ D4.out.at_.bel, HV.out _ D4.out.at_.bel⟩ (fun hS6 => ?_)
                  clear hK K
                  try simp only [Act.put, List.setIfInBounds_toArray, List.set_cons_zero, List.set_cons_succ]
                  refine wpAnyH_take (i := 22) (oi := ⟨some 65, _, _, _, _, _⟩) (v := ?_) rfl (by kernel_rfl) (by kernel_rfl) (by kernel_rfl) (fun _ _ _ h => h) (Or.inl ⟨by rfl, ?_⟩) hS6 ?_
                  rotate_left
                  · (intro wS hSw; (try dsimp only at hSw); go_simp); all_goals (with_reducible rfl)
                  try simp only [Act.put, List.setIfInBounds_toArray, List.set_cons_zero, List.set_cons_succ]
                  refine wpAnyH_take (i := 23) (oi := ⟨some 88, _, _, _, _, _⟩) (v := ?_) rfl (by kernel_rfl) (by kernel_rfl) (by kernel_rfl) (fun _ _ _ h => h) (Or.inl ⟨by rfl, ?_⟩) hS6 ?_
                  rotate_left
                  · (intro wS hSw; (try dsimp only at hSw); go_simp); all_goals (with_reducible rfl)
                  try simp only [Act.put, List.setIfInBounds_toArray, List.set_cons_zero, List.set_cons_succ]
                  refine wpAnyH_take (i := 24) (oi := ⟨some 89, _, _, _, _, _⟩) (v := ?_) rfl (by kernel_rfl) (by kernel_rfl) (by kernel_rfl) (fun _ _ _ h => h) (Or.inl ⟨by rfl, ?_⟩) hS6 ?_
                  rotate_left
                  · (intro wS hSw; (try dsimp only at hSw); go_simp); all_goals (with_reducible rfl)
                  try simp only [Act.put, List.setIfInBounds_toArray, List.set_cons_zero, List.set_cons_succ]
                  refine wpAnyH_ready (rs := [26]) (by kernel_rfl) (by simp) ?_
                  refine (AllReadyH.cons (o := ⟨none, _, _, _, _, _⟩) rfl (fun K hK => ?_) AllReadyH.nil)
                  · obtain ⟨y0, y1, y2, y3, y4⟩ := Z4.out.five
                    have yf := Whole.frozen Z4.out
                    have FIN : Hid (TeCut W g jb bss J kd nn (.pointer (some ⟨bx, 0, none⟩)) (.int .i64 0) _) := Lib.hid ⟨bx, X4, S4, lb, A4, c4, rfl, rfl, HLB.out, te_put D4.out I4.out NJ5.out (.int .u64 ((newB bss J kd lb).seq : Int)) (.int .i64 ((newB bss J kd lb).kind : Int)) (.slice A4 (newB bss J kd lb).b.length c4) (.int .i64 (newB bss J kd lb).file) (.int .i64 (newB bss J kd lb).pos), Z4.out.put5 _ _ _ _ _⟩
                    have DF := Lib.hid (te_put D4.out I4.out NJ5.out (.int .u64 ((newB bss J kd lb).seq : Int)) (.int .i64 ((newB bss J kd lb).kind : Int)) (.slice A4 (newB bss J kd lb).b.length c4) (.int .i64 (newB bss J kd lb).file) (.int .i64 (newB bss J kd lb).pos))
                    go_simp
                    go_wp2_with fail
                    refine hK.out _ _ ⟨HC.out _ DF.out.at_.bel, HV.out _ DF.out.at_.bel⟩ (fun hS7 => ?_)
                    clear hK K
                    try simp only [Act.put, List.setIfInBounds_toArray, List.set_cons_zero, List.set_cons_succ]
                    refine wpAnyH_take (i := 27) (oi := ⟨some 11, _, _, _, _, _⟩) (v := ?_) rfl (by kernel_rfl) (by kernel_rfl) (by kernel_rfl) (fun _ _ _ h => h) (Or.inl ⟨by rfl, ?_⟩) hS7 ?_
                    rotate_left
                    · (intro wS hSw; (try dsimp only at hSw); go_simp); all_goals (with_reducible rfl)
                    try simp only [Act.put, List.setIfInBounds_toArray, List.set_cons_zero, List.set_cons_succ]
                    refine wpAnyH_done (by kernel_rfl) ?_ _
                    go_wp2_with fail
                    go_meet
                    exact FIN.out
            · go_simp
              have DN8 := Lib.hid (DD.out.fence (((Below.refl _ _).alloc (Nat.le_refl _) (.cells #[.int .u64 0, .int .i64 0, .slice none 0 0, .int .i64 0, .int .i64 0] 32)) : Below wd.heap.size wd (wd.alloc (.cells #[.int .u64 0, .int .i64 0, .slice none 0 0, .int .i64 0, .int .i64 0] 32))))
              have ZN8 : Hid (Whole (wd.alloc (.cells #[.int .u64 0, .int .i64 0, .slice none 0 0, .int .i64 0, .int .i64 0] 32)) wd.heap.size 32 #[.int .u64 0, .int .i64 0, .slice none 0 0, .int .i64 0, .int .i64 0]) := Lib.hid (Whole.new _ _ _)
              go_wp2_with fail
              refine hK.out _ _ ⟨HC.out _ DN8.out.at_.bel, HV.out _ DN8.out.at_.bel⟩ (fun hS8 => ?_)
              clear hK K
              try simp only [Act.put, List.setIfInBounds_toArray, List.set_cons_zero, List.set_cons_succ]
              obtain ⟨X8, hX8⟩ : ∃ Y : Nat → Prop, Y = fun i => X i ∨ (wd.heap.size ≤ i ∧ i < (wd.alloc (.cells #[.int .u64 0, .int .i64 0, .slice none 0 0, .int .i64 0, .int .i64 0] 32)).heap.size) := ⟨_, rfl⟩
              rw [← hX8] at DN8
              have IN8 : Hid (X8 wd.heap.size) := Lib.hid (by rw [hX8]; exact .inr ⟨Nat.le_refl _, by simp⟩)
              have NJ8 : Hid (wd.heap.size ≠ jb) := Lib.hid (by have := DD.out.jlt; omega)
              obtain ⟨wn8, hwn8⟩ : ∃ wn, wn = wd.alloc (.cells #[.int .u64 0, .int .i64 0, .slice none 0 0, .int .i64 0, .int .i64 0] 32) := ⟨_, rfl⟩
              obtain ⟨bx, hbx⟩ : ∃ bx, bx = wd.heap.size := ⟨_, rfl⟩
              rw [← hwn8] at hS8 DN8 ZN8 ⊢
              rw [← hbx] at ZN8 IN8 NJ8 ⊢
              clear hwn8 hbx hX8
              refine wpAnyH_ready (rs := [20]) (by kernel_rfl) (by simp) ?_
              refine (AllReadyH.cons (o := ⟨some 86, _, _, _, _, _⟩) rfl (fun K hK => ?_) AllReadyH.nil)
              · go_simp
                refine (HOC.out wn8).mono ?_
                rintro e w3 ⟨A3, c3, lb, rfl, hlb, ho3, hb3⟩
                obtain ⟨X3, hXX3, l3, lb3⟩ := oct_ready DN8.out ho3 hb3
                have D3 := Lib.hid l3
                have L3 := Lib.hid lb3
                have HLB := Lib.hid hlb
                have Z3 := Lib.hid (ZN8.out.below hb3 ZN8.out.lt)
                have I3 := Lib.hid (hXX3 _ IN8.out)
                clear hlb ho3 hb3 l3 lb3 hXX3
                go_wp2_with fail
                refine hK.out _ _ ⟨HC.out _ D3.out.at_.bel, HV.out _ D3.out.at_.bel⟩ (fun hS9 => ?_)
                clear hK K
                try simp only [Act.put, List.setIfInBounds_toArray, List.set_cons_zero, List.set_cons_succ]
                refine wpAnyH_ready (rs := [21]) (by kernel_rfl) (by simp) ?_
                refine (AllReadyH.cons (o := ⟨some 87, _, _, _, _, _⟩) rfl (fun K hK => ?_) AllReadyH.nil)
                · go_simp
                  refine (HAP.out X3 w3 A3 c3 lb HLB.out D3.out L3.out).mono ?_
                  rintro e w4 ⟨A4, c4, X4, S4, rfl, hXX4, hL4, hk4, hbm4⟩
                  unfold btV
                  have D4 := Lib.hid hL4
                  have Z4 : Hid (Whole w4 bx 32 #[.int .u64 0, .int .i64 0, .slice none 0 0, .int .i64 0, .int .i64 0]) := Lib.hid ((hk4.1 _ I3.out NJ8.out).trans Z3.out)
                  have I4 := Lib.hid (hXX4 _ I3.out)
                  clear hL4 hXX4 hk4 hbm4
                  go_wp2_with fail
                  refine hK.out _ _ ⟨HC.out _ D4.out.at_.bel, HV.out _ D4.out.at_.bel⟩ (fun hS10 => ?_)
                  clear hK K
                  try simp only [Act.put, List.setIfInBounds_toArray, List.set_cons_zero, List.set_cons_succ]
                  refine wpAnyH_take (i := 22) (oi := ⟨some 65, _, _, _, _, _⟩) (v := ?_) rfl (by kernel_rfl) (by kernel_rfl) (by kernel_rfl) (fun _ _ _ h => h) (Or.inl ⟨by rfl, ?_⟩) hS10 ?_
                  rotate_left
                  · (intro wS hSw; (try dsimp only at hSw); go_simp); all_goals (with_reducible rfl)
                  try simp only [Act.put, List.setIfInBounds_toArray, List.set_cons_zero, List.set_cons_succ]
                  refine wpAnyH_take (i := 23) (oi := ⟨some 88, _, _, _, _, _⟩) (v := ?_) rfl (by kernel_rfl) (by kernel_rfl) (by kernel_rfl) (fun _ _ _ h => h) (Or.inl ⟨by rfl, ?_⟩) hS10 ?_
                  rotate_left
                  · (intro wS hSw; (try dsimp only at hSw); go_simp); all_goals (with_reducible rfl)
                  try simp only [Act.put, List.setIfInBounds_toArray, List.set_cons_zero, List.set_cons_succ]
                  refine wpAnyH_take (i := 24) (oi := ⟨some 89, _, _, _, _, _⟩) (v := ?_) rfl (by kernel_rfl) (by kernel_rfl) (by kernel_rfl) (fun _ _ _ h => h) (Or.inl ⟨by rfl, ?_⟩) hS10 ?_
                  rotate_left
                  · (intro wS hSw; (try dsimp only at hSw); go_simp); all_goals (with_reducible rfl)
                  try simp only [Act.put, List.setIfInBounds_toArray, List.set_cons_zero, List.set_cons_succ]
                  refine wpAnyH_ready (rs := [26]) (by kernel_rfl) (by simp) ?_
                  refine (AllReadyH.cons (o := ⟨none, _, _, _, _, _⟩) rfl (fun K hK => ?_) AllReadyH.nil)
                  · obtain ⟨y0, y1, y2, y3, y4⟩ := Z4.out.five
                    have yf := Whole.frozen Z4.out
                    have FIN : Hid (TeCut W g jb bss J kd nn (.pointer (some ⟨bx, 0, none⟩)) (.int .i64 0) _) := Lib.hid ⟨bx, X4, S4, lb, A4, c4, rfl, rfl, HLB.out, te_put D4.out I4.out NJ8.out (.int .u64 ((newB bss J kd lb).seq : Int)) (.int .i64 ((newB bss J kd lb).kind : Int)) (.slice A4 (newB bss J kd lb).b.length c4) (.int .i64 (newB bss J kd lb).file) (.int .i64 (newB bss J kd lb).pos), Z4.out.put5 _ _ _ _ _⟩
                    have DF := Lib.hid (te_put D4.out I4.out NJ8.out (.int .u64 ((newB bss J kd lb).seq : Int)) (.int .i64 ((newB bss J kd lb).kind : Int)) (.slice A4 (newB bss J kd lb).b.length c4) (.int .i64 (newB bss J kd lb).file) (.int .i64 (newB bss J kd lb).pos))
                    go_simp
                    go_wp2_with fail
                    refine hK.out _ _ ⟨HC.out _ DF.out.at_.bel, HV.out _ DF.out.at_.bel⟩ (fun hS11 => ?_)
                    clear hK K
                    try simp only [Act.put, List.setIfInBounds_toArray, List.set_cons_zero, List.set_cons_succ]
                    refine wpAnyH_take (i := 27) (oi := ⟨some 11, _, _, _, _, _⟩) (v := ?_) rfl (by kernel_rfl) (by kernel_rfl) (by kernel_rfl) (fun _ _ _ h => h) (Or.inl ⟨by rfl, ?_⟩) hS11 ?_
                    rotate_left
                    · (intro wS hSw; (try dsimp only at hSw); go_simp); all_goals (with_reducible rfl)
                    try simp only [Act.put, List.setIfInBounds_toArray, List.set_cons_zero, List.set_cons_succ]
                    refine wpAnyH_done (by kernel_rfl) ?_ _
                    go_wp2_with fail
                    go_meet
                    exact FIN.out
          case rest =>
            obtain ⟨bx, A4, S4, lb, A5, c4, rfl, rfl, hlb, hL4, hbx⟩ := hcut
            obtain ⟨f4, e1, e2, e3⟩ := newB_file LL.out.i kd lb
            have es : (newB bss J kd lb).seq = q + 1 := by show J.seq + 1 = q + 1; rw [LL.out.i.seq, HQ.out]
            rw [es, e1] at hbx
            obtain ⟨x0, x1, x2, x3, x4⟩ := hbx.five
            have L4 := Lib.hid hL4
            have hq1 : IntKind.u64.wrap ((q : Int) + 1) = (q : Int) + 1 := IntWalk.u64_in _ ⟨by omega, by omega⟩
            have e2' := Lib.hid e2
            have e3' := Lib.hid e3
            have HLB := Lib.hid hlb
            have hfk : k = 0 → ¬ (f4 : Int) ≤ (f : Int) := fun h => by have := e3 (HJ0.out h); have := BD.out.1; omega
            clear e1 e2 e3 hL4 hlb hbx es
            have hfin : TeIn W g jb i n (.int .u64 ((q : Int) + 1)) (.int .i64 (f4 : Int)) (.int .i64 ((k : Int) + 1)) wc := by
              have hfl := addB_flat LL.out.i.stays (newB bss J kd lb)
              have hnn := addB_needs bss J (newB bss J kd lb) LL.out.i.stays
              have hln := addB_len bss J (newB bss J kd lb) LL.out.i.stays
              have hb := BD.out
              have e1 : need (newB bss J kd lb).b.length = need nn := by rw [← HLB.out]; rfl
              have hnd := HND.out
              have hfq : (addB bss J (newB bss J kd lb)).flatten.length = q + 1 := by rw [hfl, List.length_append, HQ.out]; rfl
              exact ⟨k + 1, A4, _, S4, _, f4, by omega, by omega, L4.out, by rw [hfq]; rfl, rfl, by simp, e2'.out, by omega, by omega, by omega, by rw [hnn, e1]; omega⟩
            have HFIN := Lib.hid hfin
            clear hfin
            by_cases hk0 : k = 0
            · have hk0' : (k : Int) = 0 := by omega
              have hfk' := hfk hk0
              subst hk0
              go_wp2_with fail
              go_roundw
              case rel => exact HFIN.out
              case measure => simp [intOf]
            · have hk0' : ¬ (k : Int) = 0 := by omega
              go_wp2_with fail
              go_roundw
              case rel => exact HFIN.out
              case measure => simp [intOf]; omega
        · have hends : ¬ (k : Int) < (n : Int) ∨ ((k : Int) < (n : Int) ∧ ¬ (k : Int) < 8) := by omega
          have hfin : TeOut W g l.length (.int .u64 (q : Int)) (.int .i64 (f : Int)) (.int .i64 ((i : Int) + 1)) wr := by
            have hb := BD.out
            exact ⟨i + 1, X, bss, S, f, by omega, by omega, LL.out.at_, LL.out.i.dev, LL.out.i.seqs, by rw [HQ.out], rfl, by simp, hb.1, by omega, by rw [HQ.out]; omega, by omega⟩
          have HFIN := Lib.hid hfin
          clear hfin hkn
          rcases hends with hg3 | ⟨hg3, hg4⟩
          all_goals
            go_wp2_with fail
            go_roundw
            case rel => exact HFIN.out
            case measure => simp [intOf]; omega
    · have hends : ¬ (i : Int) < (l.length : Int) ∨ ((i : Int) < (l.length : Int) ∧ ¬ (i : Int) < 6) := by omega
      clear hlt
      have hqb : q ≤ 48 := by have := BD.out; omega
      have hqw : IntKind.u64.wrap (q : Int) = (q : Int) := IntWalk.u64_in _ ⟨by omega, by omega⟩
      have HSC := Lib.hid (k_scan AA.out DD.out SS.out (by have := BD.out; omega))
      have HRI := Lib.hid DD.out.rise
      rcases hends with hg1 | ⟨hg1, hg2⟩
      all_goals
        go_upto_region 20 with (go_at_call 19; go_must (refine HSC.out.mono ?_); rintro e w5 ⟨A5, c5, ms, rfl, hms, hbm, hb5⟩; have MS := Lib.hid hms; have hml := congrArg List.length hms; have BM := Lib.hid hbm; have B5 := Lib.hid (AA.out.bel.trans (hb5.mono AA.out.le)); have LE5 := Lib.hid (Nat.le_trans AA.out.le hb5.size); clear hbm hb5 hms)
        rw [List.length_map, HQ.out] at hml
        rw [hml]
        have hcl : q ≤ c5 := by have := BM.out.1; omega
        have hcl2 : c5 ≤ maxLen := BM.out.2.1
        have HBM : Hid (∀ (w : World) (hw : Below w5.heap.size w5 w) t (ht : t < q), ∃ (b o : Nat) (kd : Int) (F p : Int) (bb : Value), A5 = some ⟨b, o, none⟩ ∧ (∃ x, bss.flatten[t]? = some x ∧ x.file = F ∧ x.pos = p) ∧ w.cell? ⟨b, o + t * 5, none⟩ = some (.int .u64 ((t : Int) + 1)) ∧ w.cell? ⟨b, o + t * 5 + 1, none⟩ = some (.int .i64 kd) ∧ w.cell? ⟨b, o + t * 5 + 2, none⟩ = some bb ∧ w.cell? ⟨b, o + t * 5 + 3, none⟩ = some (.int .i64 F) ∧ w.cell? ⟨b, o + t * 5 + 4, none⟩ = some (.int .i64 p)) := Lib.hid (fun w hw t ht => by
          obtain ⟨b, o, e, _, d0, d1, d2, d3, d4⟩ := lies_bm (BM.out.below hw).2.2.1.lies t (by omega)
          have hx : bss.flatten[t]? = some ms[t].x := by rw [← MS.out, List.getElem?_map, List.getElem?_eq_getElem (by omega)]; rfl
          rw [SS.out t _ hx] at d0
          exact ⟨b, o, _, _, _, _, e, ⟨_, hx, rfl, rfl⟩, d0, d1, d2, d3, d4⟩)
        clear BM MS HSC
        go_wp2_with fail
        go_loopw [13] (fun v13 wx => ∃ t : Nat, t ≤ q ∧ v13 = .int .i64 (t : Int) ∧ Below w5.heap.size w5 wx) (fun v13 _ => q - (intOf v13).toNat)
        case atStart => exact ⟨0, Nat.zero_le _, rfl, Below.refl _ _⟩
        case round =>
          obtain ⟨t, ht, rfl, hw⟩ := hrel
          have HW5 := Lib.hid hw
          clear hw
          by_cases htq : t < q
          · have hg5 : (t : Int) < (q : Int) := by omega
            obtain ⟨b, o, kd, F, p, bb, rfl, ⟨x, hx, hxF, hxp⟩, d0, d1, d2, d3, d4⟩ := HBM.out wr HW5.out t htq
            have hw1 : IntKind.i64.wrap ((t : Int) + 1) = (t : Int) + 1 := IntWalk.i64_in _ ⟨by omega, by omega⟩
            have hw2 : IntKind.u64.wrap ((t : Int) + 1) = (t : Int) + 1 := IntWalk.u64_in _ ⟨by omega, by omega⟩
            have hneq : (((t : Int) + 1) == ((t : Int) + 1)) = true := by simp
            by_cases ht0 : t = 0
            · subst ht0
              have e0 : wr.cell? ⟨b, o, none⟩ = some (.int .u64 1) := by simpa using d0
              clear hx d0 d1 d2 d3 d4 hw1 hw2 hneq
              go_upto_region 23 with fail
              go_quiet (fail)
              go_wp2_with fail
              go_roundw
              case rel => exact ⟨1, by omega, by go_num, below_drewN8 HW5.out _⟩
              case measure => simp [intOf]; omega
            · have hp0 : (0 : Int) < (t : Int) := by omega
              obtain ⟨s, hs⟩ : ∃ s, s = t - 1 := ⟨_, rfl⟩
              have hsw : IntKind.i64.wrap ((t : Int) - 1) = (s : Int) := by rw [show (t : Int) - 1 = (s : Int) by omega]; exact IntWalk.i64_in _ ⟨by omega, by omega⟩
              have hg6 : (s : Int) < (q : Int) := by omega
              obtain ⟨b', o', kd', F', p', bb', eA, ⟨y, hy, hyF, hyp⟩, d0', d1', d2', d3', d4'⟩ := HBM.out wr HW5.out s (by omega)
              injection eA with eA
              injection eA with e1 e2 e3
              subst e1 e2
              have hR : Ahd y x := by
                obtain ⟨h1, e1⟩ := List.getElem?_eq_some_iff.1 hy
                obtain ⟨h2, e2⟩ := List.getElem?_eq_some_iff.1 hx
                rw [← e1, ← e2]
                exact (List.pairwise_iff_getElem.1 HRI.out) s t h1 h2 (by omega)
              unfold Ahd at hR
              rw [hyF, hxF, hyp, hxp] at hR
              have hts : t ≠ s := by omega
              have hp1 : decide (0 < t) = true := decide_eq_true (by omega)
              clear hx hy hyF hxF hyp hxp hs
              rcases hR with hR | ⟨hR, hR2⟩
              · have hR3 : decide (F < F') = false := decide_eq_false (by omega)
                have hR4 : (F' == F) = false := beq_false_of_ne (by omega)
                clear hR
                go_upto_region 23 with fail
                go_quiet (fail)
                go_wp2_with fail
                go_roundw
                case rel => exact ⟨t + 1, by omega, by go_num, below_drewN8 HW5.out _⟩
                case measure => simp [intOf]; omega
              · subst hR
                have hR3 : decide (F' < F') = false := decide_eq_false (by omega)
                have hR4 : decide (p ≤ p') = false := decide_eq_false (by omega)
                clear hR2
                go_upto_region 23 with fail
                go_quiet (fail)
                go_wp2_with fail
                go_roundw
                case rel => exact ⟨t + 1, by omega, by go_num, below_drewN8 HW5.out _⟩
                case measure => simp [intOf]; omega
          · have htq' : t = q := by omega
            subst htq'
            have hg5 : ¬ (t : Int) < (t : Int) := by omega
            go_wp2_with (go_at_call 14; go_must (refine (awake8 _).mono ?_); rintro e w6 ⟨rfl, hb6⟩; have B6 := Lib.hid ((B5.out.trans (HW5.out.mono LE5.out)).trans (hb6.mono (Nat.le_trans LE5.out HW5.out.size))); clear hb6)
            go_ret
            exact ⟨by first | rfl | (simp; done) | (simp; omega), B6.out⟩
end Go.Proofs.YtmemdkgoeldemaaGreatDoor
