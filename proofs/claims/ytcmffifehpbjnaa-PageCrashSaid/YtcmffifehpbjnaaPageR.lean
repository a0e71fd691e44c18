/- Layer 9: Put, within a law's walk. -/
import Derived.Test.YtcmffifehpbjnaaPageQ
namespace Go.Proofs.Ytcmffifehpbjnaa
open Go.RowKit Go.Maps
set_option maxRecDepth 100000
set_option linter.unusedSimpArgs false
set_option linter.unusedVariables false
structure PtR where
  id : Int
  e : Int
  S : Dv
  L : List Int
  put : Nat
/-- what Put answers, and how it leaves the file -/
def ptP (S : Dv) (L : List Int) (put : Nat) (dead : Bool) (b : List UInt8) : PtR :=
  if dead = true then ⟨0, 8, S, L, put⟩ else if 512 < b.length then ⟨0, 1, S, L, put⟩ else
  if put < L.length then
    (if (wpP nmP (L.getD put 0).toNat b 0 8 S).1 = 0 then ⟨L.getD put 0, 0, (wpP nmP (L.getD put 0).toNat b 0 8 S).2, L, put + 1⟩ else ⟨0, (wpP nmP (L.getD put 0).toNat b 0 8 S).1, (wpP nmP (L.getD put 0).toNat b 0 8 S).2, L, put⟩)
  else
    (if (wpP nmP (S.len nmP / 8) b 0 8 S).1 = 0 then ⟨((S.len nmP / 8 : Nat) : Int), 0, (wpP nmP (S.len nmP / 8) b 0 8 S).2, L ++ [((S.len nmP / 8 : Nat) : Int)], put + 1⟩ else ⟨0, (wpP nmP (S.len nmP / 8) b 0 8 S).1, (wpP nmP (S.len nmP / 8) b 0 8 S).2, L, put⟩)
theorem lit_cells (w : World) (t : TypeId) (cs : List Value) : ∀ j u, cs[j]? = some u → (w.alloc (.cells cs.toArray t)).cell? ((⟨w.heap.size, 0, none⟩ : Addr).add j) = some u := by
  intro j u hu
  rw [show (⟨w.heap.size, 0, none⟩ : Addr).add j = ⟨w.heap.size, j, none⟩ by unfold Addr.add; split <;> simp_all, (Whole.new w t cs.toArray).cell j]
  simpa using hu
theorem ne_of_own {fb i : Nat} {v : Value} (h : some fb ≠ v.ownBlock) (hi : v.ownBlock = some i) : i ≠ fb := fun e => h (by rw [hi, e])
theorem ne_of_dis {Y Z : Nat → Prop} {fb i : Nat} (hd : ∀ i, Y i → ¬ Z i) (hz : Z fb) (hi : Y i) : i ≠ fb := fun e => hd i hi (by rw [e]; exact hz)
theorem At.grown {B g : Nat} {X : Nat → Prop} {w0 W w' : World} {S : Dv} {row : Option Nat} (h : At B X w0 g S W) (hg : W.grownBy w' row) (hr : ∀ k, row = some k → X k) : At B (fun i => X i ∨ (W.heap.size ≤ i ∧ i < w'.heap.size)) w0 g S w' := by
  have hle := h.le
  have hsz := hg.size
  refine ⟨(h.dev.mono (K' := fun i => B ≤ i ∧ ¬ (X i ∨ (W.heap.size ≤ i ∧ i < w'.heap.size))) (fun i hi hk => ⟨hk.1, fun e => by rcases e with e | e; exact hk.2 e; omega⟩)).kept (w' := w') (fun j hj hk => hg.block j hj (fun e => hk.2 (.inl (hr j e.symm)))), h.bel.grown hg hle (fun k hk => (h.xs k (hr k hk)).1), Nat.le_trans hle hsz, fun i hi => ?_⟩
  rcases hi with hi | hi
  · have := h.xs i hi
    omega
  · omega
section
variable {B g fb put : Nat} {Y : Nat → Prop} {w0 W w' : World} {S S' : Dv} {m : Mt} {L : List Int} {dead : Bool}
set_option maxHeartbeats 8000000 in
theorem put_any (h : FAt B g fb Y w0 S m L put dead W) (b : List UInt8) (A : Option Addr) (c : Nat) (hl : LiesP W Y A (B8 b)) (hc1 : b.length ≤ c) (hc2 : c ≤ maxLen) (h2 : 2 ≤ S.len nmP / 8) (hL : L.length ≤ 1000000) :
    Calls Try.prog 11 #[ptr fb, .slice A b.length c] W fun e w' => e = .returned (.tuple #[.int .i64 (ptP S L put dead b).id, .int .i64 (ptP S L put dead b).e]) ∧ FAt B g fb Y w0 (ptP S L put dead b).S m (ptP S L put dead b).L (ptP S L put dead b).put dead w' ∧ KeptX Y W w' := by
  obtain ⟨Z, hat, hdis, hZ, v, hbox, hown, hZv⟩ := h.at_
  have hs := len_small hat
  obtain ⟨n, hn⟩ : ∃ n, S.len nmP / 8 = n := ⟨_, rfl⟩
  have hn6 : n ≤ 1000000 := by omega
  have hs9 : S.len nmP ≤ 9000000000000000000 := by omega
  have hput := h.putle
  have hnum := h.num
  have hlo := h.lo
  obtain ⟨Av, cv, rfl, hcv1, hcv2⟩ := own_form hown
  obtain ⟨c0, c1, c2, c3, c4, c5, c6, c7⟩ := hbox.cells
  have hlt := Whole.lt hbox
  have H := Lib.hid h
  cases dead with
  | true =>
    have e : ptP S L put true b = ⟨0, 8, S, L, put⟩ := by unfold ptP; rw [if_pos rfl]
    rw [e]
    clear h hat hdis hZ hbox hown hZv hs hn hs9 hl hnum hlo
    go_enter Try.func11, Try.ntmps11
    go_wp2
    go_ret2
    exact ⟨rfl, H.out, KeptX.refl' _ _⟩
  | false =>
    by_cases hb : 512 < b.length
    · have e : ptP S L put false b = ⟨0, 1, S, L, put⟩ := by unfold ptP; rw [if_neg (by simp), if_pos hb]
      rw [e]
      have hb' : (512 : Int) < (b.length : Int) := by omega
      clear h hat hdis hZ hbox hown hZv hs hn hs9 hl hnum hlo
      go_enter Try.func11, Try.ntmps11
      go_wp2
      go_ret2
      exact ⟨rfl, H.out, KeptX.refl' _ _⟩
    · have hb' : ¬ (512 : Int) < (b.length : Int) := by omega
      have hln := flen_any hbox hat n hn hs9
      have HLN := Lib.hid hln
      have HAT := Lib.hid hat
      have HDI := Lib.hid hdis
      have HZF := Lib.hid hZ
      have HBX := Lib.hid hbox
      have HOW := Lib.hid hown
      have HZV := Lib.hid hZv
      have HNU := Lib.hid hnum
      have HLO := Lib.hid hlo
      have hlZ : LiesP W (fun i => Y i ∨ Z i) A (B8 b) := hl.mono (fun i _ hi => .inl hi)
      have HLZ := Lib.hid hlZ
      have HC1 := Lib.hid hc1
      have HN := Lib.hid hn
      have hbv : some fb ≠ (Value.slice Av L.length cv).ownBlock := whole_apart hbox hown (by decide)
      have HBV := Lib.hid hbv
      by_cases hp : put < L.length
      · obtain ⟨x, hx⟩ : ∃ x, x = L.getD put 0 := ⟨_, rfl⟩
        have hxm : x ∈ L := by rw [hx]; simp [List.getD, hp]
        have hxn := hnum x hxm
        obtain ⟨id, hid⟩ : ∃ id : Nat, x = (id : Int) := ⟨x.toNat, by omega⟩
        subst hid
        obtain ⟨e1, S1, h1⟩ : ∃ e1 S1, wpP nmP id b 0 8 S = (e1, S1) := ⟨_, _, rfl⟩
        have hpt : ptP S L put false b = if e1 = 0 then ⟨(id : Int), 0, S1, L, put + 1⟩ else ⟨0, e1, S1, L, put⟩ := by
          unfold ptP
          rw [if_neg (by simp), if_neg hb, if_pos hp, ← hx, Int.toNat_natCast, h1]
        have HPT := Lib.hid hpt
        have hwp := fun (W : World) (hh : At B (fun i => Y i ∨ Z i) w0 g S W) (hk : LiesP W (fun i => Y i ∨ Z i) A (B8 b)) => wpage_any hh id (by omega) b A c hk hc1 hc2
        rw [h1] at hwp
        have HWP := Lib.hid hwp
        obtain ⟨bv, ov, rfl, hcell⟩ := lies_z (Lies.own hown (Nat.le_refl _)) put hp
        have hcx := hcell put hp
        rw [← hx] at hcx
        have hpi : (put : Int) < (L.length : Int) := by omega
        have hpne : ((put : Int) == (L.length : Int)) = false := beq_false_of_ne (by omega)
        have hw1 : IntKind.i64.wrap ((put : Int) + 1) = ((put + 1 : Nat) : Int) := by rw [IntWalk.i64_in _ ⟨by omega, by omega⟩]; omega
        clear h hat hdis hZ hbox hown hZv hs hn hs9 hl hnum hlo hln hlZ hc1 hx hxm hpt hwp hcell h1 hb hbv
        by_cases he : e1 = 0
        · subst he
          go_enter Try.func11, Try.ntmps11
          go_upto_region 6 with (go_at_call 17; go_must (refine HLN.out.mono ?_); rintro e w1 ⟨rfl, rfl⟩)
          go_region
          go_upto_region 7 with fail
          go_region
          go_upto_region 11 with (go_at_call 34; go_must (refine (HWP.out _ (HAT.out.drewN 2) HLZ.out).mono ?_); rintro e w2 ⟨rfl, h2', k2⟩; have A2 := Lib.hid h2'; have K2 := Lib.hid k2; have BX2 : Hid (FBox w2 fb g m (.slice (some ⟨bv, ov, none⟩) L.length cv) put false) := Lib.hid ((k2.1 fb (.inr HZF.out)).trans HBX.out); obtain ⟨c0, c1, c2, c3, c4, c5, c6, c7⟩ := BX2.out.cells; have f6 := Whole.frozen BX2.out 6; clear h2' k2)
          go_region
          go_wp2_with fail
          go_ret2
          have E := HPT.out
          simp only [eq_self, if_true] at E
          rw [E]
          have ho2 : w2.ownsRow 0 3 1 (.slice (some ⟨bv, ov, none⟩) L.length cv) L.length (cellsZ L) := own_block HOW.out (fun i hi => K2.out.1 i (.inr (HZV.out i hi)))
          exact ⟨rfl, ⟨⟨Z, (A2.out.drewN 1).cell fb 6 (.inr HZF.out) _, HDI.out, HZF.out, _, Whole.put (show Whole w2.drew fb _ _ from BX2.out) 6 _, own_block ho2 (fun i hi => Below.heap_setCell _ ⟨fb, 6, none⟩ _ _ (ne_of_own HBV.out hi)), HZV.out⟩, HLO.out, HNU.out, by show put + 1 ≤ L.length; omega⟩, fun i hi => (Below.heap_setCell _ ⟨fb, 6, none⟩ _ _ (ne_of_dis HDI.out HZF.out hi)).trans (K2.out.1 i (.inl hi)), by simpa using K2.out.2⟩
        · have hen : (e1 == 0) = false := beq_false_of_ne he
          go_enter Try.func11, Try.ntmps11
          go_upto_region 6 with (go_at_call 17; go_must (refine HLN.out.mono ?_); rintro e w1 ⟨rfl, rfl⟩)
          go_region
          go_upto_region 7 with fail
          go_region
          go_wp2_with (go_at_call 34; go_must (refine (HWP.out _ (HAT.out.drewN 2) HLZ.out).mono ?_); rintro e w2 ⟨rfl, h2', k2⟩; have A2 := Lib.hid h2'; have K2 := Lib.hid k2; clear h2' k2)
          go_ret2
          have E := HPT.out
          simp only [if_false, he] at E
          rw [E]
          exact ⟨rfl, ⟨⟨Z, A2.out, HDI.out, HZF.out, _, (K2.out.1 fb (.inr HZF.out)).trans HBX.out, own_block HOW.out (fun i hi => K2.out.1 i (.inr (HZV.out i hi))), HZV.out⟩, HLO.out, HNU.out, hput⟩, fun i hi => K2.out.1 i (.inl hi), K2.out.2⟩
      · have hpe : put = L.length := by omega
        obtain ⟨e1, S1, h1⟩ : ∃ e1 S1, wpP nmP n b 0 8 S = (e1, S1) := ⟨_, _, rfl⟩
        have hpt : ptP S L put false b = if e1 = 0 then ⟨(n : Int), 0, S1, L ++ [(n : Int)], put + 1⟩ else ⟨0, e1, S1, L, put⟩ := by
          unfold ptP
          rw [if_neg (by simp), if_neg hb, if_neg hp, hn, h1]
        have HPT := Lib.hid hpt
        have hwp := fun (W : World) (hh : At B (fun i => Y i ∨ Z i) w0 g S W) (hk : LiesP W (fun i => Y i ∨ Z i) A (B8 b)) => wpage_any hh n hn6 b A c hk hc1 hc2
        rw [h1] at hwp
        have HWP := Lib.hid hwp
        have hpi : ¬ (put : Int) < (L.length : Int) := by omega
        have hpne : ((put : Int) == (L.length : Int)) = true := by rw [hpe]; exact beq_self_eq_true _
        have hw1 : IntKind.i64.wrap ((put : Int) + 1) = ((put + 1 : Nat) : Int) := by rw [IntWalk.i64_in _ ⟨by omega, by omega⟩]; omega
        have HPE := Lib.hid hpe
        have H2N : Hid (2 ≤ n) := Lib.hid (by omega)
        clear h hat hdis hZ hbox hown hZv hs hn hs9 hl hnum hlo hln hlZ hc1 hpt hwp h1 hb hbv hpe h2
        by_cases he : e1 = 0
        · subst he
          obtain ⟨i0, hI, hz0, hz1, hz2⟩ := info_parts int_info9
          have HI := Lib.hid hI
          have H0 := Lib.hid hz0
          have H1 := Lib.hid hz1
          have H2 := Lib.hid hz2
          have h8 : (L.length + 1) * 8 ≤ 140737488355328 := by omega
          have h63 : L.length + 1 ≤ maxLen := by unfold maxLen; omega
          have H8 := Lib.hid h8
          have H63 := Lib.hid h63
          have hone : ∀ u ∈ [Value.int .i64 (n : Int)], u.oneCell' = true := by simp [Value.oneCell']
          have HON := Lib.hid hone
          clear hI hz0 hz1 hz2 h8 h63 hone
          go_enter Try.func11, Try.ntmps11
          go_upto_region 6 with (go_at_call 17; go_must (refine HLN.out.mono ?_); rintro e w1 ⟨rfl, rfl⟩)
          go_region
          go_upto_region 11 with (go_at_call 34; go_must (refine (HWP.out _ (HAT.out.drewN 1) HLZ.out).mono ?_); rintro e w2 ⟨rfl, h2', k2⟩; have A2 := Lib.hid h2'; have K2 := Lib.hid k2; have BX2 : Hid (FBox w2 fb g m (.slice Av L.length cv) put false) := Lib.hid ((k2.1 fb (.inr HZF.out)).trans HBX.out); have OW2 : Hid (w2.ownsRow 0 3 1 (.slice Av L.length cv) L.length (cellsZ L)) := Lib.hid (own_block HOW.out (fun i hi => k2.1 i (.inr (HZV.out i hi)))); obtain ⟨c0, c1, c2, c3, c4, c5, c6, c7⟩ := BX2.out.cells; clear h2' k2)
          go_region
          go_upto_region 13 with (at_builtin; go_must (refine wpList_append_at rfl _ _ 22 rfl 0 3 i0 (.int .i64 0) 1 8 Try.underlying22 HI.out H0.out H1.out H2.out rfl (by omega) (.slice Av L.length cv) L.length (cellsZ L) rfl (World.ownsRow.alloc OW2.out _) ⟨_, 0, none⟩ 1 1 [.int .i64 (n : Int)] rfl (lit_cells w2 3 [.int .i64 (n : Int)]) rfl HON.out H63.out H8.out (Nat.zero_le _) ?_); intro v3 w3 ho3 hg3 hv3; obtain ⟨A3, k3, rfl, _, _⟩ := own_form ho3; have O3 := Lib.hid ho3; have G3 := Lib.hid hg3; have V3 := Lib.hid hv3; have BX3 : Hid (FBox w3 fb g m (.slice Av L.length cv) put false) := Lib.hid ((hg3.block fb (by have := Whole.lt BX2.out; simp; omega) HBV.out).trans ((BX2.out).alloc _)); obtain ⟨c0, c1, c2, c3, c4, c5, c6, c7⟩ := BX3.out.cells; have f5 := Whole.frozen BX3.out 5; have f6 := Whole.frozen BX3.out 6; clear ho3 hg3 hv3)
          go_wp2_with fail
          go_ret2
          have E := HPT.out
          simp only [eq_self, if_true] at E
          rw [E]
          have hcz : cellsZ (L ++ [(n : Int)]) = cellsZ L ++ [Value.int .i64 (n : Int)] := by simp [cellsZ]
          have hA : At B (fun i => (Y i ∨ Z i) ∨ (w2.heap.size ≤ i ∧ i < (w2.alloc (.cells [Value.int .i64 (n : Int)].toArray 3)).heap.size)) w0 g S1 (w2.alloc (.cells [Value.int .i64 (n : Int)].toArray 3)).drew := (A2.out.fence ((Below.refl _ _).alloc (Nat.le_refl _) (.cells [Value.int .i64 (n : Int)].toArray 3))).drewN 1
          have hG := hA.grown G3.out (fun k hk => .inl (.inr (HZV.out k hk)))
          have hs2 : (w2.alloc (.cells [Value.int .i64 (n : Int)].toArray 3)).drew.heap.size = w2.heap.size + 1 := by show (w2.alloc _).heap.size = _; simp
          have hs2' : (w2.alloc (.cells [Value.int .i64 (n : Int)].toArray 3)).heap.size = w2.heap.size + 1 := by simp
          have hs3 : (w2.alloc (.cells [Value.int .i64 (n : Int)].toArray 3)).drew.heap.size ≤ w3.heap.size := G3.out.size
          have a3 : At B (fun i => Y i ∨ (Z i ∨ (w2.heap.size ≤ i ∧ i < w3.heap.size))) w0 g S1 w3 := hG.less (fun i hi => by
            rcases hi with hi | hi | hi
            · exact .inl (.inl (.inl hi))
            · exact .inl (.inl (.inr hi))
            · by_cases hlt : i < (w2.alloc (.cells [Value.int .i64 (n : Int)].toArray 3)).drew.heap.size
              · exact .inl (.inr ⟨hi.1, by rw [hs2']; rw [hs2] at hlt; exact hlt⟩)
              · exact .inr ⟨by rw [hs2] at hlt ⊢; omega, hi.2⟩)
          have hz3 : ∀ i, (Value.slice A3 (L.length + 1) k3).ownBlock = some i → Z i ∨ (w2.heap.size ≤ i ∧ i < w3.heap.size) := fun i hi => by
            rcases V3.out with h | h
            · exact .inl (HZV.out i (by rw [← h]; exact hi))
            · have h2 := (O3.out.lt i hi).2
              rw [hi] at h
              have h3 := Option.some.inj h
              have h4 : i = w2.heap.size + 1 := h3.trans hs2
              exact .inr ⟨by omega, h2⟩
          have hbv3 : some fb ≠ (Value.slice A3 (L.length + 1) k3).ownBlock := whole_apart BX3.out O3.out (by decide)
          have keep : ∀ i, Y i → w3.heap[i]? = W.heap[i]? := fun i hi => by
            have hiY := (A2.out.xs i (.inl hi)).2
            have h1 : w3.heap[i]? = (w2.alloc (.cells [Value.int .i64 (n : Int)].toArray 3)).drew.heap[i]? := G3.out.block i (by show i < (w2.alloc (.cells [Value.int .i64 (n : Int)].toArray 3)).drew.heap.size; omega) (fun e => HDI.out i hi (HZV.out i e.symm))
            have h2 : (w2.alloc (.cells [Value.int .i64 (n : Int)].toArray 3)).heap[i]? = w2.heap[i]? := Below.heap_alloc _ _ _ hiY
            exact h1.trans (h2.trans (K2.out.1 i (.inl hi)))
          refine ⟨rfl, ⟨⟨_, (a3.cell fb 5 (.inr (.inl HZF.out)) _).cell fb 6 (.inr (.inl HZF.out)) _, ?_, .inl HZF.out, _, Whole.put (Whole.put BX3.out 5 _) 6 _, ?_, hz3⟩, HLO.out, ?_, ?_⟩, ?_, ?_⟩
          · intro i hi hz
            rcases hz with hz | hz
            · exact HDI.out i hi hz
            · have := (A2.out.xs i (.inl hi)).2
              omega
          · rw [List.length_append, hcz]
            exact own_block (own_block O3.out (fun i hi => Below.heap_setCell _ ⟨fb, 5, none⟩ _ _ (ne_of_own hbv3 hi))) (fun i hi => Below.heap_setCell _ ⟨fb, 6, none⟩ _ _ (ne_of_own hbv3 hi))
          · intro x hx
            rcases List.mem_append.1 hx with hx | hx
            · exact HNU.out x hx
            · have := H2N.out
              rw [List.mem_singleton.1 hx]
              omega
          · rw [List.length_append]
            simp
            have := HPE.out
            omega
          · intro i hi
            have hne := ne_of_dis HDI.out HZF.out hi
            rw [Below.heap_setCell _ ⟨fb, 6, none⟩ _ _ hne, Below.heap_setCell _ ⟨fb, 5, none⟩ _ _ hne]
            exact keep i hi
          · have h1 : W.heap.size ≤ w2.heap.size := K2.out.2
            have h2 : ((w3.setCell ⟨fb, 5, none⟩ (Value.slice A3 (L.length + 1) k3)).setCell ⟨fb, 6, none⟩ (.int .i64 ((put : Int) + 1))).heap.size = w3.heap.size := by simp
            rw [hs2] at hs3
            rw [h2]
            omega
        · have hen : (e1 == 0) = false := beq_false_of_ne he
          go_enter Try.func11, Try.ntmps11
          go_upto_region 6 with (go_at_call 17; go_must (refine HLN.out.mono ?_); rintro e w1 ⟨rfl, rfl⟩)
          go_region
          go_wp2_with (go_at_call 34; go_must (refine (HWP.out _ (HAT.out.drewN 1) HLZ.out).mono ?_); rintro e w2 ⟨rfl, h2', k2⟩; have A2 := Lib.hid h2'; have K2 := Lib.hid k2; clear h2' k2)
          go_ret2
          have E := HPT.out
          simp only [if_false, he] at E
          rw [E]
          exact ⟨rfl, ⟨⟨Z, A2.out, HDI.out, HZF.out, _, (K2.out.1 fb (.inr HZF.out)).trans HBX.out, own_block HOW.out (fun i hi => K2.out.1 i (.inr (HZV.out i hi))), HZV.out⟩, HLO.out, HNU.out, hput⟩, fun i hi => K2.out.1 i (.inl hi), K2.out.2⟩
end
end Go.Proofs.Ytcmffifehpbjnaa
