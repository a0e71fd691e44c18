/- The document's own answer to what octets are as a node. -/
import Derived.Test.YtdjkkppefgppmaaNodeRb
import Derived.Test.YtdjkkppefgppmaaNodeK
namespace Go.Proofs.Ytdjkkppefgppmaa
open Go.RowKit
set_option maxRecDepth 100000
set_option linter.unusedSimpArgs false
set_option linter.unusedVariables false

theorem nnum_out (A : Option Addr) (c n p k : Nat) (w : World) (hn : n ≤ 9223372036854775807) (h : n < p + k) (hp : p ≤ 100) (hk : k ≤ 8) :
    Calls Try.prog 32 #[.slice A n c, .int .i64 p, .int .i64 k] w fun e w' => e = .returned (.tuple #[.int .u64 0, .bool false]) ∧ w = w' := by
  have h1 : (n : Int) - (p : Int) < (k : Int) := by omega
  go_enter Try.func32, Try.ntmps32
  go_wp2_with fail
  go_ret2
  exact ⟨rfl, rfl⟩
theorem nnum_is (A : Option Addr) (c B : Nat) (l : List UInt8) (p k x : Nat) (ok : Bool) (w : World) (hl : Lies w B A (B8 l)) (hp : p ≤ 100) (hk : k ≤ 8) (hs : l.length ≤ 140737488355328) (hx : x = nat (tk k (l.drop p))) (hok : ok = !short k (l.drop p)) (hk0 : 0 < k) :
    Calls Try.prog 32 #[.slice A l.length c, .int .i64 p, .int .i64 k] w fun e w' => e = .returned (.tuple #[.int .u64 x, .bool ok]) ∧ w = w' := by
  subst hx
  subst hok
  by_cases h : p ≤ l.length
  · exact num_any A c B l p k w hl h hk hs
  · have e : l.drop p = [] := List.drop_eq_nil_of_le (by omega)
    rw [e]
    have e1 : tk k ([] : List UInt8) = [] := tk_no (by simpa using hk0)
    have e2 : short k ([] : List UInt8) = true := short_yes (by simpa using hk0)
    rw [e1, e2]
    exact nnum_out A c l.length p k w (by omega) (by omega) hp hk
structure QAt (w wr : World) (leaf : Bool) (tot : List Rw × List UInt8 × Bool) (cnt : Nat) (acc : List Rw) (v : Value) (R : List UInt8) : Prop where
  box : Whole wr (w.heap.size + 1) 26 #[.bool leaf, v]
  own : wr.ownsRow (w.heap.size + 2) 23 3 v acc.length (cellsRws acc)
  bel : Below w.heap.size w wr
  res : Whole wr w.heap.size 26 #[.bool false, .slice none 0 0]
  left : tot = (acc ++ (rowsP leaf cnt R false).1, (rowsP leaf cnt R false).2)
  few : acc.length + cnt ≤ 65535
  small : ∀ r ∈ acc, r.key.length ≤ 255 ∧ r.val.length ≤ 255
theorem QAt.fewR {w wr : World} {leaf : Bool} {tot : List Rw × List UInt8 × Bool} {cnt : Nat} {acc : List Rw} {v : Value} {R : List UInt8} (h : QAt w wr leaf tot cnt acc v R) : Few acc :=
  ⟨by have := h.few; omega, fun r hr => by have := h.small r hr; omega⟩
theorem QAt.next {w wr w7 : World} {leaf : Bool} {tot : List Rw × List UInt8 × Bool} {cnt : Nat} {acc : List Rw} {v v7 : Value} {R : List UInt8} {x : Rw} {o : Obj} {W5 : World} (h : QAt w wr leaf tot (cnt + 1) acc v R)
    (hx : x = rowP leaf R) (hs : rowShort leaf R = false) (h5 : Below wr.heap.size wr W5)
    (ho : w7.ownsRow (w.heap.size + 2) 23 3 v7 (acc.length + 1) (cellsRws acc ++ cellsRw x)) (hb : Below (w.heap.size + 2) (W5.alloc o) w7) :
    QAt w (w7.setCell ⟨w.heap.size + 1, 1, none⟩ v7) leaf tot cnt (acc ++ [x]) v7 (rowRest leaf R) := by
  have hz := h.box.lt
  have b1 : Below (w.heap.size + 2) wr w7 := ((h5.mono (by omega)).trans ((Below.refl (w.heap.size + 2) W5).alloc (by have := h5.size; omega) o)).trans hb
  have ho' : w7.ownsRow (w.heap.size + 2) 23 3 v7 (acc ++ [x]).length (cellsRws (acc ++ [x])) := by
    rw [List.length_append, cellsRws_append]
    simpa [cellsRws] using ho
  refine ⟨(h.box.below b1 (by omega)).put 1 v7, own_set ho' (by omega), (h.bel.trans (b1.mono (by omega))).setCell (by simp) _, (h.res.below b1 (by omega)).other (by omega), ?_, ?_, ?_⟩
  · rw [h.left, rowsP, hs, hx]; simp
  · have := h.few; rw [List.length_append]; simp; omega
  · intro r hr
    rcases List.mem_append.1 hr with hr | hr
    · exact h.small r hr
    · simp only [List.mem_cons, List.not_mem_nil, or_false] at hr
      subst hr
      rw [hx]
      exact rowP_le leaf R
theorem QAt.bad {w wr : World} {leaf : Bool} {tot : List Rw × List UInt8 × Bool} {cnt : Nat} {acc : List Rw} {v : Value} {R : List UInt8} (h : QAt w wr leaf tot (cnt + 1) acc v R) (hs : rowShort leaf R = true) : tot.2.2 = true := by
  rw [h.left, rowsP, hs]
  cases cnt <;> rfl
theorem QAt.drewn {w wr W : World} {leaf : Bool} {tot : List Rw × List UInt8 × Bool} {cnt : Nat} {acc : List Rw} {v : Value} {R : List UInt8} (h : QAt w wr leaf tot cnt acc v R) (hb : Below wr.heap.size wr W) : QAt w W leaf tot cnt acc v R where
  box := h.box.below hb h.box.lt
  own := h.own.kept (only_below hb none) (Classical.em _)
  bel := h.bel.trans (hb.mono h.bel.size)
  res := h.res.below hb h.res.lt
  left := h.left
  few := h.few
  small := h.small
theorem blank_drop (b : List UInt8) (q : Nat) (h : q < b.length) : blankB (b.drop q) = (b[q] == 0 && blankB (b.drop (q + 1))) := by
  rw [List.drop_eq_getElem_cons h]
  rfl

set_option maxHeartbeats 2000000 in
theorem rnodeOf_any (b : List UInt8) (A : Option Addr) (c B : Nat) (w : World) (hl : Lies w B A (B8 b)) (hB : B ≤ w.heap.size) (hs : b.length ≤ 140737488355328) (hc : b.length ≤ c) (hcm : c ≤ maxLen) :
    Calls Try.prog 16 #[.slice A b.length c] w (NodeIs (nodeP b) w) := by
  obtain ⟨i0, hi, hz0, hz1, hz2⟩ := info_parts rw_info
  have HI := Lib.hid hi
  have H0 := Lib.hid hz0
  have H1 := Lib.hid hz1
  have H2 := Lib.hid hz2
  have hb0 := (Below.refl w.heap.size w).alloc (Nat.le_refl _) (.cells #[.bool false, .slice none 0 0] 26)
  have WX0 := Whole.new w 26 #[.bool false, .slice none 0 0]
  have hL1 := hl.below (hb0.mono hB)
  obtain ⟨W1, hW1⟩ : ∃ W1, W1 = w.alloc (.cells #[.bool false, .slice none 0 0] 26) := ⟨_, rfl⟩
  have hz1' : W1.heap.size = w.heap.size + 1 := by rw [hW1]; simp
  rw [← hW1] at hb0 WX0 hL1
  have BX := Lib.hid hb0
  have WX := Lib.hid WX0
  have HL := Lib.hid hL1
  have HLw := Lib.hid hl
  have HZ := Lib.hid hz1'
  obtain ⟨k, hk⟩ : ∃ k, k = nat (tk 1 b) := ⟨_, rfl⟩
  obtain ⟨cn, hcn⟩ : ∃ cn, cn = nat (tk 2 (b.drop 1)) := ⟨_, rfl⟩
  obtain ⟨ok1, hok1⟩ : ∃ ok1, ok1 = !short 1 (b.drop 0) := ⟨_, rfl⟩
  obtain ⟨ok2, hok2⟩ : ∃ ok2, ok2 = !short 2 (b.drop 1) := ⟨_, rfl⟩
  have hk0 : k < 256 := by rw [hk]; have h1 := nat_lt (tk 1 b); have h2 := tk_le 1 b; exact Nat.lt_of_lt_of_le h1 (Nat.pow_le_pow_right (by omega) h2)
  have hc0 : cn < 65536 := by rw [hcn]; have h1 := nat_lt (tk 2 (b.drop 1)); have h2 := tk_le 2 (b.drop 1); exact Nat.lt_of_lt_of_le h1 (Nat.pow_le_pow_right (by omega) h2)
  have HK := Lib.hid hk
  have HCN := Lib.hid hcn
  have HO1 := Lib.hid hok1
  have HO2 := Lib.hid hok2
  have x0 : W1.cell? ⟨w.heap.size, 0, none⟩ = some (.bool false) := WX0.cell 0
  have x1 : W1.cell? ⟨w.heap.size, 1, none⟩ = some (.slice none 0 0) := WX0.cell 1
  have f0 := WX0.frozen 0
  have f1 := WX0.frozen 1
  unfold maxLen at hcm
  clear hi hz0 hz1 hz2 hb0 WX0 hl hz1' hk hcn hok1 hok2 hL1
  go_enter Try.func16, Try.ntmps16
  go_wp2_with fail
  rw [← hW1]
  clear hW1
  refine (nnum_is A c B b 0 1 k ok1 _ HL.out (by omega) (by omega) hs (by rw [HK.out]; rfl) HO1.out (by omega)).mono ?_
  rintro e w' ⟨rfl, rfl⟩
  go_wp2_with fail
  refine (nnum_is A c B b 1 2 cn ok2 _ HL.out (by omega) (by omega) hs HCN.out HO2.out (by omega)).mono ?_
  rintro e w' ⟨rfl, rfl⟩
  by_cases hgood : ok2 = true ∧ (k = 1 ∨ k = 2)
  · obtain ⟨rfl, hk12⟩ := hgood
    have h3 : 3 ≤ b.length := by
      have h' : short 2 (b.drop 1) = false := by have := HO2.out; revert this; cases short 2 (b.drop 1) <;> simp
      simp only [short, List.length_drop, decide_eq_false_iff_not] at h'
      omega
    have r1 : rst 1 b = b.drop 1 := rst_yes (by omega)
    have r2 : rst 2 (b.drop 1) = b.drop 3 := by rw [rst_yes (by rw [List.length_drop]; omega), List.drop_drop]
    have s1 : short 1 b = false := short_no (by omega)
    have s2 : short 2 (b.drop 1) = false := short_no (by rw [List.length_drop]; omega)
    obtain ⟨tot, htot⟩ : ∃ tot, tot = rowsP (decide (k = 1)) cn (b.drop 3) false := ⟨_, rfl⟩
    have hP : nodeP b = if (tot.2.2 || !blankB tot.2.1) || !okN (decide (k = 1)) tot.1 then none else some (decide (k = 1), tot.1) := by
      unfold nodeP
      rw [← HK.out, if_neg (by omega), r1, r2, s1, s2, ← HCN.out, htot]
      rfl
    have HP := Lib.hid hP
    have HT := Lib.hid htot
    clear r1 r2 s1 s2 hP htot
    rcases hk12 with rfl | rfl
    · have hP2 : nodeP b = if (tot.2.2 || !blankB tot.2.1) || !okN true tot.1 then none else some (true, tot.1) := HP.out
      have HP2 := Lib.hid hP2
      have hT2 : tot = rowsP true cn (b.drop 3) false := HT.out
      have W2B := Whole.new W1 26 #[.bool true, .slice none 0 0]
      rw [HZ.out] at W2B
      obtain ⟨W2, hW2⟩ : ∃ W2, W2 = W1.alloc (.cells #[.bool true, .slice none 0 0] 26) := ⟨_, rfl⟩
      have Q0 : QAt w W2 true tot cn [] (.slice none 0 0) (b.drop 3) := by
        rw [hW2]
        refine ⟨W2B, World.ownsRow_nil _ _ _ _, BX.out.alloc BX.out.size _, WX.out.alloc _, ?_, by simp; omega, fun r hr => by cases hr⟩
        rw [hT2]; simp
      have QX := Lib.hid Q0
      clear hP2 hT2 W2B Q0 x0 x1 f0 f1 HP HT
      go_wp2_with fail
      rw [← hW2, HZ.out]
      clear hW2
      go_loopw [9, 10] (fun av iv wr => ∃ (p i : Nat) (acc : List Rw) (v : Value), av = .int .i64 (p : Int) ∧ iv = .int .u64 (i : Int) ∧ p ≤ b.length ∧ i ≤ cn ∧ QAt w wr true tot (cn - i) acc v (b.drop p)) (fun _ iv _ => cn - (intOf iv).toNat)
      case atStart => exact ⟨3, 0, [], _, rfl, rfl, h3, Nat.zero_le _, QX.out⟩
      case round =>
        obtain ⟨p, i, acc, v, rfl, rfl, hp, hic, hq⟩ := hrel
        have HQ := Lib.hid hq
        have LW := Lib.hid (HLw.out.below (hq.bel.mono hB))
        obtain ⟨A5, c5, rfl, hc5, hm5⟩ := own_form hq.own
        have hpb : p ≤ 140737488355328 := by omega
        obtain ⟨R, hR⟩ : ∃ R, R = b.drop p := ⟨_, rfl⟩
        rw [← hR] at HQ
        have HR := Lib.hid hR
        have z0 := hq.res.lt
        have z1 := hq.box.lt
        have x0 : wr.cell? ⟨w.heap.size, 0, none⟩ = some (.bool false) := hq.res.cell 0
        have x1 : wr.cell? ⟨w.heap.size, 1, none⟩ = some (.slice none 0 0) := hq.res.cell 1
        have f0 := hq.res.frozen 0
        have f1 := hq.res.frozen 1
        have m0 : wr.cell? ⟨w.heap.size + 1, 0, none⟩ = some (.bool true) := hq.box.cell 0
        have m1 : wr.cell? ⟨w.heap.size + 1, 1, none⟩ = some (.slice A5 acc.length c5) := hq.box.cell 1
        clear hq hR QX
        by_cases hlt : i < cn
        · obtain ⟨d, hd⟩ : ∃ d, cn - i = d + 1 := ⟨cn - i - 1, by omega⟩
          rw [hd] at HQ
          have hiu : IntKind.u64.wrap (i : Int) = (i : Int) := nu64 i (by omega)
          cases hts : txtShort 1 R with
          | true =>
            have hbad : rowShort true R = true := by unfold rowShort; rw [hts]; rfl
            have HB := Lib.hid (show nodeP b = none by rw [HP2.out, HQ.out.bad hbad]; rfl)
            clear hbad
            go_wp2_with fail
            refine (text_no A c B b p 1 _ LW.out hp (by omega) (by omega) hs (by rw [← HR.out]; exact hts)).mono ?_
            rintro e w' ⟨rfl, rfl⟩
            go_wp2_with fail
            have p1 := (HQ.out.res.put 0 (.bool false)).put 1 (.slice none 0 0)
            have y0 := p1.cell 0
            have y1 := p1.cell 1
            exact bodyPost_ret (v := .tuple #[.agg #[.bool false, .slice none 0 0], .bool false]) (by simp [results, Try.results16, go_sem, y0, y1]) rfl (NodeIs.no HB.out ((HQ.out.bel.setCell (Nat.le_refl _) _).setCell (Nat.le_refl _) _))
          | false =>
            go_wp2_with fail
            refine (text_yes A c B b p 1 _ LW.out hp (by omega) (by omega) hs hc (by unfold maxLen; omega) (by rw [← HR.out]; exact hts)).mono ?_
            rintro e w' ⟨A6, c6, rfl, l6, hle6, hr6, rfl⟩
            rw [← HR.out] at l6 hle6 hr6 ⊢
            obtain ⟨K, hK⟩ : ∃ K, K = txt 1 R := ⟨_, rfl⟩
            rw [← hK] at l6 hle6 hr6 ⊢
            have hKl : K.length ≤ 255 := by rw [hK]; exact txt1_le R
            obtain ⟨p2, hp2⟩ : ∃ p2, p2 = p + 1 + K.length := ⟨_, rfl⟩
            rw [← hp2] at hle6 hr6 ⊢
            have cv := run_octets_string (P := Try.prog) 27 9 5 Try.underlying27 Try.underlying5 Try.underlying9 l6 c6
            obtain ⟨R2, hR2⟩ : ∃ R2, R2 = b.drop p2 := ⟨_, rfl⟩
            have hrr : txtRest 1 R = R2 := by rw [hr6, hR2]
            have HR2 := Lib.hid hR2
            have HRR := Lib.hid hrr
            have HK2 := Lib.hid hK
            have HTS := Lib.hid hts
            have DRW := HQ.out
            clear hK hp2 hr6 hR2 hrr hts
            have A8 := Lib.hid (HQ.out.drewn ((Below.refl _ wr).alloc (Nat.le_refl _) (.cells #[.string ⟨K.toArray⟩, .string ⟨#[]⟩, .int .i64 0] 23)))
            have Y8 := Lib.hid (Whole.new wr 23 #[.string ⟨K.toArray⟩, .string ⟨#[]⟩, .int .i64 0])
            have LW8 := Lib.hid (LW.out.below ((Below.refl B wr).alloc (by have := HQ.out.bel.size; omega) (.cells #[.string ⟨K.toArray⟩, .string ⟨#[]⟩, .int .i64 0] 23)))
            clear DRW
            cases hts2 : txtShort 1 R2 with
            | true =>
              have hbad : rowShort true R = true := by unfold rowShort; rw [HRR.out, hts2]; simp
              have HB := Lib.hid (show nodeP b = none by rw [HP2.out, HQ.out.bad hbad]; rfl)
              clear hbad
              go_wp2_with fail
              refine (text_no A c B b p2 1 _ LW8.out hle6 (by omega) (by omega) hs (by rw [← HR2.out]; exact hts2)).mono ?_
              rintro e w' ⟨rfl, rfl⟩
              go_wp2_with fail
              have p1 := ((HQ.out.res.put 0 (.bool false)).put 1 (.slice none 0 0)).alloc (.cells #[.string ⟨K.toArray⟩, .string ⟨#[]⟩, .int .i64 0] 23)
              have y0 := p1.cell 0
              have y1 := p1.cell 1
              have bz : w.heap.size ≤ ((wr.setCell ⟨w.heap.size, 0, none⟩ (.bool false)).setCell ⟨w.heap.size, 1, none⟩ (.slice none 0 0)).heap.size := by simp; omega
              exact bodyPost_ret (v := .tuple #[.agg #[.bool false, .slice none 0 0], .bool false]) (by simp [results, Try.results16, go_sem, y0, y1]) rfl (NodeIs.no HB.out (((HQ.out.bel.setCell (by simp) _).setCell (by simp) _).alloc bz _))
            | false =>
              have hgood2 : rowShort true R = false := by unfold rowShort; rw [HTS.out, HRR.out, hts2]; rfl
              go_wp2_with fail
              refine (text_yes A c B b p2 1 _ LW8.out hle6 (by omega) (by omega) hs hc (by unfold maxLen; omega) (by rw [← HR2.out]; exact hts2)).mono ?_
              rintro e w' ⟨A9, c9, rfl, l9, hle9, hr9, rfl⟩
              rw [← HR2.out] at l9 hle9 hr9 ⊢
              obtain ⟨V, hV⟩ : ∃ V, V = txt 1 R2 := ⟨_, rfl⟩
              rw [← hV] at l9 hle9 hr9 ⊢
              obtain ⟨p3, hp3⟩ : ∃ p3, p3 = p2 + 1 + V.length := ⟨_, rfl⟩
              rw [← hp3] at hle9 hr9 ⊢
              have cv2 := run_octets_string (P := Try.prog) 27 9 5 Try.underlying27 Try.underlying5 Try.underlying9 l9 c9
              have hrow : (⟨K, V, 0⟩ : Rw) = rowP true R := by rw [HK2.out, hV, ← HRR.out]; rfl
              have hrest : rowRest true R = b.drop p3 := by
                have e : rowRest true R = txtRest 1 (txtRest 1 R) := rfl
                rw [e, HRR.out, hr9]
              have HROW := Lib.hid hrow
              have HREST := Lib.hid hrest
              have HG2 := Lib.hid hgood2
              clear hV hp3 hr9 hrow hrest hgood2 hts2
              have hfw := HQ.out.few
              have hr1 : acc.length + 1 ≤ maxLen := by unfold maxLen; omega
              have hr2 : (acc.length + 1) * 40 ≤ 140737488355328 := by omega
              have b9 : Below wr.heap.size wr (wr.alloc (.cells #[.string ⟨K.toArray⟩, .string ⟨V.toArray⟩, .int .i64 0] 23)) := (Below.refl _ wr).alloc (Nat.le_refl _) _
              have hrm : ∀ o1 o2 : Obj, w.heap.size + 2 ≤ ((wr.alloc o1).alloc o2).heap.size := fun o1 o2 => by simp; omega
              have hap : ∀ (v7 : Value) (w7 : World), w7.ownsRow (w.heap.size + 2) 23 3 v7 (acc.length + 1) (cellsRws acc ++ cellsRw ⟨K, V, 0⟩) → Below (w.heap.size + 2) ((wr.alloc (.cells #[.string ⟨K.toArray⟩, .string ⟨V.toArray⟩, .int .i64 0] 23)).alloc (.cells (cellsRw ⟨K, V, 0⟩).toArray 23)) w7 → QAt w (w7.setCell ⟨w.heap.size + 1, 1, none⟩ v7) true tot d (acc ++ [⟨K, V, 0⟩]) v7 (b.drop (p3)) := fun v7 w7 ho hb => by
                have h := HQ.out.next HROW.out HG2.out b9 ho hb
                rw [HREST.out] at h
                exact h
              have hxb : ∀ w7, Below (w.heap.size + 2) ((wr.alloc (.cells #[.string ⟨K.toArray⟩, .string ⟨V.toArray⟩, .int .i64 0] 23)).alloc (.cells (cellsRw ⟨K, V, 0⟩).toArray 23)) w7 → Whole w7 (w.heap.size + 1) 26 #[.bool true, .slice A5 acc.length c5] := fun w7 hb => ((HQ.out.box.alloc _).alloc _).below hb (by omega)
              have hlit := Lies.lit (wr.alloc (.cells #[.string ⟨K.toArray⟩, .string ⟨V.toArray⟩, .int .i64 0] 23)) 23 (cellsRw ⟨K, V, 0⟩)
              have hlz : (wr.alloc (.cells #[.string ⟨K.toArray⟩, .string ⟨V.toArray⟩, .int .i64 0] 23)).heap.size = wr.heap.size + 1 := by simp
              rw [hlz] at hlit
              have HLIT := Lib.hid hlit
              have HR1' := Lib.hid hr1
              have HR2' := Lib.hid hr2
              have HRM := Lib.hid hrm
              have HAP := Lib.hid hap
              have HXB := Lib.hid hxb
              have hd' : cn - (i + 1) = d := by omega
              have HD' := Lib.hid hd'
              have hib : (i : Int) ≤ 65535 := by omega
              clear hlit hlz hfw hr1 hr2 b9 hrm hap hxb hd'
              go_wp2_with (at_builtin; go_must (refine wpList_append_cells rfl _ _ 24 rfl (w.heap.size + 2) 23 i0 _ 3 40 Try.underlying24 HI.out H0.out H1.out H2.out rfl (by omega) (.slice A5 acc.length c5) acc.length _ rfl ((HQ.out.own.alloc _).alloc _) _ _ 1 1 (cellsRw ⟨K, V, 0⟩) rfl HLIT.out rfl (cellsRw_one _) HR1'.out HR2'.out (HRM.out _ _) ?_); intro v7 w7 o7 b7; obtain ⟨A7, c7, rfl, hc7, hm7⟩ := own_form o7; have QN := Lib.hid (HAP.out _ _ o7 b7); have XB := HXB.out _ b7; have mm0 : w7.cell? ⟨w.heap.size + 1, 0, none⟩ = some (.bool true) := XB.cell 0; have mm1 : w7.cell? ⟨w.heap.size + 1, 1, none⟩ = some (.slice A5 acc.length c5) := XB.cell 1; have ff1 := XB.frozen 1; clear o7 b7 XB)
              go_roundw
              case rel => exact ⟨(p3), i + 1, acc ++ [⟨K, V, 0⟩], _, by go_num, by go_num, by omega, by omega, by rw [HD'.out]; exact QN.out⟩
              case measure => simp [intOf]; omega
        · obtain rfl : i = cn := by omega
          have htot : tot = (acc, R, false) := by
            rw [HQ.out.left, Nat.sub_self, rowsP, List.append_nil]
          have hP3 : nodeP b = if !blankB R || !okN true acc then none else some (true, acc) := by rw [HP2.out, htot]; simp
          have HP3 := Lib.hid hP3
          obtain ⟨wo, hwo⟩ : ∃ wo : World, wo = wr := ⟨_, rfl⟩
          subst hwo
          clear htot hP3
          go_wp2_with fail
          go_loop [20] (fun qv => ∃ q : Nat, q ≤ b.length ∧ qv = .int .i64 (q : Int) ∧ blankB R = blankB (b.drop q)) (fun qv => b.length - (intOf qv).toNat)
          case atStart => exact ⟨p, hp, rfl, by rw [HR.out]⟩
          case round =>
            obtain ⟨q, hql, rfl, hbl⟩ := hrel
            have HBL := Lib.hid hbl
            clear hbl
            by_cases hq2 : q < b.length
            · rcases LW.out.octets with hnil | ⟨gb, ob, rfl, hgb, hcell⟩
              · rw [hnil] at hq2; simp at hq2
              have hc9 := hcell q hq2
              have hst := blank_drop b q hq2
              have HST := Lib.hid hst
              obtain ⟨o9, ho9⟩ : ∃ o9, o9 = b[q] := ⟨_, rfl⟩
              rw [← ho9] at hc9 HST
              clear hcell hst ho9
              by_cases ho : o9 = 0
              · subst ho
                have E : Hid (blankB R = blankB (b.drop (q + 1))) := Lib.hid (by rw [HBL.out, HST.out]; rfl)
                rw [show ((0 : UInt8).toNat : Int) = 0 from rfl] at hc9
                go_wp2_with fail
                go_round
                case rel => exact ⟨q + 1, by omega, by go_num, E.out⟩
                case measure => simp [intOf]; omega
              · have hne : ((o9.toNat : Int) != 0) = true := bne_iff_ne.2 (fun h => ho (UInt8.toNat_inj.1 (by simpa using h)))
                have HB : Hid (nodeP b = none) := Lib.hid (by
                  have e : blankB R = false := by rw [HBL.out, HST.out]; simp [ho]
                  rw [HP3.out, e]; rfl)
                clear ho
                go_wp2_with fail
                have p1 := (HQ.out.res.put 0 (.bool false)).put 1 (.slice none 0 0)
                have y0 := p1.cell 0
                have y1 := p1.cell 1
                exact bodyPost_ret (v := .tuple #[.agg #[.bool false, .slice none 0 0], .bool false]) (by simp [results, Try.results16, go_sem, y0, y1]) rfl (NodeIs.no HB.out ((HQ.out.bel.setCell (Nat.le_refl _) _).setCell (Nat.le_refl _) _))
            · have hbt : blankB R = true := by rw [HBL.out, List.drop_eq_nil_of_le (by omega)]; rfl
              have hP4 : nodeP b = if !okN true acc then none else some (true, acc) := by rw [HP3.out, hbt]; simp
              have HP4 := Lib.hid hP4
              have hql2 : ¬ (q : Int) < (b.length : Int) := by omega
              clear hbt hP4
              go_wp2_with fail
              refine (rok_any true acc A5 c5 _ _ (own_rows HQ.out.own) (Nat.le_refl _) HQ.out.fewR).mono ?_
              rintro e w7 ⟨rfl, b7⟩
              have Q7 := Lib.hid (HQ.out.drewn b7)
              have x0 : w7.cell? ⟨w.heap.size, 0, none⟩ = some (.bool false) := Q7.out.res.cell 0
              have x1 : w7.cell? ⟨w.heap.size, 1, none⟩ = some (.slice none 0 0) := Q7.out.res.cell 1
              have f0 := Q7.out.res.frozen 0
              have f1 := Q7.out.res.frozen 1
              have m0 : w7.cell? ⟨w.heap.size + 1, 0, none⟩ = some (.bool true) := Q7.out.box.cell 0
              have m1 : w7.cell? ⟨w.heap.size + 1, 1, none⟩ = some (.slice A5 acc.length c5) := Q7.out.box.cell 1
              clear b7
              obtain ⟨okk, hokk⟩ : ∃ okk, okk = okN true acc := ⟨_, rfl⟩
              rw [← hokk]
              rw [← hokk] at HP4
              clear hokk
              cases okk with
              | false =>
                go_wp2_with fail
                have p1 := (Q7.out.res.put 0 (.bool false)).put 1 (.slice none 0 0)
                have y0 := p1.cell 0
                have y1 := p1.cell 1
                exact bodyPost_ret (v := .tuple #[.agg #[.bool false, .slice none 0 0], .bool false]) (by simp [results, Try.results16, go_sem, y0, y1]) rfl (NodeIs.no HP4.out ((Q7.out.bel.setCell (Nat.le_refl _) _).setCell (Nat.le_refl _) _))
              | true =>
                go_wp2_with fail
                have p1 := (Q7.out.res.put 0 (.bool true)).put 1 (.slice A5 acc.length c5)
                have y0 := p1.cell 0
                have y1 := p1.cell 1
                refine bodyPost_ret (v := .tuple #[.agg #[.bool true, .slice A5 acc.length c5], .bool true]) (by simp [results, Try.results16, go_sem, y0, y1]) rfl (NodeIs.yes HP4.out ((Q7.out.bel.setCell (Nat.le_refl _) _).setCell (Nat.le_refl _) _) ?_)
                exact own_less (own_set2 Q7.out.own (by omega)) (by omega)
    · have hP2 : nodeP b = if (tot.2.2 || !blankB tot.2.1) || !okN false tot.1 then none else some (false, tot.1) := HP.out
      have HP2 := Lib.hid hP2
      have hT2 : tot = rowsP false cn (b.drop 3) false := HT.out
      have W2B := Whole.new W1 26 #[.bool false, .slice none 0 0]
      rw [HZ.out] at W2B
      obtain ⟨W2, hW2⟩ : ∃ W2, W2 = W1.alloc (.cells #[.bool false, .slice none 0 0] 26) := ⟨_, rfl⟩
      have Q0 : QAt w W2 false tot cn [] (.slice none 0 0) (b.drop 3) := by
        rw [hW2]
        refine ⟨W2B, World.ownsRow_nil _ _ _ _, BX.out.alloc BX.out.size _, WX.out.alloc _, ?_, by simp; omega, fun r hr => by cases hr⟩
        rw [hT2]; simp
      have QX := Lib.hid Q0
      clear hP2 hT2 W2B Q0 x0 x1 f0 f1 HP HT
      go_wp2_with fail
      rw [← hW2, HZ.out]
      clear hW2
      go_loopw [9, 10] (fun av iv wr => ∃ (p i : Nat) (acc : List Rw) (v : Value), av = .int .i64 (p : Int) ∧ iv = .int .u64 (i : Int) ∧ p ≤ b.length ∧ i ≤ cn ∧ QAt w wr false tot (cn - i) acc v (b.drop p)) (fun _ iv _ => cn - (intOf iv).toNat)
      case atStart => exact ⟨3, 0, [], _, rfl, rfl, h3, Nat.zero_le _, QX.out⟩
      case round =>
        obtain ⟨p, i, acc, v, rfl, rfl, hp, hic, hq⟩ := hrel
        have HQ := Lib.hid hq
        have LW := Lib.hid (HLw.out.below (hq.bel.mono hB))
        obtain ⟨A5, c5, rfl, hc5, hm5⟩ := own_form hq.own
        have hpb : p ≤ 140737488355328 := by omega
        obtain ⟨R, hR⟩ : ∃ R, R = b.drop p := ⟨_, rfl⟩
        rw [← hR] at HQ
        have HR := Lib.hid hR
        have z0 := hq.res.lt
        have z1 := hq.box.lt
        have x0 : wr.cell? ⟨w.heap.size, 0, none⟩ = some (.bool false) := hq.res.cell 0
        have x1 : wr.cell? ⟨w.heap.size, 1, none⟩ = some (.slice none 0 0) := hq.res.cell 1
        have f0 := hq.res.frozen 0
        have f1 := hq.res.frozen 1
        have m0 : wr.cell? ⟨w.heap.size + 1, 0, none⟩ = some (.bool false) := hq.box.cell 0
        have m1 : wr.cell? ⟨w.heap.size + 1, 1, none⟩ = some (.slice A5 acc.length c5) := hq.box.cell 1
        clear hq hR QX
        by_cases hlt : i < cn
        · obtain ⟨d, hd⟩ : ∃ d, cn - i = d + 1 := ⟨cn - i - 1, by omega⟩
          rw [hd] at HQ
          have hiu : IntKind.u64.wrap (i : Int) = (i : Int) := nu64 i (by omega)
          cases hts : txtShort 1 R with
          | true =>
            have hbad : rowShort false R = true := by unfold rowShort; rw [hts]; rfl
            have HB := Lib.hid (show nodeP b = none by rw [HP2.out, HQ.out.bad hbad]; rfl)
            clear hbad
            go_wp2_with fail
            refine (text_no A c B b p 1 _ LW.out hp (by omega) (by omega) hs (by rw [← HR.out]; exact hts)).mono ?_
            rintro e w' ⟨rfl, rfl⟩
            go_wp2_with fail
            have p1 := (HQ.out.res.put 0 (.bool false)).put 1 (.slice none 0 0)
            have y0 := p1.cell 0
            have y1 := p1.cell 1
            exact bodyPost_ret (v := .tuple #[.agg #[.bool false, .slice none 0 0], .bool false]) (by simp [results, Try.results16, go_sem, y0, y1]) rfl (NodeIs.no HB.out ((HQ.out.bel.setCell (Nat.le_refl _) _).setCell (Nat.le_refl _) _))
          | false =>
            go_wp2_with fail
            refine (text_yes A c B b p 1 _ LW.out hp (by omega) (by omega) hs hc (by unfold maxLen; omega) (by rw [← HR.out]; exact hts)).mono ?_
            rintro e w' ⟨A6, c6, rfl, l6, hle6, hr6, rfl⟩
            rw [← HR.out] at l6 hle6 hr6 ⊢
            obtain ⟨K, hK⟩ : ∃ K, K = txt 1 R := ⟨_, rfl⟩
            rw [← hK] at l6 hle6 hr6 ⊢
            have hKl : K.length ≤ 255 := by rw [hK]; exact txt1_le R
            obtain ⟨p2, hp2⟩ : ∃ p2, p2 = p + 1 + K.length := ⟨_, rfl⟩
            rw [← hp2] at hle6 hr6 ⊢
            have cv := run_octets_string (P := Try.prog) 27 9 5 Try.underlying27 Try.underlying5 Try.underlying9 l6 c6
            obtain ⟨R2, hR2⟩ : ∃ R2, R2 = b.drop p2 := ⟨_, rfl⟩
            have hrr : txtRest 1 R = R2 := by rw [hr6, hR2]
            have HR2 := Lib.hid hR2
            have HRR := Lib.hid hrr
            have HK2 := Lib.hid hK
            have HTS := Lib.hid hts
            have DRW := HQ.out
            clear hK hp2 hr6 hR2 hrr hts
            have A8 := Lib.hid (HQ.out.drewn ((Below.refl _ wr).alloc (Nat.le_refl _) (.cells #[.string ⟨K.toArray⟩, .string ⟨#[]⟩, .int .i64 0] 23)))
            have Y8 := Lib.hid (Whole.new wr 23 #[.string ⟨K.toArray⟩, .string ⟨#[]⟩, .int .i64 0])
            have LW8 := Lib.hid (LW.out.below ((Below.refl B wr).alloc (by have := HQ.out.bel.size; omega) (.cells #[.string ⟨K.toArray⟩, .string ⟨#[]⟩, .int .i64 0] 23)))
            clear DRW
            cases hts2 : short 4 R2 with
            | true =>
              have hbad : rowShort false R = true := by unfold rowShort; rw [HRR.out]; simp [hts2]
              have HB := Lib.hid (show nodeP b = none by rw [HP2.out, HQ.out.bad hbad]; rfl)
              clear hbad
              go_wp2_with fail
              refine (num_any A c B b p2 4 _ LW8.out hle6 (by omega) hs).mono ?_
              rintro e w' ⟨rfl, rfl⟩
              rw [← HR2.out, hts2]
              generalize nat (tk 4 R2) = qq
              go_wp2_with fail
              have p1 := ((HQ.out.res.put 0 (.bool false)).put 1 (.slice none 0 0)).alloc (.cells #[.string ⟨K.toArray⟩, .string ⟨#[]⟩, .int .i64 0] 23)
              have y0 := p1.cell 0
              have y1 := p1.cell 1
              have bz : w.heap.size ≤ ((wr.setCell ⟨w.heap.size, 0, none⟩ (.bool false)).setCell ⟨w.heap.size, 1, none⟩ (.slice none 0 0)).heap.size := by simp; omega
              exact bodyPost_ret (v := .tuple #[.agg #[.bool false, .slice none 0 0], .bool false]) (by simp [results, Try.results16, go_sem, y0, y1]) rfl (NodeIs.no HB.out (((HQ.out.bel.setCell (by simp) _).setCell (by simp) _).alloc bz _))
            | false =>
              have hgood2 : rowShort false R = false := by unfold rowShort; rw [HTS.out, HRR.out]; simp [hts2]
              go_wp2_with fail
              refine (num_any A c B b p2 4 _ LW8.out hle6 (by omega) hs).mono ?_
              rintro e w' ⟨rfl, rfl⟩
              rw [← HR2.out, hts2]
              have hq : nat (tk 4 R2) < 4294967296 := by have h1 := nat_lt (tk 4 R2); have h2 := tk_le 4 R2; exact Nat.lt_of_lt_of_le h1 (Nat.pow_le_pow_right (by omega) h2)
              obtain ⟨qq, hqq⟩ : ∃ qq, qq = nat (tk 4 R2) := ⟨_, rfl⟩
              rw [← hqq] at hq ⊢
              have hcv := i64_u32 qq hq
              have h4 : p2 + 4 ≤ b.length := by
                have h := hts2
                rw [HR2.out] at h
                simp only [short, List.length_drop, decide_eq_false_iff_not] at h
                omega
              have hrow : (⟨K, [], (qq : Int)⟩ : Rw) = rowP false R := by rw [HK2.out, hqq, ← HRR.out]; rfl
              have hrest : rowRest false R = b.drop (p2 + 4) := by
                have e : rowRest false R = rst 4 (txtRest 1 R) := rfl
                rw [e, HRR.out, HR2.out, rst_yes (by rw [List.length_drop]; omega), List.drop_drop]
              have HROW := Lib.hid hrow
              have HREST := Lib.hid hrest
              have HG2 := Lib.hid hgood2
              clear hqq hrow hrest hgood2 hts2
              have hfw := HQ.out.few
              have hr1 : acc.length + 1 ≤ maxLen := by unfold maxLen; omega
              have hr2 : (acc.length + 1) * 40 ≤ 140737488355328 := by omega
              have b9 : Below wr.heap.size wr (wr.alloc (.cells #[.string ⟨K.toArray⟩, .string ⟨#[]⟩, .int .i64 (qq : Int)] 23)) := (Below.refl _ wr).alloc (Nat.le_refl _) _
              have hrm : ∀ o1 o2 : Obj, w.heap.size + 2 ≤ ((wr.alloc o1).alloc o2).heap.size := fun o1 o2 => by simp; omega
              have hap : ∀ (v7 : Value) (w7 : World), w7.ownsRow (w.heap.size + 2) 23 3 v7 (acc.length + 1) (cellsRws acc ++ cellsRw ⟨K, [], (qq : Int)⟩) → Below (w.heap.size + 2) ((wr.alloc (.cells #[.string ⟨K.toArray⟩, .string ⟨#[]⟩, .int .i64 (qq : Int)] 23)).alloc (.cells (cellsRw ⟨K, [], (qq : Int)⟩).toArray 23)) w7 → QAt w (w7.setCell ⟨w.heap.size + 1, 1, none⟩ v7) false tot d (acc ++ [⟨K, [], (qq : Int)⟩]) v7 (b.drop (p2 + 4)) := fun v7 w7 ho hb => by
                have h := HQ.out.next HROW.out HG2.out b9 ho hb
                rw [HREST.out] at h
                exact h
              have hxb : ∀ w7, Below (w.heap.size + 2) ((wr.alloc (.cells #[.string ⟨K.toArray⟩, .string ⟨#[]⟩, .int .i64 (qq : Int)] 23)).alloc (.cells (cellsRw ⟨K, [], (qq : Int)⟩).toArray 23)) w7 → Whole w7 (w.heap.size + 1) 26 #[.bool false, .slice A5 acc.length c5] := fun w7 hb => ((HQ.out.box.alloc _).alloc _).below hb (by omega)
              have hlit := Lies.lit (wr.alloc (.cells #[.string ⟨K.toArray⟩, .string ⟨#[]⟩, .int .i64 (qq : Int)] 23)) 23 (cellsRw ⟨K, [], (qq : Int)⟩)
              have hlz : (wr.alloc (.cells #[.string ⟨K.toArray⟩, .string ⟨#[]⟩, .int .i64 (qq : Int)] 23)).heap.size = wr.heap.size + 1 := by simp
              rw [hlz] at hlit
              have HLIT := Lib.hid hlit
              have HR1' := Lib.hid hr1
              have HR2' := Lib.hid hr2
              have HRM := Lib.hid hrm
              have HAP := Lib.hid hap
              have HXB := Lib.hid hxb
              have hd' : cn - (i + 1) = d := by omega
              have HD' := Lib.hid hd'
              have hib : (i : Int) ≤ 65535 := by omega
              clear hlit hlz hfw hr1 hr2 b9 hrm hap hxb hd'
              go_wp2_with (at_builtin; go_must (refine wpList_append_cells rfl _ _ 24 rfl (w.heap.size + 2) 23 i0 _ 3 40 Try.underlying24 HI.out H0.out H1.out H2.out rfl (by omega) (.slice A5 acc.length c5) acc.length _ rfl ((HQ.out.own.alloc _).alloc _) _ _ 1 1 (cellsRw ⟨K, [], (qq : Int)⟩) rfl HLIT.out rfl (cellsRw_one _) HR1'.out HR2'.out (HRM.out _ _) ?_); intro v7 w7 o7 b7; obtain ⟨A7, c7, rfl, hc7, hm7⟩ := own_form o7; have QN := Lib.hid (HAP.out _ _ o7 b7); have XB := HXB.out _ b7; have mm0 : w7.cell? ⟨w.heap.size + 1, 0, none⟩ = some (.bool false) := XB.cell 0; have mm1 : w7.cell? ⟨w.heap.size + 1, 1, none⟩ = some (.slice A5 acc.length c5) := XB.cell 1; have ff1 := XB.frozen 1; clear o7 b7 XB)
              go_roundw
              case rel => exact ⟨(p2 + 4), i + 1, acc ++ [⟨K, [], (qq : Int)⟩], _, by go_num, by go_num, by omega, by omega, by rw [HD'.out]; exact QN.out⟩
              case measure => simp [intOf]; omega
        · obtain rfl : i = cn := by omega
          have htot : tot = (acc, R, false) := by
            rw [HQ.out.left, Nat.sub_self, rowsP, List.append_nil]
          have hP3 : nodeP b = if !blankB R || !okN false acc then none else some (false, acc) := by rw [HP2.out, htot]; simp
          have HP3 := Lib.hid hP3
          obtain ⟨wo, hwo⟩ : ∃ wo : World, wo = wr := ⟨_, rfl⟩
          subst hwo
          clear htot hP3
          go_wp2_with fail
          go_loop [20] (fun qv => ∃ q : Nat, q ≤ b.length ∧ qv = .int .i64 (q : Int) ∧ blankB R = blankB (b.drop q)) (fun qv => b.length - (intOf qv).toNat)
          case atStart => exact ⟨p, hp, rfl, by rw [HR.out]⟩
          case round =>
            obtain ⟨q, hql, rfl, hbl⟩ := hrel
            have HBL := Lib.hid hbl
            clear hbl
            by_cases hq2 : q < b.length
            · rcases LW.out.octets with hnil | ⟨gb, ob, rfl, hgb, hcell⟩
              · rw [hnil] at hq2; simp at hq2
              have hc9 := hcell q hq2
              have hst := blank_drop b q hq2
              have HST := Lib.hid hst
              obtain ⟨o9, ho9⟩ : ∃ o9, o9 = b[q] := ⟨_, rfl⟩
              rw [← ho9] at hc9 HST
              clear hcell hst ho9
              by_cases ho : o9 = 0
              · subst ho
                have E : Hid (blankB R = blankB (b.drop (q + 1))) := Lib.hid (by rw [HBL.out, HST.out]; rfl)
                rw [show ((0 : UInt8).toNat : Int) = 0 from rfl] at hc9
                go_wp2_with fail
                go_round
                case rel => exact ⟨q + 1, by omega, by go_num, E.out⟩
                case measure => simp [intOf]; omega
              · have hne : ((o9.toNat : Int) != 0) = true := bne_iff_ne.2 (fun h => ho (UInt8.toNat_inj.1 (by simpa using h)))
                have HB : Hid (nodeP b = none) := Lib.hid (by
                  have e : blankB R = false := by rw [HBL.out, HST.out]; simp [ho]
                  rw [HP3.out, e]; rfl)
                clear ho
                go_wp2_with fail
                have p1 := (HQ.out.res.put 0 (.bool false)).put 1 (.slice none 0 0)
                have y0 := p1.cell 0
                have y1 := p1.cell 1
                exact bodyPost_ret (v := .tuple #[.agg #[.bool false, .slice none 0 0], .bool false]) (by simp [results, Try.results16, go_sem, y0, y1]) rfl (NodeIs.no HB.out ((HQ.out.bel.setCell (Nat.le_refl _) _).setCell (Nat.le_refl _) _))
            · have hbt : blankB R = true := by rw [HBL.out, List.drop_eq_nil_of_le (by omega)]; rfl
              have hP4 : nodeP b = if !okN false acc then none else some (false, acc) := by rw [HP3.out, hbt]; simp
              have HP4 := Lib.hid hP4
              have hql2 : ¬ (q : Int) < (b.length : Int) := by omega
              clear hbt hP4
              go_wp2_with fail
              refine (rok_any false acc A5 c5 _ _ (own_rows HQ.out.own) (Nat.le_refl _) HQ.out.fewR).mono ?_
              rintro e w7 ⟨rfl, b7⟩
              have Q7 := Lib.hid (HQ.out.drewn b7)
              have x0 : w7.cell? ⟨w.heap.size, 0, none⟩ = some (.bool false) := Q7.out.res.cell 0
              have x1 : w7.cell? ⟨w.heap.size, 1, none⟩ = some (.slice none 0 0) := Q7.out.res.cell 1
              have f0 := Q7.out.res.frozen 0
              have f1 := Q7.out.res.frozen 1
              have m0 : w7.cell? ⟨w.heap.size + 1, 0, none⟩ = some (.bool false) := Q7.out.box.cell 0
              have m1 : w7.cell? ⟨w.heap.size + 1, 1, none⟩ = some (.slice A5 acc.length c5) := Q7.out.box.cell 1
              clear b7
              obtain ⟨okk, hokk⟩ : ∃ okk, okk = okN false acc := ⟨_, rfl⟩
              rw [← hokk]
              rw [← hokk] at HP4
              clear hokk
              cases okk with
              | false =>
                go_wp2_with fail
                have p1 := (Q7.out.res.put 0 (.bool false)).put 1 (.slice none 0 0)
                have y0 := p1.cell 0
                have y1 := p1.cell 1
                exact bodyPost_ret (v := .tuple #[.agg #[.bool false, .slice none 0 0], .bool false]) (by simp [results, Try.results16, go_sem, y0, y1]) rfl (NodeIs.no HP4.out ((Q7.out.bel.setCell (Nat.le_refl _) _).setCell (Nat.le_refl _) _))
              | true =>
                go_wp2_with fail
                have p1 := (Q7.out.res.put 0 (.bool false)).put 1 (.slice A5 acc.length c5)
                have y0 := p1.cell 0
                have y1 := p1.cell 1
                refine bodyPost_ret (v := .tuple #[.agg #[.bool false, .slice A5 acc.length c5], .bool true]) (by simp [results, Try.results16, go_sem, y0, y1]) rfl (NodeIs.yes HP4.out ((Q7.out.bel.setCell (Nat.le_refl _) _).setCell (Nat.le_refl _) _) ?_)
                exact own_less (own_set2 Q7.out.own (by omega)) (by omega)
  · have hP : nodeP b = none := by
      unfold nodeP
      by_cases h : k ≠ 1 ∧ k ≠ 2
      · rw [if_pos (by rw [← HK.out]; exact h)]
      · have hk12 : k = 1 ∨ k = 2 := by omega
        have hs2 : short 2 (b.drop 1) = true := by
          cases e : short 2 (b.drop 1)
          · exact absurd ⟨by rw [HO2.out, e]; rfl, hk12⟩ hgood
          · rfl
        rw [if_neg (by rw [← HK.out]; exact h)]
        have e2 : (short 1 b || short 2 (rst 1 b)) = true := by
          rcases Nat.lt_or_ge b.length 1 with h1 | h1
          · rw [short_yes h1]; rfl
          · rw [rst_yes h1, hs2, Bool.or_true]
        rw [e2]
        have e3 : ∀ lf n x, (rowsP lf n x true).2.2 = true := fun lf n x => by cases n <;> rfl
        rw [if_pos (by simp [e3])]
    have HP := Lib.hid hP
    clear hP
    have fin : ∀ e, e = Ending.returned (.tuple #[.agg #[.bool false, .slice none 0 0], .bool false]) → NodeIs (nodeP b) w e ((W1.setCell ⟨w.heap.size, 0, none⟩ (.bool false)).setCell ⟨w.heap.size, 1, none⟩ (.slice none 0 0)) := fun e he => by rw [he]; exact NodeIs.no HP.out ((BX.out.setCell (Nat.le_refl _) _).setCell (Nat.le_refl _) _)
    have FIN := Lib.hid fin
    clear fin
    cases ok2 with
    | false =>
      clear hgood
      go_wp2_with fail
      have p1 := (WX.out.put 0 (.bool false)).put 1 (.slice none 0 0)
      have y0 := p1.cell 0
      have y1 := p1.cell 1
      exact bodyPost_ret (v := .tuple #[.agg #[.bool false, .slice none 0 0], .bool false]) (by simp [results, Try.results16, go_sem, y0, y1]) rfl (FIN.out _ rfl)
    | true =>
      have hk12 : ¬ (k = 1 ∨ k = 2) := fun h => hgood ⟨rfl, h⟩
      rcases Nat.lt_or_ge k 1 with h | h
      · have h' : k = 0 := by omega
        clear hgood hk12 h
        subst h'
        go_wp2_with fail
        have p1 := (WX.out.put 0 (.bool false)).put 1 (.slice none 0 0)
        have y0 := p1.cell 0
        have y1 := p1.cell 1
        exact bodyPost_ret (v := .tuple #[.agg #[.bool false, .slice none 0 0], .bool false]) (by simp [results, Try.results16, go_sem, y0, y1]) rfl (FIN.out _ rfl)
      · have h' : 2 < k := by omega
        clear hgood hk12
        go_wp2_with fail
        have p1 := (WX.out.put 0 (.bool false)).put 1 (.slice none 0 0)
        have y0 := p1.cell 0
        have y1 := p1.cell 1
        exact bodyPost_ret (v := .tuple #[.agg #[.bool false, .slice none 0 0], .bool false]) (by simp [results, Try.results16, go_sem, y0, y1]) rfl (FIN.out _ rfl)
end Go.Proofs.Ytdjkkppefgppmaa
