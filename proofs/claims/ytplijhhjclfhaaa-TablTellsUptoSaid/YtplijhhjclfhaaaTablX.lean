/- Contract of the document's own answer for layer 2: octets read as fields. -/
import Derived.Test.YtplijhhjclfhaaaTablN
import Derived.Test.YtplijhhjclfhaaaTablQ4
namespace Go.Proofs.Ytplijhhjclfhaaa
open Go.RowKit

def ReadsOf (N k : Nat) : Prop := ∀ (A : Option Addr) (c : Nat) (b : List UInt8) (B : Nat) (deep : Int) (w : World), 1 ≤ deep → deep + k = 9 → Lies w B A (B8 b) → B ≤ w.heap.size → b.length ≤ 1048576 → b.length ≤ c → c ≤ maxLen →
    Calls Try.prog N #[.slice A b.length c, .int .i64 deep] w (ParseIs (refP k b) k w)

theorem tabnew_nil (k : Nat) (w : World) (lo : Nat) : TabNew k w lo [] none 0 := by
  cases k with
  | zero => exact ⟨rfl, Nat.zero_le _⟩
  | succ k => exact ⟨Nat.le_refl _, Nat.zero_le _, [], .inl rfl, rfl⟩

set_option maxHeartbeats 2000000 in
set_option maxRecDepth 100000 in
theorem read_any (k : Nat) : ReadsOf 30 k := by
  induction k with
  | zero =>
    intro A c b B deep w hd1 hd hl hB hs hc hcm
    have hd' : deep = 9 := by omega
    subst hd'
    have HL := Lib.hid hl
    cases hb : b with
    | nil =>
      have D : Hid (ParseIs (refP 0 []) 0 w (.returned (.tuple #[.slice none 0 0, .bool true])) w) := Lib.hid (.inr ⟨[], none, 0, rfl, rfl, ⟨rfl, Nat.zero_le _⟩, Below.refl _ _⟩)
      clear hl hd hb
      go_enter Try.func30, Try.ntmps30
      go_wp2_with fail
      refine wp_loop_rounds 1 ?_
      rw [rounds_succ]
      go_wp2_with fail
      go_ret2
      exact D.out
    | cons x t =>
      have D : Hid (ParseIs (refP 0 (x :: t)) 0 w (.returned (.tuple #[.slice none 0 0, .bool false])) w) := Lib.hid (ParseIs.no rfl (Below.refl _ _))
      obtain ⟨R, hR⟩ : ∃ R, R = x :: t := ⟨_, rfl⟩
      have h0 : 0 < R.length := by rw [hR]; simp
      rw [hb, ← hR] at HL hs hc
      rw [← hR] at D ⊢
      clear hl hd hb hR
      go_enter Try.func30, Try.ntmps30
      go_wp2_with fail
      refine wp_loop_rounds 1 ?_
      rw [rounds_succ]
      go_wp2_with fail
      cases ht : txtShort 1 (R.drop 0) with
      | true =>
        refine (text_no A c B R 0 1 _ HL.out (by omega) (by omega) (by omega) (by omega) ht).mono ?_
        rintro e w' ⟨rfl, rfl⟩
        clear ht
        go_wp2_with fail
        go_ret2
        exact D.out
      | false =>
        refine (text_yes2 A c B R 0 1 _ HL.out (by omega) (by omega) (by omega) (by omega) hc hcm ht).mono ?_
        rintro e w' ⟨A', c', rfl, _, hp2, _, _, _, rfl⟩
        obtain ⟨P2, hP2⟩ : ∃ P2, P2 = 0 + 1 + (txt 1 (R.drop 0)).length := ⟨_, rfl⟩
        rw [← hP2] at hp2 ⊢
        clear ht hP2
        by_cases hge : P2 < R.length
        · go_wp2_with fail
          go_ret2
          exact D.out
        · go_wp2_with fail
          go_ret2
          exact D.out
  | succ k ih =>
    intro A c b B deep w hd1 hd hl hB hs hc hcm
    rcases Nat.eq_zero_or_pos b.length with hb0 | hb0
    · have hbn : b = [] := List.eq_nil_of_length_eq_zero hb0
      subst hbn
      have D : Hid (ParseIs (refP (k + 1) []) (k + 1) w (.returned (.tuple #[.slice none 0 0, .bool true])) w) := Lib.hid (.inr ⟨[], none, 0, rfl, rfl, Fields.done (Fields.start k w.heap.size w) rfl (Nat.le_succ _), Below.refl _ _⟩)
      clear hl hd hb0
      go_enter Try.func30, Try.ntmps30
      go_wp2_with fail
      refine wp_loop_rounds 1 ?_
      rw [rounds_succ]
      go_wp2_with fail
      go_ret2
      exact D.out
    · have hd8 : deep ≤ 8 := by omega
      obtain ⟨bb, oo, rfl, hbb, hcb⟩ : ∃ bb oo, A = some ⟨bb, oo, none⟩ ∧ bb < B ∧ ∀ j u, (B8 b)[j]? = some u → w.cell? ⟨bb, oo + j, none⟩ = some u := by
        rcases hl with h | h
        · rw [← B8_length, h] at hb0
          simp at hb0
        · exact h
      obtain ⟨g, hgs⟩ : ∃ g, w.heap.size = g + 1 := ⟨w.heap.size - 1, by omega⟩
      obtain ⟨i0, hi, hz0, hz1, hz2⟩ := info_parts field_info
      have HI := Lib.hid hi
      have H0 := Lib.hid hz0
      have H1 := Lib.hid hz1
      have H2 := Lib.hid hz2
      have IH := Lib.hid ih
      have HL := Lib.hid hl
      have HD := Lib.hid hd
      have HCB := Lib.hid hcb
      obtain ⟨PB, hPB⟩ : ∃ PB, PB = refP (k + 1) b := ⟨_, rfl⟩
      rw [← hPB]
      have HPB := Lib.hid hPB
      clear hi hz0 hz1 hz2 ih hl hd hPB hcb
      go_enter Try.func30, Try.ntmps30
      go_wp2_with fail
      go_loopw [6, 7] (fun v i wr => ∃ (l0 : List Fld) (j n : Nat), i = .int .i64 j ∧ PB = (parseL (rowP true (refP k)) n (b.drop j)).map (l0 ++ ·) ∧ (b.drop j).length ≤ n ∧ j ≤ b.length ∧ l0.length ≤ j ∧ Below w.heap.size w wr ∧ Fields k g wr v l0) (fun _ i _ => b.length - (intOf i).toNat)
      case atStart =>
        refine ⟨[], 0, b.length, rfl, ?_, by simp, by omega, by simp, Below.refl _ _, Fields.start _ _ _⟩
        rw [HPB.out, List.drop_zero]
        cases h : parseL (rowP true (refP k)) b.length b <;> simp [refP, h]
      case round =>
        obtain ⟨l0, j, n, rfl, hp, hn, hj, hl0, hbel, hf⟩ := hrel
        have HP := Lib.hid hp
        have HB := Lib.hid hbel
        have HF := Lib.hid hf
        have hsz := hbel.size
        have hdl : (b.drop j).length = b.length - j := List.length_drop
        rw [hdl] at hn
        clear hp hbel hf hdl
        by_cases hlt : j < b.length
        · obtain ⟨R, hR⟩ : ∃ R, R = b.drop j := ⟨_, rfl⟩
          have hstep : PB = match rowP true (refP k) R with
              | none => none
              | some (f, r) => (parseL (rowP true (refP k)) (n - 1) r).map (fun l => l0 ++ (f :: l)) := by
            rw [HP.out, ← hR]
            cases n with
            | zero => omega
            | succ n =>
              rw [hR, List.drop_eq_getElem_cons hlt]
              conv => lhs; unfold parseL
              cases rowP true (refP k) (b[j] :: b.drop (j + 1)) with
              | none => rfl
              | some y => obtain ⟨f, r⟩ := y; simp [Function.comp_def]
          have HS := Lib.hid hstep
          have HR := Lib.hid hR
          have NO : ∀ wx, rowP true (refP k) R = none → Below w.heap.size w wx → ParseIs PB (k + 1) w (.returned (.tuple #[.slice none 0 0, .bool false])) wx := fun wx h hb => ParseIs.no (by rw [HS.out, h]) hb
          have HNO := Lib.hid NO
          have q0 : (0 : Int) ≤ (j : Int) := Int.natCast_nonneg _
          have q1 : (j : Int) < (b.length : Int) := by omega
          clear hstep HP hR NO
          go_wp2_with fail
          cases ht : txtShort 1 R with
          | true =>
            have D := Lib.hid (HNO.out wr (by unfold rowP; rw [ht]; rfl) HB.out)
            rw [HR.out] at ht
            refine (text_no _ c B b j 1 _ (HL.out.below (HB.out.mono hB)) (by omega) (by omega) (by omega) (by omega) ht).mono ?_
            rintro e w' ⟨rfl, rfl⟩
            clear ht
            go_wp2_with fail
            go_ret2
            exact D.out
          | false =>
            have HT := Lib.hid ht
            rw [HR.out] at ht
            refine (text_yes2 _ c B b j 1 _ (HL.out.below (HB.out.mono hB)) (by omega) (by omega) (by omega) (by omega) hc hcm ht).mono ?_
            unfold TextYes2
            rw [← HR.out]
            rintro e w' ⟨A', c', rfl, hl1, hp2, hrest, _, _, rfl⟩
            obtain ⟨nm, hnm⟩ : ∃ nm, nm = txt 1 R := ⟨_, rfl⟩
            rw [← hnm] at hl1 hp2 hrest ⊢
            obtain ⟨P2, hP2⟩ : ∃ P2, P2 = j + 1 + nm.length := ⟨_, rfl⟩
            rw [← hP2] at hp2 hrest ⊢
            have HL1 := Lib.hid hl1
            have HRE := Lib.hid hrest
            have HNM := Lib.hid hnm
            have hjP : j < P2 := by omega
            have hnl : nm.length < P2 := by omega
            clear ht hl1 hrest hnm hP2
            by_cases hge : P2 < b.length
            · have hkc : wr.cell? ⟨bb, oo + P2, none⟩ = some (.int .u8 (b[P2].toNat : Int)) := (HB.out.cell (p := ⟨bb, oo + P2, none⟩) (by show bb < _; omega)).trans (HCB.out P2 _ (B8_get b P2 hge))
              obtain ⟨kc, hkk⟩ : ∃ kc, kc = b[P2] := ⟨_, rfl⟩
              rw [← hkk] at hkc
              have HTR : Hid (txtRest 1 R = kc :: b.drop (P2 + 1)) := Lib.hid (by rw [HRE.out, List.drop_eq_getElem_cons hge, hkk])
              have q2 : (0 : Int) ≤ (P2 : Int) := Int.natCast_nonneg _
              have q3 : (P2 : Int) < (b.length : Int) := by omega
              have HKC := Lib.hid hkc
              clear hkk
              have hbw : bb < wr.heap.size := by omega
              have HSS : Hid (∀ w', Below wr.heap.size wr w' → (convert 22 9 (.slice A' nm.length c')).run Try.prog w' = .ok (.string ⟨nm.toArray⟩) w' ∧ w'.cell? ⟨bb, oo + P2, none⟩ = some (.int .u8 (kc.toNat : Int))) := Lib.hid (fun w' hb => ⟨run_octets_string (P := Try.prog) 22 9 5 Try.underlying22 Try.underlying5 Try.underlying9 (HL1.out.below (hb.mono (by omega))) c', (hb.cell (p := ⟨bb, oo + P2, none⟩) hbw).trans HKC.out⟩)
              have HBX : Hid (Below wr.heap.size wr (wr.alloc (.cells #[.string ⟨nm.toArray⟩, .int .u8 (kc.toNat : Int), .int .i64 0, .string ⟨#[]⟩, .slice none 0 0] 54)).drew) := Lib.hid (((Below.refl _ _).alloc (Nat.le_refl _) _).drew)
              have HWX : Hid (Whole (wr.alloc (.cells #[.string ⟨nm.toArray⟩, .int .u8 (kc.toNat : Int), .int .i64 0, .string ⟨#[]⟩, .slice none 0 0] 54)).drew wr.heap.size 54 #[.string ⟨nm.toArray⟩, .int .u8 (kc.toNat : Int), .int .i64 0, .string ⟨#[]⟩, .slice none 0 0]) := Lib.hid (Whole.new wr 54 _)
              clear hkc
              go_wp2_with fail
              go_cut [11] (fun x w' => x = .pointer (some ⟨wr.heap.size, 0, none⟩) ∧ Whole w' wr.heap.size 54 #[.string ⟨nm.toArray⟩, .int .u8 (kc.toNat : Int), .int .i64 0, .string ⟨#[]⟩, .slice none 0 0] ∧ Below wr.heap.size wr w')
              case first =>
                refine wp_region_held_drew (S := fun w' => (convert 22 9 (.slice A' nm.length c')).run Try.prog w' = .ok (.string ⟨nm.toArray⟩) w' ∧ w'.cell? ⟨bb, oo + P2, none⟩ = some (.int .u8 (kc.toNat : Int))) (by kernel_rfl) (HSS.out _ (Below.refl _ wr).drew) (fun hS0 => ?_)
                refine wpAnyH_take (i := 0) (oi := ⟨some 41, _, _, _, _, _⟩) (v := ?_) rfl (by kernel_rfl) (by kernel_rfl) (by kernel_rfl) (fun _ _ _ h => h) (Or.inl ⟨by rfl, ?_⟩) (by assumption) ?_
                rotate_left
                · (intro wS hSw; (try dsimp only at hSw); go_simp); all_goals (with_reducible rfl)
                simp only [Act.put, List.setIfInBounds_toArray, List.set_cons_zero, List.set_cons_succ]
                refine wpAnyH_take (i := 1) (oi := ⟨some 42, _, _, _, _, _⟩) (v := ?_) rfl (by kernel_rfl) (by kernel_rfl) (by kernel_rfl) (fun _ _ _ h => h) (Or.inl ⟨by rfl, ?_⟩) (by assumption) ?_
                rotate_left
                · (intro wS hSw; (try dsimp only at hSw); go_simp); all_goals (with_reducible rfl)
                simp only [Act.put, List.setIfInBounds_toArray, List.set_cons_zero, List.set_cons_succ]
                refine wpAnyH_take (i := 2) (oi := ⟨some 43, _, _, _, _, _⟩) (v := ?_) rfl (by kernel_rfl) (by kernel_rfl) (by kernel_rfl) (fun _ _ _ h => h) (Or.inl ⟨by rfl, ?_⟩) (by assumption) ?_
                rotate_left
                · (intro wS hSw; (try dsimp only at hSw); go_simp); all_goals (with_reducible rfl)
                simp only [Act.put, List.setIfInBounds_toArray, List.set_cons_zero, List.set_cons_succ]
                refine wpAnyH_take (i := 3) (oi := ⟨some 44, _, _, _, _, _⟩) (v := ?_) rfl (by kernel_rfl) (by kernel_rfl) (by kernel_rfl) (fun _ _ _ h => h) (Or.inl ⟨by rfl, ?_⟩) (by assumption) ?_
                rotate_left
                · (intro wS hSw; (try dsimp only at hSw); go_simp); all_goals (with_reducible rfl)
                simp only [Act.put, List.setIfInBounds_toArray, List.set_cons_zero, List.set_cons_succ]
                refine wpAnyH_take (i := 4) (oi := ⟨some 45, _, _, _, _, _⟩) (v := ?_) rfl (by kernel_rfl) (by kernel_rfl) (by kernel_rfl) (fun _ _ _ h => h) (Or.inl ⟨by rfl, ?_⟩) (by assumption) ?_
                rotate_left
                · (intro wS hSw; (try dsimp only at hSw); go_simp); all_goals (with_reducible rfl)
                simp only [Act.put, List.setIfInBounds_toArray, List.set_cons_zero, List.set_cons_succ]
                refine wpAnyH_take (i := 5) (oi := ⟨some 46, _, _, _, _, _⟩) (v := ?_) rfl (by kernel_rfl) (by kernel_rfl) (by kernel_rfl) (fun _ _ _ h => h) (Or.inl ⟨by rfl, ?_⟩) (by assumption) ?_
                rotate_left
                · (intro wS hSw; (try dsimp only at hSw); go_simp); all_goals (with_reducible rfl)
                simp only [Act.put, List.setIfInBounds_toArray, List.set_cons_zero, List.set_cons_succ]
                refine wpAnyH_take (i := 6) (oi := ⟨some 47, _, _, _, _, _⟩) (v := ?_) rfl (by kernel_rfl) (by kernel_rfl) (by kernel_rfl) (fun _ _ _ h => h) (Or.inl ⟨by rfl, ?_⟩) (by assumption) ?_
                rotate_left
                · (intro wS hSw; (try dsimp only at hSw); go_simp); all_goals (with_reducible rfl)
                simp only [Act.put, List.setIfInBounds_toArray, List.set_cons_zero, List.set_cons_succ]
                refine wpAnyH_ready (rs := [7]) (by kernel_rfl) (by simp) ?_
                refine AllReadyH.cons (o := ⟨some 11, _, _, _, _, _⟩) rfl (fun K hK => ?_) AllReadyH.nil
                go_simp
                go_wp2_with fail
                refine hK.out _ _ ?_ (fun hHeld => ?_)
                · exact HSS.out _ ((Below.refl _ wr).drew.alloc (Nat.le_refl _) _)
                clear hK K
                try simp only [Act.put, List.setIfInBounds_toArray, List.set_cons_zero, List.set_cons_succ]
                refine wpAnyH_ready (rs := [8]) (by kernel_rfl) (by simp) ?_
                refine AllReadyH.cons (o := ⟨none, _, _, _, _, _⟩) rfl (fun K hK => ?_) AllReadyH.nil
                go_simp
                go_wp2_with fail
                refine hK.out _ _ ?_ (fun hHeld2 => ?_)
                · exact HSS.out _ HBX.out
                clear hK K
                try simp only [Act.put, List.setIfInBounds_toArray, List.set_cons_zero, List.set_cons_succ]
                refine wpAnyH_done (by kernel_rfl) ?_ _
                go_wp2_with fail
                go_meet
                exact ⟨rfl, HWX.out, HBX.out⟩
              case rest =>
                obtain ⟨rfl, hw, hb1⟩ := hcut
                have HBCr := Lib.hid hb1
                obtain ⟨gb, hgb⟩ : ∃ gb, gb = wr.heap.size := ⟨_, rfl⟩
                rw [← hgb] at hw ⊢
                have hgc := hw.lt
                have hzc := hb1.size
                obtain ⟨P3, hP3⟩ : ∃ P3, P3 = P2 + 1 := ⟨_, rfl⟩
                have a0 : IntKind.i64.wrap ((P2 : Int) + 1) = (P3 : Int) := by rw [hP3, IntWalk.i64_in _ ⟨by omega, by omega⟩]; omega
                have hP3b : P3 ≤ b.length := by omega
                have HP3 := Lib.hid hP3
                have HGB := Lib.hid hgb
                have hP3d : P2 < P3 := by omega
                clear hb1 hP3 hgb
                rcases kind_cases kc with hc | hc | hc | hc | hc | hc | hc
                · subst hc
                  have hw' : Whole wc gb 54 #[.string ⟨nm.toArray⟩, .int .u8 116, .int .i64 0, .string ⟨#[]⟩, .slice none 0 0] := hw
                  have x0 : wc.cell? ⟨gb, 0, none⟩ = some (.string ⟨nm.toArray⟩) := hw'.cell 0
                  have x1 : wc.cell? ⟨gb, 1, none⟩ = some (.int .u8 116) := hw'.cell 1
                  have x2 : wc.cell? ⟨gb, 2, none⟩ = some (.int .i64 0) := hw'.cell 2
                  have x3 : wc.cell? ⟨gb, 3, none⟩ = some (.string ⟨#[]⟩) := hw'.cell 3
                  have x4 : wc.cell? ⟨gb, 4, none⟩ = some (.slice none 0 0) := hw'.cell 4
                  have f2 : wc.frozen? ⟨gb, 2, none⟩ = false := hw'.frozen 2
                  have HWP := Lib.hid hw'
                  clear hw hw'
                  go_wp2_with fail
                  refine (num_any _ c B b P3 1 _ (HL.out.below ((HB.out.trans (HBCr.out.mono hsz)).mono hB)) hP3b (by omega) (by omega)).mono ?_
                  rintro e w' ⟨rfl, rfl⟩
                  obtain ⟨r, hr⟩ : ∃ r, r = b.drop P3 := ⟨_, rfl⟩
                  rw [← hr]
                  have hrl : r.length = b.length - P3 := by rw [hr, List.length_drop]
                  have HRL := Lib.hid hrl
                  have HRR := Lib.hid hr
                  have HRP : Hid (rowP true (refP k) R = if short 1 r then none else some (.mk nm 116 (s64 (nat (tk 1 r))) [] [], rst 1 r)) := Lib.hid (by rw [HNM.out]; unfold rowP; rw [HT.out, HTR.out, ← HP3.out, ← hr]; simp)
                  clear hrl hr
                  cases hsh : short 1 r with
                  | true =>
                    have D := Lib.hid (HNO.out wc (by rw [HRP.out, hsh]; rfl) (HB.out.trans (HBCr.out.mono hsz)))
                    clear hsh
                    go_wp2_with fail
                    go_ret2
                    exact D.out
                  | false =>
                    have htl := (tk_rst hsh).2
                    have hxb := nat_lt (tk 1 r)
                    rw [htl] at hxb
                    have hnr : 1 ≤ r.length := by
                      have h := congrArg List.length (tk_rst hsh).1
                      rw [List.length_append, htl] at h
                      omega
                    have HRW : Hid (rowP true (refP k) R = some (.mk nm 116 (s64 (nat (tk 1 r))) [] [], rst 1 r)) := Lib.hid (by rw [HRP.out, hsh]; rfl)
                    obtain ⟨x, hx⟩ : ∃ x, x = nat (tk 1 r) := ⟨_, rfl⟩
                    rw [← hx] at hxb
                    rw [← hx]
                    obtain ⟨V, hV⟩ : ∃ V : Int, V = wrap64 (x : Int) := ⟨_, rfl⟩
                    have hx64 : x < 18446744073709551616 := Nat.lt_of_lt_of_le hxb (by decide)
                    have HVV : Hid (V = s64 (nat (tk 1 r))) := Lib.hid (by rw [hV, ← hx]; unfold wrap64 s64; split <;> omega)
                    have HVR : Hid (I64 (s64 (nat (tk 1 r)))) := Lib.hid (by rw [← hx]; exact s64_range _ hx64)
                    have hVx : wrap64 (x : Int) = V := hV.symm
                    clear hV hx64
                    obtain ⟨P4, hP4⟩ : ∃ P4, P4 = P3 + 1 := ⟨_, rfl⟩
                    have hP4b : P4 ≤ b.length := by rw [HRL.out] at hnr; omega
                    have a4 : IntKind.i64.wrap ((P3 : Int) + 1) = (P4 : Int) := by rw [hP4, IntWalk.i64_in _ ⟨by omega, by omega⟩]; omega
                    have hP4d : P3 < P4 := by omega
                    have HROW : Hid (rowP true (refP k) R = some (Fld.mk nm 116 V [] [], b.drop P4)) := Lib.hid (by rw [HRW.out, HVV.out, rst_yes hnr, HRR.out, List.drop_drop, hP4])
                    have HHELD : Hid (Held (Fld.mk nm 116 V [] [])) := Lib.hid ⟨by show I64 V; rw [HVV.out]; exact HVR.out, by simp [Fld.name]; omega, by simp [Fld.s]⟩
                    have HBD : Hid (Below wr.heap.size wr (wc.setCell ⟨gb, 2, none⟩ (.int .i64 V))) := Lib.hid (HBCr.out.setCell (p := ⟨gb, 2, none⟩) (by show wr.heap.size ≤ gb; rw [HGB.out]; exact Nat.le_refl _) (.int .i64 V))
                    have HTAB : Hid (TabNew k (wc.setCell ⟨gb, 2, none⟩ (.int .i64 V)) wr.heap.size ([] : List Fld) none 0) := Lib.hid (tabnew_nil k _ wr.heap.size)
                    have HZD : Hid ((wc.setCell ⟨gb, 2, none⟩ (.int .i64 V)).heap.size = wc.heap.size) := Lib.hid (by simp [World.setCell])
                    have HWD : Hid (Whole (wc.setCell ⟨gb, 2, none⟩ (.int .i64 V)) gb 54 #[.string ⟨nm.toArray⟩, .int .u8 116, .int .i64 V, .string ⟨#[]⟩, .slice none 0 0]) := Lib.hid (HWP.out.put 2 (.int .i64 V))
                    have k0 : (wc.setCell ⟨gb, 2, none⟩ (.int .i64 V)).cell? ⟨gb, 0, none⟩ = some (.string ⟨nm.toArray⟩) := HWD.out.cell 0
                    have k1 : (wc.setCell ⟨gb, 2, none⟩ (.int .i64 V)).cell? ⟨gb, 1, none⟩ = some (.int .u8 116) := HWD.out.cell 1
                    have k2 : (wc.setCell ⟨gb, 2, none⟩ (.int .i64 V)).cell? ⟨gb, 2, none⟩ = some (.int .i64 V) := HWD.out.cell 2
                    have k3 : (wc.setCell ⟨gb, 2, none⟩ (.int .i64 V)).cell? ⟨gb, 3, none⟩ = some (.string ⟨#[]⟩) := HWD.out.cell 3
                    have k4 : (wc.setCell ⟨gb, 2, none⟩ (.int .i64 V)).cell? ⟨gb, 4, none⟩ = some (.slice none 0 0) := HWD.out.cell 4
                    obtain ⟨f, hf⟩ : ∃ f, f = Fld.mk nm 116 V [] [] := ⟨_, rfl⟩
                    have HPN : Hid (PB = (parseL (rowP true (refP k)) (n - 1) (b.drop P4)).map ((l0 ++ [f]) ++ ·)) := Lib.hid (by rw [HS.out, HROW.out, hf]; simp)
                    have HE : Hid (Held f) := Lib.hid (by rw [hf]; exact HHELD.out)
                    have HTN : Hid (TabNew k (wc.setCell ⟨gb, 2, none⟩ (.int .i64 V)) wr.heap.size f.t none 0) := Lib.hid (by rw [hf]; exact HTAB.out)
                    have hlies : Hid (Lies ((wc.setCell ⟨gb, 2, none⟩ (.int .i64 V)).alloc (.cells #[.string ⟨nm.toArray⟩, .int .u8 116, .int .i64 V, .string ⟨#[]⟩, .slice none 0 0] 54)) ((wc.setCell ⟨gb, 2, none⟩ (.int .i64 V)).heap.size + 1) (some ⟨wc.heap.size, 0, none⟩) (cellsF (.slice none f.t.length 0) f)) := Lib.hid (by rw [hf, ← HZD.out]; exact field_lies (wc.setCell ⟨gb, 2, none⟩ (.int .i64 V)) (Fld.mk nm 116 V [] []) (.slice none 0 0))
                    have HG1 := Lib.hid (only_below HBD.out (some g))
                    obtain ⟨xs, hown, hdl⟩ := HF.out
                    have HO := Lib.hid hown
                    have HDL := Lib.hid hdl
                    have HOJ := Lib.hid ((own_below hown HBD.out).alloc (.cells #[.string ⟨nm.toArray⟩, .int .u8 116, .int .i64 V, .string ⟨#[]⟩, .slice none 0 0] 54))
                    have hbz := HBD.out.size
                    have HBASE : Hid (g + 1 ≤ ((wc.setCell ⟨gb, 2, none⟩ (.int .i64 V)).alloc (.cells #[.string ⟨nm.toArray⟩, .int .u8 116, .int .i64 V, .string ⟨#[]⟩, .slice none 0 0] 54)).heap.size) := Lib.hid (by rw [World.size_alloc]; omega)
                    have hby : (l0.length + 1) * 72 ≤ 140737488355328 := by omega
                    have H63 : Hid (l0.length + 1 ≤ maxLen) := Lib.hid (by unfold maxLen; omega)
                    have HAL : Hid (Below (wc.setCell ⟨gb, 2, none⟩ (.int .i64 V)).heap.size (wc.setCell ⟨gb, 2, none⟩ (.int .i64 V)) ((wc.setCell ⟨gb, 2, none⟩ (.int .i64 V)).alloc (.cells #[.string ⟨nm.toArray⟩, .int .u8 116, .int .i64 V, .string ⟨#[]⟩, .slice none 0 0] 54))) := Lib.hid ((Below.refl _ _).alloc (Nat.le_refl _) _)
                    clear hf hown hdl
                    clear hsh htl hxb hx hnr hP4
                    go_wp2_with (at_builtin; go_must (refine wpList_append_at rfl _ _ 23 rfl (g + 1) 54 i0 _ 5 72 Try.underlying23 HI.out H0.out H1.out H2.out rfl (by omega) _ l0.length _ rfl HOJ.out _ _ 1 1 _ rfl hlies.out (cellsF_len _ f) (cellsF_one _ _ _ f) H63.out hby HBASE.out ?_); intro v' w2 hown2 hg2 hv2; have HF2 : Hid (Fields k g w2 v' (l0 ++ [f])) := Lib.hid (Fields.snoc HO.out HDL.out HG1.out HE.out HTN.out (by omega) HAL.out hown2 hg2 hv2); have HB2 : Hid (Below w.heap.size w w2) := Lib.hid (((HB.out.trans (HBD.out.mono hsz)).trans (HAL.out.mono (by omega))).trans ((Below.refl w.heap.size _).grown hg2 (by rw [hgs]; exact HBASE.out) (fun q hq => by rw [hgs]; exact (HO.out.lt q hq).1))); clear hown2 hg2 hv2)
                    go_roundw
                    case rel => exact ⟨l0 ++ [f], P4, n - 1, by go_num, HPN.out, by rw [List.length_drop]; omega, by omega, by rw [List.length_append]; simp; omega, HB2.out, HF2.out⟩
                    case measure => simp [intOf]; omega
                · subst hc
                  have hw' : Whole wc gb 54 #[.string ⟨nm.toArray⟩, .int .u8 73, .int .i64 0, .string ⟨#[]⟩, .slice none 0 0] := hw
                  have x0 : wc.cell? ⟨gb, 0, none⟩ = some (.string ⟨nm.toArray⟩) := hw'.cell 0
                  have x1 : wc.cell? ⟨gb, 1, none⟩ = some (.int .u8 73) := hw'.cell 1
                  have x2 : wc.cell? ⟨gb, 2, none⟩ = some (.int .i64 0) := hw'.cell 2
                  have x3 : wc.cell? ⟨gb, 3, none⟩ = some (.string ⟨#[]⟩) := hw'.cell 3
                  have x4 : wc.cell? ⟨gb, 4, none⟩ = some (.slice none 0 0) := hw'.cell 4
                  have f2 : wc.frozen? ⟨gb, 2, none⟩ = false := hw'.frozen 2
                  have HWP := Lib.hid hw'
                  clear hw hw'
                  go_wp2_with fail
                  refine (num_any _ c B b P3 4 _ (HL.out.below ((HB.out.trans (HBCr.out.mono hsz)).mono hB)) hP3b (by omega) (by omega)).mono ?_
                  rintro e w' ⟨rfl, rfl⟩
                  obtain ⟨r, hr⟩ : ∃ r, r = b.drop P3 := ⟨_, rfl⟩
                  rw [← hr]
                  have hrl : r.length = b.length - P3 := by rw [hr, List.length_drop]
                  have HRL := Lib.hid hrl
                  have HRR := Lib.hid hr
                  have HRP : Hid (rowP true (refP k) R = if short 4 r then none else some (.mk nm 73 (s32 (nat (tk 4 r))) [] [], rst 4 r)) := Lib.hid (by rw [HNM.out]; unfold rowP; rw [HT.out, HTR.out, ← HP3.out, ← hr]; simp)
                  clear hrl hr
                  cases hsh : short 4 r with
                  | true =>
                    have D := Lib.hid (HNO.out wc (by rw [HRP.out, hsh]; rfl) (HB.out.trans (HBCr.out.mono hsz)))
                    clear hsh
                    go_wp2_with fail
                    go_ret2
                    exact D.out
                  | false =>
                    have htl := (tk_rst hsh).2
                    have hxb := nat_lt (tk 4 r)
                    rw [htl] at hxb
                    have hnr : 4 ≤ r.length := by
                      have h := congrArg List.length (tk_rst hsh).1
                      rw [List.length_append, htl] at h
                      omega
                    have HRW : Hid (rowP true (refP k) R = some (.mk nm 73 (s32 (nat (tk 4 r))) [] [], rst 4 r)) := Lib.hid (by rw [HRP.out, hsh]; rfl)
                    obtain ⟨x, hx⟩ : ∃ x, x = nat (tk 4 r) := ⟨_, rfl⟩
                    rw [← hx] at hxb
                    rw [← hx]
                    obtain ⟨V, hV⟩ : ∃ V : Int, V = wrap32 (x : Int) := ⟨_, rfl⟩
                    have hx32 : x < 4294967296 := Nat.lt_of_lt_of_le hxb (by decide)
                    have HVV : Hid (V = s32 (nat (tk 4 r))) := Lib.hid (by rw [hV, ← hx]; unfold wrap32 s32; split <;> omega)
                    have hr32 : I32 V := by rw [HVV.out, ← hx]; exact s32_range x hx32
                    have HVR : Hid (I64 (s32 (nat (tk 4 r)))) := Lib.hid (by rw [← HVV.out]; exact i32_i64 hr32)
                    have hVw : wrap64 V = V := wrap_i32_64 hr32
                    have hVx : wrap32 (x : Int) = V := hV.symm
                    have hu2 : (x : Int) % 4294967296 = (x : Int) := Int.emod_eq_of_lt (by omega) (by omega)
                    clear hV hr32
                    obtain ⟨P4, hP4⟩ : ∃ P4, P4 = P3 + 4 := ⟨_, rfl⟩
                    have hP4b : P4 ≤ b.length := by rw [HRL.out] at hnr; omega
                    have a4 : IntKind.i64.wrap ((P3 : Int) + 4) = (P4 : Int) := by rw [hP4, IntWalk.i64_in _ ⟨by omega, by omega⟩]; omega
                    have hP4d : P3 < P4 := by omega
                    have HROW : Hid (rowP true (refP k) R = some (Fld.mk nm 73 V [] [], b.drop P4)) := Lib.hid (by rw [HRW.out, HVV.out, rst_yes hnr, HRR.out, List.drop_drop, hP4])
                    have HHELD : Hid (Held (Fld.mk nm 73 V [] [])) := Lib.hid ⟨by show I64 V; rw [HVV.out]; exact HVR.out, by simp [Fld.name]; omega, by simp [Fld.s]⟩
                    have HBD : Hid (Below wr.heap.size wr ((wc.setCell ⟨gb, 2, none⟩ (.int .i64 (x : Int))).setCell ⟨gb, 2, none⟩ (.int .i64 V))) := Lib.hid ((HBCr.out.setCell (p := ⟨gb, 2, none⟩) (by show wr.heap.size ≤ gb; rw [HGB.out]; exact Nat.le_refl _) (.int .i64 (x : Int))).setCell (p := ⟨gb, 2, none⟩) (by show wr.heap.size ≤ gb; rw [HGB.out]; exact Nat.le_refl _) (.int .i64 V))
                    have HTAB : Hid (TabNew k ((wc.setCell ⟨gb, 2, none⟩ (.int .i64 (x : Int))).setCell ⟨gb, 2, none⟩ (.int .i64 V)) wr.heap.size ([] : List Fld) none 0) := Lib.hid (tabnew_nil k _ wr.heap.size)
                    have HZD : Hid (((wc.setCell ⟨gb, 2, none⟩ (.int .i64 (x : Int))).setCell ⟨gb, 2, none⟩ (.int .i64 V)).heap.size = wc.heap.size) := Lib.hid (by simp [World.setCell])
                    have HWD : Hid (Whole ((wc.setCell ⟨gb, 2, none⟩ (.int .i64 (x : Int))).setCell ⟨gb, 2, none⟩ (.int .i64 V)) gb 54 #[.string ⟨nm.toArray⟩, .int .u8 73, .int .i64 V, .string ⟨#[]⟩, .slice none 0 0]) := Lib.hid ((HWP.out.put 2 (.int .i64 (x : Int))).put 2 (.int .i64 V))
                    have k0 : ((wc.setCell ⟨gb, 2, none⟩ (.int .i64 (x : Int))).setCell ⟨gb, 2, none⟩ (.int .i64 V)).cell? ⟨gb, 0, none⟩ = some (.string ⟨nm.toArray⟩) := HWD.out.cell 0
                    have k1 : ((wc.setCell ⟨gb, 2, none⟩ (.int .i64 (x : Int))).setCell ⟨gb, 2, none⟩ (.int .i64 V)).cell? ⟨gb, 1, none⟩ = some (.int .u8 73) := HWD.out.cell 1
                    have k2 : ((wc.setCell ⟨gb, 2, none⟩ (.int .i64 (x : Int))).setCell ⟨gb, 2, none⟩ (.int .i64 V)).cell? ⟨gb, 2, none⟩ = some (.int .i64 V) := HWD.out.cell 2
                    have k3 : ((wc.setCell ⟨gb, 2, none⟩ (.int .i64 (x : Int))).setCell ⟨gb, 2, none⟩ (.int .i64 V)).cell? ⟨gb, 3, none⟩ = some (.string ⟨#[]⟩) := HWD.out.cell 3
                    have k4 : ((wc.setCell ⟨gb, 2, none⟩ (.int .i64 (x : Int))).setCell ⟨gb, 2, none⟩ (.int .i64 V)).cell? ⟨gb, 4, none⟩ = some (.slice none 0 0) := HWD.out.cell 4
                    have f22 : (wc.setCell ⟨gb, 2, none⟩ (.int .i64 (x : Int))).frozen? ⟨gb, 2, none⟩ = false := (HWP.out.put 2 (.int .i64 (x : Int))).frozen 2
                    have j2 : (wc.setCell ⟨gb, 2, none⟩ (.int .i64 (x : Int))).cell? ⟨gb, 2, none⟩ = some (.int .i64 (x : Int)) := (HWP.out.put 2 (.int .i64 (x : Int))).cell 2
                    obtain ⟨f, hf⟩ : ∃ f, f = Fld.mk nm 73 V [] [] := ⟨_, rfl⟩
                    have HPN : Hid (PB = (parseL (rowP true (refP k)) (n - 1) (b.drop P4)).map ((l0 ++ [f]) ++ ·)) := Lib.hid (by rw [HS.out, HROW.out, hf]; simp)
                    have HE : Hid (Held f) := Lib.hid (by rw [hf]; exact HHELD.out)
                    have HTN : Hid (TabNew k ((wc.setCell ⟨gb, 2, none⟩ (.int .i64 (x : Int))).setCell ⟨gb, 2, none⟩ (.int .i64 V)) wr.heap.size f.t none 0) := Lib.hid (by rw [hf]; exact HTAB.out)
                    have hlies : Hid (Lies (((wc.setCell ⟨gb, 2, none⟩ (.int .i64 (x : Int))).setCell ⟨gb, 2, none⟩ (.int .i64 V)).alloc (.cells #[.string ⟨nm.toArray⟩, .int .u8 73, .int .i64 V, .string ⟨#[]⟩, .slice none 0 0] 54)) (((wc.setCell ⟨gb, 2, none⟩ (.int .i64 (x : Int))).setCell ⟨gb, 2, none⟩ (.int .i64 V)).heap.size + 1) (some ⟨wc.heap.size, 0, none⟩) (cellsF (.slice none f.t.length 0) f)) := Lib.hid (by rw [hf, ← HZD.out]; exact field_lies ((wc.setCell ⟨gb, 2, none⟩ (.int .i64 (x : Int))).setCell ⟨gb, 2, none⟩ (.int .i64 V)) (Fld.mk nm 73 V [] []) (.slice none 0 0))
                    have HG1 := Lib.hid (only_below HBD.out (some g))
                    obtain ⟨xs, hown, hdl⟩ := HF.out
                    have HO := Lib.hid hown
                    have HDL := Lib.hid hdl
                    have HOJ := Lib.hid ((own_below hown HBD.out).alloc (.cells #[.string ⟨nm.toArray⟩, .int .u8 73, .int .i64 V, .string ⟨#[]⟩, .slice none 0 0] 54))
                    have hbz := HBD.out.size
                    have HBASE : Hid (g + 1 ≤ (((wc.setCell ⟨gb, 2, none⟩ (.int .i64 (x : Int))).setCell ⟨gb, 2, none⟩ (.int .i64 V)).alloc (.cells #[.string ⟨nm.toArray⟩, .int .u8 73, .int .i64 V, .string ⟨#[]⟩, .slice none 0 0] 54)).heap.size) := Lib.hid (by rw [World.size_alloc]; omega)
                    have hby : (l0.length + 1) * 72 ≤ 140737488355328 := by omega
                    have H63 : Hid (l0.length + 1 ≤ maxLen) := Lib.hid (by unfold maxLen; omega)
                    have HAL : Hid (Below ((wc.setCell ⟨gb, 2, none⟩ (.int .i64 (x : Int))).setCell ⟨gb, 2, none⟩ (.int .i64 V)).heap.size ((wc.setCell ⟨gb, 2, none⟩ (.int .i64 (x : Int))).setCell ⟨gb, 2, none⟩ (.int .i64 V)) (((wc.setCell ⟨gb, 2, none⟩ (.int .i64 (x : Int))).setCell ⟨gb, 2, none⟩ (.int .i64 V)).alloc (.cells #[.string ⟨nm.toArray⟩, .int .u8 73, .int .i64 V, .string ⟨#[]⟩, .slice none 0 0] 54))) := Lib.hid ((Below.refl _ _).alloc (Nat.le_refl _) _)
                    clear hf hown hdl
                    clear hsh htl hxb hx hnr hP4
                    go_wp2_with (at_builtin; go_must (refine wpList_append_at rfl _ _ 23 rfl (g + 1) 54 i0 _ 5 72 Try.underlying23 HI.out H0.out H1.out H2.out rfl (by omega) _ l0.length _ rfl HOJ.out _ _ 1 1 _ rfl hlies.out (cellsF_len _ f) (cellsF_one _ _ _ f) H63.out hby HBASE.out ?_); intro v' w2 hown2 hg2 hv2; have HF2 : Hid (Fields k g w2 v' (l0 ++ [f])) := Lib.hid (Fields.snoc HO.out HDL.out HG1.out HE.out HTN.out (by omega) HAL.out hown2 hg2 hv2); have HB2 : Hid (Below w.heap.size w w2) := Lib.hid (((HB.out.trans (HBD.out.mono hsz)).trans (HAL.out.mono (by omega))).trans ((Below.refl w.heap.size _).grown hg2 (by rw [hgs]; exact HBASE.out) (fun q hq => by rw [hgs]; exact (HO.out.lt q hq).1))); clear hown2 hg2 hv2)
                    go_roundw
                    case rel => exact ⟨l0 ++ [f], P4, n - 1, by go_num, HPN.out, by rw [List.length_drop]; omega, by omega, by rw [List.length_append]; simp; omega, HB2.out, HF2.out⟩
                    case measure => simp [intOf]; omega
                · subst hc
                  have hw' : Whole wc gb 54 #[.string ⟨nm.toArray⟩, .int .u8 108, .int .i64 0, .string ⟨#[]⟩, .slice none 0 0] := hw
                  have x0 : wc.cell? ⟨gb, 0, none⟩ = some (.string ⟨nm.toArray⟩) := hw'.cell 0
                  have x1 : wc.cell? ⟨gb, 1, none⟩ = some (.int .u8 108) := hw'.cell 1
                  have x2 : wc.cell? ⟨gb, 2, none⟩ = some (.int .i64 0) := hw'.cell 2
                  have x3 : wc.cell? ⟨gb, 3, none⟩ = some (.string ⟨#[]⟩) := hw'.cell 3
                  have x4 : wc.cell? ⟨gb, 4, none⟩ = some (.slice none 0 0) := hw'.cell 4
                  have f2 : wc.frozen? ⟨gb, 2, none⟩ = false := hw'.frozen 2
                  have HWP := Lib.hid hw'
                  clear hw hw'
                  go_wp2_with fail
                  refine (num_any _ c B b P3 8 _ (HL.out.below ((HB.out.trans (HBCr.out.mono hsz)).mono hB)) hP3b (by omega) (by omega)).mono ?_
                  rintro e w' ⟨rfl, rfl⟩
                  obtain ⟨r, hr⟩ : ∃ r, r = b.drop P3 := ⟨_, rfl⟩
                  rw [← hr]
                  have hrl : r.length = b.length - P3 := by rw [hr, List.length_drop]
                  have HRL := Lib.hid hrl
                  have HRR := Lib.hid hr
                  have HRP : Hid (rowP true (refP k) R = if short 8 r then none else some (.mk nm 108 (s64 (nat (tk 8 r))) [] [], rst 8 r)) := Lib.hid (by rw [HNM.out]; unfold rowP; rw [HT.out, HTR.out, ← HP3.out, ← hr]; simp)
                  clear hrl hr
                  cases hsh : short 8 r with
                  | true =>
                    have D := Lib.hid (HNO.out wc (by rw [HRP.out, hsh]; rfl) (HB.out.trans (HBCr.out.mono hsz)))
                    clear hsh
                    go_wp2_with fail
                    go_ret2
                    exact D.out
                  | false =>
                    have htl := (tk_rst hsh).2
                    have hxb := nat_lt (tk 8 r)
                    rw [htl] at hxb
                    have hnr : 8 ≤ r.length := by
                      have h := congrArg List.length (tk_rst hsh).1
                      rw [List.length_append, htl] at h
                      omega
                    have HRW : Hid (rowP true (refP k) R = some (.mk nm 108 (s64 (nat (tk 8 r))) [] [], rst 8 r)) := Lib.hid (by rw [HRP.out, hsh]; rfl)
                    obtain ⟨x, hx⟩ : ∃ x, x = nat (tk 8 r) := ⟨_, rfl⟩
                    rw [← hx] at hxb
                    rw [← hx]
                    obtain ⟨V, hV⟩ : ∃ V : Int, V = wrap64 (x : Int) := ⟨_, rfl⟩
                    have hx64 : x < 18446744073709551616 := Nat.lt_of_lt_of_le hxb (by decide)
                    have HVV : Hid (V = s64 (nat (tk 8 r))) := Lib.hid (by rw [hV, ← hx]; unfold wrap64 s64; split <;> omega)
                    have HVR : Hid (I64 (s64 (nat (tk 8 r)))) := Lib.hid (by rw [← hx]; exact s64_range _ hx64)
                    have hVx : wrap64 (x : Int) = V := hV.symm
                    clear hV hx64
                    obtain ⟨P4, hP4⟩ : ∃ P4, P4 = P3 + 8 := ⟨_, rfl⟩
                    have hP4b : P4 ≤ b.length := by rw [HRL.out] at hnr; omega
                    have a4 : IntKind.i64.wrap ((P3 : Int) + 8) = (P4 : Int) := by rw [hP4, IntWalk.i64_in _ ⟨by omega, by omega⟩]; omega
                    have hP4d : P3 < P4 := by omega
                    have HROW : Hid (rowP true (refP k) R = some (Fld.mk nm 108 V [] [], b.drop P4)) := Lib.hid (by rw [HRW.out, HVV.out, rst_yes hnr, HRR.out, List.drop_drop, hP4])
                    have HHELD : Hid (Held (Fld.mk nm 108 V [] [])) := Lib.hid ⟨by show I64 V; rw [HVV.out]; exact HVR.out, by simp [Fld.name]; omega, by simp [Fld.s]⟩
                    have HBD : Hid (Below wr.heap.size wr (wc.setCell ⟨gb, 2, none⟩ (.int .i64 V))) := Lib.hid (HBCr.out.setCell (p := ⟨gb, 2, none⟩) (by show wr.heap.size ≤ gb; rw [HGB.out]; exact Nat.le_refl _) (.int .i64 V))
                    have HTAB : Hid (TabNew k (wc.setCell ⟨gb, 2, none⟩ (.int .i64 V)) wr.heap.size ([] : List Fld) none 0) := Lib.hid (tabnew_nil k _ wr.heap.size)
                    have HZD : Hid ((wc.setCell ⟨gb, 2, none⟩ (.int .i64 V)).heap.size = wc.heap.size) := Lib.hid (by simp [World.setCell])
                    have HWD : Hid (Whole (wc.setCell ⟨gb, 2, none⟩ (.int .i64 V)) gb 54 #[.string ⟨nm.toArray⟩, .int .u8 108, .int .i64 V, .string ⟨#[]⟩, .slice none 0 0]) := Lib.hid (HWP.out.put 2 (.int .i64 V))
                    have k0 : (wc.setCell ⟨gb, 2, none⟩ (.int .i64 V)).cell? ⟨gb, 0, none⟩ = some (.string ⟨nm.toArray⟩) := HWD.out.cell 0
                    have k1 : (wc.setCell ⟨gb, 2, none⟩ (.int .i64 V)).cell? ⟨gb, 1, none⟩ = some (.int .u8 108) := HWD.out.cell 1
                    have k2 : (wc.setCell ⟨gb, 2, none⟩ (.int .i64 V)).cell? ⟨gb, 2, none⟩ = some (.int .i64 V) := HWD.out.cell 2
                    have k3 : (wc.setCell ⟨gb, 2, none⟩ (.int .i64 V)).cell? ⟨gb, 3, none⟩ = some (.string ⟨#[]⟩) := HWD.out.cell 3
                    have k4 : (wc.setCell ⟨gb, 2, none⟩ (.int .i64 V)).cell? ⟨gb, 4, none⟩ = some (.slice none 0 0) := HWD.out.cell 4
                    obtain ⟨f, hf⟩ : ∃ f, f = Fld.mk nm 108 V [] [] := ⟨_, rfl⟩
                    have HPN : Hid (PB = (parseL (rowP true (refP k)) (n - 1) (b.drop P4)).map ((l0 ++ [f]) ++ ·)) := Lib.hid (by rw [HS.out, HROW.out, hf]; simp)
                    have HE : Hid (Held f) := Lib.hid (by rw [hf]; exact HHELD.out)
                    have HTN : Hid (TabNew k (wc.setCell ⟨gb, 2, none⟩ (.int .i64 V)) wr.heap.size f.t none 0) := Lib.hid (by rw [hf]; exact HTAB.out)
                    have hlies : Hid (Lies ((wc.setCell ⟨gb, 2, none⟩ (.int .i64 V)).alloc (.cells #[.string ⟨nm.toArray⟩, .int .u8 108, .int .i64 V, .string ⟨#[]⟩, .slice none 0 0] 54)) ((wc.setCell ⟨gb, 2, none⟩ (.int .i64 V)).heap.size + 1) (some ⟨wc.heap.size, 0, none⟩) (cellsF (.slice none f.t.length 0) f)) := Lib.hid (by rw [hf, ← HZD.out]; exact field_lies (wc.setCell ⟨gb, 2, none⟩ (.int .i64 V)) (Fld.mk nm 108 V [] []) (.slice none 0 0))
                    have HG1 := Lib.hid (only_below HBD.out (some g))
                    obtain ⟨xs, hown, hdl⟩ := HF.out
                    have HO := Lib.hid hown
                    have HDL := Lib.hid hdl
                    have HOJ := Lib.hid ((own_below hown HBD.out).alloc (.cells #[.string ⟨nm.toArray⟩, .int .u8 108, .int .i64 V, .string ⟨#[]⟩, .slice none 0 0] 54))
                    have hbz := HBD.out.size
                    have HBASE : Hid (g + 1 ≤ ((wc.setCell ⟨gb, 2, none⟩ (.int .i64 V)).alloc (.cells #[.string ⟨nm.toArray⟩, .int .u8 108, .int .i64 V, .string ⟨#[]⟩, .slice none 0 0] 54)).heap.size) := Lib.hid (by rw [World.size_alloc]; omega)
                    have hby : (l0.length + 1) * 72 ≤ 140737488355328 := by omega
                    have H63 : Hid (l0.length + 1 ≤ maxLen) := Lib.hid (by unfold maxLen; omega)
                    have HAL : Hid (Below (wc.setCell ⟨gb, 2, none⟩ (.int .i64 V)).heap.size (wc.setCell ⟨gb, 2, none⟩ (.int .i64 V)) ((wc.setCell ⟨gb, 2, none⟩ (.int .i64 V)).alloc (.cells #[.string ⟨nm.toArray⟩, .int .u8 108, .int .i64 V, .string ⟨#[]⟩, .slice none 0 0] 54))) := Lib.hid ((Below.refl _ _).alloc (Nat.le_refl _) _)
                    clear hf hown hdl
                    clear hsh htl hxb hx hnr hP4
                    go_wp2_with (at_builtin; go_must (refine wpList_append_at rfl _ _ 23 rfl (g + 1) 54 i0 _ 5 72 Try.underlying23 HI.out H0.out H1.out H2.out rfl (by omega) _ l0.length _ rfl HOJ.out _ _ 1 1 _ rfl hlies.out (cellsF_len _ f) (cellsF_one _ _ _ f) H63.out hby HBASE.out ?_); intro v' w2 hown2 hg2 hv2; have HF2 : Hid (Fields k g w2 v' (l0 ++ [f])) := Lib.hid (Fields.snoc HO.out HDL.out HG1.out HE.out HTN.out (by omega) HAL.out hown2 hg2 hv2); have HB2 : Hid (Below w.heap.size w w2) := Lib.hid (((HB.out.trans (HBD.out.mono hsz)).trans (HAL.out.mono (by omega))).trans ((Below.refl w.heap.size _).grown hg2 (by rw [hgs]; exact HBASE.out) (fun q hq => by rw [hgs]; exact (HO.out.lt q hq).1))); clear hown2 hg2 hv2)
                    go_roundw
                    case rel => exact ⟨l0 ++ [f], P4, n - 1, by go_num, HPN.out, by rw [List.length_drop]; omega, by omega, by rw [List.length_append]; simp; omega, HB2.out, HF2.out⟩
                    case measure => simp [intOf]; omega
                · subst hc
                  have hw' : Whole wc gb 54 #[.string ⟨nm.toArray⟩, .int .u8 83, .int .i64 0, .string ⟨#[]⟩, .slice none 0 0] := hw
                  have x0 : wc.cell? ⟨gb, 0, none⟩ = some (.string ⟨nm.toArray⟩) := hw'.cell 0
                  have x1 : wc.cell? ⟨gb, 1, none⟩ = some (.int .u8 83) := hw'.cell 1
                  have x2 : wc.cell? ⟨gb, 2, none⟩ = some (.int .i64 0) := hw'.cell 2
                  have x3 : wc.cell? ⟨gb, 3, none⟩ = some (.string ⟨#[]⟩) := hw'.cell 3
                  have x4 : wc.cell? ⟨gb, 4, none⟩ = some (.slice none 0 0) := hw'.cell 4
                  have f3 : wc.frozen? ⟨gb, 3, none⟩ = false := hw'.frozen 3
                  have f4 : wc.frozen? ⟨gb, 4, none⟩ = false := hw'.frozen 4
                  have HWP := Lib.hid hw'
                  have hLw := Lib.hid (HL.out.below ((HB.out.trans (HBCr.out.mono hsz)).mono hB))
                  clear hw hw'
                  go_wp2_with fail
                  obtain ⟨r, hr⟩ : ∃ r, r = b.drop P3 := ⟨_, rfl⟩
                  have HRR := Lib.hid hr
                  have HRP : Hid (rowP true (refP k) R = if txtShort 4 r then none else some (.mk nm 83 0 (txt 4 r) [], txtRest 4 r)) := Lib.hid (by rw [HNM.out]; unfold rowP; rw [HT.out, HTR.out, ← HP3.out, ← hr]; rfl)
                  clear hr
                  cases hsh : txtShort 4 r with
                  | true =>
                    have D := Lib.hid (HNO.out wc (by rw [HRP.out, hsh]; rfl) (HB.out.trans (HBCr.out.mono hsz)))
                    rw [HRR.out] at hsh
                    refine (text_no _ c B b P3 4 _ hLw.out hP3b (by omega) (by omega) (by omega) hsh).mono ?_
                    rintro e w' ⟨rfl, rfl⟩
                    clear hsh
                    go_wp2_with fail
                    go_ret2
                    exact D.out
                  | false =>
                    rw [HRR.out] at hsh
                    refine (text_yes2 _ c B b P3 4 _ hLw.out hP3b (by omega) (by omega) (by omega) hc hcm hsh).mono ?_
                    rw [← HRR.out] at hsh
                    unfold TextYes2
                    rw [← HRR.out]
                    rintro e w' ⟨A2, c2, rfl, hl2, hp4, hrest2, hc2, hcm2, rfl⟩
                    have HRQ := HRP.out
                    rw [hsh, hrest2] at HRQ
                    have HRW := Lib.hid HRQ
                    obtain ⟨s, hs2⟩ : ∃ s, s = txt 4 r := ⟨_, rfl⟩
                    rw [← hs2] at hl2 hp4 hrest2 hc2 ⊢
                    obtain ⟨P4, hP4⟩ : ∃ P4, P4 = P3 + 4 + s.length := ⟨_, rfl⟩
                    rw [← hP4] at hp4 ⊢
                    have HL2 := Lib.hid hl2
                    have HS2 := Lib.hid hs2
                    have HP4 := Lib.hid hP4
                    have hP4b : P4 ≤ b.length := hp4
                    have hP4d : P3 < P4 := by omega
                    have hsl : s.length < P4 := by omega
                    clear hsh HRQ hl2 hs2 hrest2 hP4 hp4
                    have cv := run_octets_string (P := Try.prog) 22 9 5 Try.underlying22 Try.underlying5 Try.underlying9 HL2.out c2
                    have HROW : Hid (rowP true (refP k) R = some (Fld.mk nm 83 0 s [], b.drop P4)) := Lib.hid (by have h := HRW.out; rw [← HS2.out, ← HP4.out] at h; exact h)
                    have HHELD : Hid (Held (Fld.mk nm 83 0 s [])) := Lib.hid ⟨by unfold I64; simp [Fld.n], by simp [Fld.name]; omega, by simp [Fld.s]; omega⟩
                    have HBD : Hid (Below wr.heap.size wr (wc.setCell ⟨gb, 3, none⟩ (.string ⟨s.toArray⟩))) := Lib.hid (HBCr.out.setCell (p := ⟨gb, 3, none⟩) (by show wr.heap.size ≤ gb; rw [HGB.out]; exact Nat.le_refl _) (.string ⟨s.toArray⟩))
                    have HTAB : Hid (TabNew k (wc.setCell ⟨gb, 3, none⟩ (.string ⟨s.toArray⟩)) wr.heap.size ([] : List Fld) none 0) := Lib.hid (tabnew_nil k _ wr.heap.size)
                    have HZD : Hid ((wc.setCell ⟨gb, 3, none⟩ (.string ⟨s.toArray⟩)).heap.size = wc.heap.size) := Lib.hid (by simp [World.setCell])
                    have HWD : Hid (Whole (wc.setCell ⟨gb, 3, none⟩ (.string ⟨s.toArray⟩)) gb 54 #[.string ⟨nm.toArray⟩, .int .u8 83, .int .i64 0, .string ⟨s.toArray⟩, .slice none 0 0]) := Lib.hid (HWP.out.put 3 (.string ⟨s.toArray⟩))
                    have k0 : (wc.setCell ⟨gb, 3, none⟩ (.string ⟨s.toArray⟩)).cell? ⟨gb, 0, none⟩ = some (.string ⟨nm.toArray⟩) := HWD.out.cell 0
                    have k1 : (wc.setCell ⟨gb, 3, none⟩ (.string ⟨s.toArray⟩)).cell? ⟨gb, 1, none⟩ = some (.int .u8 83) := HWD.out.cell 1
                    have k2 : (wc.setCell ⟨gb, 3, none⟩ (.string ⟨s.toArray⟩)).cell? ⟨gb, 2, none⟩ = some (.int .i64 0) := HWD.out.cell 2
                    have k3 : (wc.setCell ⟨gb, 3, none⟩ (.string ⟨s.toArray⟩)).cell? ⟨gb, 3, none⟩ = some (.string ⟨s.toArray⟩) := HWD.out.cell 3
                    have k4 : (wc.setCell ⟨gb, 3, none⟩ (.string ⟨s.toArray⟩)).cell? ⟨gb, 4, none⟩ = some (.slice none 0 0) := HWD.out.cell 4
                    obtain ⟨f, hf⟩ : ∃ f, f = Fld.mk nm 83 0 s [] := ⟨_, rfl⟩
                    have HPN : Hid (PB = (parseL (rowP true (refP k)) (n - 1) (b.drop P4)).map ((l0 ++ [f]) ++ ·)) := Lib.hid (by rw [HS.out, HROW.out, hf]; simp)
                    have HE : Hid (Held f) := Lib.hid (by rw [hf]; exact HHELD.out)
                    have HTN : Hid (TabNew k (wc.setCell ⟨gb, 3, none⟩ (.string ⟨s.toArray⟩)) wr.heap.size f.t none 0) := Lib.hid (by rw [hf]; exact HTAB.out)
                    have hlies : Hid (Lies ((wc.setCell ⟨gb, 3, none⟩ (.string ⟨s.toArray⟩)).alloc (.cells #[.string ⟨nm.toArray⟩, .int .u8 83, .int .i64 0, .string ⟨s.toArray⟩, .slice none 0 0] 54)) ((wc.setCell ⟨gb, 3, none⟩ (.string ⟨s.toArray⟩)).heap.size + 1) (some ⟨wc.heap.size, 0, none⟩) (cellsF (.slice none f.t.length 0) f)) := Lib.hid (by rw [hf, ← HZD.out]; exact field_lies (wc.setCell ⟨gb, 3, none⟩ (.string ⟨s.toArray⟩)) (Fld.mk nm 83 0 s []) (.slice none 0 0))
                    have HG1 := Lib.hid (only_below HBD.out (some g))
                    obtain ⟨xs, hown, hdl⟩ := HF.out
                    have HO := Lib.hid hown
                    have HDL := Lib.hid hdl
                    have HOJ := Lib.hid ((own_below hown HBD.out).alloc (.cells #[.string ⟨nm.toArray⟩, .int .u8 83, .int .i64 0, .string ⟨s.toArray⟩, .slice none 0 0] 54))
                    have hbz := HBD.out.size
                    have HBASE : Hid (g + 1 ≤ ((wc.setCell ⟨gb, 3, none⟩ (.string ⟨s.toArray⟩)).alloc (.cells #[.string ⟨nm.toArray⟩, .int .u8 83, .int .i64 0, .string ⟨s.toArray⟩, .slice none 0 0] 54)).heap.size) := Lib.hid (by rw [World.size_alloc]; omega)
                    have hby : (l0.length + 1) * 72 ≤ 140737488355328 := by omega
                    have H63 : Hid (l0.length + 1 ≤ maxLen) := Lib.hid (by unfold maxLen; omega)
                    have HAL : Hid (Below (wc.setCell ⟨gb, 3, none⟩ (.string ⟨s.toArray⟩)).heap.size (wc.setCell ⟨gb, 3, none⟩ (.string ⟨s.toArray⟩)) ((wc.setCell ⟨gb, 3, none⟩ (.string ⟨s.toArray⟩)).alloc (.cells #[.string ⟨nm.toArray⟩, .int .u8 83, .int .i64 0, .string ⟨s.toArray⟩, .slice none 0 0] 54))) := Lib.hid ((Below.refl _ _).alloc (Nat.le_refl _) _)
                    clear hf hown hdl
                    go_wp2_with (at_builtin; go_must (refine wpList_append_at rfl _ _ 23 rfl (g + 1) 54 i0 _ 5 72 Try.underlying23 HI.out H0.out H1.out H2.out rfl (by omega) _ l0.length _ rfl HOJ.out _ _ 1 1 _ rfl hlies.out (cellsF_len _ f) (cellsF_one _ _ _ f) H63.out hby HBASE.out ?_); intro v' w2 hown2 hg2 hv2; have HF2 : Hid (Fields k g w2 v' (l0 ++ [f])) := Lib.hid (Fields.snoc HO.out HDL.out HG1.out HE.out HTN.out (by omega) HAL.out hown2 hg2 hv2); have HB2 : Hid (Below w.heap.size w w2) := Lib.hid (((HB.out.trans (HBD.out.mono hsz)).trans (HAL.out.mono (by omega))).trans ((Below.refl w.heap.size _).grown hg2 (by rw [hgs]; exact HBASE.out) (fun q hq => by rw [hgs]; exact (HO.out.lt q hq).1))); clear hown2 hg2 hv2)
                    go_roundw
                    case rel => exact ⟨l0 ++ [f], P4, n - 1, by go_num, HPN.out, by rw [List.length_drop]; omega, by omega, by rw [List.length_append]; simp; omega, HB2.out, HF2.out⟩
                    case measure => simp [intOf]; omega
                · subst hc
                  have hw' : Whole wc gb 54 #[.string ⟨nm.toArray⟩, .int .u8 70, .int .i64 0, .string ⟨#[]⟩, .slice none 0 0] := hw
                  have x0 : wc.cell? ⟨gb, 0, none⟩ = some (.string ⟨nm.toArray⟩) := hw'.cell 0
                  have x1 : wc.cell? ⟨gb, 1, none⟩ = some (.int .u8 70) := hw'.cell 1
                  have x2 : wc.cell? ⟨gb, 2, none⟩ = some (.int .i64 0) := hw'.cell 2
                  have x3 : wc.cell? ⟨gb, 3, none⟩ = some (.string ⟨#[]⟩) := hw'.cell 3
                  have x4 : wc.cell? ⟨gb, 4, none⟩ = some (.slice none 0 0) := hw'.cell 4
                  have f3 : wc.frozen? ⟨gb, 3, none⟩ = false := hw'.frozen 3
                  have f4 : wc.frozen? ⟨gb, 4, none⟩ = false := hw'.frozen 4
                  have HWP := Lib.hid hw'
                  have hLw := Lib.hid (HL.out.below ((HB.out.trans (HBCr.out.mono hsz)).mono hB))
                  clear hw hw'
                  go_wp2_with fail
                  obtain ⟨r, hr⟩ : ∃ r, r = b.drop P3 := ⟨_, rfl⟩
                  have HRR := Lib.hid hr
                  have HRP : Hid (rowP true (refP k) R = if txtShort 4 r then none else match refP k (txt 4 r) with | none => none | some t => some (.mk nm 70 0 [] t, txtRest 4 r)) := Lib.hid (by rw [HNM.out]; unfold rowP; rw [HT.out, HTR.out, ← HP3.out, ← hr]; rfl)
                  clear hr
                  cases hsh : txtShort 4 r with
                  | true =>
                    have D := Lib.hid (HNO.out wc (by rw [HRP.out, hsh]; rfl) (HB.out.trans (HBCr.out.mono hsz)))
                    rw [HRR.out] at hsh
                    refine (text_no _ c B b P3 4 _ hLw.out hP3b (by omega) (by omega) (by omega) hsh).mono ?_
                    rintro e w' ⟨rfl, rfl⟩
                    clear hsh
                    go_wp2_with fail
                    go_ret2
                    exact D.out
                  | false =>
                    rw [HRR.out] at hsh
                    refine (text_yes2 _ c B b P3 4 _ hLw.out hP3b (by omega) (by omega) (by omega) hc hcm hsh).mono ?_
                    rw [← HRR.out] at hsh
                    unfold TextYes2
                    rw [← HRR.out]
                    rintro e w' ⟨A2, c2, rfl, hl2, hp4, hrest2, hc2, hcm2, rfl⟩
                    have HRQ := HRP.out
                    rw [hsh, hrest2] at HRQ
                    have HRW := Lib.hid HRQ
                    obtain ⟨s, hs2⟩ : ∃ s, s = txt 4 r := ⟨_, rfl⟩
                    rw [← hs2] at hl2 hp4 hrest2 hc2 ⊢
                    obtain ⟨P4, hP4⟩ : ∃ P4, P4 = P3 + 4 + s.length := ⟨_, rfl⟩
                    rw [← hP4] at hp4 ⊢
                    have HL2 := Lib.hid hl2
                    have HS2 := Lib.hid hs2
                    have HP4 := Lib.hid hP4
                    have hP4b : P4 ≤ b.length := hp4
                    have hP4d : P3 < P4 := by omega
                    have hsl : s.length < P4 := by omega
                    clear hsh HRQ hl2 hs2 hrest2 hP4 hp4
                    have a5 : IntKind.i64.wrap (deep + 1) = deep + 1 := IntWalk.i64_in _ ⟨by omega, by omega⟩
                    go_wp2_with fail
                    refine (IH.out A2 c2 s B (deep + 1) _ (by omega) (by have := HD.out; omega) HL2.out (by omega) (by omega) hc2 hcm2).mono ?_
                    intro e w5 hq
                    rcases hq with ⟨hn0, rfl, hb5⟩ | ⟨t, A5, c5, hn0, rfl, htab, hb5⟩
                    · have hgb0 : w.heap.size ≤ gb := by rw [HGB.out]; exact hsz
                      have D := Lib.hid (HNO.out (w5.setCell ⟨gb, 4, none⟩ (.slice none 0 0)) (by have h := HRW.out; rw [← HS2.out, hn0] at h; exact h) (((HB.out.trans (HBCr.out.mono hsz)).trans (hb5.mono (by omega))).setCell (p := ⟨gb, 4, none⟩) hgb0 _))
                      have f45 : w5.frozen? ⟨gb, 4, none⟩ = false := (HWP.out.below hb5 hgc).frozen 4
                      have x45 : w5.cell? ⟨gb, 4, none⟩ = some (.slice none 0 0) := (HWP.out.below hb5 hgc).cell 4
                      clear hn0 hb5 f4 x4
                      go_wp2_with fail
                      go_ret2
                      exact D.out
                    · have hz5 := hb5.size
                      have hgr : gb = wr.heap.size := HGB.out
                      have hw5 := HWP.out.below hb5 hgc
                      have f45 : w5.frozen? ⟨gb, 4, none⟩ = false := hw5.frozen 4
                      have x45 : w5.cell? ⟨gb, 4, none⟩ = some (.slice none 0 0) := hw5.cell 4
                      have HROW : Hid (rowP true (refP k) R = some (Fld.mk nm 70 0 [] t, b.drop P4)) := Lib.hid (by have h := HRW.out; rw [← HS2.out, ← HP4.out, hn0] at h; exact h)
                      have HHELD : Hid (Held (Fld.mk nm 70 0 [] t)) := Lib.hid ⟨by unfold I64; simp [Fld.n], by simp [Fld.name]; omega, by simp [Fld.s]⟩
                      have HBD : Hid (Below wr.heap.size wr (w5.setCell ⟨gb, 4, none⟩ (.slice A5 t.length c5))) := Lib.hid ((HBCr.out.trans (hb5.mono (by omega))).setCell (p := ⟨gb, 4, none⟩) (by show wr.heap.size ≤ gb; omega) (.slice A5 t.length c5))
                      have HZD : Hid ((w5.setCell ⟨gb, 4, none⟩ (.slice A5 t.length c5)).heap.size = w5.heap.size) := Lib.hid (by simp [World.setCell])
                      have HTAB : Hid (TabNew k (w5.setCell ⟨gb, 4, none⟩ (.slice A5 t.length c5)) wr.heap.size t A5 c5) := Lib.hid (by
                        have h3 := TabS.keep (w' := (w5.setCell ⟨gb, 4, none⟩ (.slice A5 t.length c5))) (fun q o hb => World.cell?_of_block (a := ⟨q, o, none⟩) (Below.heap_setCell w5 ⟨gb, 4, none⟩ (.slice A5 t.length c5) q (by show q ≠ gb; have := hb.1; omega))) k t A5 c5 htab
                        exact TabS.weak (fun q hb => ⟨by have := hb.1; omega, by rw [HZD.out]; exact hb.2⟩) k t A5 c5 h3)
                      have HWD : Hid (Whole (w5.setCell ⟨gb, 4, none⟩ (.slice A5 t.length c5)) gb 54 #[.string ⟨nm.toArray⟩, .int .u8 70, .int .i64 0, .string ⟨#[]⟩, .slice A5 t.length c5]) := Lib.hid (hw5.put 4 (.slice A5 t.length c5))
                      have k0 : (w5.setCell ⟨gb, 4, none⟩ (.slice A5 t.length c5)).cell? ⟨gb, 0, none⟩ = some (.string ⟨nm.toArray⟩) := HWD.out.cell 0
                      have k1 : (w5.setCell ⟨gb, 4, none⟩ (.slice A5 t.length c5)).cell? ⟨gb, 1, none⟩ = some (.int .u8 70) := HWD.out.cell 1
                      have k2 : (w5.setCell ⟨gb, 4, none⟩ (.slice A5 t.length c5)).cell? ⟨gb, 2, none⟩ = some (.int .i64 0) := HWD.out.cell 2
                      have k3 : (w5.setCell ⟨gb, 4, none⟩ (.slice A5 t.length c5)).cell? ⟨gb, 3, none⟩ = some (.string ⟨#[]⟩) := HWD.out.cell 3
                      have k4 : (w5.setCell ⟨gb, 4, none⟩ (.slice A5 t.length c5)).cell? ⟨gb, 4, none⟩ = some (.slice A5 t.length c5) := HWD.out.cell 4
                      obtain ⟨f, hf⟩ : ∃ f, f = Fld.mk nm 70 0 [] t := ⟨_, rfl⟩
                      have HPN : Hid (PB = (parseL (rowP true (refP k)) (n - 1) (b.drop P4)).map ((l0 ++ [f]) ++ ·)) := Lib.hid (by rw [HS.out, HROW.out, hf]; simp)
                      have HE : Hid (Held f) := Lib.hid (by rw [hf]; exact HHELD.out)
                      have HTN : Hid (TabNew k (w5.setCell ⟨gb, 4, none⟩ (.slice A5 t.length c5)) wr.heap.size f.t A5 c5) := Lib.hid (by rw [hf]; exact HTAB.out)
                      have hlies : Hid (Lies ((w5.setCell ⟨gb, 4, none⟩ (.slice A5 t.length c5)).alloc (.cells #[.string ⟨nm.toArray⟩, .int .u8 70, .int .i64 0, .string ⟨#[]⟩, .slice A5 t.length c5] 54)) ((w5.setCell ⟨gb, 4, none⟩ (.slice A5 t.length c5)).heap.size + 1) (some ⟨w5.heap.size, 0, none⟩) (cellsF (.slice A5 f.t.length c5) f)) := Lib.hid (by rw [hf, ← HZD.out]; exact field_lies (w5.setCell ⟨gb, 4, none⟩ (.slice A5 t.length c5)) (Fld.mk nm 70 0 [] t) (.slice A5 t.length c5))
                      have HG1 := Lib.hid (only_below HBD.out (some g))
                      obtain ⟨xs, hown, hdl⟩ := HF.out
                      have HO := Lib.hid hown
                      have HDL := Lib.hid hdl
                      have HOJ := Lib.hid ((own_below hown HBD.out).alloc (.cells #[.string ⟨nm.toArray⟩, .int .u8 70, .int .i64 0, .string ⟨#[]⟩, .slice A5 t.length c5] 54))
                      have hbz := HBD.out.size
                      have HBASE : Hid (g + 1 ≤ ((w5.setCell ⟨gb, 4, none⟩ (.slice A5 t.length c5)).alloc (.cells #[.string ⟨nm.toArray⟩, .int .u8 70, .int .i64 0, .string ⟨#[]⟩, .slice A5 t.length c5] 54)).heap.size) := Lib.hid (by rw [World.size_alloc]; omega)
                      have hby : (l0.length + 1) * 72 ≤ 140737488355328 := by omega
                      have H63 : Hid (l0.length + 1 ≤ maxLen) := Lib.hid (by unfold maxLen; omega)
                      have HAL : Hid (Below (w5.setCell ⟨gb, 4, none⟩ (.slice A5 t.length c5)).heap.size (w5.setCell ⟨gb, 4, none⟩ (.slice A5 t.length c5)) ((w5.setCell ⟨gb, 4, none⟩ (.slice A5 t.length c5)).alloc (.cells #[.string ⟨nm.toArray⟩, .int .u8 70, .int .i64 0, .string ⟨#[]⟩, .slice A5 t.length c5] 54))) := Lib.hid ((Below.refl _ _).alloc (Nat.le_refl _) _)
                      clear hf hown hdl
                      clear hw5 hn0 htab hb5 hgr f4 x4
                      go_wp2_with (at_builtin; go_must (refine wpList_append_at rfl _ _ 23 rfl (g + 1) 54 i0 _ 5 72 Try.underlying23 HI.out H0.out H1.out H2.out rfl (by omega) _ l0.length _ rfl HOJ.out _ _ 1 1 _ rfl hlies.out (cellsF_len _ f) (cellsF_one _ _ _ f) H63.out hby HBASE.out ?_); intro v' w2 hown2 hg2 hv2; have HF2 : Hid (Fields k g w2 v' (l0 ++ [f])) := Lib.hid (Fields.snoc HO.out HDL.out HG1.out HE.out HTN.out (by omega) HAL.out hown2 hg2 hv2); have HB2 : Hid (Below w.heap.size w w2) := Lib.hid (((HB.out.trans (HBD.out.mono hsz)).trans (HAL.out.mono (by omega))).trans ((Below.refl w.heap.size _).grown hg2 (by rw [hgs]; exact HBASE.out) (fun q hq => by rw [hgs]; exact (HO.out.lt q hq).1))); clear hown2 hg2 hv2)
                      go_roundw
                      case rel => exact ⟨l0 ++ [f], P4, n - 1, by go_num, HPN.out, by rw [List.length_drop]; omega, by omega, by rw [List.length_append]; simp; omega, HB2.out, HF2.out⟩
                      case measure => simp [intOf]; omega
                · subst hc
                  have hw' : Whole wc gb 54 #[.string ⟨nm.toArray⟩, .int .u8 86, .int .i64 0, .string ⟨#[]⟩, .slice none 0 0] := hw
                  have x0 : wc.cell? ⟨gb, 0, none⟩ = some (.string ⟨nm.toArray⟩) := hw'.cell 0
                  have x1 : wc.cell? ⟨gb, 1, none⟩ = some (.int .u8 86) := hw'.cell 1
                  have x2 : wc.cell? ⟨gb, 2, none⟩ = some (.int .i64 0) := hw'.cell 2
                  have x3 : wc.cell? ⟨gb, 3, none⟩ = some (.string ⟨#[]⟩) := hw'.cell 3
                  have x4 : wc.cell? ⟨gb, 4, none⟩ = some (.slice none 0 0) := hw'.cell 4
                  have HROW : Hid (rowP true (refP k) R = some (Fld.mk nm 86 0 [] [], b.drop P3)) := Lib.hid (by rw [HP3.out, HNM.out]; unfold rowP; rw [HT.out, HTR.out]; simp)
                  have HHELD : Hid (Held (Fld.mk nm 86 0 [] [])) := Lib.hid ⟨by unfold I64; simp [Fld.n], by simp [Fld.name]; omega, by simp [Fld.s]⟩
                  have HTAB : Hid (TabNew k wc wr.heap.size ([] : List Fld) none 0) := Lib.hid (tabnew_nil k wc wr.heap.size)
                  have HBD := HBCr
                  have HZD : Hid (wc.heap.size = wc.heap.size) := Lib.hid rfl
                  obtain ⟨f, hf⟩ : ∃ f, f = Fld.mk nm 86 0 [] [] := ⟨_, rfl⟩
                  have HPN : Hid (PB = (parseL (rowP true (refP k)) (n - 1) (b.drop P3)).map ((l0 ++ [f]) ++ ·)) := Lib.hid (by rw [HS.out, HROW.out, hf]; simp)
                  have HE : Hid (Held f) := Lib.hid (by rw [hf]; exact HHELD.out)
                  have HTN : Hid (TabNew k wc wr.heap.size f.t none 0) := Lib.hid (by rw [hf]; exact HTAB.out)
                  have hlies : Hid (Lies (wc.alloc (.cells #[.string ⟨nm.toArray⟩, .int .u8 86, .int .i64 0, .string ⟨#[]⟩, .slice none 0 0] 54)) (wc.heap.size + 1) (some ⟨wc.heap.size, 0, none⟩) (cellsF (.slice none f.t.length 0) f)) := Lib.hid (by rw [hf, ← HZD.out]; exact field_lies wc (Fld.mk nm 86 0 [] []) (.slice none 0 0))
                  have HG1 := Lib.hid (only_below HBD.out (some g))
                  obtain ⟨xs, hown, hdl⟩ := HF.out
                  have HO := Lib.hid hown
                  have HDL := Lib.hid hdl
                  have HOJ := Lib.hid ((own_below hown HBD.out).alloc (.cells #[.string ⟨nm.toArray⟩, .int .u8 86, .int .i64 0, .string ⟨#[]⟩, .slice none 0 0] 54))
                  have hbz := HBD.out.size
                  have HBASE : Hid (g + 1 ≤ (wc.alloc (.cells #[.string ⟨nm.toArray⟩, .int .u8 86, .int .i64 0, .string ⟨#[]⟩, .slice none 0 0] 54)).heap.size) := Lib.hid (by rw [World.size_alloc]; omega)
                  have hby : (l0.length + 1) * 72 ≤ 140737488355328 := by omega
                  have H63 : Hid (l0.length + 1 ≤ maxLen) := Lib.hid (by unfold maxLen; omega)
                  have HAL : Hid (Below wc.heap.size wc (wc.alloc (.cells #[.string ⟨nm.toArray⟩, .int .u8 86, .int .i64 0, .string ⟨#[]⟩, .slice none 0 0] 54))) := Lib.hid ((Below.refl _ _).alloc (Nat.le_refl _) _)
                  clear hf hown hdl
                  clear hw hw'
                  go_wp2_with (at_builtin; go_must (refine wpList_append_at rfl _ _ 23 rfl (g + 1) 54 i0 _ 5 72 Try.underlying23 HI.out H0.out H1.out H2.out rfl (by omega) _ l0.length _ rfl HOJ.out _ _ 1 1 _ rfl hlies.out (cellsF_len _ f) (cellsF_one _ _ _ f) H63.out hby HBASE.out ?_); intro v' w2 hown2 hg2 hv2; have HF2 : Hid (Fields k g w2 v' (l0 ++ [f])) := Lib.hid (Fields.snoc HO.out HDL.out HG1.out HE.out HTN.out (by omega) HAL.out hown2 hg2 hv2); have HB2 : Hid (Below w.heap.size w w2) := Lib.hid (((HB.out.trans (HBD.out.mono hsz)).trans (HAL.out.mono (by omega))).trans ((Below.refl w.heap.size _).grown hg2 (by rw [hgs]; exact HBASE.out) (fun q hq => by rw [hgs]; exact (HO.out.lt q hq).1))); clear hown2 hg2 hv2)
                  go_roundw
                  case rel => exact ⟨l0 ++ [f], P3, n - 1, by go_num, HPN.out, by rw [List.length_drop]; omega, by omega, by rw [List.length_append]; simp; omega, HB2.out, HF2.out⟩
                  case measure => simp [intOf]; omega
                · obtain ⟨a1, a2, a3, a4, a5, a6⟩ := hc
                  have ne : ∀ q : UInt8, kc ≠ q → ((kc.toNat : Int) == (q.toNat : Int)) = false := by
                    intro q hq
                    simp only [beq_eq_false_iff_ne]
                    intro h
                    exact hq (UInt8.toNat_inj.1 (by omega))
                  have x1 : wc.cell? ⟨gb, 1, none⟩ = some (.int .u8 (kc.toNat : Int)) := hw.cell 1
                  have D := Lib.hid (HNO.out wc (by unfold rowP; rw [HT.out, HTR.out]; simp [a1, a2, a3, a4, a5, a6]) (HB.out.trans (HBCr.out.mono hsz)))
                  have b116 := ne 116 a1
                  rw [show ((UInt8.toNat 116 : Nat) : Int) = 116 from rfl] at b116
                  have b73 := ne 73 a2
                  rw [show ((UInt8.toNat 73 : Nat) : Int) = 73 from rfl] at b73
                  have b108 := ne 108 a3
                  rw [show ((UInt8.toNat 108 : Nat) : Int) = 108 from rfl] at b108
                  have b83 := ne 83 a4
                  rw [show ((UInt8.toNat 83 : Nat) : Int) = 83 from rfl] at b83
                  have b70 := ne 70 a5
                  rw [show ((UInt8.toNat 70 : Nat) : Int) = 70 from rfl] at b70
                  have b86 := ne 86 a6
                  rw [show ((UInt8.toNat 86 : Nat) : Int) = 86 from rfl] at b86
                  clear ne a1 a2 a3 a4 a5 a6 hw
                  go_wp2_with fail
                  go_ret2
                  exact D.out
            · have D := Lib.hid (HNO.out wr (by unfold rowP; rw [HT.out, HRE.out, List.drop_eq_nil_of_le (by omega)]; rfl) HB.out)
              go_wp2_with fail
              go_ret2
              exact D.out
        · obtain rfl : j = b.length := by omega
          have D : ∀ v : Value, Fields k g wr v l0 → ∀ A c, v = .slice A l0.length c → ParseIs PB (k + 1) w (.returned (.tuple #[v, .bool true])) wr := by
            rintro v hf A c rfl
            refine .inr ⟨l0, A, c, ?_, rfl, Fields.done hf rfl (by omega), HB.out⟩
            rw [HP.out, List.drop_length]
            cases n <;> simp [parseL]
          obtain ⟨A2, c2, hv⟩ := HF.out.form
          subst hv
          have DD := Lib.hid (D _ HF.out A2 c2 rfl)
          clear D
          go_wp2_with fail
          go_ret2
          exact DD.out
end Go.Proofs.Ytplijhhjclfhaaa
