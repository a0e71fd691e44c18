/- Layer 7: Crash's walk. -/
import Derived.Test.YtcmffifehpbjnaaSectV
namespace Go.Proofs.Ytcmffifehpbjnaa
open Go.RowKit Go.Maps
set_option maxRecDepth 100000
set_option linter.unusedSimpArgs false
set_option linter.unusedVariables false
section
variable {K : Nat → Prop} {w w' : World} {g : Nat} {b1 b2 b3 : Nat} {S : Dv} {sv : Nm → Value}
theorem mem_map_snd (S : Dv) (j : Nat) (h : j < S.fs.length) : (S.fs.map (·.1))[j]'(by simpa using h) = S.fs[j].1 := by simp
set_option maxHeartbeats 16000000 in
theorem crash_any (H : DevAt K w g S b1 b2 b3 sv) (hO : Ok S) (hK : ∀ i, K i → i < w.heap.size) (A0 : Option Addr) (ps0 : List Int) (cp0 : Nat) (hc1 : ps0.length ≤ cp0) (hc2 : cp0 ≤ maxLen) (hP : PickAt K w A0 ps0) (h64 : In64 ps0) :
    Calls Try.prog 26 #[ptr g, .slice A0 ps0.length cp0] w fun e w' => e = .returned (.tuple #[]) ∧ Dev K w' g (crash S ps0) ∧ Turn K w w' := by
  obtain ⟨L, hL⟩ : ∃ L, L = S.fs.map (·.1) := ⟨_, rfl⟩
  have hLl : L.length = S.fs.length := by rw [hL]; simp
  obtain ⟨nl, hnl⟩ : ∃ nl, nl = S.fs.length := ⟨_, rfl⟩
  have hfew := hO.few
  rw [← hnl] at hfew hLl
  have H0 := Lib.hid H
  have HO := Lib.hid hO
  have HN := Lib.hid (names_any H hO)
  have HP := Lib.hid hP
  have HIN := Lib.hid h64
  have HLE := Lib.hid hL
  have HLL := Lib.hid hLl
  have HNL := Lib.hid hnl
  obtain ⟨l0, hl0⟩ : ∃ l0, l0 = ps0.length := ⟨_, rfl⟩
  have HL0 := Lib.hid hl0
  rw [← hl0] at hc1 ⊢
  clear H hO hP h64 hL hLl hnl hl0
  go_enter Try.func26, Try.ntmps26
  go_wp2_with (go_at_call 44; go_must (refine HN.out.mono ?_); rintro e wn ⟨v, rfl, hrow, hb⟩; obtain ⟨va, vc, rfl, _, _⟩ := own_form hrow; have HR := Lib.hid hrow; have HB := Lib.hid hb; clear hrow hb)
  have hpk : PickAt K wn A0 ps0 := HP.out.turn (Turn.of_below HB.out)
  have hgnc : ∃ gn, (0 < nl → va = some ⟨gn, 0, none⟩) ∧ CrO K w g S b1 b2 b3 ps0 gn 0 (.slice A0 l0 cp0) wn := by
    have hp : ∃ A c, Value.slice A0 l0 cp0 = .slice A (crAll S ((S.fs.map (·.1)).take 0) ps0).2.length c ∧ (crAll S ((S.fs.map (·.1)).take 0) ps0).2.length ≤ c ∧ c ≤ maxLen ∧ PickAt K wn A (crAll S ((S.fs.map (·.1)).take 0) ps0).2 :=
      ⟨A0, cp0, by rw [HL0.out]; rfl, by have := hc1; rw [HL0.out] at this; exact this, hc2, hpk⟩
    by_cases h0 : 0 < nl
    · have hr := HR.out
      rw [← HLE.out, ← HNL.out, ← HLL.out] at hr
      obtain ⟨gn, c, hv, h1, h2, _, _, h3⟩ := row_names hr (by rw [HLL.out]; exact h0)
      injection hv with hv1 hv2 hv3
      refine ⟨gn, fun _ => hv1, ⟨sv, H0.out.below HB.out⟩, Turn.of_below HB.out, fun j hj => ⟨h2, fun e => by have := hK gn e; omega, ?_⟩, hp⟩
      have := h3 j (by rw [HLL.out, HNL.out]; exact hj)
      rw [this]
      simp only [HLE.out]
      rw [List.getElem_map]
    · exact ⟨0, fun h => absurd h h0, ⟨sv, H0.out.below HB.out⟩, Turn.of_below HB.out, fun j hj => absurd (by rw [HNL.out]; omega) h0, hp⟩
  obtain ⟨gn, hva, hcr⟩ := hgnc
  have HCR := Lib.hid hcr
  have HVA := Lib.hid hva
  have HK := Lib.hid hK
  rw [← HNL.out]
  clear hcr hva hpk hK HR HN
  go_loopw [1, 13] (fun vp vm X => ∃ m : Nat, m ≤ nl ∧ vm = .int .i64 (m : Int) ∧ CrO K w g S b1 b2 b3 ps0 gn m vp X) (fun _ vm _ => nl - (intOf vm).toNat)
  case atStart => exact ⟨0, Nat.zero_le _, rfl, HCR.out⟩
  case round =>
    obtain ⟨m, hm, rfl, hC⟩ := hrel
    obtain ⟨wo, hwo⟩ : ∃ wo : World, wo = wr := ⟨_, rfl⟩
    subst hwo
    by_cases hlt : m < nl
    · obtain rfl := HVA.out (by omega)
      have hmS : m < S.fs.length := by rw [← HNL.out]; exact hlt
      obtain ⟨Sm, hSm⟩ : ∃ Sm, Sm = (crAll S ((S.fs.map (·.1)).take m) ps0).1 := ⟨_, rfl⟩
      obtain ⟨pm, hpm⟩ : ∃ pm, pm = (crAll S ((S.fs.map (·.1)).take m) ps0).2 := ⟨_, rfl⟩
      obtain ⟨A, cp, hvp, hpc, hcm, hpa⟩ := hC.pick
      obtain ⟨svm, hD⟩ := hC.dev
      rw [← hpm] at hvp hpc hpa
      rw [← hSm] at hD
      obtain ⟨nm, hnm⟩ : ∃ nm, nm = S.fs[m].1 := ⟨_, rfl⟩
      obtain ⟨gnlt, gnK, hcell⟩ := hC.names m hmS
      rw [← hnm] at hcell
      have hOm : Ok Sm := by rw [hSm]; exact crAll_ok HO.out _ _
      have hSf : ∃ F, fnd Sm.fs nm = some F := by
        have h1 := crAll_has S ((S.fs.map (·.1)).take m) ps0 nm
        have hmem : (S.fs[m].1, S.fs[m].2) ∈ S.fs := List.getElem_mem hmS
        rw [← hSm, hnm, mem_fnd HO.out.rising hmem] at h1
        rw [hnm]
        exact Option.isSome_iff_exists.1 h1
      obtain ⟨F, hF⟩ := hSf
      have hnm20 := (hOm.names nm F hF)
      have hn : nm.length ≤ maxLen := by unfold maxLen; omega
      have hstep : crAll S ((S.fs.map (·.1)).take (m + 1)) ps0 = (Sm.put nm (shF (stAll F (sortN F.wr) pm).1 (sortN F.wr)), (stAll F (sortN F.wr) pm).2) := by
        rw [List.take_succ_eq_append_getElem (by simpa using hmS), crAll_snoc, List.getElem_map, ← hnm]
        unfold crStep
        rw [← hSm, hF]
        simp only [← hpm]
      have hp64 : In64 pm := by rw [hpm]; exact crAll_in64 S _ _ HIN.out
      have hfl := fil_le hOm hF
      have hwl := wr_le hOm hF
      subst hvp
      -- the lookup
      have e1 := (hD.raw.look_fl hn).2
      rw [hF] at e1
      simp only [Option.map_some, Option.getD_some, flV] at e1
      obtain ⟨sa, sc, hsv, hsc1, hsc2⟩ := own_form (hD.rows nm F hF).1
      rw [hsv] at e1
      have hrow := (hD.rows nm F hF).1
      rw [hsv] at hrow
      obtain ⟨n, hnn⟩ : ∃ n, n = F.l.length := ⟨_, rfl⟩
      obtain ⟨sl, hsl⟩ : ∃ sl, sl = F.wr.length := ⟨_, rfl⟩
      rw [← hnn] at e1 hfl
      rw [← hsl] at e1 hwl
      have hbs : (svm nm).ownBlock = (Value.slice sa sl sc).ownBlock := by rw [hsv, hsl]
      obtain ⟨x0, x1, x2, x3, x4, x5⟩ := hD.cell
      have hglt := hD.glt
      have hb1l := hD.files.lt
      have hb2l := hD.lasts.lt
      have hb3l := hD.fresh.lt
      -- the box, then the row in its order
      obtain ⟨A1, hA1⟩ : ∃ A1 : Obj, A1 = .cells #[.int .i64 (n : Int), .slice sa sl sc] 91 := ⟨_, rfl⟩
      obtain ⟨W1, hW1⟩ : ∃ W1, W1 = wo.alloc A1 := ⟨_, rfl⟩
      have hBel : Below wo.heap.size wo W1 := by rw [hW1]; exact (Below.refl _ _).alloc (Nat.le_refl _) _
      have hbox : Whole W1 wo.heap.size 91 #[.int .i64 (n : Int), .slice sa sl sc] := by rw [hW1, hA1]; exact Whole.new _ _ _
      have hrow1 : W1.ownsRow 0 3 1 (.slice sa sl sc) F.wr.length (I64 F.wr) := by rw [hW1, hsl]; exact hrow.alloc _
      have HSO := Lib.hid (sort_any (.slice sa sl sc) F.wr W1 hrow1 (by rw [← hsl]; omega))
      have HD := Lib.hid hD
      have HF := Lib.hid hF
      have HOM := Lib.hid hOm
      have HST := Lib.hid hstep
      have HNN := Lib.hid hnn
      have HSL := Lib.hid hsl
      have HBS := Lib.hid hbs
      have HBEL := Lib.hid hBel
      have HBOX := Lib.hid hbox
      have HPA := Lib.hid hpa
      have HP64 := Lib.hid hp64
      have HT := Lib.hid hC.T
      have HNAMES := Lib.hid hC.names
      have HSV := Lib.hid hsv
      have hz1 : W1.heap.size = wo.heap.size + 1 := by rw [hW1]; simp
      have HZ1 := Lib.hid hz1
      have HNM := Lib.hid hnm
      unfold nmV at e1
      have HA1 := Lib.hid hA1
      have HW1 := Lib.hid hW1
      clear hC hD hF hOm hstep hnn hsl hbs hBel hbox hpa hp64 hsv hrow hrow1 hz1 hSm hpm hnm hW1
      go_upto_region 4 with fail
      refine wp_world (w2 := W1) (by rw [HW1.out, HA1.out]) ?_
      have bx1 : W1.cell? ⟨wo.heap.size, 1, none⟩ = some (.slice sa sl sc) := HBOX.out.cell 1
      clear x0 x1 x2 x3 x4 x5 e1 hcell hA1
      go_upto_region 5 with (go_at_call 45; go_must (refine HSO.out.mono ?_); rintro e w5 ⟨rfl, hr5, hg5⟩; have R5 := Lib.hid hr5; have G5 := Lib.hid hg5; clear hr5 hg5)
      have hI0 : CrI K wo g Sm b1 b2 b3 svm nm F pm (.slice sa sl sc) 0 (.slice A pm.length cp) w5 := by
        have hd := HD.out
        have hg5 := G5.out
        have hown : ∀ i, (Value.slice sa sl sc).ownBlock = some i → i ≠ g ∧ i ≠ b1 ∧ i ≠ b2 ∧ i ≠ b3 ∧ i < wo.heap.size := by
          intro i hi
          rw [← HBS.out] at hi
          obtain ⟨q1, q2, q3, q4⟩ := row_ne hd HF.out hi
          exact ⟨q1, q2, q3, q4, row_lt hd HF.out hi⟩
        have T5 : Turn (fun j => j = g ∨ j = b1 ∨ j = b2 ∨ j = b3 ∨ (svm nm).ownBlock = some j) wo w5 :=
          (Turn.of_below HBEL.out).trans ⟨hg5.os, hg5.tape, hg5.output, hg5.size, fun i hi hn => hg5.block i hi (fun e => hn (.inl (by rw [HBS.out]; exact .inr (.inr (.inr (.inr e.symm))))))⟩
        refine ⟨?_, T5, ?_, R5.out, ⟨A, cp, rfl, hpc, hcm, HPA.out.turn (T5.mono (fun i _ hi => ?_))⟩⟩
        · have hst : (stAll F ((sortN F.wr).take 0) pm).1 = F := rfl
          rw [hst]
          have e2 : (fun x => ((Sm.put nm F).la x).map laV) = fun x => (Sm.la x).map laV := by
            funext x
            rw [la_put]
            by_cases e : x.1 = nm
            · rw [if_pos e]; unfold Dv.la; rw [e, HF.out]; rfl
            · rw [if_neg e]
          have e3 : (fun x => ((Sm.put nm F).fr x).map frV) = fun x => (Sm.fr x).map frV := by
            funext x
            rw [fr_put]
            by_cases e : x.1 = nm
            · rw [if_pos e]; unfold Dv.fr; rw [e, HF.out]; rfl
            · rw [if_neg e]
          rw [e2, e3]
          refine (hd.raw.below HBEL.out).keep (fun i hi => hg5.block i ?_ ?_)
          · have := HZ1.out
            rcases hi with rfl | rfl | rfl | rfl <;> omega
          · intro e
            obtain ⟨q1, q2, q3, q4, _⟩ := hown i e.symm
            rcases hi with rfl | rfl | rfl | rfl
            · exact q1 rfl
            · exact q2 rfl
            · exact q3 rfl
            · exact q4 rfl
        · refine (hg5.block _ (by have := HZ1.out; omega) (fun e => ?_)).trans (by rw [← HNN.out]; exact HBOX.out)
          have := (hown _ e.symm).2.2.2.2
          omega
        · rcases hi with rfl | rfl | rfl | rfl | hi
          · exact hd.own.1
          · exact hd.own.2.1
          · exact hd.own.2.2.1
          · exact hd.own.2.2.2
          · exact (hd.rows nm F HF.out).2 i hi
      have HI0 := Lib.hid hI0
      have bx2 : w5.cell? ⟨wo.heap.size, 1, none⟩ = some (.slice sa sl sc) := hI0.box.cell 1
      clear hI0 bx1
      go_wp2_with fail
      go_loopw [1, 29] (fun vp vi X => ∃ i : Nat, i ≤ sl ∧ vi = .int .i64 (i : Int) ∧ CrI K wo g Sm b1 b2 b3 svm nm F pm (.slice sa sl sc) i vp X) (fun _ vi _ => sl - (intOf vi).toNat)
      case atStart => exact ⟨0, Nat.zero_le _, rfl, HI0.out⟩
      case round =>
        obtain ⟨i, hi, rfl, hI⟩ := hrel
        have hkl : (sortN F.wr).length = sl := by rw [sortN_length, HSL.out]
        by_cases hil : i < sl
        · obtain ⟨gb, rfl, hcell, hgb⟩ := row_cell hI.row (i := i) (by rw [hkl]; exact hil)
          obtain ⟨k, hk⟩ : ∃ k, k = (sortN F.wr)[i]'(by rw [hkl]; exact hil) := ⟨_, rfl⟩
          rw [← hk] at hcell
          obtain ⟨Fi, hFi⟩ : ∃ Fi, Fi = (stAll F ((sortN F.wr).take i) pm).1 := ⟨_, rfl⟩
          obtain ⟨pi, hpi⟩ : ∃ pi, pi = (stAll F ((sortN F.wr).take i) pm).2 := ⟨_, rfl⟩
          have hst : stAll F ((sortN F.wr).take (i + 1)) pm = (setF Fi k (stl (pk pi)), pi.tail) := by
            rw [List.take_succ_eq_append_getElem (by rw [hkl]; exact hil), ← hk, stAll_snoc, hFi, hpi]
            rfl
          obtain ⟨Ap, cc, hvp, hpc1, hcm1, hpa1⟩ := hI.pick
          rw [← hpi] at hvp hpc1 hpa1
          have ho := HOM.out.once nm F HF.out
          have hkw : k ∈ F.wr := (sortN_perm F.wr).mem_iff.1 (by rw [hk]; exact List.getElem_mem _)
          obtain ⟨sct, hs1, hs2⟩ := (ho.2 k).1 hkw
          obtain ⟨sx, hsx⟩ := Option.isSome_iff_exists.1 hs2
          have hnot : k ∉ (sortN F.wr).take i := by
            intro hin
            obtain ⟨q, hq1, hq2⟩ := List.getElem_of_mem hin
            simp at hq1 hq2
            have hnd := List.nodup_iff_pairwise_ne.1 ((sortN_perm F.wr).nodup_iff.2 ho.1)
            exact (List.pairwise_iff_getElem.1 hnd) q i (by omega) (by rw [hkl]; exact hil) (by omega) (by rw [hq2, hk])
          have hfk : Fi.l[k]? = some sct := by rw [hFi, stAll_fr _ _ _ k hnot]; exact hs1
          have hkn : k < n := by rw [HNN.out]; exact (List.getElem?_eq_some_iff.1 hs1).1
          have hx : plOk (nm, k) := ⟨hnm20.2, by show k ≤ 1000000; omega⟩
          have hset : ∀ X' : World, X'.heap = wr.heap → Calls Try.prog 47 #[ptr g, plV (nm, k), .int .i64 (pk pi)] X' fun e w' => e = .returned (.tuple #[]) ∧
              Raw K w' g Sm.most Sm.used Sm.left b1 b2 b3 (fun nm => (fnd Sm.fs nm).map fun F => flV F.l.length (svm nm)) (fun x => ((Sm.put nm (stAll F ((sortN F.wr).take (i + 1)) pm).1).la x).map laV) (fun x => ((Sm.put nm (stAll F ((sortN F.wr).take (i + 1)) pm).1).fr x).map frV) ∧ Turn (fun j => j = b2 ∨ j = b3) X' w' := by
            intro X' hX
            have hR := hI.raw.keep (w' := X') (fun _ _ => by rw [hX])
            rw [← hFi] at hR
            have hc := settle_any hR (nm, k) hx sx (by rw [fr_put, if_pos rfl, hfk, Option.bind_some, hsx]; rfl) (Sm.put nm Fi).places (fun y hy => la_place (by simpa using hy)) (by
              rw [places_put HOM.out.rising nm F Fi HF.out (by rw [hFi, stAll_length])]
              have := HOM.out.room
              have := HOM.out.most
              unfold maxLen; omega) (pk pi) (pk_three pi)
            obtain ⟨u1, u2⟩ := put_st (S := Sm) nm Fi k (pk pi) sct hfk sx hsx (pk_three pi)
            rw [u1, u2] at hc
            rw [hst]
            exact hc
          have HSET := Lib.hid hset
          have HI := Lib.hid hI
          have HST2 := Lib.hid hst
          have HPI := Lib.hid hpi
          have HPA1 := Lib.hid hpa1
          have hpi64 : In64 pi := by rw [hpi]; exact stAll_in64 _ _ _ HP64.out
          have HPI64 := Lib.hid hpi64
          subst hvp
          unfold plV at HSET
          clear hI hset hst hpi hpa1 hx hfk hnot hs1 hs2 hsx ho hkw hFi hk hpi64
          cases hpe : pi with
          | nil =>
            subst hpe
            go_wp2_with (go_at_call 47; go_must (refine (HSET.out _ rfl).mono ?_); rintro e w9 ⟨rfl, hr9, ht9⟩; have R9 := Lib.hid hr9; have T9 := Lib.hid ht9; clear hr9 ht9)
            go_roundw
            case rel =>
              refine ⟨i + 1, by omega, by go_num, HI.out.next HD.out HF.out rfl rfl rfl rfl T9.out R9.out ⟨Ap, cc, ?_, ?_, hcm1, ?_⟩⟩
              · rw [HST2.out]; rfl
              · rw [HST2.out]; exact Nat.zero_le _
              · rw [HST2.out]; exact .inl rfl
            case measure => simp [intOf]; omega
          | cons p r =>
            subst hpe
            rcases HPA1.out with h0 | ⟨pb, off, hA, hpl, hpK, hpc⟩
            · cases h0
            subst hA
            have hp0 : wr.cell? ⟨pb, off, none⟩ = some (.int .i64 p) := by
              have := hpc 0 (by simp)
              simpa using this
            have hpw := HPI64.out p (by simp)
            obtain ⟨l1, hl1⟩ : ∃ l1, l1 = r.length := ⟨_, rfl⟩
            have hlen : (p :: r).length = l1 + 1 := by simp [hl1]
            rw [hlen] at hpc1 ⊢
            have HL1 := Lib.hid hl1
            have HPT := Lib.hid HPA1.out.tail
            obtain ⟨pq, hpq⟩ : ∃ pq, pq = pickK p := ⟨_, rfl⟩
            have hkc : ∀ X : World, Calls Try.prog 46 #[.int .i64 p] X fun e w' => e = .returned (.int .i64 pq) ∧ w' = X := by
              intro X
              rw [hpq]
              exact (kindOf_any p hpw).mono fun _ _ h => ⟨h.1, h.2.symm⟩
            have HKC := Lib.hid hkc
            have HPQ := Lib.hid hpq
            have hset2 : ∀ X' : World, X'.heap = wr.heap → _ := HSET.out
            rw [show pk (p :: r) = pq from hpq.symm] at hset2
            have HSET2 := Lib.hid hset2
            clear hl1 hlen hpc hkc hpq hset2 hpw
            have hcc1 : 1 ≤ cc := by omega
            have hcc2 : l1 + 1 ≤ cc := hpc1
            by_cases hcc : cc = 1
            · subst hcc
              have hl0 : l1 = 0 := by omega
              subst hl0
              go_upto_region 10 with fail
              go_quiet ((go_at_call 46; exact Calls.quiet_of_same (HKC.out _)))
              go_wp2_with (go_at_call 47; go_must (refine (HSET2.out (wr.drewN _) rfl).mono ?_); rintro e w9 ⟨rfl, hr9, ht9⟩; have R9 := Lib.hid hr9; have T9 := Lib.hid ht9; clear hr9 ht9)
              go_roundw
              case rel =>
                refine ⟨i + 1, by omega, by go_num, HI.out.next (X' := wr.drewN _) HD.out HF.out rfl rfl rfl rfl T9.out R9.out ⟨some ⟨pb, off, none⟩, 0, ?_, ?_, by unfold maxLen; omega, ?_⟩⟩
                · rw [HST2.out]
                  show _ = Value.slice _ r.length 0
                  rw [← HL1.out]
                · rw [HST2.out]
                  show r.length ≤ 0
                  rw [← HL1.out]; exact Nat.le_refl _
                · rw [HST2.out]
                  exact .inl (List.eq_nil_of_length_eq_zero HL1.out.symm)
              case measure => simp [intOf]; omega
            · have hcc3 : ¬ (cc = 1) := hcc
              have hcc4 : 1 < cc := by omega
              go_upto_region 10 with fail
              go_quiet ((go_at_call 46; exact Calls.quiet_of_same (HKC.out _)))
              go_wp2_with (go_at_call 47; go_must (refine (HSET2.out (wr.drewN _) rfl).mono ?_); rintro e w9 ⟨rfl, hr9, ht9⟩; have R9 := Lib.hid hr9; have T9 := Lib.hid ht9; clear hr9 ht9)
              go_roundw
              case rel =>
                refine ⟨i + 1, by omega, by go_num, HI.out.next (X' := wr.drewN _) HD.out HF.out rfl rfl rfl rfl T9.out R9.out ⟨some ⟨pb, off + 1, none⟩, cc - 1, ?_, ?_, by omega, ?_⟩⟩
                · rw [HST2.out]
                  show _ = Value.slice _ r.length (cc - 1)
                  rw [← HL1.out]
                · rw [HST2.out]
                  show r.length ≤ cc - 1
                  rw [← HL1.out]; omega
                · rw [HST2.out]
                  exact HPT.out
              case measure => simp [intOf]; omega
        · have hie : i = sl := by omega
          subst hie
          have htk : (sortN F.wr).take i = sortN F.wr := List.take_of_length_le (by rw [hkl]; exact Nat.le_refl _)
          have hraw := hI.raw
          rw [htk] at hraw
          have ho := HOM.out.once nm F HF.out
          have hmem : ∀ k, k ∈ sortN F.wr ↔ k ∈ F.wr := fun k => (sortN_perm F.wr).mem_iff
          have hsh := shorten_any HD.out HOM.out nm hnm20.2 F (stAll F (sortN F.wr) pm).1 HF.out (stAll_length _ _ _) (sortN F.wr) (fun k hk => by
            obtain ⟨s, hs, _⟩ := (ho.2 k).1 ((hmem k).1 hk)
            exact (List.getElem?_eq_some_iff.1 hs).1) (.slice sa i sc) hraw hI.row (fun k => by
            by_cases hk : k ∈ sortN F.wr
            · cases hg : (stAll F (sortN F.wr) pm).1.l[k]? with
              | none => rfl
              | some s => exact stAll_none _ _ _ k hk s hg
            · rw [stAll_fr _ _ _ k hk]
              cases hg : F.l[k]? with
              | none => rfl
              | some s =>
                cases hs : s.fr with
                | none => simpa using hs
                | some y => exact absurd ((hmem k).2 ((ho.2 k).2 ⟨s, hg, by rw [hs]; rfl⟩)) hk) (by rw [hkl]; omega)
          rw [← HNN.out] at hsh
          have HSH := Lib.hid hsh
          have bz0 : wr.cell? ⟨wo.heap.size, 0, none⟩ = some (.int .i64 (n : Int)) := by rw [HNN.out]; exact hI.box.cell 0
          have bz1 : wr.cell? ⟨wo.heap.size, 1, none⟩ = some (.slice sa i sc) := hI.box.cell 1
          have HI := Lib.hid hI
          have hDK : ∀ j, (j = g ∨ j = b1 ∨ j = b2 ∨ j = b3 ∨ (svm nm).ownBlock = some j) → K j := by
            intro j hj
            have hd := HD.out
            rcases hj with rfl | rfl | rfl | rfl | hj
            · exact hd.own.1
            · exact hd.own.2.1
            · exact hd.own.2.2.1
            · exact hd.own.2.2.2
            · exact (hd.rows nm F HF.out).2 j hj
          have HDK := Lib.hid hDK
          have HTK := Lib.hid htk
          unfold nmV at HSH
          clear hsh hraw htk hI ho hmem hDK bx2 HI0
          go_wp2_with (go_at_call 48; go_must (refine HSH.out.mono ?_); rintro e w9 ⟨rfl, hr9, ht9⟩; have R9 := Lib.hid hr9; have T9 := Lib.hid ht9; clear hr9 ht9)
          go_roundw
          case rel =>
            have TX : Turn (fun j => j = g ∨ j = b1 ∨ j = b2 ∨ j = b3 ∨ (svm nm).ownBlock = some j) wo w9 :=
              HI.out.T.trans (T9.out.mono (fun j _ hj => .inl (by rcases hj with rfl | rfl | rfl <;> simp)))
            have TK : Turn K wo w9 := TX.mono (fun j _ hj => HDK.out j hj)
            obtain ⟨Ap, cc, hvp, hpc1, hcm1, hpa1⟩ := HI.out.pick
            rw [HTK.out] at hvp hpc1 hpa1
            refine ⟨m + 1, by omega, by go_num, ⟨svAt svm nm (.slice none 0 0), ?_⟩, HT.out.trans (TK.mono (fun j _ hj => .inl hj)), fun j hj => ?_, ?_⟩
            · rw [HST.out]
              refine HD.out.settled HOM.out.rising nm F _ HF.out rfl _ ?_ R9.out (fun _ => rfl) (fun _ => rfl) (fun j hj => hj) (fun y F' hy hfy j hj => ?_)
              · rw [HNN.out]
              · obtain ⟨q1, q2, q3, q4⟩ := row_ne HD.out hfy hj
                refine TX.block j (row_lt HD.out hfy hj) ?_
                rintro (e | e | e | e | e)
                · exact q1 e
                · exact q2 e
                · exact q3 e
                · exact q4 e
                · exact HD.out.alone nm y F F' (Ne.symm hy) HF.out hfy j e hj
            · obtain ⟨z1, z2, z3⟩ := HNAMES.out j hj
              exact ⟨Nat.lt_of_lt_of_le z1 TK.size, z2, (World.cell?_of_block (w := wo) (TK.block gn z1 z2)).trans z3⟩
            · rw [HST.out]
              refine ⟨Ap, cc, hvp, hpc1, hcm1, hpa1.turn ((T9.out.mono (fun j _ hj => HDK.out j ?_)))⟩
              rcases hj with rfl | rfl | rfl <;> simp
          case measure => simp [intOf]; omega
    · have hme : m = nl := by omega
      subst hme
      obtain ⟨svm, hD⟩ := hC.dev
      have htk : (S.fs.map (·.1)).take m = S.fs.map (·.1) := List.take_of_length_le (by rw [List.length_map, ← HNL.out]; exact Nat.le_refl _)
      rw [htk] at hD
      have hOm : Ok (crAll S (S.fs.map (·.1)) ps0).1 := crAll_ok HO.out _ _
      obtain ⟨x0, x1, x2, x3, x4, x5⟩ := hD.cell
      have xf := hD.frozen 5
      have HD2 := Lib.hid (hD.set_left (-1))
      have HO2 := Lib.hid (hOm.set_left (x := -1) (by omega))
      have HT := Lib.hid (hC.T.trans (turn_cell (K := More K w) (w := wo) (g := g) (i := 5) (.inl hD.own.1) (.int .i64 (-1))))
      clear hC hD hOm htk
      go_wp2
      go_end0
      exact ⟨rfl, ⟨HO2.out, b1, b2, b3, svm, HD2.out⟩, HT.out⟩
end
end Go.Proofs.Ytcmffifehpbjnaa
