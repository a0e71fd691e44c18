/- Layer 9: PageTwice, walked. -/
import Derived.Test.YtlmnjieonhjhcaaPageTv
namespace Go.Proofs.Ytlmnjieonhjhcaa
open Go.RowKit Go.Maps
set_option maxRecDepth 100000
set_option linter.unusedSimpArgs false
set_option linter.unusedVariables false
def rdT9 (D : List (List UInt8)) (ids : List Int) (q : Nat) : List UInt8 := pad (D.getD (ids.getD q 0 - 2).toNat [])
def TwOut (B g fb : Nat) (w0 : World) (n : Nat) (v6 v7 : Value) (wr : World) : Prop :=
  ∃ (i : Nat) (ids : List Int) (A : Option Addr) (c : Nat) (Y : Nat → Prop), v6 = .slice A ids.length c ∧ v7 = .int .i64 (i : Int) ∧ i ≤ n ∧ i ≤ 10 ∧ ids.length ≤ c ∧ c ≤ maxLen ∧ TwC B g fb w0 i ids Y wr ∧ LiesP wr Y A (cellsZ ids)
def TwIn (B g fb : Nat) (w0 : World) (i q : Nat) (v6 v8 : Value) (wr : World) : Prop :=
  ∃ (k : Nat) (ids : List Int) (Y : Nat → Prop), v8 = .int .i64 (k : Int) ∧ k ≤ q + 1 ∧ ids.length = k ∧ TwI B g fb w0 i k ids v6 Y wr
theorem tw_commit2 {B g fb i k : Nat} {w0 w : World} {ids : List Int} {Y : Nat → Prop} (h : TwS B g fb w0 i k ids Y w) (hk : 4 * i + k ≤ 100) (hk4 : k ≤ 4) (hi : i ≤ 10) (hne : 0 < ids.length) (A : Option Addr) (c : Nat) (hl : LiesP w Y A (cellsZ ids)) (hc1 : ids.length ≤ c) (hc2 : c ≤ maxLen) (x : Int) (hx : x = ids.getD 0 0) :
    Calls Try.prog 14 #[ptr fb, .int .i64 x, .int .i64 (i : Int), .int .u64 (i : Int), .slice A ids.length c] w fun e w' => e = .returned (.int .i64 0) ∧ TwC B g fb w0 (i + 1) ids Y w' ∧ KeptX Y w w' := by
  subst hx
  exact tw_commit h hk hk4 hi hne A c hl hc1 hc2
set_option maxHeartbeats 8000000 in
theorem twice9_law (l : List Int) (A : Option Addr) (cap : Nat) (W : World) (hc1 : l.length ≤ cap) (hc2 : cap ≤ maxLen) (hl : Lies W W.heap.size A (cellsZ l)) (h64 : In64 l) :
    Calls Try.prog 3 #[.slice A l.length cap] W fun e w' => e = .returned (.bool true) ∧ Below W.heap.size W w' := by
  obtain ⟨i0, hI, hz0, hz1, hz2⟩ := info_parts int_info9
  have HI := Lib.hid hI
  have H0 := Lib.hid hz0
  have H1 := Lib.hid hz1
  have H2 := Lib.hid hz2
  have HL := Lib.hid hl
  have H64 := Lib.hid h64
  unfold maxLen at hc2
  clear hI hz0 hz1 hz2 hl h64
  go_enter Try.func3, Try.ntmps3
  have hdv : newDv 3000 = ⟨3000, -1, []⟩ := rfl
  have HDV := Lib.hid hdv
  clear hdv
  go_upto_region 4 with (go_at_call 9; go_must (refine (at_new 3000 _ (by omega)).mono ?_); rintro e w1 ⟨g, rfl, h1⟩; rw [HDV.out] at h1; have A1 := Lib.hid h1; clear h1)
  have hop := p_open (mo := 3000) A1.out rfl (by omega) (by omega)
  have HOP := Lib.hid hop
  clear hop
  go_upto_region 7 with (go_at_call 10; go_must (refine HOP.out.mono ?_); rintro e w2 ⟨fb, rfl, hfb, hP, hk⟩; have P2 := Lib.hid hP; clear hP hk)
  go_wp2_with fail
  go_loopw [6, 7] (fun v6 v7 wr => TwOut W.heap.size g fb W l.length v6 v7 wr) (fun _ v7 _ => 10 - (intOf v7).toNat)
  case atStart => exact ⟨0, [], none, 0, _, rfl, rfl, Nat.zero_le _, by omega, Nat.le_refl _, by unfold maxLen; omega, ⟨_, _, [], _, P2.out, mtTwo_start, fun b hb => (by cases hb), by simp, by decide, by show 1 ≤ 1 + 0; omega⟩, LiesP.nil _ _ _⟩
  case round =>
    obtain ⟨i, ids, Ai, ci, Y, rfl, rfl, hil, hi10, hci1, hci2, hC, hlp⟩ := hrel
    have CC := Lib.hid hC
    have LP := Lib.hid hlp
    have HCI := Lib.hid hci2
    clear hC hlp hci2
    by_cases hlt : i < l.length ∧ i < 10
    · obtain ⟨hlt1, hlt2⟩ := hlt
      have hi1 : (i : Int) < (l.length : Int) := by omega
      have hi2 : (i : Int) < 10 := by omega
      obtain ⟨b, o, rfl, hc⟩ := lies_z (HL.out) i hlt1
      obtain ⟨x, hx⟩ : ∃ x, x = l.getD i 0 := ⟨_, rfl⟩
      have hcell : ∀ w, Below W.heap.size W w → w.cell? ⟨b, o + i, none⟩ = some (.int .i64 x) := fun w hb => by
        obtain ⟨b2, o2, e2, hc2⟩ := lies_z (HL.out.below hb) i hlt1
        cases e2
        rw [hx]
        exact hc2 i hlt1
      have hx64 : -9223372036854775808 ≤ x ∧ x < 9223372036854775808 := H64.out x (by rw [hx, show l.getD i 0 = l[i] by simp [List.getD, hlt1]]; exact List.getElem_mem hlt1)
      obtain ⟨q, hq⟩ : ∃ q : Nat, x % 4 = (q : Int) := ⟨(x % 4).toNat, by omega⟩
      have hq3 : q ≤ 3 := by omega
      have hmk : bits .and .i64 x 3 = (q : Int) := by
        have := i64_mask x 2 (by omega)
        rw [← hq]
        simpa using this
      have HCE := Lib.hid hcell
      clear hc hcell hx hq
      go_upto_region 12 with fail
      go_wp2_with fail
      go_loopw [6, 8] (fun v6 v8 wr => TwIn W.heap.size g fb W i q v6 v8 wr) (fun _ v8 _ => q + 1 - (intOf v8).toNat)
      case atStart => exact ⟨0, [], _, rfl, by omega, rfl, CC.out.begin, World.ownsRow_nil _ _ _ _, fun j hj => by cases hj⟩
      case round =>
        obtain ⟨k, ids', Y', rfl, hkq, hkl, hTI⟩ := hrel
        have TI := Lib.hid hTI
        have hcx := HCE.out _ hTI.s.bel.1
        clear hTI
        by_cases hle : k ≤ q
        · have hle1 : (k : Int) ≤ (q : Int) := by omega
          obtain ⟨v, hv⟩ : ∃ v, IntKind.i64.wrap (x + (k : Int)) = v := ⟨_, rfl⟩
          have hvr : -9223372036854775808 ≤ v ∧ v < 9223372036854775808 := by rw [← hv, IntKind.wrap_i64]; omega
          have hfi := ti_fill TI.out v hvr
          have HFI := Lib.hid hfi
          obtain ⟨fl, hfl⟩ : ∃ fl, fl = fillB v := ⟨_, rfl⟩
          have hfl5 : fl.length ≤ 512 := by rw [hfl, fillB_length]; exact (fillN_le _).2
          rw [← hfl] at HFI
          clear hfi hfl
          have h8 : (ids'.length + 1) * 8 ≤ 140737488355328 := by omega
          have h63 : ids'.length + 1 ≤ maxLen := by unfold maxLen; omega
          have H8 := Lib.hid h8
          have H63 := Lib.hid h63
          clear h8 h63
          have hon : ∀ id : Int, ∀ u ∈ [Value.int .i64 id], u.oneCell' = true := fun id u hu => by simp [List.mem_singleton.1 hu, Value.oneCell']
          have HON := Lib.hid hon
          clear hon
          go_upto_region 16 with (first
            | (go_at_call 12; go_must (refine HFI.out.mono ?_); rintro e w5 ⟨A5, c5, Y5, rfl, hc5, hm5, ht5, hl5⟩; have T5 := Lib.hid ht5; have L5 := Lib.hid hl5; have HC5 := Lib.hid hc5; clear ht5 hl5 hc5)
            | (go_at_call 11; go_must (refine (ti_put T5.out (by omega) fl A5 c5 L5.out HC5.out hm5 hfl5).mono ?_); rintro e w6 ⟨id, rfl, hp6⟩; have P6 := Lib.hid hp6; clear hp6))
          go_upto_region 18 with fail
          go_upto_region 14 with (at_builtin; go_must (refine wpList_append_at rfl _ _ 22 rfl 0 3 i0 (.int .i64 0) 1 8 Try.underlying22 HI.out H0.out H1.out H2.out rfl (by omega) u6 ids'.length (cellsZ ids') rfl (World.ownsRow.alloc P6.out.row _) ⟨_, 0, none⟩ 1 1 [.int .i64 id] rfl (lit_cells w6 3 [.int .i64 id]) rfl (HON.out id) H63.out H8.out (Nat.zero_le _) ?_); go_must (intro v3 w3 ho3 hg3 hv3; obtain ⟨Y3, ht3⟩ := P6.out.noted ((Below.refl _ w6).alloc (Nat.le_refl _) _) hg3 ho3 hv3; have T3 := Lib.hid ht3; clear ho3 hg3 hv3 ht3))
          go_wp2_with fail
          go_roundw
          case rel => exact ⟨k + 1, ids' ++ [id], Y3, by go_num, by omega, by simp [hkl], T3.out⟩
          case measure => simp [intOf]; omega
        · have hke : k = q + 1 := by omega
          have hle1 : ¬ (k : Int) ≤ (q : Int) := by omega
          obtain ⟨A6, c6, rfl, _, _⟩ := own_form TI.out.row
          have hwi : IntKind.u64.wrap (i : Int) = (i : Int) := IntWalk.u64_in _ ⟨by omega, by omega⟩
          have hn0 : (0 : Int) < (ids'.length : Int) := by omega
          have hn1 : 0 < ids'.length := by omega
          have hk100 : 4 * i + k ≤ 100 := by omega
          have hk4 : k ≤ 4 := by omega
          obtain ⟨fst, hfst⟩ : ∃ fst, fst = ids'.getD 0 0 := ⟨_, rfl⟩
          have HFS := Lib.hid hfst
          clear hfst
          have HKE := Lib.hid hke
          have HKL := Lib.hid hkl
          clear hke hkl
          go_upto_region 20 with (go_at_call 13; go_must (refine (ti_sorted TI.out rfl hk100).mono ?_); go_must (rintro e w8 ⟨A8, c8, Y8, rfl, hc8, hm8, hs8, hl8⟩; obtain ⟨b8, o8, rfl, hce8⟩ := lies_z hl8.lies 0 hn1; have e8 := hce8 0 hn1; rw [Nat.add_zero, ← HFS.out] at e8; have T8 := Lib.hid hs8; have L8 := Lib.hid hl8; have HC8 := Lib.hid hc8; have HM8 := Lib.hid hm8; clear hs8 hl8 hc8 hm8 hce8))
          go_wp2_with (go_at_call 14; go_must (refine (tw_commit2 T8.out hk100 hk4 hi10 hn1 (some ⟨b8, o8, none⟩) c8 L8.out HC8.out HM8.out fst HFS.out).mono ?_); go_must (rintro e w9 ⟨rfl, hc9, hk9⟩; have C9 := Lib.hid hc9; have L9 := Lib.hid (L8.out.kept (fun j _ hy => hk9.1 j hy) hk9.2); clear hc9 hk9))
          go_roundw
          case rel => exact ⟨i + 1, ids', _, c8, Y8, rfl, by go_num, by omega, by omega, HC8.out, HM8.out, C9.out, L9.out⟩
          case measure => simp [intOf]; omega
    · obtain ⟨a0, a1, D, m, hP, hM, h5, hD, hkp, hge⟩ := CC.out.ex
      have P := Lib.hid hP
      have HM := Lib.hid hM
      have H5 := Lib.hid h5
      have HKP := Lib.hid hkp
      have hg0 : m.gen ≠ 0 := by have := hM.2.2.2.1; omega
      have hHF : ∀ w, Below wr.heap.size wr w → PAt W.heap.size g fb 3000 Y W a0 a1 D m (othP ids 2 D.length) 0 w := fun w hb => hP.below hb
      have HF := Lib.hid hHF
      have hLI : ∀ w, Below wr.heap.size wr w → Lies w w.heap.size Ai (cellsZ ids) := fun w hb => (LP.out.below hb).lies
      have HLI := Lib.hid hLI
      have hids : ids.length ≤ D.length := keeps_len hkp
      have HIDS := Lib.hid hids
      have hin : In64 ids := fun x hx => by
        have := ((keeps_iff _ _).1 hkp).1 x hx
        omega
      have HIN := Lib.hid hin
      have hfin : i = l.length ∨ (i < l.length ∧ i = 10) := by omega
      have HFIN := Lib.hid hfin
      have HDL := Lib.hid hD
      clear hP hM h5 hkp hHF hLI hin hfin hlt hge hil hids hD
      have HBW := Lib.hid CC.out.bel.1
      have HBL := Lib.hid CC.out.bel.2
      obtain ⟨mg, hmg⟩ : ∃ mg : Int, mg = (m.gen : Int) := ⟨_, rfl⟩
      obtain ⟨mr, hmr⟩ : ∃ mr : Int, mr = (m.root : Int) := ⟨_, rfl⟩
      obtain ⟨mc, hmc⟩ : ∃ mc : Int, mc = (m.count : Int) := ⟨_, rfl⟩
      obtain ⟨ma, hma⟩ : ∃ ma : Int, ma = (m.mark : Int) := ⟨_, rfl⟩
      obtain ⟨nl, hnl⟩ : ∃ nl : Nat, nl = D.length + 2 := ⟨_, rfl⟩
      obtain ⟨L, hL⟩ : ∃ L, L = othP ids 2 D.length := ⟨_, rfl⟩
      have hlo := othP_all HKP.out
      have hL5 : L.length ≤ 1000000 := by rw [hL]; have := HDL.out; omega
      have hcnt : L.length + ids.length + 2 = nl := by rw [hL, hnl]; omega
      have hnl5 : nl ≤ 1000000 := by rw [hnl]; have := HDL.out; omega
      obtain ⟨FF, hFF⟩ : ∃ FF : World → Prop, FF = fun w => PAt W.heap.size g fb 3000 Y W a0 a1 D m L 0 w := ⟨_, rfl⟩
      have hff : ∀ w, Below wr.heap.size wr w → FF w := by rw [hFF, hL]; exact HF.out
      have c_meta : ∀ (g2 gb : Nat) (Lg : List Int) (w : World) (p : Nat), (p = gb ∨ p = fb) → Two9 g2 gb wr a0 a1 D m Lg FF w → Calls Try.prog 16 #[ptr p] w fun e w' => e = .returned (.agg #[.int .u64 mg, .int .i64 mr, .int .i64 mc, .int .u64 ma]) ∧ Below w.heap.size w w' := by
        intro g2 gb Lg w p hp h
        rw [hFF] at h
        rw [hmg, hmr, hmc, hma]
        exact t_meta h p hp
      have c_len : ∀ (g2 gb : Nat) (Lg : List Int) (w : World) (p : Nat), (p = gb ∨ p = fb) → Two9 g2 gb wr a0 a1 D m Lg FF w → Calls Try.prog 17 #[ptr p] w fun e w' => e = .returned (.int .i64 (nl : Int)) ∧ w = w' := by
        intro g2 gb Lg w p hp h
        rw [hFF] at h
        rw [hnl]
        exact t_len h p hp
      have c_keep : ∀ (g2 gb : Nat) (w : World), Two9 g2 gb wr a0 a1 D m [] FF w → Calls Try.prog 19 #[ptr gb, .slice Ai ids.length ci] w fun e w' => e = .returned (.int .i64 0) ∧ Two9 g2 gb wr a0 a1 D m L FF w' := by
        intro g2 gb w h
        exact t_keep h ids Ai ci (HLI.out _ h.bel) hci1 HCI.out HIN.out HKP.out hL
      have c_free : ∀ (g2 gb : Nat) (w : World) (p : Nat), (p = gb ∨ p = fb) → Two9 g2 gb wr a0 a1 D m L FF w → Calls Try.prog 18 #[ptr p] w fun e w' => ∃ (A : Option Addr) (c : Nat), e = .returned (.slice A L.length c) ∧ LiesP w' (fun _ => True) A (cellsZ L) ∧ Below w.heap.size w w' := by
        intro g2 gb w p hp h
        rw [hFF] at h
        exact t_free h hL5 p hp
      have c_read : ∀ (g2 gb : Nat) (w : World) (p : Nat) (q : Nat), (p = gb ∨ p = fb) → q < ids.length → ∃ t : List UInt8, t.length = 512 ∧ (Two9 g2 gb wr a0 a1 D m L FF w → Calls Try.prog 21 #[ptr p, .int .i64 (ids.getD q 0)] w fun e w' => ∃ (A : Option Addr) (c : Nat), e = .returned (.tuple #[.slice A 512 c, .int .i64 0]) ∧ LiesP w' (fun _ => True) A (B8 t) ∧ Below w.heap.size w w') ∧ t = rdT9 D ids q := by
        intro g2 gb w p q hp hq
        have hr := ((keeps_iff _ _).1 HKP.out).1 (ids.getD q 0) (by rw [show ids.getD q 0 = ids[q] by simp [List.getD, hq]]; exact List.getElem_mem hq)
        obtain ⟨k, hk⟩ : ∃ k : Nat, ids.getD q 0 = ((k + 2 : Nat) : Int) := ⟨(ids.getD q 0 - 2).toNat, by omega⟩
        have hkd : k < D.length := by omega
        have hb : (D[k]).length ≤ 512 := H5.out _ (List.getElem_mem hkd)
        refine ⟨pad D[k], pad_length hb, fun h => ?_, ?_⟩
        · rw [hFF] at h
          exact t_read h p hp _ k D[k] hk (List.getElem?_eq_getElem hkd) hb
        · unfold rdT9
          rw [show (ids.getD q 0 - 2).toNat = k by omega]
          simp [List.getD, hkd]
      have C_META := Lib.hid c_meta
      have C_LEN := Lib.hid c_len
      have C_KEEP := Lib.hid c_keep
      have C_FREE := Lib.hid c_free
      have C_READ := Lib.hid c_read
      have HFFX := Lib.hid hff
      have HL5 := Lib.hid hL5
      have HCNT := Lib.hid hcnt
      have HLZ : ∀ w, Below wr.heap.size wr w → ∃ b o, (0 < ids.length → Ai = some ⟨b, o, none⟩) ∧ ∀ j, j < ids.length → w.cell? ⟨b, o + j, none⟩ = some (.int .i64 (ids.getD j 0)) := fun w hb => by
        by_cases hz : 0 < ids.length
        · obtain ⟨b, o, e, h⟩ := lies_z (HLI.out w hb) 0 hz
          exact ⟨b, o, fun _ => e, h⟩
        · exact ⟨0, 0, fun h => absurd h hz, fun j hj => by omega⟩
      have HLZ := Lib.hid HLZ
      obtain ⟨n, hn⟩ : ∃ n, n = ids.length := ⟨_, rfl⟩
      have HNN := Lib.hid hn
      have hn5 : n ≤ 1000000 := by rw [hn]; omega
      have hLn5 : L.length ≤ 1000000 := hL5
      clear hmg hmr hmc hma hnl hL hlo hL5 hcnt hFF hff c_meta c_len c_keep c_free c_read hn HF HLI hci1
      rcases HFIN.out with hfin | ⟨hfin1, hfin2⟩
      · have hi1 : ¬ (i : Int) < (l.length : Int) := by omega
        clear hfin
        go_upto_region 23 with (first
          | (go_at_call 15; go_must (refine (p_copy P.out).mono ?_); rintro e w4 ⟨g2, rfl, hG⟩; have G4 := Lib.hid hG; clear hG)
          | (go_at_call 10; go_must (refine (g_open G4.out (mtTwo_fit HM.out).1 (mtTwo_fit HM.out).2 (mtTwo_new HM.out) hg0).mono ?_); rintro e w5 ⟨gb, rfl, hp5⟩; have GG := Lib.hid hp5; clear hp5))
        have T0 : Hid (Two9 g2 gb wr a0 a1 D m [] FF w5) := Lib.hid ⟨GG.out, HFFX.out⟩
        clear GG G4 P CC LP
        rw [← HNN.out]
        go_wp2_with fail
        refine (C_META.out g2 gb [] _ gb (.inl rfl) T0.out).mono ?_
        rintro e w6 ⟨rfl, hb6⟩
        have T1 := Lib.hid (T0.out.below hb6)
        clear hb6
        go_wp2_with fail
        refine (C_META.out g2 gb [] _ fb (.inr rfl) T1.out).mono ?_
        rintro e w7 ⟨rfl, hb7⟩
        have T2 := Lib.hid (T1.out.below hb7)
        clear hb7
        go_wp2_with fail
        refine (C_LEN.out g2 gb [] _ gb (.inl rfl) T2.out).mono ?_
        rintro e w8 ⟨rfl, rfl⟩
        go_wp2_with fail
        refine (C_LEN.out g2 gb [] _ fb (.inr rfl) T2.out).mono ?_
        rintro e w8 ⟨rfl, rfl⟩
        go_wp2_with fail
        refine (t_free0 T2.out).mono ?_
        rintro e w9 ⟨A9, c9, rfl, hb9⟩
        have T3 := Lib.hid (T2.out.below hb9)
        clear hb9
        go_wp2_with fail
        rw [HNN.out]
        refine (C_KEEP.out g2 gb _ T3.out).mono ?_
        rintro e w10 ⟨rfl, ht10⟩
        rw [← HNN.out]
        have T4 := Lib.hid ht10
        clear ht10
        go_wp2_with fail
        refine (C_FREE.out g2 gb _ gb (.inl rfl) T4.out).mono ?_
        rintro e w11 ⟨A11, c11, rfl, hl11, hb11⟩
        have T5 := Lib.hid (T4.out.below hb11)
        have L5 := Lib.hid hl11
        clear hl11 hb11
        go_wp2_with fail
        refine (C_FREE.out g2 gb _ fb (.inr rfl) T5.out).mono ?_
        rintro e w12 ⟨A12, c12, rfl, hl12, hb12⟩
        have T6 := Lib.hid (T5.out.below hb12)
        have L6 := Lib.hid hl12
        have L6' := Lib.hid (L5.out.below hb12)
        clear hl12 hb12
        go_wp2_with fail
        refine (same_ints9 L L A11 A12 c11 c12 _ _ _ L6'.out.lies L6.out.lies (Nat.le_refl _) (Nat.le_refl _) HL5.out).mono ?_
        rintro e w13 ⟨rfl, hb13⟩
        rw [show decide (L = L) = true by simp]
        have T7 := Lib.hid (T6.out.below hb13)
        clear hb13 T0 T1 T2 T3 T4 T5 T6 L5 L6 L6'
        go_upto_region 26 with fail
        go_wp2_with fail
        obtain ⟨wt, hwt⟩ : ∃ wt : World, wt = w13 := ⟨_, rfl⟩
        go_loopw [13] (fun qv wq => ∃ q : Nat, q ≤ n ∧ qv = .int .i64 q ∧ Two9 g2 gb wr a0 a1 D m L FF wq) (fun qv _ => n - (intOf qv).toNat)
        case atStart => exact ⟨0, Nat.zero_le _, rfl, T7.out⟩
        case round =>
          obtain ⟨q, hq, rfl, htq⟩ := hrel
          have TQ := Lib.hid htq
          clear htq T7
          by_cases hqn : q < n
          · have hqn1 : (q : Int) < (n : Int) := by omega
            have hqi : q < ids.length := by rw [← HNN.out]; exact hqn
            obtain ⟨id, hid⟩ : ∃ id, id = ids.getD q 0 := ⟨_, rfl⟩
            obtain ⟨b0, o0, hAi, hcl⟩ := HLZ.out _ TQ.out.bel
            have hAi' := hAi (by omega)
            have c0 := hcl q hqi
            rw [← hid] at c0
            obtain ⟨t, ht5, hrd, ht⟩ := C_READ.out g2 gb wr fb q (.inr rfl) hqi
            rw [← hid] at hrd
            have HRD := Lib.hid hrd
            have HTX := Lib.hid ht
            have HT5 := Lib.hid ht5
            have HID := Lib.hid hid
            have HAI := Lib.hid hAi'
            clear hAi hAi' hcl hrd ht ht5 hid
            rw [HAI.out]
            go_wp2_with fail
            refine (HRD.out TQ.out).mono ?_
            rintro e w14 ⟨A14, c14, rfl, hl14, hb14⟩
            have TR := Lib.hid (TQ.out.below hb14)
            have LR := Lib.hid hl14
            clear hl14 hb14 c0
            obtain ⟨b1, o1, hAi, hcl⟩ := HLZ.out _ TR.out.bel
            have e1 := hAi (by omega)
            rw [HAI.out] at e1
            injection e1 with e1
            injection e1 with e1 e2
            subst e1 e2
            have c0 := hcl q hqi
            rw [← HID.out] at c0
            obtain ⟨t2, ht5, hrd, ht⟩ := C_READ.out g2 gb w14 gb q (.inl rfl) hqi
            rw [← HID.out] at hrd
            rw [← HTX.out] at ht
            subst ht
            have HRD2 := Lib.hid hrd
            clear hAi hcl hrd ht5
            go_wp2_with fail
            refine (HRD2.out TR.out).mono ?_
            rintro e w15 ⟨A15, c15, rfl, hl15, hb15⟩
            have TS := Lib.hid (TR.out.below hb15)
            have cva := conv_of9 (LR.out.below hb15) HT5.out c14
            have cvb := conv_of9 hl15 HT5.out c15
            clear hl15 hb15 c0
            go_wp2_with fail
            go_roundw
            case rel => exact ⟨q + 1, by omega, by go_num, TS.out⟩
            case measure => simp [intOf]; omega
          · obtain rfl : q = n := by omega
            have hqn1 : ¬ (q : Int) < (q : Int) := by omega
            go_wp2_with fail
            refine (C_FREE.out g2 gb _ gb (.inl rfl) TQ.out).mono ?_
            rintro e w16 ⟨A16, c16, rfl, _, hb16⟩
            have TR := Lib.hid (TQ.out.below hb16)
            clear hb16
            have hsum : (L.length : Int) + (q : Int) + 2 = (nl : Int) := by have := HCNT.out; rw [← HNN.out] at this; omega
            have HSUM := Lib.hid hsum
            clear hsum
            go_wp2_with fail
            refine (C_LEN.out g2 gb L _ gb (.inl rfl) TR.out).mono ?_
            rintro e w17 ⟨rfl, rfl⟩
            rw [← HSUM.out]
            go_wp2_with fail
            refine (awake9 _).mono ?_
            rintro e w18 ⟨rfl, hb18⟩
            have TS := Lib.hid (TR.out.below hb18)
            clear hb18
            go_wp2_with fail
            go_ret
            exact ⟨rfl, HBW.out.trans (TS.out.bel.mono HBL.out)⟩
      · have hi1 : (i : Int) < (l.length : Int) := by omega
        have hi2 : ¬ (i : Int) < 10 := by omega
        clear hfin1 hfin2
        go_upto_region 23 with (first
          | (go_at_call 15; go_must (refine (p_copy P.out).mono ?_); rintro e w4 ⟨g2, rfl, hG⟩; have G4 := Lib.hid hG; clear hG)
          | (go_at_call 10; go_must (refine (g_open G4.out (mtTwo_fit HM.out).1 (mtTwo_fit HM.out).2 (mtTwo_new HM.out) hg0).mono ?_); rintro e w5 ⟨gb, rfl, hp5⟩; have GG := Lib.hid hp5; clear hp5))
        have T0 : Hid (Two9 g2 gb wr a0 a1 D m [] FF w5) := Lib.hid ⟨GG.out, HFFX.out⟩
        clear GG G4 P CC LP
        rw [← HNN.out]
        go_wp2_with fail
        refine (C_META.out g2 gb [] _ gb (.inl rfl) T0.out).mono ?_
        rintro e w6 ⟨rfl, hb6⟩
        have T1 := Lib.hid (T0.out.below hb6)
        clear hb6
        go_wp2_with fail
        refine (C_META.out g2 gb [] _ fb (.inr rfl) T1.out).mono ?_
        rintro e w7 ⟨rfl, hb7⟩
        have T2 := Lib.hid (T1.out.below hb7)
        clear hb7
        go_wp2_with fail
        refine (C_LEN.out g2 gb [] _ gb (.inl rfl) T2.out).mono ?_
        rintro e w8 ⟨rfl, rfl⟩
        go_wp2_with fail
        refine (C_LEN.out g2 gb [] _ fb (.inr rfl) T2.out).mono ?_
        rintro e w8 ⟨rfl, rfl⟩
        go_wp2_with fail
        refine (t_free0 T2.out).mono ?_
        rintro e w9 ⟨A9, c9, rfl, hb9⟩
        have T3 := Lib.hid (T2.out.below hb9)
        clear hb9
        go_wp2_with fail
        rw [HNN.out]
        refine (C_KEEP.out g2 gb _ T3.out).mono ?_
        rintro e w10 ⟨rfl, ht10⟩
        rw [← HNN.out]
        have T4 := Lib.hid ht10
        clear ht10
        go_wp2_with fail
        refine (C_FREE.out g2 gb _ gb (.inl rfl) T4.out).mono ?_
        rintro e w11 ⟨A11, c11, rfl, hl11, hb11⟩
        have T5 := Lib.hid (T4.out.below hb11)
        have L5 := Lib.hid hl11
        clear hl11 hb11
        go_wp2_with fail
        refine (C_FREE.out g2 gb _ fb (.inr rfl) T5.out).mono ?_
        rintro e w12 ⟨A12, c12, rfl, hl12, hb12⟩
        have T6 := Lib.hid (T5.out.below hb12)
        have L6 := Lib.hid hl12
        have L6' := Lib.hid (L5.out.below hb12)
        clear hl12 hb12
        go_wp2_with fail
        refine (same_ints9 L L A11 A12 c11 c12 _ _ _ L6'.out.lies L6.out.lies (Nat.le_refl _) (Nat.le_refl _) HL5.out).mono ?_
        rintro e w13 ⟨rfl, hb13⟩
        rw [show decide (L = L) = true by simp]
        have T7 := Lib.hid (T6.out.below hb13)
        clear hb13 T0 T1 T2 T3 T4 T5 T6 L5 L6 L6'
        go_upto_region 26 with fail
        go_wp2_with fail
        obtain ⟨wt, hwt⟩ : ∃ wt : World, wt = w13 := ⟨_, rfl⟩
        go_loopw [13] (fun qv wq => ∃ q : Nat, q ≤ n ∧ qv = .int .i64 q ∧ Two9 g2 gb wr a0 a1 D m L FF wq) (fun qv _ => n - (intOf qv).toNat)
        case atStart => exact ⟨0, Nat.zero_le _, rfl, T7.out⟩
        case round =>
          obtain ⟨q, hq, rfl, htq⟩ := hrel
          have TQ := Lib.hid htq
          clear htq T7
          by_cases hqn : q < n
          · have hqn1 : (q : Int) < (n : Int) := by omega
            have hqi : q < ids.length := by rw [← HNN.out]; exact hqn
            obtain ⟨id, hid⟩ : ∃ id, id = ids.getD q 0 := ⟨_, rfl⟩
            obtain ⟨b0, o0, hAi, hcl⟩ := HLZ.out _ TQ.out.bel
            have hAi' := hAi (by omega)
            have c0 := hcl q hqi
            rw [← hid] at c0
            obtain ⟨t, ht5, hrd, ht⟩ := C_READ.out g2 gb wr fb q (.inr rfl) hqi
            rw [← hid] at hrd
            have HRD := Lib.hid hrd
            have HTX := Lib.hid ht
            have HT5 := Lib.hid ht5
            have HID := Lib.hid hid
            have HAI := Lib.hid hAi'
            clear hAi hAi' hcl hrd ht ht5 hid
            rw [HAI.out]
            go_wp2_with fail
            refine (HRD.out TQ.out).mono ?_
            rintro e w14 ⟨A14, c14, rfl, hl14, hb14⟩
            have TR := Lib.hid (TQ.out.below hb14)
            have LR := Lib.hid hl14
            clear hl14 hb14 c0
            obtain ⟨b1, o1, hAi, hcl⟩ := HLZ.out _ TR.out.bel
            have e1 := hAi (by omega)
            rw [HAI.out] at e1
            injection e1 with e1
            injection e1 with e1 e2
            subst e1 e2
            have c0 := hcl q hqi
            rw [← HID.out] at c0
            obtain ⟨t2, ht5, hrd, ht⟩ := C_READ.out g2 gb w14 gb q (.inl rfl) hqi
            rw [← HID.out] at hrd
            rw [← HTX.out] at ht
            subst ht
            have HRD2 := Lib.hid hrd
            clear hAi hcl hrd ht5
            go_wp2_with fail
            refine (HRD2.out TR.out).mono ?_
            rintro e w15 ⟨A15, c15, rfl, hl15, hb15⟩
            have TS := Lib.hid (TR.out.below hb15)
            have cva := conv_of9 (LR.out.below hb15) HT5.out c14
            have cvb := conv_of9 hl15 HT5.out c15
            clear hl15 hb15 c0
            go_wp2_with fail
            go_roundw
            case rel => exact ⟨q + 1, by omega, by go_num, TS.out⟩
            case measure => simp [intOf]; omega
          · obtain rfl : q = n := by omega
            have hqn1 : ¬ (q : Int) < (q : Int) := by omega
            go_wp2_with fail
            refine (C_FREE.out g2 gb _ gb (.inl rfl) TQ.out).mono ?_
            rintro e w16 ⟨A16, c16, rfl, _, hb16⟩
            have TR := Lib.hid (TQ.out.below hb16)
            clear hb16
            have hsum : (L.length : Int) + (q : Int) + 2 = (nl : Int) := by have := HCNT.out; rw [← HNN.out] at this; omega
            have HSUM := Lib.hid hsum
            clear hsum
            go_wp2_with fail
            refine (C_LEN.out g2 gb L _ gb (.inl rfl) TR.out).mono ?_
            rintro e w17 ⟨rfl, rfl⟩
            rw [← HSUM.out]
            go_wp2_with fail
            refine (awake9 _).mono ?_
            rintro e w18 ⟨rfl, hb18⟩
            have TS := Lib.hid (TR.out.below hb18)
            clear hb18
            go_wp2_with fail
            go_ret
            exact ⟨rfl, HBW.out.trans (TS.out.bel.mono HBL.out)⟩
end Go.Proofs.Ytlmnjieonhjhcaa
