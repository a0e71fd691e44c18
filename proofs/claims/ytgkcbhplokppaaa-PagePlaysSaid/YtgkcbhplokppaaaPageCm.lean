/- Layer 9: PagePlays: its Commit. -/
import Derived.Test.YtgkcbhplokppaaaPagePy
import Derived.Deep.CutBlock
namespace Go.Proofs.Ytgkcbhplokppaaa
open Go.RowKit Go.Maps
set_option maxRecDepth 100000
set_option linter.unusedSimpArgs false
set_option linter.unusedVariables false
set_option maxHeartbeats 8000000 in
theorem plays9_commit (l : List Op9) (W : World) : (plays9_parts l W).2.1 := by
  intro cap hc2 i0 HI H0 H1 H2 Q0 g w2 fb K0 u2 u11 u12 u13 u14 u15 u16 u17 u18 u19 u20 u21 u22 u23 u24 u25 u47 u48 u49 u50 u51 u52 u53 u54 u55 u56 u57 u58 u59 u60 u61 u62 u63 u64 u65 u66 u67 u68 u69 u70 u71 u72 u73 u74 u75 u76 u77 u78 u79 u80 u81 u82 u83 u84 u85 u86 u87 u88 u89 u90 u91 u92 u93 u94 u95 u96 u97 u98 u99 u100 u101 u102 u103 u104 u105 u106 u107 u108 u109 u110 u111 u112 u113 u114 u115 u116 u117 u118 u119 u120 u121 u122 u123 u124 u125 u126 u127 u128 u129 u130 u131 u132 u133 u134 u135 u136 u137 u138 u139 u140 u141 u142 u143 u144 u145 u146 u147 u148 u149 u150 u151 u152 u153 u154 u155 u156 u157 u158 u159 u160 u161 u162 u163 u164 u165 u166 u167 u168 u169 u170 u171 u172 u173 u174 u175 u176 u177 u178 u179 u180 u181 u182 u183 u184 u185 u186 u187 u188 u189 u190 u191 u192 u193 u194 u195 u196 u197 u198 u199 u200 u201 u202 u203 u204 u205 u206 u207 u208 u209 u210 u211 u212 u213 u214 u215 u216 u217 u218 u219 u220 u221 u222 u223 u224 u225 u226 u227 u228 u229 u230 u231 u232 u233 u234 u235 u236 u237 u238 u239 u240 u241 u242 u243 u244 u245 u246 u247 u248 u249 u250 u251 u252 u253 u254 u255 u256 u257 u258 u259 u260 u261 u262 u263 u264 u265 u266 u267 u268 u269 u270 u271 u272 u273 u274 u275 u276 u277 u278 u279 u280 i m n u kp t bU cU bK cK bT cT hn2 hni hgen hlt2 b oo ok ov oK hov hokk Q1 K1 w3 Y3 PA3 PR3 ob HY3 BX3 J3 K3 a3 a4 k01 k2
  obtain ⟨x0, x1, x2⟩ := Whole.three9 BX3.out
  have kk0 : (ok == 0) = false := beq_false_of_ne (fun e => k01 (.inl e))
  have kk1 : (ok == 1) = false := beq_false_of_ne (fun e => k01 (.inr e))
  clear k01
  have kk2 : (ok == 2) = true := by rw [k2]; rfl
  clear k2
  obtain ⟨f, hf⟩ : ∃ f, f = out9 u ov := ⟨_, rfl⟩
  have HFF := Lib.hid hf
  have HFU : Hid (∀ j, f j = false → u j = true) := Lib.hid (fun j h => out9_uses (ov := ov) j (by rw [← HFF.out]; exact h))
  have hszB : W.heap.size ≤ w3.heap.size := PA3.out.bel.2
  clear hf x0 x1 x2
  go_wp2_with fail
  go_loopw [16, 17, 18] (fun v16 v17 v18 wq => PlG f n w3 v16 v17 v18 wq) (fun _ _ v18 _ => n - (intOf v18).toNat)
  case atStart => exact ⟨2, [], rfl, Nat.le_refl _, hn2, rfl, rfl, World.ownsRow_nil _ _ _ _, Below.refl _ _⟩
  case round =>
    obtain ⟨k, F, rfl, hk2, hkn, hF, rfl, hoF, hbF⟩ := hrel
    have OF := Lib.hid hoF
    have BF := Lib.hid hbF
    have HF := Lib.hid hF
    have hszF : w3.heap.size ≤ wr.heap.size := hbF.size
    have hfl : F.length ≤ 1000 := by have := freeF_le f (k - 2) 2; rw [hF]; omega
    clear hoF hbF hF
    by_cases hlk : k < n
    · have hk1 : (k : Int) < (n : Int) := by omega
      have hcu : wr.cell? ⟨bU, k, none⟩ = some (.bool (u k)) := (PR3.out.U.below BF.out PR3.out.U.lt).cell hlk
      have hov' : wr.cell? ⟨ob, 1, none⟩ = some (.int .i64 ov) := (BX3.out.below BF.out BX3.out.lt).cell 1
      obtain ⟨x, hx⟩ : ∃ x, x = u k := ⟨_, rfl⟩
      rw [← hx] at hcu
      have HX := Lib.hid hx
      obtain ⟨rt, hrt⟩ : ∃ rt, F.getLastD 0 = rt := ⟨_, rfl⟩
      rw [hrt]
      have HRT := Lib.hid hrt
      clear hx hrt
      cases x with
      | false =>
        have hfk : f k = true := by rw [HFF.out]; unfold out9; rw [← HX.out]; rfl
        have HFK := Lib.hid hfk
        clear hfk
        go_wp2_with fail
        go_roundw
        case rel => exact ⟨k + 1, F, by go_num, by omega, by omega, by rw [freeF_more _ _ hk2, HFK.out, if_pos rfl, List.append_nil]; exact HF.out, by rw [HRT.out], OF.out, BF.out⟩
        case measure => simp [intOf]; omega
      | true =>
        obtain ⟨c, hc16, hce, hcn⟩ := mask_is (k : Int) 15 4 (by omega) (by decide)
        have hck : c = k % 16 := by omega
        have hc16' : c < 16 := hc16
        have hcw : IntKind.u64.wrap (c : Int) = (c : Int) := IntWalk.u64_in _ ⟨by omega, by omega⟩
        have hcm : min c 64 = c := by omega
        have hct : ((c : Int)).toNat = c := by omega
        obtain ⟨d, hd, _, hdn⟩ := mask_is (ov / 2 ^ c) 1 1 (by omega) (by decide)
        have hbit : bit9 ov k = (d : Int) := by unfold bit9; rw [← hck]; exact hdn
        have HBI := Lib.hid hbit
        clear hc16 hce hck hd hbit
        have h8 : (F.length + 1) * 8 ≤ 140737488355328 := by omega
        have h63 : F.length + 1 ≤ maxLen := by unfold maxLen; omega
        have hon : ∀ u ∈ [Value.int .i64 (k : Int)], u.oneCell' = true := fun u hu => by simp [List.mem_singleton.1 hu, Value.oneCell']
        have H8 := Lib.hid h8
        have H63 := Lib.hid h63
        have HON := Lib.hid hon
        clear h8 h63 hon
        by_cases hd0 : d = 0
        · subst hd0
          have hfk : f k = false := by rw [HFF.out]; unfold out9; rw [← HX.out, HBI.out]; rfl
          have HFK := Lib.hid hfk
          have hbe : w3.heap.size ≤ (wr.alloc (.cells #[.int .i64 (k : Int)] 3)).heap.size := by simp; omega
          have HBE := Lib.hid hbe
          clear hbe hfk
          go_upto_region 42 with (at_builtin; go_must (refine wpList_append_at rfl _ _ 22 rfl w3.heap.size 3 i0 (.int .i64 0) 1 8 Try.underlying22 HI.out H0.out H1.out H2.out rfl (by omega) _ F.length (cellsZ F) rfl (World.ownsRow.alloc OF.out _) ⟨_, 0, none⟩ 1 1 [.int .i64 (k : Int)] rfl (lit_cells wr 3 [.int .i64 (k : Int)]) rfl HON.out H63.out H8.out HBE.out ?_); go_must (intro v3 w4 ho4 hg4 hv4; have O4 := Lib.hid ho4; have B4 := Lib.hid ((BF.out.alloc hszF (.cells #[.int .i64 (k : Int)] 3)).grown hg4 HBE.out (fun q hq => ((World.ownsRow.alloc OF.out (.cells #[.int .i64 (k : Int)] 3)).lt q hq).1)); clear ho4 hg4 hv4))
          go_wp2_with fail
          go_roundw
          case rel =>
            refine ⟨k + 1, F ++ [(k : Int)], by go_num, by omega, by omega, ?_, by simp, ?_, B4.out⟩
            · rw [freeF_more _ _ hk2, HFK.out, if_neg (by simp), ← HF.out]
            · rw [List.length_append, List.length_singleton, show cellsZ (F ++ [(k : Int)]) = cellsZ F ++ [.int .i64 (k : Int)] by simp [cellsZ]]
              exact O4.out
          case measure => simp [intOf]; omega
        · have hd1 : ¬ (d : Int) = 0 := by omega
          have hfk : f k = true := by rw [HFF.out]; unfold out9; rw [← HX.out, HBI.out]; simp [hd0]
          have HFK := Lib.hid hfk
          clear hfk hd0
          go_wp2_with fail
          go_roundw
          case rel => exact ⟨k + 1, F, by go_num, by omega, by omega, by rw [freeF_more _ _ hk2, HFK.out, if_pos rfl, List.append_nil]; exact HF.out, by rw [HRT.out], OF.out, BF.out⟩
          case measure => simp [intOf]; omega
    · have hke : k = n := by omega
      have hk1 : ¬ (k : Int) < (n : Int) := by omega
      subst hke
      obtain ⟨A5, c5, rfl, hcF, hcm⟩ := own_form OF.out
      have hov' : wr.cell? ⟨ob, 2, none⟩ = some (.int .i64 oK) := (BX3.out.below BF.out BX3.out.lt).cell 2
      obtain ⟨mk, hmk1, hmk2⟩ : ∃ mk : Nat, IntKind.u64.wrap oK = (mk : Int) ∧ mk < 18446744073709551616 := by
        have h : IntKind.u64.wrap oK = oK % 18446744073709551616 := by simp [IntKind.wrap, IntKind.signed, IntKind.bits]
        exact ⟨(oK % 18446744073709551616).toNat, by rw [h]; omega, by omega⟩
      obtain ⟨hP4, hR4⟩ := both_fence PA3.out PR3.out BF.out
      obtain ⟨Y4, hY4⟩ : ∃ Y4 : Nat → Prop, Y4 = (fun j => Y3 j ∨ (w3.heap.size ≤ j ∧ j < wr.heap.size)) := ⟨_, rfl⟩
      rw [← hY4] at hP4 hR4
      have hyF : ∀ q, (Value.slice A5 F.length c5).ownBlock = some q → Y4 q := fun q hq => by rw [hY4]; exact .inr (OF.out.lt q hq)
      have hCM := pl_commit hP4 hlt2 f HFU.out F HF.out mk hmk2 A5 c5 ((LiesP.own OF.out (P := fun i => Y4 i ∨ i < W.heap.size) (fun q hq => .inl (hyF q hq)))) hcF hcm (fun q => decide ((q : Int) ∈ F)) (fun j _ => rfl)
      have hPH := fun (w : World) (hk : KeptX Y4 wr w) (hA : PlA W.heap.size g fb W (i + 1) ⟨m.gen + 1, (F.getLastD 0).toNat, F.length, mk⟩ k (fun q => decide ((q : Int) ∈ F)) (fun q => decide ((q : Int) ∈ F)) t Y4 w) =>
        (⟨hA, hR4.kept hk.1, by rw [hY4]; exact .inl HY3.out, (hk.1 ob (by rw [hY4]; exact .inl HY3.out)).trans (BX3.out.below BF.out BX3.out.lt), own_zero (own_block OF.out (fun q hq => hk.1 q (hyF q hq))), fun q hq => by have h1 := (OF.out.lt q hq).1; have h2 := PR3.out.U.lt; have h3 := PR3.out.K.lt; exact ⟨by omega, by omega⟩⟩ :
          PlH W.heap.size g fb W (i + 1) ⟨m.gen + 1, (F.getLastD 0).toNat, F.length, mk⟩ k (fun q => decide ((q : Int) ∈ F)) t bU cU bK cK bT cT Y4 ob ok ov oK A5 c5 F u kp w)
      have hrt0 : (F.getLastD 0 : Int) = (((F.getLastD 0).toNat : Nat) : Int) := by
        by_cases e : F = []
        · rw [e]; rfl
        · have hm := getLastD_mem F e
          rw [HF.out] at hm
          obtain ⟨j, e1, _⟩ := (freeF_mem f (k - 2) 2 _).1 hm
          rw [← HF.out] at e1
          omega
      obtain ⟨rt, hrt⟩ : ∃ rt : Nat, (F.getLastD 0).toNat = rt := ⟨_, rfl⟩
      rw [hrt] at hrt0
      rw [hrt0] at hCM
      rw [hrt0]
      rw [hrt] at hPH
      simp only [Int.toNat_natCast] at hCM
      have CM := Lib.hid hCM
      have PH := Lib.hid hPH
      have HSB : Hid (∀ q, kp q = true → u q = true) := Lib.hid PA3.out.sub
      have HRG : Hid (∀ x ∈ F, (2 : Int) ≤ x ∧ x < (k : Int)) := Lib.hid (fun x hx => by
        rw [HF.out] at hx
        obtain ⟨j, e1, e2, e3, _⟩ := (freeF_mem f (k - 2) 2 _).1 hx
        omega)
      clear hP4 hR4 hCM hPH hrt0 hrt hY4 hyF
      go_upto_region 45 with (go_at_call 14; go_must (refine CM.out.mono ?_); rintro e w4 ⟨rfl, hk4, ha4⟩; have H4 := Lib.hid (PH.out w4 hk4 ha4); clear hk4 ha4)
      have hgw : IntKind.u64.wrap ((m.gen : Int) + 1) = (m.gen : Int) + 1 := IntWalk.u64_in _ ⟨by omega, by omega⟩
      obtain ⟨M4, hM4⟩ : ∃ M4 : Mt, M4 = ⟨m.gen + 1, rt, F.length, mk⟩ := ⟨_, rfl⟩
      rw [← hM4] at H4
      have HM4 := Lib.hid hM4
      clear CM PH hM4 hov'
      go_wp2_with fail
      go_loopw [19] (fun v19 wq => ∃ j : Nat, v19 = .int .i64 (j : Int) ∧ 2 ≤ j ∧ j ≤ k ∧ PlH W.heap.size g fb W (i + 1) M4 k (fun q => decide ((q : Int) ∈ F)) t bU cU bK cK bT cT Y4 ob ok ov oK A5 c5 F (clr9 u j) (clr9 kp j) wq) (fun v19 _ => k - (intOf v19).toNat)
      case atStart => exact ⟨2, rfl, Nat.le_refl _, hn2, by rw [clr9_start, clr9_start]; exact H4.out⟩
      case round =>
        obtain ⟨j, rfl, hj2, hjk, hH⟩ := hrel
        have HH := Lib.hid hH
        clear hH H4
        by_cases hlj : j < k
        · have hj1 : (j : Int) < (k : Int) := by omega
          have yU := HH.out.rows.U.frozen j
          have yK := (HH.out.rows.setU j false).K.frozen j
          have cU := HH.out.rows.U.cell hlj
          have cK := (HH.out.rows.setU j false).K.cell hlj
          have HN := Lib.hid (HH.out.put j false)
          go_wp2_with fail
          go_roundw
          case rel => exact ⟨j + 1, by go_num, by omega, by omega, by rw [← clr9_next u j hj2, ← clr9_next kp j hj2]; exact HN.out⟩
          case measure => simp [intOf]; omega
        · have hje : j = k := by omega
          have hj1 : ¬ (j : Int) < (k : Int) := by omega
          subst hje
          go_wp2_with fail
          go_loopw [20] (fun v20 wq => ∃ q : Nat, v20 = .int .i64 (q : Int) ∧ q ≤ F.length ∧ PlH W.heap.size g fb W (i + 1) M4 j (fun q => decide ((q : Int) ∈ F)) t bU cU bK cK bT cT Y4 ob ok ov oK A5 c5 F (mrk9 (clr9 u j) (F.take q)) (mrk9 (clr9 kp j) (F.take q)) wq) (fun v20 _ => F.length - (intOf v20).toNat)
          case atStart => exact ⟨0, rfl, Nat.zero_le _, by rw [List.take_zero, mrk9_start, mrk9_start]; exact HH.out⟩
          case round =>
            clear HH
            obtain ⟨q, rfl, hqF, hH⟩ := hrel
            have HH := Lib.hid hH
            clear hH
            by_cases hlq : q < F.length
            · have hq1 : (q : Int) < (F.length : Int) := by omega
              obtain ⟨hx2, hxj⟩ := HRG.out F[q] (List.getElem_mem hlq)
              obtain ⟨x, hx⟩ : ∃ x : Nat, F[q] = (x : Int) := ⟨F[q].toNat, by omega⟩
              rw [hx] at hx2 hxj
              have hLF : Lies wr wr.heap.size A5 (cellsZ F) := Lies.own HH.out.ids (Nat.le_refl _)
              obtain ⟨b5, o5, rfl, hcq⟩ := lies_get hLF (Below.refl _ _) q hlq
              have hcq' : wr.cell? ⟨b5, o5 + q, none⟩ = some (.int .i64 (x : Int)) := by rw [hcq, List.getD, List.getElem?_eq_getElem hlq, Option.getD_some, hx]
              have hxj1 : x < j := by omega
              have yU := HH.out.rows.U.frozen x
              have yK := (HH.out.rows.setU x true).K.frozen x
              have cU := HH.out.rows.U.cell hxj1
              have cK := (HH.out.rows.setU x true).K.cell hxj1
              have HN := Lib.hid (HH.out.put x true)
              rw [mrk9_take _ F q x hlq hx, mrk9_take _ F q x hlq hx] at HN
              have HXJ := Lib.hid hx
              clear hcq hLF hx
              go_upto_region 53 with fail
              go_region
              go_wp2_with fail
              go_roundw
              case rel => exact ⟨q + 1, by go_num, by omega, HN.out.below (Below.refl _ _).drew⟩
              case measure => simp [intOf]; omega
            · have hqe : q = F.length := by omega
              have hq1 : ¬ (q : Int) < (F.length : Int) := by omega
              subst hqe
              rw [List.take_length] at HH
              have hME := fun (w : World) (hb : Below wr.heap.size wr w) => (pl_meta (HH.out.file.below hb)).mono (R' := fun e w' => e = .returned (.agg #[.int .u64 ((m.gen : Int) + 1), .int .i64 (rt : Int), .int .i64 (F.length : Int), .int .u64 (mk : Int)]) ∧ Below w.heap.size w w') fun e w' ⟨h1, h2⟩ => ⟨by rw [h1, HM4.out]; simp, h2⟩
              have ME := Lib.hid hME
              have hov' : wr.cell? ⟨ob, 2, none⟩ = some (.int .i64 oK) := HH.out.obx.cell 2
              clear hME
              go_upto_region 54 with fail
              refine wp_region_held_drew (S := (fun w' => w'.cell? ⟨ob, 2, none⟩ = some (.int .i64 oK))) (by kernel_rfl) hov' (fun hS0 => ?_)
              refine wpAnyH_take (i := 0) (oi := ⟨some 236, _, _, _, _, _⟩) (v := ?_) rfl (by kernel_rfl) (by kernel_rfl) (by kernel_rfl) (fun _ _ _ h => h) (Or.inl ⟨by rfl, ?_⟩) hS0 ?_
              rotate_left
              · (intro wS hSw; (try dsimp only at hSw); go_simp); all_goals (with_reducible rfl)
              try simp only [Act.put, List.setIfInBounds_toArray, List.set_cons_zero, List.set_cons_succ]
              refine wpAnyH_take (i := 2) (oi := ⟨some 238, _, _, _, _, _⟩) (v := ?_) rfl (by kernel_rfl) (by kernel_rfl) (by kernel_rfl) (fun _ _ _ h => h) (Or.inl ⟨by rfl, ?_⟩) hS0 ?_
              rotate_left
              · (intro wS hSw; (try dsimp only at hSw); go_simp); all_goals (with_reducible rfl)
              try simp only [Act.put, List.setIfInBounds_toArray, List.set_cons_zero, List.set_cons_succ]
              refine wpAnyH_take (i := 3) (oi := ⟨some 239, _, _, _, _, _⟩) (v := ?_) rfl (by kernel_rfl) (by kernel_rfl) (by kernel_rfl) (fun _ _ _ h => h) (Or.inl ⟨by rfl, ?_⟩) hS0 ?_
              rotate_left
              · (intro wS hSw; (try dsimp only at hSw); go_simp); all_goals (with_reducible rfl)
              try simp only [Act.put, List.setIfInBounds_toArray, List.set_cons_zero, List.set_cons_succ]
              refine wpAnyH_take (i := 4) (oi := ⟨some 240, _, _, _, _, _⟩) (v := ?_) rfl (by kernel_rfl) (by kernel_rfl) (by kernel_rfl) (fun _ _ _ h => h) (Or.inl ⟨by rfl, ?_⟩) hS0 ?_
              rotate_left
              · (intro wS hSw; (try dsimp only at hSw); go_simp); all_goals (with_reducible rfl)
              try simp only [Act.put, List.setIfInBounds_toArray, List.set_cons_zero, List.set_cons_succ]
              refine wpAnyH_take (i := 5) (oi := ⟨some 241, _, _, _, _, _⟩) (v := ?_) rfl (by kernel_rfl) (by kernel_rfl) (by kernel_rfl) (fun _ _ _ h => h) (Or.inl ⟨by rfl, ?_⟩) hS0 ?_
              rotate_left
              · (intro wS hSw; (try dsimp only at hSw); go_simp); all_goals (with_reducible rfl)
              try simp only [Act.put, List.setIfInBounds_toArray, List.set_cons_zero, List.set_cons_succ]
              refine wpAnyH_take (i := 6) (oi := ⟨some 242, _, _, _, _, _⟩) (v := ?_) rfl (by kernel_rfl) (by kernel_rfl) (by kernel_rfl) (fun _ _ _ h => h) (Or.inl ⟨by rfl, ?_⟩) hS0 ?_
              rotate_left
              · (intro wS hSw; (try dsimp only at hSw); go_simp); all_goals (with_reducible rfl)
              try simp only [Act.put, List.setIfInBounds_toArray, List.set_cons_zero, List.set_cons_succ]
              refine wpAnyH_take (i := 7) (oi := ⟨some 243, _, _, _, _, _⟩) (v := ?_) rfl (by kernel_rfl) (by kernel_rfl) (by kernel_rfl) (fun _ _ _ h => h) (Or.inl ⟨by rfl, ?_⟩) hS0 ?_
              rotate_left
              · (intro wS hSw; (try dsimp only at hSw); go_simp); all_goals (with_reducible rfl)
              try simp only [Act.put, List.setIfInBounds_toArray, List.set_cons_zero, List.set_cons_succ]
              refine wpAnyH_take (i := 8) (oi := ⟨some 244, _, _, _, _, _⟩) (v := ?_) rfl (by kernel_rfl) (by kernel_rfl) (by kernel_rfl) (fun _ _ _ h => h) (Or.inl ⟨by rfl, ?_⟩) hS0 ?_
              rotate_left
              · (intro wS hSw; (try dsimp only at hSw); go_simp); all_goals (with_reducible rfl)
              try simp only [Act.put, List.setIfInBounds_toArray, List.set_cons_zero, List.set_cons_succ]
              refine wpAnyH_take (i := 9) (oi := ⟨some 245, _, _, _, _, _⟩) (v := ?_) rfl (by kernel_rfl) (by kernel_rfl) (by kernel_rfl) (fun _ _ _ h => h) (Or.inl ⟨by rfl, ?_⟩) hS0 ?_
              rotate_left
              · (intro wS hSw; (try dsimp only at hSw); go_simp); all_goals (with_reducible rfl)
              try simp only [Act.put, List.setIfInBounds_toArray, List.set_cons_zero, List.set_cons_succ]
              refine wpAnyH_ready (rs := [1]) (by kernel_rfl) (by simp) ?_
              refine AllReadyH.cons (o := ⟨some 237, _, _, _, _, _⟩) rfl (fun K hK => ?_) AllReadyH.nil
              go_simp
              refine (ME.out _ (Below.refl _ _).drew).mono ?_
              rintro e w5 ⟨rfl, hb5⟩
              have B5 : Hid (Below wr.heap.size wr w5) := Lib.hid ((Below.refl _ _).drew.trans (hb5.mono (Nat.le_refl _)))
              clear hb5
              go_wp2_with fail
              refine hK.out _ _ ((HH.out.below B5.out).obx.cell 2) (fun hS1 => ?_)
              clear hK K
              try simp only [Act.put, List.setIfInBounds_toArray, List.set_cons_zero, List.set_cons_succ]
              refine wpAnyH_take (i := 10) (oi := ⟨some 246, _, _, _, _, _⟩) (v := ?_) rfl (by kernel_rfl) (by kernel_rfl) (by kernel_rfl) (fun _ _ _ h => h) (Or.inl ⟨by rfl, ?_⟩) hS1 ?_
              rotate_left
              · (intro wS hSw; (try dsimp only at hSw); go_simp); all_goals (with_reducible rfl)
              try simp only [Act.put, List.setIfInBounds_toArray, List.set_cons_zero, List.set_cons_succ]
              refine wpAnyH_done (by kernel_rfl) ?_ _
              obtain ⟨hPf, hRf⟩ := (HH.out.below B5.out).done HF.out HSB.out
              have D : Hid (PlS W.heap.size g fb W (i + 1) (.slice (some ⟨bU, 0, none⟩) j cU) (.slice (some ⟨bK, 0, none⟩) j cK) (.slice (some ⟨bT, 0, none⟩) j cT) (.int .u64 ((m.gen : Int) + 1)) w5) := Lib.hid ⟨⟨M4, j, fin9 u F, fin9 kp F, t, bU, cU, bK, cK, bT, cT, Y4, rfl, rfl, rfl, by rw [HM4.out]; simp, hPf, hRf⟩⟩
              clear hPf hRf hov'
              go_wp2_with fail
              go_meet
              exact D.out
end Go.Proofs.Ytgkcbhplokppaaa
