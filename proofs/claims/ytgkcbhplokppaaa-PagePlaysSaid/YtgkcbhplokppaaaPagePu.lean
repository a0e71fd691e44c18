/- Layer 9: PagePlays: its Put. -/
import Derived.Test.YtgkcbhplokppaaaPagePy
import Derived.Deep.CutBlock
namespace Go.Proofs.Ytgkcbhplokppaaa
open Go.RowKit Go.Maps
set_option maxRecDepth 100000
set_option linter.unusedSimpArgs false
set_option linter.unusedVariables false
set_option maxHeartbeats 8000000 in
theorem plays9_put (l : List Op9) (W : World) : (plays9_parts l W).1 := by
  intro cap hc2 i0 HI H0 H1 H2 Q0 g w2 fb K0 u2 u11 u12 u13 u14 u15 u16 u17 u18 u19 u20 u21 u22 u23 u24 u25 u47 u48 u49 u50 u51 u52 u53 u54 u55 u56 u57 u58 u59 u60 u61 u62 u63 u64 u65 u66 u67 u68 u69 u70 u71 u72 u73 u74 u75 u76 u77 u78 u79 u80 u81 u82 u83 u84 u85 u86 u87 u88 u89 u90 u91 u92 u93 u94 u95 u96 u97 u98 u99 u100 u101 u102 u103 u104 u105 u106 u107 u108 u109 u110 u111 u112 u113 u114 u115 u116 u117 u118 u119 u120 u121 u122 u123 u124 u125 u126 u127 u128 u129 u130 u131 u132 u133 u134 u135 u136 u137 u138 u139 u140 u141 u142 u143 u144 u145 u146 u147 u148 u149 u150 u151 u152 u153 u154 u155 u156 u157 u158 u159 u160 u161 u162 u163 u164 u165 u166 u167 u168 u169 u170 u171 u172 u173 u174 u175 u176 u177 u178 u179 u180 u181 u182 u183 u184 u185 u186 u187 u188 u189 u190 u191 u192 u193 u194 u195 u196 u197 u198 u199 u200 u201 u202 u203 u204 u205 u206 u207 u208 u209 u210 u211 u212 u213 u214 u215 u216 u217 u218 u219 u220 u221 u222 u223 u224 u225 u226 u227 u228 u229 u230 u231 u232 u233 u234 u235 u236 u237 u238 u239 u240 u241 u242 u243 u244 u245 u246 u247 u248 u249 u250 u251 u252 u253 u254 u255 u256 u257 u258 u259 u260 u261 u262 u263 u264 u265 u266 u267 u268 u269 u270 u271 u272 u273 u274 u275 u276 u277 u278 u279 u280 i m n u kp t bU cU bK cK bT cT hn2 hni hgen hlt2 b oo ok ov oK hov hokk Q1 K1 w3 Y3 PA3 PR3 ob HY3 BX3 J3 K3 a3 a4 k01
  obtain ⟨x0, x1, x2⟩ := Whole.three9 BX3.out
  have hkk : (ok == 0) = true ∨ ((ok == 0) = false ∧ (ok == 1) = true) := by
    rcases k01 with rfl | rfl
    · exact .inl rfl
    · exact .inr ⟨rfl, rfl⟩
  clear k01
  go_upto_if 111 with fail
  go_cut [111] (fun v111 wx => v111 = .bool true ∧ wx = w3)
  case first =>
    rcases hkk with h | ⟨h, h'⟩
    · go_wp2_with fail
      go_meet
      exact ⟨by rw [h], rfl⟩
    · go_wp2_with fail
      go_meet
      exact ⟨rfl, rfl⟩
  case rest =>
    obtain ⟨rfl, rfl⟩ := hcut
    clear hkk
    have hn1 : IntKind.i64.wrap ((n : Int) - 1) = (n : Int) - 1 := IntWalk.i64_in _ ⟨by omega, by omega⟩
    go_wp2_with fail
    go_loopw [12, 13] (fun v12 v13 wq => ∃ j : Nat, v13 = .int .i64 (j : Int) ∧ 1 ≤ j ∧ j + 1 ≤ n ∧ v12 = .int .i64 (leastF u (j + 1) (n - 1 - j) n) ∧ wq = wc) (fun _ v13 _ => (intOf v13).toNat)
    case atStart => exact ⟨n - 1, by go_num, by omega, by omega, by rw [show n - 1 + 1 = n by omega, show n - 1 - (n - 1) = 0 by omega]; rfl, rfl⟩
    case round =>
      obtain ⟨j, rfl, hj1, hjn, rfl, hwq⟩ := hrel
      subst hwq
      have hcu := fun (h : j < n) => show _ = some (Value.bool (u j)) from PR3.out.U.cell h
      have hcuX : True := trivial
      -- ⟨bU, j, none⟩ = some (.bool (u j)) := fun h => PR3.out.U.cell h
      by_cases hj : 1 < j
      · have hjd : (1 : Int) < (j : Int) := by omega
        have hcu' := hcu (by omega)
        have hjm : IntKind.i64.wrap ((j : Int) - 1) = (j : Int) - 1 := IntWalk.i64_in _ ⟨by omega, by omega⟩
        obtain ⟨x, hx⟩ : ∃ x, x = u j := ⟨_, rfl⟩
        rw [← hx] at hcu'
        have HX := Lib.hid hx
        obtain ⟨lf, hlf⟩ : ∃ lf, lf = leastF u (j + 1) (n - 1 - j) n := ⟨_, rfl⟩
        have HLF := Lib.hid hlf
        rw [← hlf]
        clear hx hcu hlf
        cases x with
        | true =>
          go_wp2_with fail
          go_roundw
          case rel => exact ⟨j - 1, by go_num, by omega, by omega, by rw [show j - 1 + 1 = j by omega, show n - 1 - (j - 1) = (n - 1 - j) + 1 by omega, leastF_step, ← HX.out, if_pos rfl, ← HLF.out], trivial⟩
          case measure => simp [intOf]; omega
        | false =>
          go_wp2_with fail
          go_roundw
          case rel => exact ⟨j - 1, by go_num, by omega, by omega, by rw [show j - 1 + 1 = j by omega, show n - 1 - (j - 1) = (n - 1 - j) + 1 by omega, leastF_step, ← HX.out, if_neg (by simp)], trivial⟩
          case measure => simp [intOf]; omega
      · have hje : j = 1 := by omega
        subst hje
        have hjd : ¬ (1 : Int) < ((1 : Nat) : Int) := by omega
        obtain ⟨lf, hlf⟩ : ∃ lf, lf = leastF u (1 + 1) (n - 1 - 1) n := ⟨_, rfl⟩
        rw [← hlf]
        have HLF := Lib.hid hlf
        clear hcu hlf hn1 hj hj1 hjn
        go_upto_region 28 with fail
        clear x0 x1 x2
        obtain ⟨x0, x1, x2⟩ := Whole.three9 BX3.out
        go_wp2_with fail
        refine (fill_any ov hov _).mono ?_
        rintro e w4 ⟨A4, c4, rfl, o4, b4⟩
        obtain ⟨_, _, e4, hc4, hm4⟩ := own_form o4
        injection e4 with ea eb ec
        subst ec
        obtain ⟨Y4, hy4, hP4, hR4, hl4⟩ : ∃ Y4 : Nat → Prop, Y4 ob ∧ PlA W.heap.size g fb W i m n u kp t Y4 w4 ∧ LW bU cU n u bK cK n kp bT cT n t Y4 w4 ∧ LiesP w4 Y4 A4 (B8 (fillB ov)) :=
          ⟨_, .inl HY3.out, (both_fence PA3.out PR3.out b4).1, (both_fence PA3.out PR3.out b4).2, LiesP.own o4 (fun i hi => .inr (o4.lt i hi))⟩
        have hPut := pl_put hP4 hlt2 (fillB ov) A4 c4 hl4 hc4 hm4 (by rw [fillB_length]; exact (fillN_le _).2)
        have PUT := Lib.hid hPut
        have R4 := Lib.hid hR4
        have OY4 := Lib.hid hy4
        have BX4 := Lib.hid (BX3.out.below b4 BX3.out.lt)
        obtain ⟨bl, hbl⟩ : ∃ bl, bl = fillB ov := ⟨_, rfl⟩
        have hbl5 : bl.length ≤ 512 := by rw [hbl, fillB_length]; exact (fillN_le _).2
        have HBL := Lib.hid hbl
        clear hP4 hR4 hPut o4 b4 x0 x1 x2 ea eb hbl hy4 hl4
        rw [← HBL.out] at PUT ⊢
        go_wp2_with fail
        refine PUT.out.mono ?_
        rintro e w5 ⟨id, rfl, hleast, hid2, hk5, hcase⟩
        have R5 := Lib.hid (R4.out.kept hk5.1)
        have BX5 := Lib.hid (BX4.out.kept hk5 OY4.out)
        obtain rfl : lf = (id : Int) := by rw [HLF.out, ← hleast, show n - 1 - 1 = n - 2 by omega]
        clear HLF hleast hk5 PUT R4 BX4 PA3 PR3 BX3 HY3
        go_upto_if 147 with fail
        go_cut [6, 7, 8] (fun v6 v7 v8 wx => PutJ W.heap.size g fb W (i + 1) id m (pad bl) ob ok ov oK v6 v7 v8 wx)
        case first =>
          rcases hcase with ⟨hlt, hP5⟩ | ⟨heq, hP5⟩
          · have hne : ¬ ((id : Int) = (n : Int)) := by omega
            have hne' : decide ((id : Int) = (n : Int)) = false := decide_eq_false hne
            have D : Hid (PutJ W.heap.size g fb W (i + 1) id m (pad bl) ob ok ov oK (.slice (some ⟨bU, 0, none⟩) n cU) (.slice (some ⟨bK, 0, none⟩) n cK) (.slice (some ⟨bT, 0, none⟩) n cT) w5) := Lib.hid ⟨n, u, _, kp, t, _, bU, cU, bK, cK, bT, cT, _, rfl, rfl, rfl, hlt, rfl, rfl, hP5, R5.out, OY4.out, BX5.out⟩
            clear hP5
            go_wp2_with fail
            go_meet
            exact D.out
          · subst heq
            have P5 := Lib.hid hP5
            have HA1 : Hid (id + 1 ≤ maxLen) := Lib.hid (room63 (by omega))
            have HA2 : Hid ((id + 1) * 1 ≤ 140737488355328) := Lib.hid (by omega)
            have HA3 : Hid ((id + 1) * 16 ≤ 140737488355328) := Lib.hid (by omega)
            have HBO : Hid (∀ x : Bool, ∀ v ∈ [Value.bool x], v.oneCell' = true) := Lib.hid (fun x v hv => by rw [List.mem_singleton] at hv; subst hv; rfl)
            have HSO : Hid (∀ v ∈ [Value.string ⟨#[]⟩], v.oneCell' = true) := Lib.hid (fun v hv => by rw [List.mem_singleton] at hv; subst hv; rfl)
            obtain ⟨ib, hib, hb0, hb1, hb2⟩ := info_parts bool_info9
            obtain ⟨ist, his, hs0, hs1, hs2⟩ := info_parts str_info9
            have HIB := Lib.hid hib
            have HB0 := Lib.hid hb0
            have HB1 := Lib.hid hb1
            have HB2 := Lib.hid hb2
            have HIS := Lib.hid his
            have HS0 := Lib.hid hs0
            have HS1 := Lib.hid hs1
            have HS2 := Lib.hid hs2
            have NU : Hid (ob ≠ bU) := Lib.hid (fun e => whole_apart BX5.out R5.out.U.own (by decide) (by rw [e]; rfl))
            have NK : Hid (ob ≠ bK) := Lib.hid (fun e => whole_apart BX5.out R5.out.K.own (by decide) (by rw [e]; rfl))
            have NT : Hid (ob ≠ bT) := Lib.hid (fun e => whole_apart BX5.out R5.out.T.own (by decide) (by rw [e]; rfl))
            clear hP5 hib hb0 hb1 hb2 his hs0 hs1 hs2
            have mU : True := trivial
            have mK : True := trivial
            go_wp2_with (at_builtin; first
              | (clear mU; go_must (refine wpList_append_at rfl _ _ 50 rfl 0 4 ib (.bool false) 1 1 Try.underlying50 HIB.out HB0.out HB1.out HB2.out rfl (by omega) (.slice (some ⟨bU, 0, none⟩) id cU) id (rowF gB id u) rfl (World.ownsRow.alloc R5.out.U.own _) ⟨_, 0, none⟩ 1 1 [.bool true] rfl (lit_cells w5 4 [.bool true]) rfl (HBO.out true) HA1.out HA2.out (Nat.zero_le _) ?_); intro v6 w6 ho6 hg6 hv6; have BX6 := Lib.hid (box_grown BX5.out ((Below.refl _ w5).alloc (Nat.le_refl _) _) hg6 NU.out); obtain ⟨bU6, cU6, Y6, rfl, hP6, hR6, hy6⟩ := moreU P5.out R5.out ((Below.refl _ w5).alloc (Nat.le_refl _) _) hg6 ho6 hv6; have P6 := Lib.hid hP6; have R6 := Lib.hid hR6; have OY6 := Lib.hid (hy6 _ OY4.out); clear ho6 hg6 hv6 hP6 hR6 hy6)
              | (clear mK; go_must (refine wpList_append_at rfl _ _ 50 rfl 0 4 ib (.bool false) 1 1 Try.underlying50 HIB.out HB0.out HB1.out HB2.out rfl (by omega) (.slice (some ⟨bK, 0, none⟩) id cK) id (rowF gB id kp) rfl (World.ownsRow.alloc R6.out.K.own _) ⟨_, 0, none⟩ 1 1 [.bool false] rfl (lit_cells w6 4 [.bool false]) rfl (HBO.out false) HA1.out HA2.out (Nat.zero_le _) ?_); intro v7 w7 ho7 hg7 hv7; have BX7 := Lib.hid (box_grown BX6.out ((Below.refl _ w6).alloc (Nat.le_refl _) _) hg7 NK.out); obtain ⟨bK7, cK7, Y7, rfl, hP7, hR7, hy7⟩ := moreK P6.out R6.out ((Below.refl _ w6).alloc (Nat.le_refl _) _) hg7 ho7 hv7; have P7 := Lib.hid hP7; have R7 := Lib.hid hR7; have OY7 := Lib.hid (hy7 _ OY6.out); clear ho7 hg7 hv7 hP7 hR7 hy7)
              | (go_must (refine wpList_append_at rfl _ _ 51 rfl 0 9 ist (.string ⟨#[]⟩) 1 16 Try.underlying51 HIS.out HS0.out HS1.out HS2.out rfl (by omega) (.slice (some ⟨bT, 0, none⟩) id cT) id (rowF gT id t) rfl (World.ownsRow.alloc R7.out.T.own _) ⟨_, 0, none⟩ 1 1 [gT []] rfl (lit_cells w7 9 [gT []]) rfl HSO.out HA1.out HA3.out (Nat.zero_le _) ?_); intro v8 w8 ho8 hg8 hv8; have BX8 := Lib.hid (box_grown BX7.out ((Below.refl _ w7).alloc (Nat.le_refl _) _) hg8 NT.out); obtain ⟨bT8, cT8, Y8, rfl, hP8, hR8, hy8⟩ := moreT P7.out R7.out ((Below.refl _ w7).alloc (Nat.le_refl _) _) hg8 ho8 hv8; have P8 := Lib.hid hP8; have R8 := Lib.hid hR8; have OY8 := Lib.hid (hy8 _ OY7.out); clear ho8 hg8 hv8 hP8 hR8 hy8))
            go_meet
            exact ⟨id + 1, (fun j => if j = id then true else u j), _, (fun j => if j = id then false else kp j), (fun j => if j = id then [] else t j), _, bU6, cU6, bK7, cK7, bT8, cT8, Y8, rfl, rfl, rfl, Nat.lt_succ_self _, rfl, rfl, P8.out.same (by funext j; by_cases e : j = id <;> simp [e]) rfl (by funext j; by_cases e : j = id <;> simp [e]), R8.out, OY8.out, BX8.out⟩
        case rest =>
          clear hcase OY4 R5 BX5
          obtain ⟨n1, u0, u1, kp1, t0, t1, bU1, cU1, bK1, cK1, bT1, cT1, Y1, rfl, rfl, rfl, hidn, hu, ht, hP, hR, hy, hbx⟩ := hcut
          subst hu ht
          have P6 := Lib.hid hP
          have R6 := Lib.hid hR
          have BX6 := Lib.hid hbx
          have hidn' : (id : Int) < (n1 : Int) := by omega
          obtain ⟨x0, x1, x2⟩ := Whole.three9 BX6.out
          clear hP hR hbx
          go_wp2_with fail
          refine (fill_any ov hov _).mono ?_
          rintro e w7 ⟨A7, c7, rfl, o7, b7⟩
          obtain ⟨hP7, hR7⟩ := both_fence P6.out R6.out b7
          have L7 := Lib.hid (Lies.own o7 (Nat.le_refl _))
          have P7 := Lib.hid hP7
          have R7 := Lib.hid hR7
          clear hP7 hR7 o7 b7 x0 x1 x2
          rw [← HBL.out] at L7 ⊢
          go_wp2_with fail
          refine (whole_any bl A7 c7 _ L7.out hbl5).mono ?_
          rintro e w8 ⟨rfl, b8⟩
          obtain ⟨hP8, hR8⟩ := both_fence P7.out R7.out b8
          have yU := hR8.U.frozen id
          have yT := (hR8.setU id true).T.frozen id
          have cU' := hR8.U.cell hidn
          have cT' := (hR8.setU id true).T.cell hidn
          have D : Hid (PlS W.heap.size g fb W (i + 1) (.slice (some ⟨bU1, 0, none⟩) n1 cU1) (.slice (some ⟨bK1, 0, none⟩) n1 cK1) (.slice (some ⟨bT1, 0, none⟩) n1 cT1) (.int .u64 (m.gen : Int)) ((w8.setCell ⟨bU1, id, none⟩ (.bool true)).setCell ⟨bT1, id, none⟩ (.string ⟨(pad bl).toArray⟩))) := Lib.hid ⟨⟨m, n1, _, kp1, _, bU1, cU1, bK1, cK1, bT1, cT1, _, rfl, rfl, rfl, rfl, (hP8.wrote hR8.U.y id (.bool true) (hR8.U.grow id (.bool true))).wrote (hR8.setU id true).T.y id (.string ⟨(pad bl).toArray⟩) ((hR8.setU id true).T.grow id (gT (pad bl))), (hR8.setU id true).setT id (pad bl)⟩⟩
          clear hP8 hR8 b8
          go_wp2_with fail
          go_meet
          exact D.out
end Go.Proofs.Ytgkcbhplokppaaa
