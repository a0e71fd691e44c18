/- Layer 9: PagePlays, walked. -/
import Derived.Test.YtgkcbhplokppaaaPagePr
import Derived.Test.YtgkcbhplokppaaaPageZ
import Derived.Deep.CutBlock
import Derived.Laws.CopyOwn
namespace Go.Proofs.Ytgkcbhplokppaaa
open Go.RowKit Go.Maps
set_option maxRecDepth 100000
set_option linter.unusedSimpArgs false
set_option linter.unusedVariables false
theorem Whole.put3p {w : World} {g : Nat} {t : TypeId} {a0 a1 a2 : Value} (h : Whole w g t #[a0, a1, a2]) (u0 u1 u2 : Value) :
    Whole (((w.setCell ⟨g, 0, none⟩ u0).setCell ⟨g, 1, none⟩ u1).setCell ⟨g, 2, none⟩ u2) g t #[u0, u1, u2] := by
  have h1 := h.put 0 u0
  have h2 := h1.put 1 u1
  exact h2.put 2 u2
theorem Whole.three9 {w : World} {g : Nat} {t : TypeId} {a0 a1 a2 : Value} (h : Whole w g t #[a0, a1, a2]) : w.cell? ⟨g, 0, none⟩ = some a0 ∧ w.cell? ⟨g, 1, none⟩ = some a1 ∧ w.cell? ⟨g, 2, none⟩ = some a2 :=
  ⟨h.cell 0, h.cell 1, h.cell 2⟩
section
variable {B g fb i n : Nat} {w0 w w' : World} {m : Mt} {a b : Nat → Bool} {s : Nat → List UInt8} {Y : Nat → Prop}
/-- the rows at the beginning -/
theorem lw_start (h : PAt B g fb 2000 Y w0 none (some ⟨1, 0, 0, 0⟩) [] ⟨1, 0, 0, 0⟩ [] 0 w) :
    ∃ Y', PlA B g fb w0 0 ⟨1, 0, 0, 0⟩ 2 (fun _ => true) (fun _ => true) (fun _ => []) Y' (((w.alloc (.cells #[.bool true, .bool true] 4)).alloc (.cells #[.bool true, .bool true] 4)).alloc (.cells #[.string ⟨#[]⟩, .string ⟨#[]⟩] 9)) ∧
      LW w.heap.size 2 2 (fun _ => true) (w.heap.size + 1) 2 2 (fun _ => true) (w.heap.size + 2) 2 2 (fun _ => []) Y' (((w.alloc (.cells #[.bool true, .bool true] 4)).alloc (.cells #[.bool true, .bool true] 4)).alloc (.cells #[.string ⟨#[]⟩, .string ⟨#[]⟩] 9)) := by
  have h0 := pl_start h (fun _ => true) (fun _ => true) (fun _ => []) (fun _ h => h)
  have b1 : Below w.heap.size w (((w.alloc (.cells #[.bool true, .bool true] 4)).alloc (.cells #[.bool true, .bool true] 4)).alloc (.cells #[.string ⟨#[]⟩, .string ⟨#[]⟩] 9)) :=
    (((Below.refl _ w).alloc (Nat.le_refl _) _).alloc (by simp) _).alloc (by simp; omega) _
  have e1 : (w.alloc (.cells #[.bool true, .bool true] 4)).heap.size = w.heap.size + 1 := by simp
  have e2 : ((w.alloc (.cells #[.bool true, .bool true] 4)).alloc (.cells #[.bool true, .bool true] 4)).heap.size = w.heap.size + 2 := by simp
  have e3 : (((w.alloc (.cells #[.bool true, .bool true] 4)).alloc (.cells #[.bool true, .bool true] 4)).alloc (.cells #[.string ⟨#[]⟩, .string ⟨#[]⟩] 9)).heap.size = w.heap.size + 3 := by simp
  have r1 := (Whole.new w 4 #[.bool true, .bool true]).alloc (.cells #[.bool true, .bool true] 4) |>.alloc (.cells #[.string ⟨#[]⟩, .string ⟨#[]⟩] 9)
  have r2 := (Whole.new (w.alloc (.cells #[.bool true, .bool true] 4)) 4 #[.bool true, .bool true]).alloc (.cells #[.string ⟨#[]⟩, .string ⟨#[]⟩] 9)
  have r3 := Whole.new ((w.alloc (.cells #[.bool true, .bool true] 4)).alloc (.cells #[.bool true, .bool true] 4)) 9 #[.string ⟨#[]⟩, .string ⟨#[]⟩]
  rw [e1] at r2
  rw [e2] at r3
  have hm : 2 ≤ maxLen := by unfold maxLen; omega
  refine ⟨_, h0.fence b1, ⟨⟨rfl, .inr ⟨_, 2, _, rfl, Nat.zero_le _, r1, Nat.le_refl _, hm, rfl, rfl⟩⟩, .inr ⟨Nat.le_refl _, by rw [e3]; omega⟩⟩, ⟨⟨rfl, .inr ⟨_, 2, _, rfl, Nat.zero_le _, r2, Nat.le_refl _, hm, rfl, rfl⟩⟩, .inr ⟨by omega, by rw [e3]; omega⟩⟩, ⟨⟨rfl, .inr ⟨_, 2, _, rfl, Nat.zero_le _, r3, Nat.le_refl _, hm, rfl, rfl⟩⟩, .inr ⟨by omega, by rw [e3]; omega⟩⟩, by omega, by omega, by omega⟩
end
/-- what the outer loop's slots and the world hold behind i calls -/
structure PlS (B g fb : Nat) (w0 : World) (i : Nat) (v6 v7 v8 v9 : Value) (w : World) : Prop where
  ex : ∃ (m : Mt) (n : Nat) (u kp : Nat → Bool) (t : Nat → List UInt8) (bU cU bK cK bT cT : Nat) (Y : Nat → Prop), v6 = .slice (some ⟨bU, 0, none⟩) n cU ∧ v7 = .slice (some ⟨bK, 0, none⟩) n cK ∧ v8 = .slice (some ⟨bT, 0, none⟩) n cT ∧ v9 = .int .u64 (m.gen : Int) ∧ PlA B g fb w0 i m n u kp t Y w ∧ LW bU cU n u bK cK n kp bT cT n t Y w
/-- what stands behind a Put, its page written or not yet -/
def PutJ (B g fb : Nat) (w0 : World) (i id : Nat) (m : Mt) (x : List UInt8) (ob : Nat) (ok ov oK : Int) (v6 v7 v8 : Value) (w : World) : Prop :=
  ∃ (n : Nat) (u0 u kp : Nat → Bool) (t0 t : Nat → List UInt8) (bU cU bK cK bT cT : Nat) (Y : Nat → Prop), v6 = .slice (some ⟨bU, 0, none⟩) n cU ∧ v7 = .slice (some ⟨bK, 0, none⟩) n cK ∧ v8 = .slice (some ⟨bT, 0, none⟩) n cT ∧ id < n ∧ (fun j => if j = id then true else u0 j) = u ∧ (fun j => if j = id then x else t0 j) = t ∧ PlA B g fb w0 i m n u kp t Y w ∧ LW bU cU n u0 bK cK n kp bT cT n t0 Y w ∧ Y ob ∧ Whole w ob 53 #[.int .i64 ok, .int .i64 ov, .int .i64 oK]
def PlOut (B g fb : Nat) (w0 : World) (L : Nat) (v6 v7 v8 v9 v10 : Value) (wr : World) : Prop :=
  ∃ i : Nat, v10 = .int .i64 (i : Int) ∧ i ≤ L ∧ i ≤ 60 ∧ PlS B g fb w0 i v6 v7 v8 v9 wr
/-- the free pages, gathered -/
def PlF (u : Nat → Bool) (n : Nat) (wc : World) (v24 v25 : Value) (wr : World) : Prop :=
  ∃ (k : Nat) (F : List Int), v25 = .int .i64 (k : Int) ∧ 2 ≤ k ∧ k ≤ n ∧ F = freeF u 2 (k - 2) ∧ wr.ownsRow wc.heap.size 3 1 v24 F.length (cellsZ F) ∧ Below wc.heap.size wc wr
theorem freeF_next (u : Nat → Bool) (k : Nat) (h : 2 ≤ k) : freeF u 2 (k + 1 - 2) = freeF u 2 (k - 2) ++ if u k = true then [] else [(k : Int)] := by
  rw [show k + 1 - 2 = (k - 2) + 1 by omega, freeF_snoc, show 2 + (k - 2) = k by omega]
theorem same_free9 (F : List Int) (A A' : Option Addr) (c c' : Nat) (W : World) (h : LiesP W (fun _ => True) A (cellsZ F)) (h' : LiesP W (fun _ => True) A' (cellsZ F)) (hm : F.length ≤ 1000000) :
    Calls Try.prog 20 #[.slice A F.length c, .slice A' F.length c'] W fun e w' => e = .returned (.bool true) ∧ Below W.heap.size W w' := by
  refine (same_ints9 F F A A' c c' _ _ W h.lies h'.lies (Nat.le_refl _) (Nat.le_refl _) hm).mono ?_
  rintro e w' ⟨rfl, hb⟩
  exact ⟨by simp, hb⟩
theorem add9 (b o j : Nat) : (⟨b, o, none⟩ : Addr).add j = ⟨b, o + j, none⟩ := by unfold Addr.add; split <;> simp_all
section
variable {bU cU n : Nat} {u : Nat → Bool} {bK cK : Nat} {kp : Nat → Bool} {bT cT nT : Nat} {t : Nat → List UInt8} {Y : Nat → Prop} {w : World}
theorem LW.cur (h : LW bU cU n u bK cK n kp bT cT nT t Y w) : ∃ cur, w.heap[bU]? = some (.cells cur 4 (0, 0)) ∧ n ≤ cur.size ∧ cur.size = cU := by
  rcases h.U.own.2 with ⟨hv, _⟩ | ⟨g, cap, cur, hv, _, hg, hn, hm, hs, _⟩
  · simp at hv
  · simp only [Value.slice.injEq, Option.some.injEq, Addr.mk.injEq, and_true, true_and] at hv
    obtain ⟨rfl, rfl⟩ := hv
    exact ⟨cur, hg, by omega, by omega⟩
theorem LW.copied (h : LW bU cU n u bK cK n kp bT cT nT t Y w) {cur : Array Value} (hg : w.heap[bU]? = some (.cells cur 4 (0, 0))) (hn : n ≤ cur.size) (hc : cur.size = cU) {w' : World}
    (hw : w' = w.setRow bU (cur.toList.take 0 ++ (rowF gB n kp ++ cur.toList.drop (0 + (rowF gB n kp).length))).toArray) : LW bU cU n kp bK cK n kp bT cT nT t Y w' ∧ w.grownBy w' (some bU) := by
  subst hw
  have hgr : w.grownBy (w.setRow bU (cur.toList.take 0 ++ (rowF gB n kp ++ cur.toList.drop (0 + (rowF gB n kp).length))).toArray) (some bU) :=
    ⟨rfl, rfl, rfl, by simp [World.setRow], fun k hk hne => setRow_other w bU k _ (fun e => hne (by rw [e]))⟩
  have hsame : (w.setRow bU (cur.toList.take 0 ++ (rowF gB n kp ++ cur.toList.drop (0 + (rowF gB n kp).length))).toArray).heap[bU]? = some (.cells (cur.toList.take 0 ++ (rowF gB n kp ++ cur.toList.drop (0 + (rowF gB n kp).length))).toArray 4 (0, 0)) := by
    exact setRow_heap w bU cur _ 4 _ hg
  obtain ⟨A, c, hv, hnc, hcm⟩ := own_form h.U.own
  cases hv
  refine ⟨⟨⟨⟨by rw [rowF_length]; omega, .inr ⟨bU, cU, _, rfl, Nat.zero_le _, hsame, hnc, hcm, ?_, ?_⟩⟩, h.U.y⟩, h.K.grown hgr (fun e => h.uk (by cases e; rfl)) h.K.y, h.T.grown hgr (fun e => h.ut (by cases e; rfl)) h.T.y, h.uk, h.ut, h.kt⟩, hgr⟩
  · simp [rowF_length]; omega
  · simp only [List.take_zero, List.nil_append, Nat.mul_one]
    rw [List.take_append_of_le_length (by rw [rowF_length]; exact Nat.le_refl _), List.take_of_length_le (by rw [rowF_length]; exact Nat.le_refl _)]
end
set_option maxHeartbeats 8000000 in
/-- PagePlays, walked but for its Put and its Commit, which stand as propositions of their own -/
def plays9_parts (l : List Op9) (W : World) : (p1 : Prop) ×' (p2 : Prop) ×' (Hid p1 → Hid p2 → ∀ (A : Option Addr) (cap : Nat) (hc1 : l.length ≤ cap) (hc2 : cap ≤ maxLen) (hl : Lies W W.heap.size A (cellsO9 l)) (hfit : ∀ f ∈ l, f.fit),
    Calls Try.prog 5 #[.slice A l.length cap] W fun e w' => e = .returned (.bool true) ∧ Below W.heap.size W w') := by
  constructor
  constructor
  · intro hPut hCom A cap hc1 hc2 hl hfit
    obtain ⟨i0, hI, hz0, hz1, hz2⟩ := info_parts int_info9
    have HI := Lib.hid hI
    have H0 := Lib.hid hz0
    have H1 := Lib.hid hz1
    have H2 := Lib.hid hz2
    have HL := Lib.hid hl
    have HFT := Lib.hid hfit
    unfold maxLen at hc2
    clear hI hz0 hz1 hz2 hl hfit
    go_enter Try.func5, Try.ntmps5
    have hdv : newDv 2000 = ⟨2000, -1, []⟩ := rfl
    have HDV := Lib.hid hdv
    clear hdv
    go_upto_region 4 with (first
      | (go_at_call 9; go_must (refine (at_new 2000 _ (by omega)).mono ?_); rintro e w1 ⟨g, rfl, h1⟩; rw [HDV.out] at h1; have A1 := Lib.hid h1; clear h1)
      | (go_at_call 22; go_must (refine (awake9 _).mono ?_); rintro e wa ⟨rfl, ba⟩; have A2 := Lib.hid (A1.out.below ba).1; clear ba))
    have hop := p_open (mo := 2000) A2.out rfl (by omega) (by omega)
    have HOP := Lib.hid hop
    clear hop
    go_upto_region 7 with (go_at_call 10; go_must (refine HOP.out.mono ?_); rintro e w2 ⟨fb, rfl, hfb, hP, hk⟩; have P2 := Lib.hid hP; clear hP hk)
    go_wp2_with fail
    go_loopw [6, 7, 8, 9, 10] (fun v6 v7 v8 v9 v10 wr => PlOut W.heap.size g fb W l.length v6 v7 v8 v9 v10 wr) (fun _ _ _ _ v10 _ => 60 - (intOf v10).toNat)
    case atStart =>
      obtain ⟨Y', s1, s2⟩ := lw_start P2.out
      refine ⟨0, rfl, Nat.zero_le _, by omega, ⟨_, 2, _, _, _, _, 2, _, 2, _, 2, Y', ?_, ?_, ?_, rfl, s1, s2⟩⟩
      · rfl
      · simp
      · simp
    case round =>
      obtain ⟨i, rfl, hil, hi60, hS⟩ := hrel
      obtain ⟨m, n, u, kp, t, bU, cU, bK, cK, bT, cT, Y, rfl, rfl, rfl, rfl, hA, hR⟩ := hS.ex
      have PA := Lib.hid hA
      have PR := Lib.hid hR
      obtain ⟨hn2, hni, hgen⟩ := hA.few
      clear hS hA hR
      by_cases hlt : i < l.length ∧ i < 60
      · obtain ⟨hlt1, hlt2⟩ := hlt
        have hi1 : (i : Int) < (l.length : Int) := by omega
        have hi2 : (i : Int) < 60 := by omega
        obtain ⟨o, ho⟩ : ∃ o, o = l[i] := ⟨_, rfl⟩
        obtain ⟨hok, hov, hokk⟩ : o.fit := HFT.out o (by rw [ho]; exact List.getElem_mem hlt1)
        obtain ⟨b, oo, rfl, hcb, hc0, hc1', hc2'⟩ := lies_op9 (HL.out.below PA.out.bel.1) i hlt1
        rw [← ho] at hc0 hc1' hc2'
        obtain ⟨ok, ov, oK⟩ := o
        simp only at hc0 hc1' hc2' hok hov hokk
        clear ho
        go_upto_block 2 with fail
        have hbx := Whole.new wr 53 #[.int .i64 ok, .int .i64 ov, .int .i64 oK]
        have hbw : Below wr.heap.size wr (wr.alloc (.cells #[.int .i64 ok, .int .i64 ov, .int .i64 oK] 53)) := (Below.refl _ wr).alloc (Nat.le_refl _) _
        obtain ⟨w3, hw3⟩ : ∃ w3, w3 = wr.alloc (.cells #[.int .i64 ok, .int .i64 ov, .int .i64 oK] 53) := ⟨_, rfl⟩
        rw [← hw3] at hbx hbw
        rw [← hw3]
        clear hw3
        obtain ⟨Y3, hY3⟩ : ∃ Y3 : Nat → Prop, Y3 = (fun j => Y j ∨ (wr.heap.size ≤ j ∧ j < w3.heap.size)) := ⟨_, rfl⟩
        obtain ⟨hA3, hR3⟩ := both_fence PA.out PR.out hbw
        have hy3 : Y3 wr.heap.size := by rw [hY3]; exact .inr ⟨Nat.le_refl _, hbx.lt⟩
        rw [← hY3] at hA3 hR3
        have PA3 := Lib.hid hA3
        have PR3 := Lib.hid hR3
        have BX3 := Lib.hid hbx
        have HY3 := Lib.hid hy3
        clear hY3 hA3 hR3 hbx hbw hy3 hc0 hc1' hc2' PA PR
        obtain ⟨ob, hob⟩ : ∃ ob, ob = wr.heap.size := ⟨_, rfl⟩
        rw [← hob] at BX3 HY3
        rw [← hob]
        clear hob
        go_cut [6, 7, 8, 9] (fun v6 v7 v8 v9 wx => PlS W.heap.size g fb W (i + 1) v6 v7 v8 v9 wx)
        case first =>
          rename_i Q0 K0 a0 Q1 K1 a1 K2 a2 J3 K3 a3 a4
          clear a0 a1 a2
          by_cases k01 : ok = 0 ∨ ok = 1
          · clear hCom
            clear A1 A2 HOP P2 hfb hok hi1 hi2 hlt1 hcb hil hi60 HL HFT HDV hc1
            revert cap hc2 i0 HI H0 H1 H2 Q0 g w2 fb K0 u2 u11 u12 u13 u14 u15 u16 u17 u18 u19 u20 u21 u22 u23 u24 u25 u47 u48 u49 u50 u51 u52 u53 u54 u55 u56 u57 u58 u59 u60 u61 u62 u63 u64 u65 u66 u67 u68 u69 u70 u71 u72 u73 u74 u75 u76 u77 u78 u79 u80 u81 u82 u83 u84 u85 u86 u87 u88 u89 u90 u91 u92 u93 u94 u95 u96 u97 u98 u99 u100 u101 u102 u103 u104 u105 u106 u107 u108 u109 u110 u111 u112 u113 u114 u115 u116 u117 u118 u119 u120 u121 u122 u123 u124 u125 u126 u127 u128 u129 u130 u131 u132 u133 u134 u135 u136 u137 u138 u139 u140 u141 u142 u143 u144 u145 u146 u147 u148 u149 u150 u151 u152 u153 u154 u155 u156 u157 u158 u159 u160 u161 u162 u163 u164 u165 u166 u167 u168 u169 u170 u171 u172 u173 u174 u175 u176 u177 u178 u179 u180 u181 u182 u183 u184 u185 u186 u187 u188 u189 u190 u191 u192 u193 u194 u195 u196 u197 u198 u199 u200 u201 u202 u203 u204 u205 u206 u207 u208 u209 u210 u211 u212 u213 u214 u215 u216 u217 u218 u219 u220 u221 u222 u223 u224 u225 u226 u227 u228 u229 u230 u231 u232 u233 u234 u235 u236 u237 u238 u239 u240 u241 u242 u243 u244 u245 u246 u247 u248 u249 u250 u251 u252 u253 u254 u255 u256 u257 u258 u259 u260 u261 u262 u263 u264 u265 u266 u267 u268 u269 u270 u271 u272 u273 u274 u275 u276 u277 u278 u279 u280 i m n u kp t bU cU bK cK bT cT hn2 hni hgen hlt2 b oo ok ov oK hov hokk Q1 K1 w3 Y3 PA3 PR3 ob HY3 BX3 J3 K3 a3 a4 k01
            exact hPut.out
          · obtain ⟨x0, x1, x2⟩ := Whole.three9 BX3.out
            have kk0 : (ok == 0) = false := beq_false_of_ne (fun e => k01 (.inl e))
            have kk1 : (ok == 1) = false := beq_false_of_ne (fun e => k01 (.inr e))
            by_cases k2 : ok = 2
            · clear hPut kk0 kk1 x0 x1 x2
              clear A1 A2 HOP P2 hfb hok hi1 hi2 hlt1 hcb hil hi60 HL HFT HDV hc1
              revert cap hc2 i0 HI H0 H1 H2 Q0 g w2 fb K0 u2 u11 u12 u13 u14 u15 u16 u17 u18 u19 u20 u21 u22 u23 u24 u25 u47 u48 u49 u50 u51 u52 u53 u54 u55 u56 u57 u58 u59 u60 u61 u62 u63 u64 u65 u66 u67 u68 u69 u70 u71 u72 u73 u74 u75 u76 u77 u78 u79 u80 u81 u82 u83 u84 u85 u86 u87 u88 u89 u90 u91 u92 u93 u94 u95 u96 u97 u98 u99 u100 u101 u102 u103 u104 u105 u106 u107 u108 u109 u110 u111 u112 u113 u114 u115 u116 u117 u118 u119 u120 u121 u122 u123 u124 u125 u126 u127 u128 u129 u130 u131 u132 u133 u134 u135 u136 u137 u138 u139 u140 u141 u142 u143 u144 u145 u146 u147 u148 u149 u150 u151 u152 u153 u154 u155 u156 u157 u158 u159 u160 u161 u162 u163 u164 u165 u166 u167 u168 u169 u170 u171 u172 u173 u174 u175 u176 u177 u178 u179 u180 u181 u182 u183 u184 u185 u186 u187 u188 u189 u190 u191 u192 u193 u194 u195 u196 u197 u198 u199 u200 u201 u202 u203 u204 u205 u206 u207 u208 u209 u210 u211 u212 u213 u214 u215 u216 u217 u218 u219 u220 u221 u222 u223 u224 u225 u226 u227 u228 u229 u230 u231 u232 u233 u234 u235 u236 u237 u238 u239 u240 u241 u242 u243 u244 u245 u246 u247 u248 u249 u250 u251 u252 u253 u254 u255 u256 u257 u258 u259 u260 u261 u262 u263 u264 u265 u266 u267 u268 u269 u270 u271 u272 u273 u274 u275 u276 u277 u278 u279 u280 i m n u kp t bU cU bK cK bT cT hn2 hni hgen hlt2 b oo ok ov oK hov hokk Q1 K1 w3 Y3 PA3 PR3 ob HY3 BX3 J3 K3 a3 a4 k01 k2
              exact hCom.out
            · have kk2 : (ok == 2) = false := beq_false_of_ne k2
              clear k2 k01
              by_cases k3 : ok = 3
              · clear hPut hCom
                as_aux_lemma =>
                subst k3
                have hdr := pl_drop PA3.out
                have HDR := Lib.hid hdr
                clear hdr x0 x1 x2
                go_upto_region 58 with (go_at_call 23; go_must (refine HDR.out.mono ?_); rintro e w4 ⟨rfl, hk4, ha4⟩; have P4 := Lib.hid ha4; have R4 := Lib.hid (PR3.out.kept hk4.1); clear hk4 ha4)
                obtain ⟨cur, hcu, hcn, hcs⟩ := R4.out.cur
                have hsrc : ∀ j v, (rowF gB n kp)[j]? = some v → w4.cell? ((⟨bK, 0, none⟩ : Addr).add j) = some v := fun j v hv => by
                  have hj : j < n := by have := (List.getElem?_eq_some_iff.1 hv).1; rwa [rowF_length] at this
                  rw [rowF_get hj] at hv
                  cases hv
                  have := R4.out.K.cell hj
                  rw [add9, Nat.zero_add]
                  exact this
                have hone : ∀ v ∈ rowF gB n kp, v.oneCell' = true := fun v hv => by
                  unfold rowF at hv
                  obtain ⟨j, _, rfl⟩ := List.mem_map.1 hv
                  rfl
                have HSRC := Lib.hid hsrc
                have HONE := Lib.hid hone
                have HCU := Lib.hid hcu
                have HCN : Hid (0 + (rowF gB n kp).length ≤ cur.size) := Lib.hid (by rw [rowF_length]; omega)
                have HMN : Hid ((rowF gB n kp).length = Nat.min n n) := Lib.hid (by rw [rowF_length]; exact (Nat.min_self n).symm)
                have hcp := fun w' => R4.out.copied (w' := w') hcu hcn hcs
                have HCP := Lib.hid hcp
                clear hsrc hone hcu hcp
                go_wp2_with (refine wpList_copy_own rfl (.tmp 251) (.tmp 252) 50 50 rfl 4 Try.underlying50 (by kernel_rfl) bU 0 n cU ⟨bK, 0, none⟩ n cK rfl rfl cur 4 HCU.out (rowF gB n kp) HMN.out HSRC.out HCN.out HONE.out ?_; obtain ⟨w5, hw5⟩ : ∃ w5, w5 = w4.setRow bU (cur.toList.take 0 ++ (rowF gB n kp ++ cur.toList.drop (0 + (rowF gB n kp).length))).toArray := ⟨_, rfl⟩; rw [← hw5]; obtain ⟨hR5, hg5⟩ := HCP.out w5 hw5; have R5 := Lib.hid hR5; have P5 := Lib.hid ((P4.out.grown hg5 (fun q hq => by cases hq; exact R4.out.U.y)).less (fun _ hi => .inl hi)); clear hw5 hR5 hg5)
                go_meet
                exact ⟨m, n, kp, kp, t, bU, cU, bK, cK, bT, cT, Y3, rfl, rfl, rfl, rfl, P5.out, R5.out⟩
              · clear hPut hCom
                as_aux_lemma =>
                have kk3 : (ok == 3) = false := beq_false_of_ne k3
                clear k3
                have hand : bits .and .i64 ov 31 = ov % 32 := by
                  have := i64_mask ov 5 (by omega)
                  simpa using this
                obtain ⟨id, hid⟩ : ∃ id, id = ov % 32 - 2 := ⟨_, rfl⟩
                have hwid : IntKind.i64.wrap (ov % 32 - 2) = id := by rw [hid]; exact IntWalk.i64_in _ ⟨by omega, by omega⟩
                have hidr : -2 ≤ id ∧ id < 32 := by omega
                clear hid
                have P4' := Lib.hid PA3.out.later
                by_cases hin : 2 ≤ id ∧ id < (n : Int)
                · obtain ⟨k, hk⟩ : ∃ k : Nat, id = (k : Int) := ⟨id.toNat, by omega⟩
                  subst hk
                  have hk2 : 2 ≤ k := by omega
                  have hkn : k < n := by omega
                  have hrd := pl_read PA3.out k hk2 hkn
                  have HRD := Lib.hid hrd
                  have hge : decide ((2 : Int) ≤ (k : Int)) = true := decide_eq_true hin.1
                  have hlt9 : decide ((k : Int) < (n : Int)) = true := decide_eq_true hin.2
                  clear hrd hin hidr
                  go_upto_region 18 with (go_at_call 21; go_must (refine HRD.out.mono ?_); rintro e w4 ⟨A4, c4, bx, rfl, hl4, hb4, ht4, hbl4⟩; have L4 := Lib.hid hl4; have HT4 := Lib.hid ht4; have HB4 := Lib.hid hb4; have B4 := Lib.hid hbl4; have R4 := Lib.hid (PR3.out.below hbl4); have P4 := Lib.hid (P4'.out.below hbl4); clear hl4 hb4 ht4 hbl4)
                  have hcv : ∀ q, (convert 31 9 (.slice A4 512 c4)).run Try.prog (w4.drewN q) = .ok (.string ⟨bx.toArray⟩) (w4.drewN q) := fun q => conv_of9 (L4.out.below (below_drewN9 (Below.refl w4.heap.size w4) q)) HB4.out c4
                  have HCV := Lib.hid hcv
                  clear hcv
                  have hcu : w4.cell? ⟨bU, k, none⟩ = some (.bool (u k)) := R4.out.U.cell hkn
                  have hct : w4.cell? ⟨bT, k, none⟩ = some (.string ⟨(t k).toArray⟩) := R4.out.T.cell hkn
                  obtain ⟨x, hx⟩ : ∃ x, x = u k := ⟨_, rfl⟩
                  rw [← hx] at hcu
                  cases x with
                  | true =>
                    have hbt : bx = t k := HT4.out hx.symm
                    rw [← hbt] at hct
                    clear hbt hx x0 x1 x2
                    have hcv := HCV.out
                    go_quiet (fail)
                    go_wp2_with fail
                    go_meet
                    exact ⟨m, n, u, kp, t, bU, cU, bK, cK, bT, cT, Y3, rfl, rfl, rfl, rfl, P4.out.below (below_drewN9 (Below.refl w4.heap.size w4) _), R4.out.below (below_drewN9 (Below.refl w4.heap.size w4) _)⟩
                  | false =>
                    clear hx x0 x1 x2
                    go_quiet (fail)
                    go_wp2_with fail
                    go_meet
                    exact ⟨m, n, u, kp, t, bU, cU, bK, cK, bT, cT, Y3, rfl, rfl, rfl, rfl, P4.out.below (below_drewN9 (Below.refl w4.heap.size w4) _), R4.out.below (below_drewN9 (Below.refl w4.heap.size w4) _)⟩
                · have hrd := pl_read_no PA3.out id hin
                  have HRD := Lib.hid hrd
                  clear hrd
                  go_upto_region 18 with (go_at_call 21; go_must (refine HRD.out.mono ?_); rintro e w4 ⟨A4, c4, rfl, hbl4⟩; have B4 := Lib.hid hbl4; have R4 := Lib.hid (PR3.out.below hbl4); have P4 := Lib.hid (P4'.out.below hbl4); clear hbl4)
                  clear x0 x1 x2
                  by_cases hge0 : (2 : Int) ≤ id
                  · have hge : decide ((2 : Int) ≤ id) = true := decide_eq_true hge0
                    have hlt9 : decide (id < (n : Int)) = false := decide_eq_false (fun h => hin ⟨hge0, h⟩)
                    clear hin hge0
                    go_quiet (fail)
                    go_wp2_with fail
                    go_meet
                    exact ⟨m, n, u, kp, t, bU, cU, bK, cK, bT, cT, Y3, rfl, rfl, rfl, rfl, P4.out.below (below_drewN9 (Below.refl w4.heap.size w4) _), R4.out.below (below_drewN9 (Below.refl w4.heap.size w4) _)⟩
                  · have hge : decide ((2 : Int) ≤ id) = false := decide_eq_false hge0
                    clear hin hge0
                    go_quiet (fail)
                    go_wp2_with fail
                    go_meet
                    exact ⟨m, n, u, kp, t, bU, cU, bK, cK, bT, cT, Y3, rfl, rfl, rfl, rfl, P4.out.below (below_drewN9 (Below.refl w4.heap.size w4) _), R4.out.below (below_drewN9 (Below.refl w4.heap.size w4) _)⟩
        case rest =>
          clear hPut hCom
          obtain ⟨m', n', u', kp', t', bU', cU', bK', cK', bT', cT', Y', rfl, rfl, rfl, rfl, hA', hR'⟩ := hcut.ex
          have PA' := Lib.hid hA'
          have PR' := Lib.hid hR'
          have hlU := hR'.U.lt
          obtain ⟨hn2', hni', hgen'⟩ := hA'.few
          clear hcut hA' hR' PA3 PR3 BX3 HY3
          go_wp2_with fail
          go_loopw [24, 25] (fun v24 v25 wq => PlF u' n' wc v24 v25 wq) (fun _ v25 _ => n' - (intOf v25).toNat)
          case atStart => exact ⟨2, [], rfl, Nat.le_refl _, hn2', rfl, World.ownsRow_nil _ _ _ _, Below.refl _ _⟩
          case round =>
            obtain ⟨k, F, rfl, hk2, hkn, hF, hoF, hbF⟩ := hrel
            have OF := Lib.hid hoF
            have BF := Lib.hid hbF
            have HF := Lib.hid hF
            have hszF : wc.heap.size ≤ wr.heap.size := hbF.size
            clear hoF hbF hF
            have hfl : F.length ≤ 1000 := by have := freeF_le u' (k - 2) 2; rw [HF.out]; omega
            by_cases hlk : k < n'
            · have hk1 : (k : Int) < (n' : Int) := by omega
              have hcu : wr.cell? ⟨bU', k, none⟩ = some (.bool (u' k)) := (PR'.out.U.below BF.out hlU).cell hlk
              obtain ⟨x, hx⟩ : ∃ x, x = u' k := ⟨_, rfl⟩
              rw [← hx] at hcu
              have HX := Lib.hid hx
              clear hx
              have h8 : (F.length + 1) * 8 ≤ 140737488355328 := by omega
              have h63 : F.length + 1 ≤ maxLen := by unfold maxLen; omega
              have hon : ∀ u ∈ [Value.int .i64 (k : Int)], u.oneCell' = true := fun u hu => by simp [List.mem_singleton.1 hu, Value.oneCell']
              have H8 := Lib.hid h8
              have H63 := Lib.hid h63
              have HON := Lib.hid hon
              clear h8 h63 hon
              cases x with
              | true =>
                go_wp2_with fail
                go_roundw
                case rel => exact ⟨k + 1, F, by go_num, by omega, by omega, by rw [freeF_next _ _ hk2, ← HX.out, if_pos rfl, List.append_nil]; exact HF.out, OF.out, BF.out⟩
                case measure => simp [intOf]; omega
              | false =>
                have hbe : wc.heap.size ≤ (wr.alloc (.cells #[.int .i64 (k : Int)] 3)).heap.size := by simp; omega
                have HBE := Lib.hid hbe
                clear hbe
                go_upto_region 62 with (at_builtin; go_must (refine wpList_append_at rfl _ _ 22 rfl wc.heap.size 3 i0 (.int .i64 0) 1 8 Try.underlying22 HI.out H0.out H1.out H2.out rfl (by omega) u24 F.length (cellsZ F) rfl (World.ownsRow.alloc OF.out _) ⟨_, 0, none⟩ 1 1 [.int .i64 (k : Int)] rfl (lit_cells wr 3 [.int .i64 (k : Int)]) rfl HON.out H63.out H8.out HBE.out ?_); go_must (intro v3 w4 ho4 hg4 hv4; have O4 := Lib.hid ho4; have B4 := Lib.hid ((BF.out.alloc hszF (.cells #[.int .i64 (k : Int)] 3)).grown hg4 HBE.out (fun q hq => ((World.ownsRow.alloc OF.out (.cells #[.int .i64 (k : Int)] 3)).lt q hq).1)); clear ho4 hg4 hv4))
                go_wp2_with fail
                go_roundw
                case rel =>
                  refine ⟨k + 1, F ++ [(k : Int)], by go_num, by omega, by omega, ?_, ?_, B4.out⟩
                  · rw [freeF_next _ _ hk2, ← HX.out, if_neg (by simp), ← HF.out]
                  · rw [List.length_append, List.length_singleton, show cellsZ (F ++ [(k : Int)]) = cellsZ F ++ [.int .i64 (k : Int)] by simp [cellsZ]]
                    exact O4.out
                case measure => simp [intOf]; omega
            · have hke : k = n' := by omega
              have hk1 : ¬ (k : Int) < (n' : Int) := by omega
              subst hke
              obtain ⟨A5, c5, rfl, _, _⟩ := own_form OF.out
              have hPF := PA'.out.below BF.out
              have PF := Lib.hid hPF
              have LF : Hid (LiesP wr (fun _ => True) A5 (cellsZ F)) := Lib.hid (LiesP.own OF.out (fun _ _ => trivial))
              have HFL := Lib.hid hfl
              clear hPF
              go_upto_region 13 with (first
                | (go_at_call 17; go_must (refine (pl_len PF.out).mono ?_); rintro e w5 ⟨rfl, rfl⟩)
                | (go_at_call 18; go_must (refine (pl_free PF.out (by omega) F HF.out).mono ?_); rintro e w6 ⟨A6, c6, rfl, hl6, hb6⟩; have L6 := Lib.hid hl6; have B6 := Lib.hid hb6; clear hl6 hb6)
                | (go_at_call 20; go_must (refine (same_free9 F A6 A5 c6 c5 _ L6.out (LF.out.below B6.out) (by have := HFL.out; omega)).mono ?_); rintro e w7 ⟨rfl, hb7⟩; have P7 := Lib.hid (PF.out.below (B6.out.trans (hb7.mono B6.out.size))); have B7 := Lib.hid (BF.out.trans ((B6.out.trans (hb7.mono B6.out.size)).mono BF.out.size)); clear hb7))
              go_wp2_with fail
              go_roundw
              case rel => exact ⟨i + 1, by go_num, by omega, by omega, ⟨m', k, u', kp', t', bU', cU', bK', cK', bT', cT', Y', rfl, rfl, rfl, rfl, P7.out, PR'.out.below B7.out⟩⟩
              case measure => simp [intOf]; omega
      · have hbl := PA.out.bel.1
        have HBL := Lib.hid hbl
        have hno : ¬ ((i : Int) < (l.length : Int) ∧ (i : Int) < 60) := by omega
        clear hbl
        by_cases h1 : (i : Int) < (l.length : Int)
        · have h2 : ¬ (i : Int) < 60 := by omega
          go_wp2_with fail
          go_ret
          exact ⟨rfl, HBL.out⟩
        · go_wp2_with fail
          go_ret
          exact ⟨rfl, HBL.out⟩
end Go.Proofs.Ytgkcbhplokppaaa
