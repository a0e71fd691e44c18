/- Layer 9: Commit, within a law's walk. -/
import Derived.Test.YtcmffifehpbjnaaPageR
namespace Go.Proofs.Ytcmffifehpbjnaa
open Go.RowKit Go.Maps
set_option maxRecDepth 100000
set_option linter.unusedSimpArgs false
set_option linter.unusedVariables false
section
variable {W : World}
set_option maxHeartbeats 4000000 in
theorem index_any (ids : List Int) (x : Int) (A : Option Addr) (c : Nat) (D : Nat) (hl : Lies W D A (cellsZ ids)) (hm : ids.length ≤ maxLen) :
    Calls Try.prog 54 #[.slice A ids.length c, .int .i64 x] W fun e w' => ∃ k : Int, e = .returned (.int .i64 k) ∧ decide (0 ≤ k) = decide (x ∈ ids) ∧ W = w' := by
  have HL := Lib.hid hl
  unfold maxLen at hm
  clear hl
  go_enter Try.func54, Try.ntmps54
  go_wp2_with fail
  go_loopw [8] (fun vi wr => ∃ i : Nat, vi = .int .i64 (i : Int) ∧ i ≤ ids.length ∧ x ∉ ids.take i ∧ W = wr) (fun vi _ => ids.length - (intOf vi).toNat)
  case atStart => exact ⟨0, rfl, Nat.zero_le _, by simp, rfl⟩
  case round =>
    obtain ⟨i, rfl, hi, hni, rfl⟩ := hrel
    have NI := Lib.hid hni
    clear hni
    by_cases hlt : i < ids.length
    · have hi1 : (i : Int) < (ids.length : Int) := by omega
      obtain ⟨b, o, rfl, hc⟩ := lies_z HL.out i hlt
      have hci := hc i hlt
      obtain ⟨y, hy⟩ : ∃ y, y = ids.getD i 0 := ⟨_, rfl⟩
      rw [← hy] at hci
      have hyg : ids[i]'hlt = y := by rw [hy]; simp [List.getD, hlt]
      have htk : ids.take (i + 1) = ids.take i ++ [y] := by rw [List.take_succ_eq_append_getElem hlt, hyg]
      have hym : y ∈ ids := by rw [← hyg]; exact List.getElem_mem hlt
      have HT := Lib.hid htk
      have HM := Lib.hid hym
      clear hc hy hyg htk hym
      by_cases he : x = y
      · have hb : (x == y) = true := by rw [he]; exact beq_self_eq_true _
        have HE := Lib.hid he
        clear he
        go_wp2_with fail
        go_ret
        exact ⟨(i : Int), rfl, by rw [decide_eq_true (by omega : (0 : Int) ≤ i), decide_eq_true (by rw [HE.out]; exact HM.out)], rfl⟩
      · have hb : (x == y) = false := beq_false_of_ne he
        have HE := Lib.hid he
        clear he
        go_wp2_with fail
        go_roundw
        case rel => exact ⟨i + 1, by go_num, by omega, by rw [HT.out, List.mem_append]; rintro (h | h); exact NI.out h; exact HE.out (List.mem_singleton.1 h), by first | rfl | trivial⟩
        case measure => simp [intOf]; omega
    · have hin : i = ids.length := by omega
      have hnx : decide (x ∈ ids) = false := decide_eq_false (by have := NI.out; rw [hin, List.take_length] at this; exact this)
      have HN := Lib.hid hnx
      subst hin
      clear hnx
      go_wp2_with fail
      go_ret
      exact ⟨-1, rfl, by rw [HN.out]; rfl, rfl⟩
set_option maxHeartbeats 4000000 in
theorem contains_any (ids : List Int) (x : Int) (A : Option Addr) (c : Nat) (D : Nat) (hl : Lies W D A (cellsZ ids)) (hm : ids.length ≤ maxLen) :
    Calls Try.prog 36 #[.slice A ids.length c, .int .i64 x] W fun e w' => e = .returned (.bool (decide (x ∈ ids))) ∧ W = w' := by
  have hi := index_any ids x A c D hl hm
  have HI := Lib.hid hi
  clear hl hm hi
  go_enter Try.func36, Try.ntmps36
  go_wp2_with (go_at_call 54; go_must (refine HI.out.mono ?_); rintro e w1 ⟨k, rfl, hk, rfl⟩; have HK := Lib.hid hk; clear hk)
  go_ret
  rw [← HK.out]
  exact ⟨rfl, rfl⟩
end
structure CmR where
  e : Int
  S : Dv
  m : Mt
  L : List Int
  put : Nat
  dead : Bool
def cmBad (n : Nat) (root count : Int) (ids : List Int) : Bool := !(keepsB n ids) || (decide (root ≠ 0) && !(decide (root ∈ ids))) || decide (count < 0) || decide (4611686018427387904 < count)
/-- what Commit answers, and how it leaves the file -/
def cmP (S : Dv) (m : Mt) (L : List Int) (put : Nat) (dead : Bool) (root count : Int) (mark : Nat) (ids : List Int) : CmR :=
  if dead = true then ⟨8, S, m, L, put, dead⟩
  else if cmBad (S.len nmP / 8) root count ids = true then ⟨1, S, m, L, put, dead⟩
  else if m.gen = 18446744073709551615 then ⟨11, S, m, L, put, dead⟩
  else
    let m' : Mt := ⟨m.gen + 1, root.toNat, count.toNat, mark⟩
    let r := storeP S m'
    if r.1 = 0 then (let k := keepsB (r.2.len nmP / 8) ids; ⟨if k = true then 0 else 1, r.2, m', if k = true then othP ids 2 (r.2.len nmP / 8 - 2) else L, if k = true then 0 else put, dead⟩)
    else ⟨r.1, r.2, m, L, put, true⟩
section
variable {B g fb put : Nat} {Y : Nat → Prop} {w0 W w' : World} {S S' : Dv} {m : Mt} {L : List Int} {dead : Bool}
set_option maxHeartbeats 8000000 in
theorem commit_any (h : FAt B g fb Y w0 S m L put dead W) (root count : Int) (mark : Nat) (ids : List Int) (A : Option Addr) (c : Nat) (hl : LiesP W (fun i => Y i ∨ i < B) A (cellsZ ids)) (hc1 : ids.length ≤ c) (hc2 : c ≤ maxLen) (h64 : In64 ids)
    (hr : -9223372036854775808 ≤ root ∧ root < 9223372036854775808) (hc : -9223372036854775808 ≤ count ∧ count < 9223372036854775808) (hmk : mark < 18446744073709551616) :
    Calls Try.prog 14 #[ptr fb, .int .i64 root, .int .i64 count, .int .u64 (mark : Int), .slice A ids.length c] W fun e w' => e = .returned (.int .i64 (cmP S m L put dead root count mark ids).e) ∧
      FAt B g fb Y w0 (cmP S m L put dead root count mark ids).S (cmP S m L put dead root count mark ids).m (cmP S m L put dead root count mark ids).L (cmP S m L put dead root count mark ids).put (cmP S m L put dead root count mark ids).dead w' ∧ KeptX Y W w' := by
  obtain ⟨Z, hat, hdis, hZ, v, hbox, hown, hZv⟩ := h.at_
  have hs := len_small hat
  obtain ⟨n, hn⟩ : ∃ n, S.len nmP / 8 = n := ⟨_, rfl⟩
  have hlo := h.lo
  obtain ⟨Av, cv, rfl, hcv1, hcv2⟩ := own_form hown
  obtain ⟨c0, c1, c2, c3, c4, c5, c6, c7⟩ := hbox.cells
  have hlt := Whole.lt hbox
  have H := Lib.hid h
  have hml : ids.length ≤ maxLen := Nat.le_trans hc1 hc2
  cases dead with
  | true =>
    have e : cmP S m L put true root count mark ids = ⟨8, S, m, L, put, true⟩ := by unfold cmP; rw [if_pos rfl]
    rw [e]
    clear h hat hdis hZ hbox hown hZv hs hn hl hlo
    go_enter Try.func14, Try.ntmps14
    go_wp2
    go_ret
    exact ⟨rfl, H.out, KeptX.refl' _ _⟩
  | false =>
    have hkp := keeps_any hbox hat n hn ids A c W.heap.size hl.lies h64 hml
    have hct := contains_any ids root A c W.heap.size hl.lies hml
    have HKP := Lib.hid hkp
    have HCT := Lib.hid hct
    have E0 : cmBad n root count ids = true → cmP S m L put false root count mark ids = ⟨1, S, m, L, put, false⟩ := fun hb => by
      unfold cmP
      rw [if_neg (by simp), hn, if_pos hb]
    have HE0 := Lib.hid E0
    clear hkp hct E0
    cases hkb : keepsB n ids with
    | false =>
      rw [hkb] at HKP
      have e := HE0.out (by unfold cmBad; rw [hkb]; rfl)
      rw [e]
      clear h hat hdis hZ hbox hown hZv hs hn hl hlo hkb e
      go_enter Try.func14, Try.ntmps14
      go_wp2_with (go_at_call 35; go_must (refine HKP.out.mono ?_); rintro e w1 ⟨rfl, rfl⟩)
      go_ret
      exact ⟨rfl, H.out, KeptX.refl' _ _⟩
    | true =>
      rw [hkb] at HKP
      -- BRANCHES
      have HKB := Lib.hid hkb
      have HAT := Lib.hid hat
      have HDI := Lib.hid hdis
      have HZF := Lib.hid hZ
      have HBX := Lib.hid hbox
      have HOW := Lib.hid hown
      have HZV := Lib.hid hZv
      have HLO := Lib.hid hlo
      have HL := Lib.hid hl
      have H64 := Lib.hid h64
      have HN := Lib.hid hn
      have HS := Lib.hid hs
      have HC1 := Lib.hid hc1
      have hrin : root ∈ ids → 2 ≤ root ∧ root < (n : Int) := fun hm => by
        obtain ⟨j, hj, hjr⟩ := List.getElem_of_mem hm
        have h1 := (of_decide_eq_true hkb) j hj
        have h2 : ids.getD j 0 = root := by rw [← hjr]; simp [List.getD, hj]
        rw [← h2]
        exact ⟨h1.1, h1.2.1⟩
      have HRI := Lib.hid hrin
      clear h hat hdis hZ hbox hown hZv hs hn hl hlo hkb hrin h64 hc1
      by_cases hrg : root = 0 ∨ root ∈ ids
      · have hrb : (decide (root ≠ 0) && !(decide (root ∈ ids))) = false := by
          rcases hrg with hrg | hrg
          · rw [hrg]; simp
          · rw [decide_eq_true hrg]; simp
        have HRB := Lib.hid hrb
        clear hrb
        obtain ⟨r, hrr⟩ : ∃ r : Nat, root = (r : Int) := by
          rcases hrg with hrg | hrg
          · exact ⟨0, hrg⟩
          · have := HRI.out hrg
            exact ⟨root.toNat, by omega⟩
        subst hrr
        by_cases hcn : count < 0
        · have HCN := Lib.hid hcn
          by_cases hr0 : r = 0
          · have hb0 : (((r : Nat) : Int) != 0) = false := by rw [hr0]; rfl
            have HR0 := Lib.hid hr0
            clear hr0
            have e := HE0.out (by unfold cmBad; rw [decide_eq_true HCN.out]; simp)
            rw [e]
            clear e
            go_enter Try.func14, Try.ntmps14
            go_wp2_with (first | (go_at_call 35; go_must (refine HKP.out.mono ?_); rintro e w1 ⟨rfl, rfl⟩) | (go_at_call 36; go_must (refine HCT.out.mono ?_); rintro e w1 ⟨rfl, rfl⟩))
            go_ret
            exact ⟨rfl, H.out, KeptX.refl' _ _⟩
          · have hb0 : (((r : Nat) : Int) != 0) = true := bne_iff_ne.2 (by omega)
            have hmem : ((r : Nat) : Int) ∈ ids := hrg.resolve_left (by omega)
            rw [decide_eq_true hmem] at HCT
            have HR0 := Lib.hid hr0
            clear hr0 hmem
            have e := HE0.out (by unfold cmBad; rw [decide_eq_true HCN.out]; simp)
            rw [e]
            clear e
            go_enter Try.func14, Try.ntmps14
            go_wp2_with (first | (go_at_call 35; go_must (refine HKP.out.mono ?_); rintro e w1 ⟨rfl, rfl⟩) | (go_at_call 36; go_must (refine HCT.out.mono ?_); rintro e w1 ⟨rfl, rfl⟩))
            go_ret
            exact ⟨rfl, H.out, KeptX.refl' _ _⟩
        · by_cases hcg : 4611686018427387904 < count
          · have HCG := Lib.hid hcg
            by_cases hr0 : r = 0
            · have hb0 : (((r : Nat) : Int) != 0) = false := by rw [hr0]; rfl
              have HR0 := Lib.hid hr0
              clear hr0
              have e := HE0.out (by unfold cmBad; rw [decide_eq_true HCG.out]; simp)
              rw [e]
              clear e
              go_enter Try.func14, Try.ntmps14
              go_wp2_with (first | (go_at_call 35; go_must (refine HKP.out.mono ?_); rintro e w1 ⟨rfl, rfl⟩) | (go_at_call 36; go_must (refine HCT.out.mono ?_); rintro e w1 ⟨rfl, rfl⟩))
              go_ret
              exact ⟨rfl, H.out, KeptX.refl' _ _⟩
            · have hb0 : (((r : Nat) : Int) != 0) = true := bne_iff_ne.2 (by omega)
              have hmem : ((r : Nat) : Int) ∈ ids := hrg.resolve_left (by omega)
              rw [decide_eq_true hmem] at HCT
              have HR0 := Lib.hid hr0
              clear hr0 hmem
              have e := HE0.out (by unfold cmBad; rw [decide_eq_true HCG.out]; simp)
              rw [e]
              clear e
              go_enter Try.func14, Try.ntmps14
              go_wp2_with (first | (go_at_call 35; go_must (refine HKP.out.mono ?_); rintro e w1 ⟨rfl, rfl⟩) | (go_at_call 36; go_must (refine HCT.out.mono ?_); rintro e w1 ⟨rfl, rfl⟩))
              go_ret
              exact ⟨rfl, H.out, KeptX.refl' _ _⟩
          · obtain ⟨k, hk⟩ : ∃ k : Nat, count = (k : Int) := ⟨count.toNat, by omega⟩
            subst hk
            have hcb : cmBad n (r : Int) (k : Int) ids = false := by unfold cmBad; rw [HKB.out, HRB.out, decide_eq_false hcn, decide_eq_false hcg]; rfl
            have HCB := Lib.hid hcb
            clear hcb
            by_cases hgm : m.gen = 18446744073709551615
            · have E : cmP S m L put false (r : Int) (k : Int) mark ids = ⟨11, S, m, L, put, false⟩ := by unfold cmP; rw [if_neg (by simp), HN.out, if_neg (by rw [HCB.out]; simp), if_pos hgm]
              have hgb : ((m.gen : Int) == 18446744073709551615) = true := by rw [hgm]; rfl
              rw [E]
              clear E hgm
              by_cases hr0 : r = 0
              · have hb0 : (((r : Nat) : Int) != 0) = false := by rw [hr0]; rfl
                have HR0 := Lib.hid hr0
                clear hr0
                go_enter Try.func14, Try.ntmps14
                go_wp2_with (first | (go_at_call 35; go_must (refine HKP.out.mono ?_); rintro e w1 ⟨rfl, rfl⟩) | (go_at_call 36; go_must (refine HCT.out.mono ?_); rintro e w1 ⟨rfl, rfl⟩))
                go_ret
                exact ⟨rfl, H.out, KeptX.refl' _ _⟩
              · have hb0 : (((r : Nat) : Int) != 0) = true := bne_iff_ne.2 (by omega)
                have hmem : ((r : Nat) : Int) ∈ ids := hrg.resolve_left (by omega)
                rw [decide_eq_true hmem] at HCT
                have HR0 := Lib.hid hr0
                clear hr0 hmem
                go_enter Try.func14, Try.ntmps14
                go_wp2_with (first | (go_at_call 35; go_must (refine HKP.out.mono ?_); rintro e w1 ⟨rfl, rfl⟩) | (go_at_call 36; go_must (refine HCT.out.mono ?_); rintro e w1 ⟨rfl, rfl⟩))
                go_ret
                exact ⟨rfl, H.out, KeptX.refl' _ _⟩
            · have hgb : ((m.gen : Int) == 18446744073709551615) = false := beq_false_of_ne (by omega)
              have hgl : m.gen < 18446744073709551616 := HLO.out.1.1
              have hwg : IntKind.u64.wrap ((m.gen : Int) + 1) = ((m.gen + 1 : Nat) : Int) := by rw [IntWalk.u64_in _ ⟨by omega, by omega⟩]; omega
              obtain ⟨m', hm'⟩ : ∃ m' : Mt, m' = ⟨m.gen + 1, r, k, mark⟩ := ⟨_, rfl⟩
              have hlo' : m'.lo := by rw [hm']; exact ⟨⟨by show m.gen + 1 < _; omega, by show r < _; omega, by show k < _; omega, hmk⟩, by show r < _; omega, by show k < _; omega⟩
              obtain ⟨e3, S3, h3⟩ : ∃ e3 S3, storeP S m' = (e3, S3) := ⟨_, _, rfl⟩
              obtain ⟨n3, hn3⟩ : ∃ n3, S3.len nmP / 8 = n3 := ⟨_, rfl⟩
              have E : cmP S m L put false (r : Int) (k : Int) mark ids = if e3 = 0 then ⟨if keepsB n3 ids = true then 0 else 1, S3, m', if keepsB n3 ids = true then othP ids 2 (n3 - 2) else L, if keepsB n3 ids = true then 0 else put, false⟩ else ⟨e3, S3, m, L, put, true⟩ := by
                unfold cmP
                rw [if_neg (by simp), HN.out, if_neg (by rw [HCB.out]; simp), if_neg hgm, Int.toNat_natCast, Int.toNat_natCast]
                simp only [← hm', h3, hn3]
              have HE := Lib.hid E
              have hst := fun (X : Nat → Prop) (W : World) (hh : At B X w0 g S W) => store_any hh m' hlo'.1 hlo'.2.1 hlo'.2.2
              rw [h3] at hst
              have hmv : m'.gen = m.gen + 1 ∧ m'.root = r ∧ m'.count = k ∧ m'.mark = mark := by rw [hm']; exact ⟨rfl, rfl, rfl, rfl⟩
              simp only [hmv.1, hmv.2.1, hmv.2.2.1, hmv.2.2.2] at hst
              have HST := Lib.hid hst
              have HMV := Lib.hid hmv
              have HL3 := Lib.hid hlo'
              have HN3 := Lib.hid hn3
              clear E hst hmv hm' h3 hlo' hn3 hgm
              by_cases hr0 : r = 0
              · have hb0 : (((r : Nat) : Int) != 0) = false := by rw [hr0]; rfl
                have HR0 := Lib.hid hr0
                clear hr0
                go_enter Try.func14, Try.ntmps14
                go_upto_region 11 with (first | (go_at_call 35; go_must (refine HKP.out.mono ?_); rintro e w1 ⟨rfl, rfl⟩) | (go_at_call 36; go_must (refine HCT.out.mono ?_); rintro e w1 ⟨rfl, rfl⟩))
                obtain ⟨b1, hb1⟩ : ∃ b1, b1 = W.heap.size := ⟨_, rfl⟩
                rw [← hb1]
                have hX1 : Hid (¬ (Y b1 ∨ Z b1)) := Lib.hid (fun e => by have := (HAT.out.xs b1 e).2; omega)
                refine wp_ren (fun W' => At B (fun i => (Y i ∨ Z i) ∨ i = b1) w0 g S W' ∧ KeptX (fun i => Y i ∨ Z i) W W' ∧ Whole W' b1 38 #[.int .u64 ((m.gen + 1 : Nat) : Int), .int .i64 (r : Int), .int .i64 (k : Int), .int .u64 (mark : Int)] ∧ FBox W' fb g m (.slice Av L.length cv) put false) ⟨by rw [hb1]; exact HAT.out.own _, (HAT.out.below ((Below.refl _ _).alloc (Nat.le_refl _) _)).2, by rw [hb1]; exact Whole.new _ _ _, HBX.out.alloc _⟩ ?_
                rintro W1 ⟨a1, k1, v1, x1⟩
                have A1 := Lib.hid (a1.drewN 1)
                have K1 := Lib.hid k1
                have V1 : Hid (Whole W1.drew b1 38 #[.int .u64 ((m.gen + 1 : Nat) : Int), .int .i64 (r : Int), .int .i64 (k : Int), .int .u64 (mark : Int)]) := Lib.hid v1
                have X1 : Hid (FBox W1.drew fb g m (.slice Av L.length cv) put false) := Lib.hid x1
                obtain ⟨p0, p1, p2, p3⟩ := four9 v1
                obtain ⟨c0, c1, c2, c3, c4, c5, c6, c7⟩ := x1.cells
                clear a1 k1 v1 x1 hb1
                go_region_held (fun w' => w'.cell? ⟨fb, 0, none⟩ = some (ptr g) ∧ w'.cell? ⟨b1, 0, none⟩ = some (.int .u64 ((m.gen + 1 : Nat) : Int)) ∧ w'.cell? ⟨b1, 1, none⟩ = some (.int .i64 (r : Int)) ∧ w'.cell? ⟨b1, 2, none⟩ = some (.int .i64 (k : Int)) ∧ w'.cell? ⟨b1, 3, none⟩ = some (.int .u64 (mark : Int))) (exact ⟨c0, p0, p1, p2, p3⟩) (first | (go_at_call 37; go_must (refine (HST.out _ _ A1.out).mono ?_); rintro e w2 ⟨rfl, a2, k2⟩; have A2 := Lib.hid a2; have K2 := Lib.hid k2; have V2 := Lib.hid (V1.out.kept k2 (.inr rfl)); have X2 : Hid (FBox w2 fb g m (.slice Av L.length cv) put false) := Lib.hid (Whole.kept X1.out k2 (.inl (.inr HZF.out))); obtain ⟨p0, p1, p2, p3⟩ := four9 V2.out; obtain ⟨c0, c1, c2, c3, c4, c5, c6, c7⟩ := X2.out.cells; clear a2 k2))
                have K3 : Hid (KeptX (fun i => Y i ∨ Z i) W w2) := Lib.hid (K1.out.trans' ⟨fun i hi => K2.out.1 i (.inl hi), K2.out.2⟩)
                have A3 : Hid (At B (fun i => Y i ∨ Z i) w0 g S3 w2) := Lib.hid (A2.out.less (fun i hi => .inl hi))
                have O3 : Hid (w2.ownsRow 0 3 1 (.slice Av L.length cv) L.length (cellsZ L)) := Lib.hid (own_block HOW.out (fun i hi => K3.out.1 i (.inr (HZV.out i hi))))
                have hbv : Hid (some fb ≠ (Value.slice Av L.length cv).ownBlock) := Lib.hid (whole_apart HBX.out HOW.out (by decide))
                clear A1 K1 V1 X1 K2 A2
                by_cases he3 : e3 = 0
                · subst he3
                  have f1 := Whole.frozen X2.out 1
                  have f2 := Whole.frozen X2.out 2
                  have f3 := Whole.frozen X2.out 3
                  have f4 := Whole.frozen X2.out 4
                  have hx4 : FBox ((((w2.setCell ⟨fb, 1, none⟩ (.int .u64 ((m.gen + 1 : Nat) : Int))).setCell ⟨fb, 2, none⟩ (.int .i64 (r : Int))).setCell ⟨fb, 3, none⟩ (.int .i64 (k : Int))).setCell ⟨fb, 4, none⟩ (.int .u64 (mark : Int))) fb g m' (.slice Av L.length cv) put false := by
                    have h1 := HMV.out
                    unfold FBox
                    rw [h1.1, h1.2.1, h1.2.2.1, h1.2.2.2]
                    exact Whole.put (Whole.put (Whole.put (Whole.put X2.out 1 _) 2 _) 3 _) 4 _
                  have hoth : ∀ i, i ≠ fb → ((((w2.setCell ⟨fb, 1, none⟩ (.int .u64 ((m.gen + 1 : Nat) : Int))).setCell ⟨fb, 2, none⟩ (.int .i64 (r : Int))).setCell ⟨fb, 3, none⟩ (.int .i64 (k : Int))).setCell ⟨fb, 4, none⟩ (.int .u64 (mark : Int))).heap[i]? = w2.heap[i]? := fun i hi => by
                    rw [Below.heap_setCell _ ⟨fb, 4, none⟩ _ _ hi, Below.heap_setCell _ ⟨fb, 3, none⟩ _ _ hi, Below.heap_setCell _ ⟨fb, 2, none⟩ _ _ hi, Below.heap_setCell _ ⟨fb, 1, none⟩ _ _ hi]
                  have hF : FAt B g fb Y w0 S3 m' L put false ((((w2.setCell ⟨fb, 1, none⟩ (.int .u64 ((m.gen + 1 : Nat) : Int))).setCell ⟨fb, 2, none⟩ (.int .i64 (r : Int))).setCell ⟨fb, 3, none⟩ (.int .i64 (k : Int))).setCell ⟨fb, 4, none⟩ (.int .u64 (mark : Int))) :=
                    ⟨⟨Z, (((A3.out.cell fb 1 (.inr HZF.out) _).cell fb 2 (.inr HZF.out) _).cell fb 3 (.inr HZF.out) _).cell fb 4 (.inr HZF.out) _, HDI.out, HZF.out, _, hx4, own_block O3.out (fun i hi => hoth i (ne_of_own hbv.out hi)), HZV.out⟩, HL3.out, H.out.num, H.out.putle⟩
                  have hK : KeptX Y W ((((w2.setCell ⟨fb, 1, none⟩ (.int .u64 ((m.gen + 1 : Nat) : Int))).setCell ⟨fb, 2, none⟩ (.int .i64 (r : Int))).setCell ⟨fb, 3, none⟩ (.int .i64 (k : Int))).setCell ⟨fb, 4, none⟩ (.int .u64 (mark : Int))) := ⟨fun i hi => (hoth i (ne_of_dis HDI.out HZF.out hi)).trans (K3.out.1 i (.inl hi)), by simpa using K3.out.2⟩
                  have hkp := keep_any hF n3 HN3.out ids A c _ (H.out.lies hF hK HL.out).lies (Nat.le_refl _) HC1.out hc2 H64.out
                  obtain ⟨q, hq⟩ : ∃ q : Int, q = if keepsB n3 ids = true then 0 else 1 := ⟨_, rfl⟩
                  rw [← hq] at hkp
                  have HQ := Lib.hid hq
                  clear hq
                  have HK4 := Lib.hid hK
                  have HKP4 := Lib.hid hkp
                  clear hx4 hoth hF hK hkp HKP HCT
                  go_wp2_with (go_at_call 19; go_must (refine HKP4.out.mono ?_); rintro e w4 ⟨rfl, a4, k4⟩; have A4 := Lib.hid a4; have K4 := Lib.hid (HK4.out.trans' k4); clear a4 k4)
                  go_ret
                  have E := HE.out
                  simp only [eq_self, if_true] at E
                  rw [E]
                  exact ⟨by show Ending.returned (.int .i64 q) = _; rw [HQ.out], A4.out, K4.out⟩
                · have hen : (e3 == 0) = false := beq_false_of_ne he3
                  have f7 := Whole.frozen X2.out 7
                  go_wp2_with fail
                  go_ret
                  have E := HE.out
                  simp only [if_false, he3] at E
                  rw [E]
                  refine ⟨rfl, ⟨⟨Z, A3.out.cell fb 7 (.inr HZF.out) _, HDI.out, HZF.out, _, Whole.put X2.out 7 _, own_block O3.out (fun i hi => Below.heap_setCell _ ⟨fb, 7, none⟩ _ _ (ne_of_own hbv.out hi)), HZV.out⟩, HLO.out, H.out.num, H.out.putle⟩, fun i hi => (Below.heap_setCell _ ⟨fb, 7, none⟩ _ _ (ne_of_dis HDI.out HZF.out hi)).trans (K3.out.1 i (.inl hi)), by simpa using K3.out.2⟩
              · have hb0 : (((r : Nat) : Int) != 0) = true := bne_iff_ne.2 (by omega)
                have hmem : ((r : Nat) : Int) ∈ ids := hrg.resolve_left (by omega)
                rw [decide_eq_true hmem] at HCT
                have HR0 := Lib.hid hr0
                clear hr0 hmem
                go_enter Try.func14, Try.ntmps14
                go_upto_region 11 with (first | (go_at_call 35; go_must (refine HKP.out.mono ?_); rintro e w1 ⟨rfl, rfl⟩) | (go_at_call 36; go_must (refine HCT.out.mono ?_); rintro e w1 ⟨rfl, rfl⟩))
                obtain ⟨b1, hb1⟩ : ∃ b1, b1 = W.heap.size := ⟨_, rfl⟩
                rw [← hb1]
                have hX1 : Hid (¬ (Y b1 ∨ Z b1)) := Lib.hid (fun e => by have := (HAT.out.xs b1 e).2; omega)
                refine wp_ren (fun W' => At B (fun i => (Y i ∨ Z i) ∨ i = b1) w0 g S W' ∧ KeptX (fun i => Y i ∨ Z i) W W' ∧ Whole W' b1 38 #[.int .u64 ((m.gen + 1 : Nat) : Int), .int .i64 (r : Int), .int .i64 (k : Int), .int .u64 (mark : Int)] ∧ FBox W' fb g m (.slice Av L.length cv) put false) ⟨by rw [hb1]; exact HAT.out.own _, (HAT.out.below ((Below.refl _ _).alloc (Nat.le_refl _) _)).2, by rw [hb1]; exact Whole.new _ _ _, HBX.out.alloc _⟩ ?_
                rintro W1 ⟨a1, k1, v1, x1⟩
                have A1 := Lib.hid (a1.drewN 1)
                have K1 := Lib.hid k1
                have V1 : Hid (Whole W1.drew b1 38 #[.int .u64 ((m.gen + 1 : Nat) : Int), .int .i64 (r : Int), .int .i64 (k : Int), .int .u64 (mark : Int)]) := Lib.hid v1
                have X1 : Hid (FBox W1.drew fb g m (.slice Av L.length cv) put false) := Lib.hid x1
                obtain ⟨p0, p1, p2, p3⟩ := four9 v1
                obtain ⟨c0, c1, c2, c3, c4, c5, c6, c7⟩ := x1.cells
                clear a1 k1 v1 x1 hb1
                go_region_held (fun w' => w'.cell? ⟨fb, 0, none⟩ = some (ptr g) ∧ w'.cell? ⟨b1, 0, none⟩ = some (.int .u64 ((m.gen + 1 : Nat) : Int)) ∧ w'.cell? ⟨b1, 1, none⟩ = some (.int .i64 (r : Int)) ∧ w'.cell? ⟨b1, 2, none⟩ = some (.int .i64 (k : Int)) ∧ w'.cell? ⟨b1, 3, none⟩ = some (.int .u64 (mark : Int))) (exact ⟨c0, p0, p1, p2, p3⟩) (first | (go_at_call 37; go_must (refine (HST.out _ _ A1.out).mono ?_); rintro e w2 ⟨rfl, a2, k2⟩; have A2 := Lib.hid a2; have K2 := Lib.hid k2; have V2 := Lib.hid (V1.out.kept k2 (.inr rfl)); have X2 : Hid (FBox w2 fb g m (.slice Av L.length cv) put false) := Lib.hid (Whole.kept X1.out k2 (.inl (.inr HZF.out))); obtain ⟨p0, p1, p2, p3⟩ := four9 V2.out; obtain ⟨c0, c1, c2, c3, c4, c5, c6, c7⟩ := X2.out.cells; clear a2 k2))
                have K3 : Hid (KeptX (fun i => Y i ∨ Z i) W w2) := Lib.hid (K1.out.trans' ⟨fun i hi => K2.out.1 i (.inl hi), K2.out.2⟩)
                have A3 : Hid (At B (fun i => Y i ∨ Z i) w0 g S3 w2) := Lib.hid (A2.out.less (fun i hi => .inl hi))
                have O3 : Hid (w2.ownsRow 0 3 1 (.slice Av L.length cv) L.length (cellsZ L)) := Lib.hid (own_block HOW.out (fun i hi => K3.out.1 i (.inr (HZV.out i hi))))
                have hbv : Hid (some fb ≠ (Value.slice Av L.length cv).ownBlock) := Lib.hid (whole_apart HBX.out HOW.out (by decide))
                clear A1 K1 V1 X1 K2 A2
                by_cases he3 : e3 = 0
                · subst he3
                  have f1 := Whole.frozen X2.out 1
                  have f2 := Whole.frozen X2.out 2
                  have f3 := Whole.frozen X2.out 3
                  have f4 := Whole.frozen X2.out 4
                  have hx4 : FBox ((((w2.setCell ⟨fb, 1, none⟩ (.int .u64 ((m.gen + 1 : Nat) : Int))).setCell ⟨fb, 2, none⟩ (.int .i64 (r : Int))).setCell ⟨fb, 3, none⟩ (.int .i64 (k : Int))).setCell ⟨fb, 4, none⟩ (.int .u64 (mark : Int))) fb g m' (.slice Av L.length cv) put false := by
                    have h1 := HMV.out
                    unfold FBox
                    rw [h1.1, h1.2.1, h1.2.2.1, h1.2.2.2]
                    exact Whole.put (Whole.put (Whole.put (Whole.put X2.out 1 _) 2 _) 3 _) 4 _
                  have hoth : ∀ i, i ≠ fb → ((((w2.setCell ⟨fb, 1, none⟩ (.int .u64 ((m.gen + 1 : Nat) : Int))).setCell ⟨fb, 2, none⟩ (.int .i64 (r : Int))).setCell ⟨fb, 3, none⟩ (.int .i64 (k : Int))).setCell ⟨fb, 4, none⟩ (.int .u64 (mark : Int))).heap[i]? = w2.heap[i]? := fun i hi => by
                    rw [Below.heap_setCell _ ⟨fb, 4, none⟩ _ _ hi, Below.heap_setCell _ ⟨fb, 3, none⟩ _ _ hi, Below.heap_setCell _ ⟨fb, 2, none⟩ _ _ hi, Below.heap_setCell _ ⟨fb, 1, none⟩ _ _ hi]
                  have hF : FAt B g fb Y w0 S3 m' L put false ((((w2.setCell ⟨fb, 1, none⟩ (.int .u64 ((m.gen + 1 : Nat) : Int))).setCell ⟨fb, 2, none⟩ (.int .i64 (r : Int))).setCell ⟨fb, 3, none⟩ (.int .i64 (k : Int))).setCell ⟨fb, 4, none⟩ (.int .u64 (mark : Int))) :=
                    ⟨⟨Z, (((A3.out.cell fb 1 (.inr HZF.out) _).cell fb 2 (.inr HZF.out) _).cell fb 3 (.inr HZF.out) _).cell fb 4 (.inr HZF.out) _, HDI.out, HZF.out, _, hx4, own_block O3.out (fun i hi => hoth i (ne_of_own hbv.out hi)), HZV.out⟩, HL3.out, H.out.num, H.out.putle⟩
                  have hK : KeptX Y W ((((w2.setCell ⟨fb, 1, none⟩ (.int .u64 ((m.gen + 1 : Nat) : Int))).setCell ⟨fb, 2, none⟩ (.int .i64 (r : Int))).setCell ⟨fb, 3, none⟩ (.int .i64 (k : Int))).setCell ⟨fb, 4, none⟩ (.int .u64 (mark : Int))) := ⟨fun i hi => (hoth i (ne_of_dis HDI.out HZF.out hi)).trans (K3.out.1 i (.inl hi)), by simpa using K3.out.2⟩
                  have hkp := keep_any hF n3 HN3.out ids A c _ (H.out.lies hF hK HL.out).lies (Nat.le_refl _) HC1.out hc2 H64.out
                  obtain ⟨q, hq⟩ : ∃ q : Int, q = if keepsB n3 ids = true then 0 else 1 := ⟨_, rfl⟩
                  rw [← hq] at hkp
                  have HQ := Lib.hid hq
                  clear hq
                  have HK4 := Lib.hid hK
                  have HKP4 := Lib.hid hkp
                  clear hx4 hoth hF hK hkp HKP HCT
                  go_wp2_with (go_at_call 19; go_must (refine HKP4.out.mono ?_); rintro e w4 ⟨rfl, a4, k4⟩; have A4 := Lib.hid a4; have K4 := Lib.hid (HK4.out.trans' k4); clear a4 k4)
                  go_ret
                  have E := HE.out
                  simp only [eq_self, if_true] at E
                  rw [E]
                  exact ⟨by show Ending.returned (.int .i64 q) = _; rw [HQ.out], A4.out, K4.out⟩
                · have hen : (e3 == 0) = false := beq_false_of_ne he3
                  have f7 := Whole.frozen X2.out 7
                  go_wp2_with fail
                  go_ret
                  have E := HE.out
                  simp only [if_false, he3] at E
                  rw [E]
                  refine ⟨rfl, ⟨⟨Z, A3.out.cell fb 7 (.inr HZF.out) _, HDI.out, HZF.out, _, Whole.put X2.out 7 _, own_block O3.out (fun i hi => Below.heap_setCell _ ⟨fb, 7, none⟩ _ _ (ne_of_own hbv.out hi)), HZV.out⟩, HLO.out, H.out.num, H.out.putle⟩, fun i hi => (Below.heap_setCell _ ⟨fb, 7, none⟩ _ _ (ne_of_dis HDI.out HZF.out hi)).trans (K3.out.1 i (.inl hi)), by simpa using K3.out.2⟩
      · have hrn : ¬ root = 0 := fun e => hrg (.inl e)
        have hrm : ¬ root ∈ ids := fun e => hrg (.inr e)
        have hb0 : (root != 0) = true := bne_iff_ne.2 hrn
        rw [decide_eq_false hrm] at HCT
        have HRM := Lib.hid hrm
        have HRN := Lib.hid hrn
        clear hrn hrm hrg
        have e := HE0.out (by unfold cmBad; rw [HKB.out, decide_eq_true (show root ≠ 0 from HRN.out), decide_eq_false HRM.out]; rfl)
        rw [e]
        clear e
        go_enter Try.func14, Try.ntmps14
        go_wp2_with (first | (go_at_call 35; go_must (refine HKP.out.mono ?_); rintro e w1 ⟨rfl, rfl⟩) | (go_at_call 36; go_must (refine HCT.out.mono ?_); rintro e w1 ⟨rfl, rfl⟩))
        go_ret
        exact ⟨rfl, H.out, KeptX.refl' _ _⟩
end
end Go.Proofs.Ytcmffifehpbjnaa
