/- Layer 9: a file's metas, as the statement builds them. -/
import Derived.Test.YtlmnjieonhjhcaaPageRo
import Derived.Lib.BufferWrite
import Derived.BigFrame
import Derived.Deep.MidRow
namespace Go.Proofs.Ytlmnjieonhjhcaa
open Go.RowKit Go.Maps
set_option maxRecDepth 100000
set_option linter.unusedSimpArgs false
set_option linter.unusedVariables false
/-- a number's i-th octet of eight -/
def oc8 (x i : Nat) : UInt8 := UInt8.ofNat (x / 2 ^ (8 * (7 - i)))
def wantF (g c k j p : Nat) : UInt8 :=
  if p < 8 then titleB.getD p 0 else if p < 8 + j then oc8 g (p - 8) else if p < 24 then 0 else if p < 24 + j then oc8 c (p - 24) else if p < 32 then 0 else if p < 32 + j then oc8 k (p - 32) else 0
def wantS (g c k j : Nat) : Sec := ⟨(List.range 64).map (wantF g c k j), by simp⟩
theorem wantS_get (g c k j p : Nat) : (csF (wantS g c k j))[p]? = if p < 64 then some (.int .u8 ((wantF g c k j p).toNat : Int)) else none := by
  simp only [csF, B8, wantS, List.map_map, List.getElem?_toArray, List.getElem?_map]
  by_cases h : p < 64
  · rw [if_pos h, List.getElem?_range h]
    rfl
  · rw [if_neg h, List.getElem?_eq_none (by simpa using h)]
    rfl
theorem wantF_step (g c k j p : Nat) (hj : j < 8) : wantF g c k (j + 1) p = if p = 32 + j then oc8 k j else if p = 24 + j then oc8 c j else if p = 8 + j then oc8 g j else wantF g c k j p := by
  unfold wantF
  by_cases h1 : p = 32 + j
  · subst h1
    rw [if_pos rfl, if_neg (by omega), if_neg (by omega), if_neg (by omega), if_neg (by omega), if_neg (by omega), if_pos (by omega), show 32 + j - 32 = j by omega]
  · rw [if_neg h1]
    by_cases h2 : p = 24 + j
    · subst h2
      rw [if_pos rfl, if_neg (by omega), if_neg (by omega), if_neg (by omega), if_pos (by omega), show 24 + j - 24 = j by omega]
    · rw [if_neg h2]
      by_cases h3 : p = 8 + j
      · subst h3
        rw [if_pos rfl, if_neg (by omega), if_pos (by omega), show 8 + j - 8 = j by omega]
      · rw [if_neg h3]
        repeat' split
        all_goals first | rfl | omega
theorem oc8_int (x i : Nat) : (((oc8 x i).toNat : Nat) : Int) = (x : Int) / 2 ^ (8 * (7 - i)) % 256 := (oct_cast x _).symm
theorem wantS_step (g c k j : Nat) (hj : j < 8) : (((csF (wantS g c k j)).setIfInBounds (8 + j) (.int .u8 ((oc8 g j).toNat : Int))).setIfInBounds (24 + j) (.int .u8 ((oc8 c j).toNat : Int))).setIfInBounds (32 + j) (.int .u8 ((oc8 k j).toNat : Int)) = csF (wantS g c k (j + 1)) := by
  apply Array.ext_getElem?
  intro p
  rw [wantS_get, Array.getElem?_setIfInBounds, Array.getElem?_setIfInBounds, Array.getElem?_setIfInBounds, wantS_get]
  simp only [Array.size_setIfInBounds, csF_size]
  rw [wantF_step g c k j p hj]
  by_cases h1 : 32 + j = p
  · subst h1; simp
  · by_cases h2 : 24 + j = p
    · subst h2; simp [h1]
    · by_cases h3 : 8 + j = p
      · subst h3; simp [h1, h2]
      · simp [h1, h2, h3, Ne.symm h1, Ne.symm h2, Ne.symm h3]
theorem wantS_all (g c k : Nat) : wantS g c k 8 = secM ⟨g, 0, c, k⟩ := by
  apply Subtype.ext
  show (List.range 64).map (wantF g c k 8) = metaB ⟨g, 0, c, k⟩ ++ List.replicate 24 0
  have hz : be 8 0 = List.replicate 8 0 := by decide
  unfold metaB
  rw [hz]
  rfl
def titleS : ByteArray := ⟨#[119, 97, 121, 98, 105, 108, 108, 49]⟩
theorem title_row (g c k : Nat) : ((csF zSec).toList.take 0 ++ Lib.byteCells titleS.data.toList ++ (csF zSec).toList.drop (0 + titleS.size)).toArray = csF (wantS g c k 0) := by rfl
theorem wpList_copy_str {P : Program} {w : World} {ops : Array Oper} {rest : List Oper} {o : Oper} {a : Act} {Q : Exit → Act → World → Prop} (hgd : o.guard = none) (d s : Operand) (dT sT : TypeId)
    (ho : o.op = .call { callee := .builtin .copy, args := #[d, s], argTypes := #[dT, sT] }) (elem : TypeId) (hu : P.underlying dT = some (.slice elem)) (hsz : (P.info? elem).map (·.size) = some 1)
    (g off dLen dCap : Nat) (str : ByteArray) (hd : a.eval d = .slice (some ⟨g, off, none⟩) dLen dCap) (hs : a.eval s = .string str) (cur : Array Value) (t : TypeId) (hg : w.heap[g]? = some (.cells cur t (0, 0))) (hle : str.size ≤ dLen) (hfit : off + str.size ≤ cur.size)
    (h : wpList P ops Q rest (a.put o.dst (goInt str.size)) (w.setRow g (cur.toList.take off ++ Lib.byteCells str.data.toList ++ cur.toList.drop (off + str.size)).toArray)) : wpList P ops Q (o :: rest) a w := by
  refine wpList_plain hgd fun K hK => ?_
  have hrun := Lib.run_copy_row_string w dT sT o.type elem g off dLen dCap str cur t hu hsz hg hle hfit
  unfold Oper.wp execOp
  simp only [ho, resolve, invoke, builtin, Sem.run_bind, Sem.run_pure, Result.andThen_ok, List.map_toArray, List.map_cons, List.map_nil, hs, hd, hrun]
  exact hK _ _ h
theorem u64_wrap9 (x : Int) : IntKind.u64.wrap x = x % 18446744073709551616 := by
  unfold IntKind.wrap
  simp [IntKind.signed, IntKind.bits, IntKind.min, IntKind.max]
theorem open16 {B g mo : Nat} {Y : Nat → Prop} {w0 W : World} (h : At B Y w0 g ⟨mo, -1, []⟩ W) (hr : 16 ≤ mo) (hm : mo ≤ 100000) :
    Calls Try.prog 10 #[ptr g] W fun e w' => ∃ fb, e = .returned (.tuple #[ptr fb, .int .i64 0]) ∧ PAt B g fb mo Y w0 none (some ⟨1, 0, 0, 0⟩) [] ⟨1, 0, 0, 0⟩ [] 0 w' ∧ Calls Try.prog 27 #[ptr g, .string ⟨#[112]⟩] w' fun e w'' => e = .returned (.int .i64 16) ∧ w' = w'' := by
  have hmk : pMake ⟨mo, -1, []⟩ nmP = (0, one mo (-1) nmP newF) := by rfl
  obtain ⟨F1, e, e1, e2, e3⟩ := wp_some mo 0 [] 8 0 newF (by show 0 ≤ _; omega) (by omega)
  have hl0 : newF.l.length = 0 := rfl
  obtain ⟨F2, g', g1, g2, g3⟩ := wp_some mo 1 (secM ⟨1, 0, 0, 0⟩).1 8 0 F1 (by omega) (by omega)
  have h16 : F2.l.length = 16 := by rw [g1, e1, hl0]; omega
  clear e1 g1 e3 g3 e2 g2
  have hf : fillP (one mo (-1) nmP newF) = (0, one mo (-1) nmP F2) := by
    unfold fillP
    rw [e, if_pos rfl]
    exact g'
  have hcr : createP ⟨mo, -1, []⟩ = (0, one mo (-1) nmP F2) := by
    unfold createP
    rw [hmk, if_pos rfl, hf, if_pos rfl]
  obtain ⟨S1, c1, hpd⟩ := PD.create hr hm
  rw [hcr] at c1
  obtain rfl : one mo (-1) nmP F2 = S1 := (Prod.mk.inj c1).2
  have hsy : pSync (one mo (-1) nmP F2) nmP = (0, one mo (-1) nmP (syF F2)) := one_sync (by omega)
  obtain ⟨S2, c2, hpd2⟩ := hpd.sync
  rw [hsy] at c2
  obtain rfl : one mo (-1) nmP (syF F2) = S2 := (Prod.mk.inj c2).2
  have hn : newP (one mo (-1) nmP (syF F2)) = ⟨1, 0, 0, 0⟩ := by
    rw [hpd2.new (fun m hm => by cases hm) (fun m hm => by cases hm; exact ⟨by decide, by decide, by decide, by decide⟩)]
    rfl
  have hop : openP ⟨mo, -1, []⟩ = (0, one mo (-1) nmP (syF F2)) := by
    unfold openP
    rw [hcr]
    simp only [hsy, hn]
    rfl
  refine (open_any h (by show 0 < 1000000; omega)).mono ?_
  rintro e w' ⟨vp, r1, r2, r3, r4⟩
  rw [hop] at r1 r2
  obtain ⟨fb, rfl, hfb, hfa⟩ := r2 rfl
  simp only [hn] at hfa
  exact ⟨fb, r1, ⟨_, hpd2, hfa⟩, at_len hfa.dev nmP (by show 1 ≤ maxLen; unfold maxLen; omega) 16 (by rw [one_len, syF_length]; exact h16)⟩
/-- the meta behind i Commits -/
def mtK (mk i : Nat) : Mt := if i = 0 then ⟨1, 0, 0, 0⟩ else ⟨i + 1, 0, i - 1, (mk + (i - 1)) % 18446744073709551616⟩
def paQ (a0 a1 : Option Mt) (q : Nat) : Option Mt := if q % 2 = 0 then a0 else a1
def MtQ (mk i : Nat) (a0 a1 : Option Mt) : Prop := paQ a0 a1 (i + 1) = some (mtK mk i) ∧ paQ a0 a1 i = if i = 0 then none else some (mtK mk (i - 1))
theorem mtQ_zero (mk : Nat) : MtQ mk 0 none (some ⟨1, 0, 0, 0⟩) := ⟨rfl, rfl⟩
theorem mtK_gen (mk i : Nat) : (mtK mk i).gen = i + 1 := by unfold mtK; split <;> simp_all
theorem mtQ_next {mk i : Nat} {a0 a1 : Option Mt} (h : MtQ mk i a0 a1) : MtQ mk (i + 1) (st0 a0 (mtK mk (i + 1))) (st1 a1 (mtK mk (i + 1))) := by
  obtain ⟨h1, h2⟩ := h
  unfold MtQ paQ st0 st1 at *
  rw [mtK_gen, if_neg (show ¬ i + 1 = 0 by omega), Nat.add_sub_cancel]
  by_cases hp : i % 2 = 0
  · have e1 : (i + 1 + 1) % 2 = 0 := by omega
    have e2 : ¬ (i + 1) % 2 = 0 := by omega
    rw [if_pos e1, if_neg e2] at *
    exact ⟨by rw [if_pos e1], by rw [if_pos e1]; exact h1⟩
  · have e1 : ¬ (i + 1 + 1) % 2 = 0 := by omega
    have e2 : (i + 1) % 2 = 0 := by omega
    rw [if_neg e1, if_pos e2] at *
    exact ⟨by rw [if_neg e1], by rw [if_neg e1]; exact h1⟩
theorem und_meta : Try.prog.underlying 38 = Try.prog.underlying 38 := rfl
theorem wpList_load64_g {ops : Array Oper} {rest : List Oper} {o : Oper} {a : Act} {w : World} {Q : Exit → Act → World → Prop} (hw : Region.wanted o (yielded ops a.tmps) = true) (x : Operand) (ho : o.op = .load 64 x)
    (g : Nat) (s : Sec) (hx : a.eval x = .pointer (some ⟨g, 0, none⟩)) (hg : w.heap[g]? = some (.cells (csF s) 64 (0, 0)))
    (h : wpList Try.prog ops Q rest (a.put o.dst (.agg (csF s))) w) : wpList Try.prog ops Q (o :: rest) a w :=
  Go.BigFrame.wpList_want hw fun K hK => wp_load_mid 64 x ho g 0 hx (B8 s.1) _ (range_row hg) Try.underlying64 rfl (info_B8 s) (hK _ _ h)
theorem p_devread {B g fb mo put : Nat} {Y : Nat → Prop} {w0 W : World} {c0 c1 : Option Mt} {D : List (List UInt8)} {m : Mt} {L : List Int} (h : PAt B g fb mo Y w0 c0 c1 D m L put W) (k : Nat) (hk : k < 2) :
    Calls Try.prog 28 #[ptr g, .string ⟨#[112]⟩, .int .i64 (8 * (k : Int))] W fun e w' => e = .returned (.tuple #[.agg (csF (secG (mp (paQ c0 c1 k)) 0)), .int .i64 0]) ∧ Below W.heap.size W w' := by
  obtain ⟨S, h1, h2⟩ := h.ex
  have ml : nmP.length ≤ maxLen := by show 1 ≤ maxLen; unfold maxLen; omega
  have hk2 : k = 0 ∨ k = 1 := by omega
  rcases hk2 with rfl | rfl
  · exact at_readB h2.dev nmP ml _ _ 0 (h1.read0 0 (by omega))
  · exact at_readB h2.dev nmP ml _ _ 0 (h1.read1 0 (by omega))
theorem mtK_good (mk i p : Nat) (hi : i ≤ 8) (hp : p = (i + 1) % 2) : mtGood (mtK mk i) p 2 := by
  unfold mtGood mtK
  split <;> simp <;> omega
theorem mtK_fit (mk i : Nat) (hi : i ≤ 8) : (mtK mk i).fit := by
  unfold Mt.fit mtK
  split <;> simp <;> omega
theorem mtQ_fit {mk i : Nat} {a0 a1 : Option Mt} (hi : i ≤ 8) (h : MtQ mk i a0 a1) : (∀ m, a0 = some m → m.fit) ∧ (∀ m, a1 = some m → m.fit) := by
  have key : ∀ k m, paQ a0 a1 k = some m → m.fit := by
    intro k m hm
    have hk : paQ a0 a1 k = paQ a0 a1 i ∨ paQ a0 a1 k = paQ a0 a1 (i + 1) := by
      unfold paQ
      have : k % 2 = i % 2 ∨ k % 2 = (i + 1) % 2 := by omega
      rcases this with e | e
      · left; rw [e]
      · right; rw [e]
    rcases hk with e | e
    · rw [e, h.2] at hm
      split at hm
      · cases hm
      · cases hm; exact mtK_fit mk _ (by omega)
    · rw [e, h.1] at hm
      cases hm
      exact mtK_fit mk _ hi
  exact ⟨fun m hm => key 0 m (by unfold paQ; simpa using hm), fun m hm => key 1 m (by unfold paQ; simpa using hm)⟩
theorem newM_some {m best : Mt} {p n : Nat} (h1 : mtGood m p n) (h2 : best.gen < m.gen) : newM (some m) p n best = m := by
  unfold newM
  simp [h1, h2]
theorem newM_old {m best : Mt} {p n : Nat} (h2 : ¬ best.gen < m.gen) : newM (some m) p n best = best := by
  unfold newM
  simp [h2]
theorem mtQ_new {mk i : Nat} {a0 a1 : Option Mt} (hi : i ≤ 8) (h : MtQ mk i a0 a1) : newM a1 1 2 (newM a0 0 2 ⟨0, 0, 0, 0⟩) = mtK mk i := by
  obtain ⟨h1, h2⟩ := h
  unfold paQ at h1 h2
  by_cases hp : i % 2 = 0
  · rw [if_neg (by omega)] at h1
    rw [if_pos hp] at h2
    subst h1 h2
    by_cases h0 : i = 0
    · subst h0
      rw [if_pos rfl]
      show newM (some _) 1 2 ⟨0, 0, 0, 0⟩ = _
      exact newM_some (mtK_good mk 0 1 (by omega) rfl) (by rw [mtK_gen]; show 0 < _; omega)
    · rw [if_neg h0, newM_some (mtK_good mk (i - 1) 0 (by omega) (by omega)) (by rw [mtK_gen]; show 0 < _; omega)]
      exact newM_some (mtK_good mk i 1 hi (by omega)) (by rw [mtK_gen, mtK_gen]; omega)
  · rw [if_pos (by omega)] at h1
    rw [if_neg hp, if_neg (by omega)] at h2
    subst h1 h2
    rw [newM_some (mtK_good mk i 0 hi (by omega)) (by rw [mtK_gen]; show 0 < _; omega)]
    exact newM_old (by rw [mtK_gen, mtK_gen]; omega)
/-- the device's pages are opened once more: the file that is there stands as it did -/
theorem p_reopen {B g fb mo put : Nat} {Y : Nat → Prop} {w0 W : World} {c0 c1 : Option Mt} {D : List (List UInt8)} {m m' : Mt} {L : List Int} (h : PAt B g fb mo Y w0 c0 c1 D m L put W) (f0 : ∀ m, c0 = some m → m.fit) (f1 : ∀ m, c1 = some m → m.fit) (hn : newM c1 1 (D.length + 2) (newM c0 0 (D.length + 2) ⟨0, 0, 0, 0⟩) = m') (hg : m'.gen ≠ 0) :
    Calls Try.prog 10 #[ptr g] W fun e w' => ∃ gb, e = .returned (.tuple #[ptr gb, .int .i64 0]) ∧ PAt B g gb mo Y w0 c0 c1 D m' [] 0 w' ∧ fb < w'.heap.size ∧ ∀ w'', Below w'.heap.size w' w'' → ∃ v, FBox w'' fb g m v put false := by
  obtain ⟨S, hpd, hfa⟩ := h.ex
  obtain ⟨Z, hat, hdis, hZ, v, hbox, hown, hZv⟩ := hfa.at_
  have hlen : S.fs.length < 1000000 := by
    obtain ⟨F, rfl, _⟩ := hpd.file
    show 1 < 1000000
    omega
  have hcr : createP S = (9, S) := by
    obtain ⟨F, rfl, _⟩ := hpd.file
    have hmk : pMake (one mo (-1) nmP F) nmP = (9, one mo (-1) nmP F) := by
      unfold pMake
      rw [if_neg (by show ¬ (-1 : Int) = 0; omega), if_neg (by decide), one_fnd]
      rfl
    unfold createP
    rw [hmk]
    rfl
  obtain ⟨S2, e2, hpd2⟩ := hpd.sync
  have hnew : newP S2 = m' := by rw [hpd2.new f0 f1, hn]
  have hop : openP S = (0, S2) := by
    unfold openP
    rw [hcr]
    simp only [e2, hnew]
    simp [hg]
  refine (open_any hat hlen).mono ?_
  rintro e w' ⟨vp, r1, r2, r3, r4⟩
  rw [hop] at r1 r2
  obtain ⟨gb, rfl, hgb, hfa2⟩ := r2 rfl
  simp only [hnew] at hfa2
  have hbox2 : FBox w' fb g m v put false := (r4.1 fb (.inr hZ)).trans hbox
  exact ⟨gb, r1, ⟨S2, hpd2, hfa2.less (fun i hi => .inl hi)⟩, Whole.lt hbox2, fun w'' hb => ⟨v, (hb.block fb (Whole.lt hbox2)).trans hbox2⟩⟩
theorem meta_gen9 (x r c m : Int) (w : World) : (Instr.field 38 (.agg #[.int .u64 x, .int .i64 r, .int .i64 c, .int .u64 m]) 0).run Try.prog w = .ok (.int .u64 x) w := by kernel_rfl
def Mt1 (B g fb mk : Nat) (w0 : World) (n : Nat) (vi : Value) (wr : World) : Prop :=
  ∃ (i : Nat) (a0 a1 : Option Mt), vi = .int .i64 (i : Int) ∧ i ≤ n ∧ MtQ mk i a0 a1 ∧ PAt B g fb 500 none9 w0 a0 a1 [] (mtK mk i) [] 0 wr
set_option maxHeartbeats 8000000 in
theorem meta9_law (a0 : Int) (mk : Nat) (hmk : mk < 18446744073709551616) (W : World) : Calls Try.prog 7 #[.int .i64 a0, .int .u64 (mk : Int)] W fun e w' => e = .returned (.bool true) ∧ Below W.heap.size W w' := by
  obtain ⟨n, hn, _, hne⟩ := mask_is a0 7 3 (by omega) (by decide)
  have hn8 : n < 8 := hn
  clear hn
  go_enter Try.func7, Try.ntmps7
  have hdv : newDv 500 = ⟨500, -1, []⟩ := rfl
  have HDV := Lib.hid hdv
  clear hdv
  go_upto_region 4 with (go_at_call 9; go_must (refine (at_new 500 _ (by omega)).mono ?_); rintro e w1 ⟨g, rfl, h1⟩; rw [HDV.out] at h1; have A1 := Lib.hid h1; clear h1)
  have hop := open16 A1.out (by omega) (by omega)
  have HOP := Lib.hid hop
  clear hop
  go_upto_region 5 with (go_at_call 10; go_must (refine HOP.out.mono ?_); rintro e w2 ⟨fb, rfl, hP, hln⟩; have P2 := Lib.hid hP; have HLN := Lib.hid hln; clear hP hln)
  go_upto_region 8 with (go_at_call 27; go_must (refine HLN.out.mono ?_); rintro e w3 ⟨rfl, rfl⟩)
  go_wp2_with fail
  go_loopw [8] (fun vi wr => Mt1 W.heap.size g fb mk W n vi wr) (fun vi _ => n - (intOf vi).toNat)
  case atStart => exact ⟨0, _, _, rfl, Nat.zero_le _, mtQ_zero mk, P2.out⟩
  case round =>
    obtain ⟨i, c0, c1, rfl, hi, hq, hP⟩ := hrel
    have P := Lib.hid hP
    have Q := Lib.hid hq
    clear hP hq
    by_cases hli : i < n
    · have hi1 : (i : Int) < (n : Int) := by omega
      have hwi : IntKind.u64.wrap (i : Int) = (i : Int) := IntWalk.u64_in _ ⟨by omega, by omega⟩
      obtain ⟨mm, hmm⟩ : ∃ mm, mm = (mk + i) % 18446744073709551616 := ⟨_, rfl⟩
      have hwm : IntKind.u64.wrap ((mk : Int) + (i : Int)) = (mm : Int) := by
        rw [hmm, u64_wrap9]
        omega
      have hml : mm < 18446744073709551616 := by rw [hmm]; exact Nat.mod_lt _ (by omega)
      have hmt : (⟨(mtK mk i).gen + 1, 0, i, mm⟩ : Mt) = mtK mk (i + 1) := by
        rw [mtK_gen, hmm]
        unfold mtK
        rw [if_neg (by omega), Nat.add_sub_cancel]
      have hcm := p_commit P.out 0 i mm [] none 0 (LiesP.nil _ _ _) (Nat.le_refl _) (Nat.zero_le _) (fun p hp => by cases hp) (by omega) (by omega) hml (by
        show cmBad 2 0 (i : Int) [] = false
        unfold cmBad
        rw [show keepsB 2 [] = true by decide, decide_eq_false (show ¬ ((i : Int) < 0) by omega), decide_eq_false (show ¬ (4611686018427387904 < (i : Int)) by omega)]
        rfl) (by decide) (by rw [mtK_gen]; omega)
      rw [hmt] at hcm
      have HCM := Lib.hid hcm
      clear hcm hmt hmm
      go_wp2_with (go_at_call 14; go_must (refine HCM.out.mono ?_); rintro e w4 ⟨rfl, hp4, _⟩; have P4 := Lib.hid hp4; clear hp4)
      go_roundw
      case rel => exact ⟨i + 1, _, _, by go_num, by omega, mtQ_next Q.out, P4.out⟩
      case measure => simp [intOf]; omega
    · have hin : i = n := by omega
      subst hin
      have hw1 : IntKind.i64.wrap ((i : Int) + 1) = (i : Int) + 1 := IntWalk.i64_in _ ⟨by omega, by omega⟩
      have hw2 : IntKind.u64.wrap ((i : Int) + 1) = (i : Int) + 1 := IntWalk.u64_in _ ⟨by omega, by omega⟩
      obtain ⟨pq, hpq⟩ : ∃ pq, pq = (i + 1) % 2 := ⟨_, rfl⟩
      have hb1 : bits .and .u64 ((i : Int) + 1) 1 = (pq : Int) := by
        rw [hpq]
        have h8 : i = 0 ∨ i = 1 ∨ i = 2 ∨ i = 3 ∨ i = 4 ∨ i = 5 ∨ i = 6 ∨ i = 7 := by omega
        rcases h8 with rfl | rfl | rfl | rfl | rfl | rfl | rfl | rfl <;> rfl
      have HPQ := Lib.hid hpq
      clear hpq
      have ml : nmP.length ≤ maxLen := by show 1 ≤ maxLen; unfold maxLen; omega
      have ML := Lib.hid ml
      clear ml
      go_upto_region 14 with fail
      obtain ⟨wL, hwL⟩ : ∃ wL : World, wL = wr := ⟨_, rfl⟩
      subst hwL
      go_loopw [9] (fun vk wx => ∃ k : Nat, vk = .int .i64 (k : Int) ∧ k ≤ 2 ∧ Below wL.heap.size wL wx) (fun vk _ => 2 - (intOf vk).toNat)
      case atStart => exact ⟨0, rfl, by omega, Below.refl _ _⟩
      case round =>
        obtain ⟨k, rfl, hk, hb⟩ := hrel
        have BL := Lib.hid hb
        clear hb
        by_cases hk2 : k < 2
        · have hk1 : (k : Int) < 2 := by omega
          have hwk : IntKind.u64.wrap (k : Int) = (k : Int) := IntWalk.u64_in _ ⟨by omega, by omega⟩
          have hwg : IntKind.u64.wrap ((i : Int) + 1 - 1) = (i : Int) := by rw [show ((i : Int) + 1 - 1) = (i : Int) by omega]; exact IntWalk.u64_in _ ⟨by omega, by omega⟩
          obtain ⟨G, hG⟩ : ∃ G, G = if pq = k then i + 1 else i := ⟨_, rfl⟩
          have HG := Lib.hid hG
          have hG8 : G ≤ 8 := by rw [hG]; split <;> omega
          clear hG
          have hX : paQ c0 c1 k = if G = 0 then none else some (mtK mk (G - 1)) := by
            obtain ⟨q1, q2⟩ := Q.out
            have hg := HG.out
            have hp := HPQ.out
            by_cases e : pq = k
            · rw [if_pos e] at hg
              have : paQ c0 c1 k = paQ c0 c1 (i + 1) := by unfold paQ; rw [show k % 2 = (i + 1) % 2 by omega]
              rw [this, q1, hg, if_neg (by omega), Nat.add_sub_cancel]
            · rw [if_neg e] at hg
              have : paQ c0 c1 k = paQ c0 c1 i := by unfold paQ; rw [show k % 2 = i % 2 by omega]
              rw [this, q2, hg]
          have HX := Lib.hid hX
          clear hX
          go_upto_if 64 with fail
          go_cut [10] (fun v10 wx => v10 = .int .u64 (G : Int) ∧ wx = wr)
          case first =>
            by_cases e : pq = k
            · have hg : G = i + 1 := by have := HG.out; rwa [if_pos e] at this
              have hgi : (G : Int) = (i : Int) + 1 := by omega
              have hne : (((pq : Nat) : Int) != (k : Int)) = false := by rw [e]; simp
              have HGI := Lib.hid hgi
              clear e hg hgi
              go_wp2_with fail
              go_meet
              exact ⟨by rw [HGI.out], rfl⟩
            · have hg : G = i := by have := HG.out; rwa [if_neg e] at this
              have hne : (((pq : Nat) : Int) != (k : Int)) = true := bne_iff_ne.2 (by omega)
              have HGI := Lib.hid hg
              clear e hg
              go_wp2_with fail
              go_meet
              exact ⟨by rw [HGI.out], rfl⟩
          case rest =>
            obtain ⟨rfl, rfl⟩ := hcut
            obtain ⟨wO, hwO⟩ : ∃ wO : World, wO = wc := ⟨_, rfl⟩
            subst hwO
            clear hb1 hwg hw2 hwk
            go_upto_region 20 with (with_reducible refine at_store36 ?_; go_must (refine wpList_store64 rfl (.tmp 11) (.tmp 67) rfl wO.heap.size zSec rfl rfl _ (heap_alloc_new wO _) rfl ?_))
            obtain ⟨bw, hbw⟩ : ∃ bw, bw = wO.heap.size := ⟨_, rfl⟩
            rw [← hbw]
            refine wp_ren (fun W' => Below bw wO W' ∧ W'.heap[bw]? = some (.cells (csF zSec) 64 (0, 0))) ⟨?_, ?_⟩ ?_
            · rw [hbw]; exact below_setRow ((Below.refl _ _).alloc (Nat.le_refl _) _) (Nat.le_refl _) _
            · rw [hbw]; exact setRow_heap _ _ _ _ _ _ (heap_alloc_new wO _)
            rintro W3 ⟨hb3, hr3⟩
            have B3 := Lib.hid hb3
            have R3 := Lib.hid hr3
            have HBW := Lib.hid hbw
            clear hb3 hr3 hbw
            have hlw : bw < W3.heap.size := (Array.getElem?_eq_some_iff.1 R3.out).1
            go_upto_if 69 with fail
            go_cut [] (fun wx => Below bw wO wx ∧ wx.heap[bw]? = some (.cells (csF (secG (mp (if G = 0 then none else some (mtK mk (G - 1)))) 0)) 64 (0, 0)))
            case first =>
              by_cases hg0 : G = 0
              · have hgi : ¬ (0 : Int) < (G : Int) := by omega
                have HG0 := Lib.hid hg0
                clear hg0
                go_wp2_with fail
                go_meet
                refine ⟨B3.out, ?_⟩
                rw [if_pos HG0.out]
                show W3.heap[bw]? = some (.cells (csF (secG [] 0)) _ _)
                rw [secG_nil]
                exact R3.out
              · have hgi : (0 : Int) < (G : Int) := by omega
                obtain ⟨cq, hcq⟩ : ∃ cq, cq = if G = 1 then 0 else G - 2 := ⟨_, rfl⟩
                obtain ⟨mq, hmq⟩ : ∃ mq, mq = if G = 1 then 0 else (mk + (G - 2)) % 18446744073709551616 := ⟨_, rfl⟩
                have hmt : mtK mk (G - 1) = ⟨G, 0, cq, mq⟩ := by
                  unfold mtK
                  rw [hcq, hmq]
                  by_cases e : G = 1
                  · subst e; rfl
                  · rw [if_neg (by omega), if_neg e, if_neg e, show G - 1 + 1 = G by omega, show G - 1 - 1 = G - 2 by omega]
                have hq64 : mq < 18446744073709551616 := by rw [hmq]; split <;> omega
                have hc8 : cq ≤ 8 := by rw [hcq]; split <;> omega
                have HMT := Lib.hid hmt
                have HCQ := Lib.hid hcq
                have HMQ := Lib.hid hmq
                have HG0 := Lib.hid hg0
                clear hmt hcq hmq hg0
                go_upto_region 22 with (refine wpList_copy_str rfl (.tmp 70) _ 31 9 rfl 5 Try.underlying31 (by kernel_rfl) bw 0 64 64 titleS rfl rfl (csF zSec) 64 R3.out (by decide) (by rw [csF_size]; decide) ?_)
                refine wp_ren (fun W' => Below bw wO W' ∧ W'.heap[bw]? = some (.cells (csF (wantS G cq mq 0)) 64 (0, 0))) ⟨?_, ?_⟩ ?_
                · exact below_setRow B3.out (Nat.le_refl _) _
                · rw [setRow_heap _ _ _ _ _ _ R3.out, title_row]
                rintro W4 ⟨hb4, hr4⟩
                have B4 := Lib.hid hb4
                have R4 := Lib.hid hr4
                clear hb4 hr4
                obtain ⟨s1, hs1⟩ : ∃ s1, s1 = (mk + G) % 18446744073709551616 := ⟨_, rfl⟩
                have hx1 : IntKind.u64.wrap ((mk : Int) + (G : Int)) = (s1 : Int) := by rw [u64_wrap9, hs1]; omega
                have hx2 : 1 < G → IntKind.u64.wrap ((s1 : Int) - 2) = (mq : Int) := fun h => by
                  rw [u64_wrap9, hs1]
                  have := HMQ.out
                  rw [if_neg (by omega)] at this
                  omega
                have hx3 : 1 < G → IntKind.u64.wrap ((G : Int) - 2) = (cq : Int) := fun h => by
                  have := HCQ.out
                  rw [if_neg (by omega)] at this
                  rw [u64_wrap9]
                  omega
                have HX2 := Lib.hid hx2
                have HX3 := Lib.hid hx3
                clear hs1 hx2 hx3
                go_upto_if 73 with fail
                go_cut [12, 13] (fun v12 v13 wx => v12 = .int .u64 (cq : Int) ∧ v13 = .int .u64 (mq : Int) ∧ wx = W4)
                case first =>
                  by_cases hg1 : G = 1
                  · have hgn : ¬ (1 : Int) < (G : Int) := by omega
                    have hc0 : cq = 0 := by rw [HCQ.out, if_pos hg1]
                    have hm0 : mq = 0 := by rw [HMQ.out, if_pos hg1]
                    have HC0 := Lib.hid hc0
                    have HM0 := Lib.hid hm0
                    clear hg1 hc0 hm0
                    go_wp2_with fail
                    go_meet
                    exact ⟨by rw [HC0.out]; rfl, by rw [HM0.out]; rfl, rfl⟩
                  · have hgn : (1 : Int) < (G : Int) := by omega
                    have hx2 := HX2.out (by omega)
                    have hx3 := HX3.out (by omega)
                    clear hg1
                    go_wp2_with fail
                    go_meet
                    exact ⟨rfl, rfl, rfl⟩
                case rest =>
                  obtain ⟨rfl, rfl, rfl⟩ := hcut
                  go_upto_region 26 with fail
                  go_loopw [14] (fun vj wx => ∃ j : Nat, vj = .int .i64 (j : Int) ∧ j ≤ 8 ∧ Below bw wO wx ∧ wx.heap[bw]? = some (.cells (csF (wantS G cq mq j)) 64 (0, 0))) (fun vj _ => 8 - (intOf vj).toNat)
                  case atStart => exact ⟨0, rfl, by omega, B4.out, R4.out⟩
                  case round =>
                    obtain ⟨j, rfl, hj, hbj, hrj⟩ := hrel
                    have BJ := Lib.hid hbj
                    have WJ : Hid (Whole wr bw 64 (csF (wantS G cq mq j))) := Lib.hid hrj
                    clear hbj hrj
                    by_cases hj8 : j < 8
                    · have hj1 : (j : Int) < 8 := by omega
                      have cell : ∀ p, p < 64 → ∃ c, wr.cell? ⟨bw, p, none⟩ = some (.int .u8 c) := fun p hp => ⟨_, (Whole.cell WJ.out p).trans (by rw [wantS_get, if_pos hp])⟩
                      obtain ⟨x1, e1⟩ := cell (8 + j) (by omega)
                      obtain ⟨x2, e2⟩ := cell (24 + j) (by omega)
                      obtain ⟨x3, e3⟩ := cell (32 + j) (by omega)
                      have f1 := Whole.frozen WJ.out (8 + j)
                      have f2 := Whole.frozen WJ.out (24 + j)
                      have f3 := Whole.frozen WJ.out (32 + j)
                      have n1 : 8 + j ≠ 24 + j := by omega
                      have n2 : 8 + j ≠ 32 + j := by omega
                      have n3 : 24 + j ≠ 32 + j := by omega
                      clear cell
                      go_wp2
                      go_roundw
                      case rel =>
                        have hput := Whole.put (Whole.put (Whole.put WJ.out (8 + j) (.int .u8 ((oc8 G j).toNat : Int))) (24 + j) (.int .u8 ((oc8 cq j).toNat : Int))) (32 + j) (.int .u8 ((oc8 mq j).toNat : Int))
                        rw [wantS_step G cq mq j hj8] at hput
                        rw [oc8_int, oc8_int, oc8_int, show 8 * (7 - j) = 56 - 8 * j by omega] at hput
                        exact ⟨j + 1, by go_num, by omega, ((BJ.out.setCell (p := ⟨bw, 8 + j, none⟩) (Nat.le_refl _) _).setCell (p := ⟨bw, 24 + j, none⟩) (Nat.le_refl _) _).setCell (p := ⟨bw, 32 + j, none⟩) (Nat.le_refl _) _, hput⟩
                      case measure => simp [intOf]; omega
                    · have hje : j = 8 := by omega
                      subst hje
                      go_wp2_with fail
                      go_meet
                      refine ⟨BJ.out, ?_⟩
                      rw [if_neg HG0.out]
                      show wr.heap[bw]? = some (.cells (csF (secG (metaB (mtK mk (G - 1))) 0)) _ _)
                      rw [secG_meta, HMT.out, ← wantS_all]
                      exact WJ.out
            case rest =>
              obtain ⟨hb5, hr5⟩ := hcut
              rw [← HX.out] at hr5
              obtain ⟨x, hx⟩ : ∃ x, x = secG (mp (paQ c0 c1 k)) 0 := ⟨_, rfl⟩
              rw [← hx] at hr5
              have HXX := Lib.hid hx
              have R5 := Lib.hid hr5
              have B5 := Lib.hid hb5
              have P5 := Lib.hid (P.out.below (BL.out.trans (hb5.mono (by have := BL.out.size; have := HBW.out; omega))))
              have hbl5 := BL.out.trans (hb5.mono (by have := BL.out.size; have := HBW.out; omega))
              have BL5 := Lib.hid hbl5
              have hlt5 : Hid (bw < wc.heap.size) := Lib.hid (Array.getElem?_eq_some_iff.1 hr5).1
              clear hb5 hr5 hx hbl5
              have hrd := p_devread P5.out k hk2
              rw [← HXX.out] at hrd
              have HRD := Lib.hid hrd
              have hw8 : IntKind.i64.wrap (8 * (k : Int)) = 8 * (k : Int) := IntWalk.i64_in _ ⟨by omega, by omega⟩
              have hgs := guard_sec
              have hns := neq_self
              clear hrd
              go_upto_region 30 with (first
                | (go_at_call 28; go_must (refine HRD.out.mono ?_); rintro e w6 ⟨rfl, h6⟩; have B6 := Lib.hid h6; clear h6)
                | (with_reducible refine at_store36 ?_; go_must (refine wpList_store64 rfl (.tmp 15) (.tmp 119) rfl w6.heap.size x rfl rfl _ (heap_alloc_new w6 _) rfl ?_)))
              refine wp_ren (fun W' => Below wc.heap.size wc W' ∧ W'.heap[bw]? = some (.cells (csF x) 64 (0, 0)) ∧ W'.heap[w6.heap.size]? = some (.cells (csF x) 64 (0, 0))) ⟨?_, ?_, ?_⟩ ?_
              · exact below_setRow (B6.out.alloc B6.out.size _) B6.out.size _
              · have := B6.out.size
                have := hlt5.out
                exact (setRow_other _ _ _ _ (by omega)).trans ((Below.heap_alloc _ _ _ (by omega)).trans ((B6.out.block _ (by omega)).trans R5.out))
              · exact setRow_heap _ _ _ _ _ _ (heap_alloc_new w6 _)
              rintro W7 ⟨hb7, hr7, hs7⟩
              have B7 := Lib.hid hb7
              have R7 := Lib.hid hr7
              have S7 := Lib.hid hs7
              clear hb7 hr7 hs7
              go_wp2_with (first
                | (with_reducible refine at_load36 ?_; first | (refine wpList_load64_g rfl (.tmp 15) rfl w6.heap.size x rfl S7.out ?_) | (refine wpList_load64_g rfl (.tmp 11) rfl bw x rfl R7.out ?_)))
              go_roundw
              case rel => exact ⟨k + 1, by go_num, by omega, BL5.out.trans (B7.out.mono BL5.out.size)⟩
              case measure => simp [intOf]; omega
        · have hk2e : k = 2 := by omega
          subst hk2e
          have hgi : ((mtK mk i).gen : Int) = (i : Int) + 1 := by rw [mtK_gen]; omega
          obtain ⟨mm, hmm⟩ : ∃ mm, mm = mtK mk i := ⟨_, rfl⟩
          have hre : Calls Try.prog 10 #[ptr g] wr fun e w' => ∃ gb, e = .returned (.tuple #[ptr gb, .int .i64 0]) ∧ Below W.heap.size W w' ∧ W.heap.size ≤ w'.heap.size ∧ ∀ p, (p = gb ∨ p = fb) → ∀ w'', Below w'.heap.size w' w'' →
              Calls Try.prog 16 #[ptr p] w'' fun e w3 => e = .returned (.agg #[.int .u64 ((i : Int) + 1), .int .i64 (mm.root : Int), .int .i64 (mm.count : Int), .int .u64 (mm.mark : Int)]) ∧ Below w'.heap.size w' w3 := by
            have hf := mtQ_fit (by omega) Q.out
            refine (p_reopen (P.out.below BL.out) hf.1 hf.2 (mtQ_new (by omega) Q.out) (by rw [mtK_gen]; omega)).mono ?_
            rintro e w' ⟨gb, rfl, hp, hlt, hbx⟩
            refine ⟨gb, rfl, hp.bel, hp.le, fun p hp2 w'' hb => ?_⟩
            rw [hmm, ← hgi]
            rcases hp2 with rfl | rfl
            · exact (p_meta (hp.below hb)).mono fun e w3 ⟨r1, r2⟩ => ⟨r1, hb.trans (r2.mono hb.size)⟩
            · obtain ⟨v, hv⟩ := hbx w'' hb
              exact (fmeta_any hv).mono fun e w3 ⟨r1, r2⟩ => ⟨r1, hb.trans (r2.mono hb.size)⟩
          have HRE := Lib.hid hre
          obtain ⟨mr, hmr⟩ : ∃ mr : Int, mr = (mm.root : Int) := ⟨_, rfl⟩
          obtain ⟨mc, hmc⟩ : ∃ mc : Int, mc = (mm.count : Int) := ⟨_, rfl⟩
          obtain ⟨ma, hma⟩ : ∃ ma : Int, ma = (mm.mark : Int) := ⟨_, rfl⟩
          rw [← hmr, ← hmc, ← hma] at HRE
          have hfd : ∀ w : World, (Instr.field 38 (.agg #[.int .u64 ((i : Int) + 1), .int .i64 mr, .int .i64 mc, .int .u64 ma]) 0).run Try.prog w = .ok (.int .u64 ((i : Int) + 1)) w := fun w => meta_gen9 _ _ _ _ w
          clear hre hgi hmm hmr hmc hma
          go_upto_region 33 with (go_at_call 10; go_must (refine HRE.out.mono ?_); rintro e w10 ⟨gb, rfl, hb10, hle10, hm10⟩; have B10 := Lib.hid hb10; have HM10 := Lib.hid hm10; have BB := Lib.hid (Below.refl w10.heap.size w10); clear hb10 hm10)
          go_wp2_with (first
            | (go_at_call 16; go_must (refine (HM10.out _ (by first | exact .inl rfl | exact .inr rfl) _ BB.out).mono ?_); rintro e w11 ⟨rfl, hb11⟩; have BB := Lib.hid hb11; clear hb11)
            | (go_at_call 22; go_must (refine (awake9 _).mono ?_); rintro e w14 ⟨rfl, hb14⟩; have BB := Lib.hid (BB.out.trans (hb14.mono BB.out.size)); clear hb14))
          go_ret
          exact ⟨rfl, B10.out.trans (BB.out.mono hle10)⟩
end Go.Proofs.Ytlmnjieonhjhcaa
