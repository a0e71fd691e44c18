/- Layer 9, plain: metas, and what is done to a device for pages. Layer 9: how many pages a device's file has, and a file's meta. Layer 9, plain: a device's file as pages: two metas, and the others. -/
import Derived.Test.YtcmffifehpbjnaaSectZ
import Derived.Test.YtcmffifehpbjnaaWords2
import Derived.Test.YtcmffifehpbjnaaSectE0
namespace Go.Proofs.Ytcmffifehpbjnaa
section
open Go.RowKit Go.Maps
set_option maxRecDepth 100000
set_option linter.unusedSimpArgs false
set_option linter.unusedVariables false

/-! ### metas -/
structure Mt where
  gen : Nat
  root : Nat
  count : Nat
  mark : Nat
def Mt.fit (m : Mt) : Prop := m.gen < 18446744073709551616 ∧ m.root < 18446744073709551616 ∧ m.count < 18446744073709551616 ∧ m.mark < 18446744073709551616
def titleB : List UInt8 := [119, 97, 121, 98, 105, 108, 108, 49]
def metaB (m : Mt) : List UInt8 := titleB ++ be 8 m.gen ++ be 8 m.root ++ be 8 m.count ++ be 8 m.mark
theorem metaB_length (m : Mt) : (metaB m).length = 40 := by simp [metaB, titleB, be_length]
/-- a meta's first sector -/
def secM (m : Mt) : Sec := ⟨metaB m ++ List.replicate 24 0, by simp [metaB_length]⟩
/-- what a sector has where a meta would be -/
def mtOf (s : List UInt8) : Mt := ⟨nat ((s.drop 8).take 8), nat ((s.drop 16).take 8), nat ((s.drop 24).take 8), nat ((s.drop 32).take 8)⟩
theorem eight (l : List UInt8) : nat (l.take 8) < 18446744073709551616 := by
  have h := nat_lt (l.take 8)
  have h8 : (l.take 8).length ≤ 8 := by rw [List.length_take]; omega
  exact Nat.lt_of_lt_of_le h (Nat.pow_le_pow_right (by omega) h8)
theorem mtOf_fit (s : List UInt8) : (mtOf s).fit := ⟨eight _, eight _, eight _, eight _⟩
theorem drop_be (v : Nat) (r : List UInt8) : (be 8 v ++ r).drop 8 = r := by
  rw [List.drop_append_of_le_length (by simp [be_length]), List.drop_of_length_le (by simp [be_length]), List.nil_append]
theorem take_be8 (v : Nat) (r : List UInt8) : (be 8 v ++ r).take 8 = be 8 v := by
  rw [List.take_append_of_le_length (by simp [be_length]), List.take_of_length_le (by simp [be_length])]
theorem mtOf_secM {m : Mt} (f : m.fit) : mtOf (secM m).1 = m := by
  obtain ⟨f1, f2, f3, f4⟩ := f
  have h0 : (secM m).1 = titleB ++ (be 8 m.gen ++ (be 8 m.root ++ (be 8 m.count ++ (be 8 m.mark ++ List.replicate 24 0)))) := by
    simp only [secM, metaB, List.append_assoc]
  have d8 : (secM m).1.drop 8 = be 8 m.gen ++ (be 8 m.root ++ (be 8 m.count ++ (be 8 m.mark ++ List.replicate 24 0))) := by rw [h0]; rfl
  have d16 : (secM m).1.drop 16 = be 8 m.root ++ (be 8 m.count ++ (be 8 m.mark ++ List.replicate 24 0)) := by
    rw [show (16 : Nat) = 8 + 8 from rfl, ← List.drop_drop, d8, drop_be]
  have d24 : (secM m).1.drop 24 = be 8 m.count ++ (be 8 m.mark ++ List.replicate 24 0) := by
    rw [show (24 : Nat) = 16 + 8 from rfl, ← List.drop_drop, d16, drop_be]
  have d32 : (secM m).1.drop 32 = be 8 m.mark ++ List.replicate 24 0 := by
    rw [show (32 : Nat) = 24 + 8 from rfl, ← List.drop_drop, d24, drop_be]
  unfold mtOf
  rw [d8, d16, d24, d32, take_be8, take_be8, take_be8, take_be8, nat_be8 _ f1, nat_be8 _ f2, nat_be8 _ f3, nat_be8 _ f4]
/-- whether a sector is a meta of this page, in a file of so many -/
def mtGood (m : Mt) (page pages : Nat) : Prop := 0 < m.gen ∧ m.gen % 2 = page ∧ (m.root = 0 ∨ (2 ≤ m.root ∧ m.root < pages)) ∧ m.count ≤ 4611686018427387904
instance (m : Mt) (page pages : Nat) : Decidable (mtGood m page pages) := by unfold mtGood; infer_instance
def parseOk (s : Sec) (page pages : Nat) : Bool := decide (mtGood (mtOf s.1) page pages) && (secM (mtOf s.1)).1 == s.1
theorem parse_secM {m : Mt} (f : m.fit) (page pages : Nat) : parseOk (secM m) page pages = decide (mtGood m page pages) := by
  unfold parseOk
  rw [mtOf_secM f]
  simp
/-- noughts are no meta -/
theorem parse_zero (page pages : Nat) : parseOk zSec page pages = false := by
  unfold parseOk
  have h : (mtOf zSec.1).gen = 0 := by rfl
  have : ¬ mtGood (mtOf zSec.1) page pages := fun g => by have := g.1; omega
  rw [decide_eq_false this]
  rfl

/-! ### a page's sectors, and what is written -/
def secG (b : List UInt8) (k : Nat) : Sec := ⟨((b.drop (64 * k)).take 64 ++ List.replicate 64 0).take 64, by simp⟩
/-- the sectors of a page from the k-th on, n of them -/
def wpP (nm : Nm) (id : Nat) (b : List UInt8) : Nat → Nat → Dv → Int × Dv
  | _, 0, S => (0, S)
  | k, n + 1, S => if (pWrite S nm ((id * 8 + k : Nat) : Int) (secG b k)).1 = 0 then wpP nm id b (k + 1) n (pWrite S nm ((id * 8 + k : Nat) : Int) (secG b k)).2 else pWrite S nm ((id * 8 + k : Nat) : Int) (secG b k)
def nmP : Nm := [112]
/-- the meta that holds -/
def newP1 (S : Dv) (pages page : Nat) (best : Mt) : Mt :=
  if (pRead S nmP ((page * 8 : Nat) : Int)).2 = 0 ∧ parseOk (pRead S nmP ((page * 8 : Nat) : Int)).1 page pages = true ∧ best.gen < (mtOf (pRead S nmP ((page * 8 : Nat) : Int)).1.1).gen then mtOf (pRead S nmP ((page * 8 : Nat) : Int)).1.1 else best
def newP (S : Dv) : Mt := if S.len nmP / 8 < 2 then ⟨0, 0, 0, 0⟩ else newP1 S (S.len nmP / 8) 1 (newP1 S (S.len nmP / 8) 0 ⟨0, 0, 0, 0⟩)
/-- all that was written last, then the meta -/
def storeP (S : Dv) (m : Mt) : Int × Dv :=
  if (pSync S nmP).1 = 0 then
    if (pWrite (pSync S nmP).2 nmP ((m.gen % 2 * 8 : Nat) : Int) (secM m)).1 = 0 then pSync (pWrite (pSync S nmP).2 nmP ((m.gen % 2 * 8 : Nat) : Int) (secM m)).2 nmP
    else pWrite (pSync S nmP).2 nmP ((m.gen % 2 * 8 : Nat) : Int) (secM m)
  else pSync S nmP
/-- the file is made -/
def fillP (S : Dv) : Int × Dv := if (wpP nmP 0 [] 0 8 S).1 = 0 then wpP nmP 1 (secM ⟨1, 0, 0, 0⟩).1 0 8 (wpP nmP 0 [] 0 8 S).2 else wpP nmP 0 [] 0 8 S
def createP (S : Dv) : Int × Dv :=
  if (pMake S nmP).1 = 0 then
    if (fillP (pMake S nmP).2).1 = 0 then (0, (fillP (pMake S nmP).2).2) else ((fillP (pMake S nmP).2).1, (pDrop (fillP (pMake S nmP).2).2 nmP).2)
  else pMake S nmP
end
section
open Go.RowKit Go.Maps
set_option maxRecDepth 100000
set_option linter.unusedSimpArgs false
set_option linter.unusedVariables false
section
variable {B g : Nat} {X : Nat → Prop} {w0 W : World} {S : Dv}
set_option maxHeartbeats 1000000 in
theorem length_any (h : At B X w0 g S W) (n : Nat) (hn : S.len nmP / 8 = n) (hs : S.len nmP ≤ 9000000000000000000) : Calls Try.prog 41 #[ptr g] W fun e w' => e = .returned (.int .i64 (n : Int)) ∧ W = w' := by
  obtain ⟨c, hc⟩ : ∃ c, c = S.len nmP := ⟨_, rfl⟩
  have HC := Lib.hid hc
  have H := Lib.hid h
  have hd : ((c : Int)).tdiv 8 = (n : Int) := by
    rw [← hn, ← hc]
    exact (Int.ofNat_tdiv c 8).symm
  have hw : IntKind.i64.wrap ((n : Nat) : Int) = (n : Int) := IntWalk.i64_in _ (by omega)
  clear h hn hc hs
  go_enter Try.func41, Try.ntmps41
  go_wp2_with fail
  refine (at_len H.out nmP (by decide) c HC.out.symm).mono ?_
  rintro e w1 ⟨rfl, rfl⟩
  go_wp2_with fail
  go_ret
  exact ⟨rfl, rfl⟩
end
/-- a meta as a value -/
def mtR (m : Mt) : List Value := [.int .u64 (m.gen : Int), .int .i64 (m.root : Int), .int .i64 (m.count : Int), .int .u64 (m.mark : Int)]
/-- a file in memory: its box -/
def FBox (W : World) (fb g : Nat) (m : Mt) (v : Value) (put : Nat) (dead : Bool) : Prop :=
  Whole W fb 80 #[ptr g, .int .u64 (m.gen : Int), .int .i64 (m.root : Int), .int .i64 (m.count : Int), .int .u64 (m.mark : Int), v, .int .i64 (put : Int), .bool dead]
section
variable {W : World} {fb g put : Nat} {m : Mt} {v : Value} {dead : Bool}
theorem FBox.cells (h : FBox W fb g m v put dead) : W.cell? ⟨fb, 0, none⟩ = some (ptr g) ∧ W.cell? ⟨fb, 1, none⟩ = some (.int .u64 (m.gen : Int)) ∧ W.cell? ⟨fb, 2, none⟩ = some (.int .i64 (m.root : Int)) ∧
    W.cell? ⟨fb, 3, none⟩ = some (.int .i64 (m.count : Int)) ∧ W.cell? ⟨fb, 4, none⟩ = some (.int .u64 (m.mark : Int)) ∧ W.cell? ⟨fb, 5, none⟩ = some v ∧ W.cell? ⟨fb, 6, none⟩ = some (.int .i64 (put : Int)) ∧ W.cell? ⟨fb, 7, none⟩ = some (.bool dead) :=
  ⟨by rw [Whole.cell h]; rfl, by rw [Whole.cell h]; rfl, by rw [Whole.cell h]; rfl, by rw [Whole.cell h]; rfl, by rw [Whole.cell h]; rfl, by rw [Whole.cell h]; rfl, by rw [Whole.cell h]; rfl, by rw [Whole.cell h]; rfl⟩
theorem load_mt (w : World) (g : Nat) (cs : Array Value) (hg : Whole w g 38 cs) (hs : cs.size = 4) : (loadVar 38 ⟨g, 0, none⟩).run Try.prog w = .ok (.agg cs) w :=
  run_loadVar_row (P := Try.prog) w g _ _ cs (0, 0) _ hg Try.underlying38 rfl (by rw [hs]; kernel_rfl)
theorem fmeta_end {w : World} {b : Nat} {cs : Array Value} (hg : Whole w b 38 cs) (hs : cs.size = 4) (tmps : Array Value) (ds) (h2 : tmps.getD 2 undef = ptr b)
    (R : Ending → World → Prop) (hR : R (.returned (.agg cs)) w) (hd : ds = []) : bodyPost Try.prog Try.f16 R .ret { tmps := tmps, defers := ds } w := by
  refine bodyPost_ret (v := .agg cs) ?_ hd hR
  have hres : Try.f16.results = #[.cell 2 38] := rfl
  simp only [results, hres]
  have h2' : tmps[2]?.getD undef = ptr b := by simpa using h2
  simp [Sem.run_bind, Result.andThen, h2', asAddr, load_mt w b cs hg hs]
set_option maxHeartbeats 1000000 in
theorem fmeta_any (h : FBox W fb g m v put dead) : Calls Try.prog 16 #[ptr fb] W fun e w' => e = .returned (.agg (mtR m).toArray) ∧ Below W.heap.size W w' := by
  obtain ⟨c0, c1, c2, c3, c4, c5, c6, c7⟩ := h.cells
  have hlt : fb < W.heap.size := Whole.lt h
  clear h
  unfold mtR
  go_enter Try.func16, Try.ntmps16
  go_wp2
  refine fmeta_end (b := W.heap.size) (cs := (mtR m).toArray) ?_ rfl _ _ ?_ _ ?_ ?_
  · exact Whole.new _ _ _
  · rfl
  · exact ⟨rfl, (Below.refl _ _).alloc (Nat.le_refl _) _⟩
  · rfl
set_option maxHeartbeats 1000000 in
theorem fdrop_any (h : FBox W fb g m v put dead) : Calls Try.prog 23 #[ptr fb] W fun e w' => e = .returned (.tuple #[]) ∧ FBox w' fb g m v 0 dead ∧ w' = W.setCell ⟨fb, 6, none⟩ (.int .i64 0) := by
  obtain ⟨c0, c1, c2, c3, c4, c5, c6, c7⟩ := h.cells
  have f6 := Whole.frozen h 6
  have H : Hid (FBox (W.setCell ⟨fb, 6, none⟩ (.int .i64 0)) fb g m v 0 dead) := Lib.hid (Whole.put h 6 _)
  clear h
  go_enter Try.func23, Try.ntmps23
  go_wp2
  go_end0
  exact ⟨rfl, H.out, rfl⟩
set_option maxHeartbeats 1000000 in
theorem flen_any {B : Nat} {X : Nat → Prop} {w0 : World} {S : Dv} (h : FBox W fb g m v put dead) (hd : At B X w0 g S W) (n : Nat) (hn : S.len nmP / 8 = n) (hs : S.len nmP ≤ 9000000000000000000) :
    Calls Try.prog 17 #[ptr fb] W fun e w' => e = .returned (.int .i64 (n : Int)) ∧ W = w' := by
  obtain ⟨c0, c1, c2, c3, c4, c5, c6, c7⟩ := h.cells
  have HD := Lib.hid hd
  have HN := Lib.hid hn
  have HS := Lib.hid hs
  clear h hd hn hs
  go_enter Try.func17, Try.ntmps17
  go_wp2_with fail
  refine (length_any HD.out n HN.out HS.out).mono ?_
  rintro e w1 ⟨rfl, rfl⟩
  go_wp2_with fail
  go_ret
  exact ⟨rfl, rfl⟩
set_option maxHeartbeats 1000000 in
theorem has_any {B : Nat} {X : Nat → Prop} {w0 : World} {S : Dv} (h : FBox W fb g m v put dead) (hd : At B X w0 g S W) (n : Nat) (id : Int) (hn : S.len nmP / 8 = n) (hs : S.len nmP ≤ 9000000000000000000) :
    Calls Try.prog 43 #[ptr fb, .int .i64 id] W fun e w' => e = .returned (.bool (decide (2 ≤ id ∧ id < (n : Int)))) ∧ W = w' := by
  have HF := Lib.hid h
  have HD := Lib.hid hd
  have HN := Lib.hid hn
  have HS := Lib.hid hs
  clear h hd hn hs
  by_cases h2 : 2 ≤ id
  · have e : decide (2 ≤ id ∧ id < (n : Int)) = decide (id < (n : Int)) := by simp [h2]
    rw [e]
    clear e
    go_enter Try.func43, Try.ntmps43
    go_wp2_with fail
    refine (flen_any HF.out HD.out n HN.out HS.out).mono ?_
    rintro e w1 ⟨rfl, rfl⟩
    go_wp2_with fail
    go_ret
    exact ⟨rfl, rfl⟩
  · have e : decide (2 ≤ id ∧ id < (n : Int)) = false := decide_eq_false (fun h => h2 h.1)
    rw [e]
    clear e
    go_enter Try.func43, Try.ntmps43
    go_wp2_with fail
    go_ret
    exact ⟨rfl, rfl⟩
end
end
section
open Go.RowKit Go.Maps
set_option maxRecDepth 100000
set_option linter.unusedSimpArgs false
set_option linter.unusedVariables false

/-! ### what a sector of a file reads as -/
def Sees (F : Fil) (k : Nat) (x : Sec) : Prop := ∃ s, F.l[k]? = some s ∧ (s.fr = some x ∨ (s.fr = none ∧ s.la = some (x, false)))
section
variable {mo : Nat} {le : Int} {nm : Nm} {F : Fil} {j k : Nat} {x y : Sec}
theorem Sees.lt (h : Sees F k x) : k < F.l.length := by
  obtain ⟨s, h, _⟩ := h
  exact (List.getElem?_eq_some_iff.1 h).1
theorem Sees.read (h : Sees F k x) : pRead (one mo le nm F) nm (k : Int) = (x, 0) := by
  obtain ⟨⟨fr, la⟩, h1, h2⟩ := h
  rcases h2 with h2 | ⟨h2, h3⟩
  · simp only at h2
    subst h2
    exact one_read_fr k x la h1
  · simp only at h2 h3
    subst h2 h3
    exact one_read k (x, false) h1
theorem Sees.wr (hk : k ≤ F.l.length) (x : Sec) : Sees (wrF F k x) k x := ⟨_, by rw [wrF_get F k x hk k, if_pos rfl], .inl rfl⟩
theorem Sees.other (h : Sees F j y) (hk : k ≤ F.l.length) (hne : j ≠ k) (x : Sec) : Sees (wrF F k x) j y := by
  obtain ⟨s, h1, h2⟩ := h
  exact ⟨s, by rw [wrF_get F k x hk j, if_neg hne]; exact h1, h2⟩
theorem Sees.sy (h : Sees F k x) : Sees (syF F) k x := by
  obtain ⟨⟨fr, la⟩, h1, h2⟩ := h
  refine ⟨syS ⟨fr, la⟩, by simp [syF, h1], ?_⟩
  rcases h2 with h2 | ⟨h2, h3⟩
  · simp only at h2
    subst h2
    exact .inr ⟨rfl, rfl⟩
  · simp only at h2 h3
    subst h2 h3
    exact .inr ⟨rfl, rfl⟩
theorem syF_length : (syF F).l.length = F.l.length := by simp [syF]
theorem one_put_at (hle : le ≠ 0) (hk : k ≤ F.l.length) (hm : k = F.l.length → F.l.length < mo) (x : Sec) : pWrite (one mo le nm F) nm (k : Int) x = (0, one mo (tkD le) nm (wrF F k x)) := by
  unfold pWrite
  rw [if_neg (show ¬ (one mo le nm F).left = 0 from hle), one_fnd]
  simp only []
  rw [if_neg (by omega), if_neg (by rw [one_used]; show ¬ (_ ∧ mo ≤ _); omega), one_put, one_tick]
  rfl
theorem one_put_full (hle : le ≠ 0) (hk : k = F.l.length) (hm : mo ≤ F.l.length) (x : Sec) : pWrite (one mo le nm F) nm (k : Int) x = (6, one mo le nm F) := by
  unfold pWrite
  rw [if_neg (show ¬ (one mo le nm F).left = 0 from hle), one_fnd]
  simp only []
  rw [if_neg (by omega), if_pos (by rw [one_used]; show _ ∧ mo ≤ _; omega)]
end

/-! ### a page's octets -/
theorem secG_get (b : List UInt8) (k i : Nat) (hi : i < 64) : (secG b k).1[i]? = some (b.getD (64 * k + i) 0) := by
  unfold secG
  simp only []
  rw [List.getElem?_take, if_pos hi]
  rcases Nat.lt_or_ge i ((b.drop (64 * k)).take 64).length with h | h
  · rw [List.getElem?_append_left h, List.getElem?_take, if_pos hi, List.getElem?_drop]
    rw [List.length_take, List.length_drop] at h
    have : 64 * k + i < b.length := by omega
    simp [List.getD, this]
  · rw [List.getElem?_append_right h, List.getElem?_replicate]
    rw [List.length_take, List.length_drop] at h ⊢
    rw [if_pos (by omega)]
    have : b.length ≤ 64 * k + i := by omega
    simp [List.getD, List.getElem?_eq_none this]
theorem sec_ext {s t : Sec} (h : ∀ i, i < 64 → s.1[i]? = t.1[i]?) : s = t := by
  apply Subtype.ext
  apply List.ext_getElem?
  intro i
  by_cases hi : i < 64
  · exact h i hi
  · rw [List.getElem?_eq_none (by rw [s.2]; omega), List.getElem?_eq_none (by rw [t.2]; omega)]
theorem secG_ext {b c : List UInt8} (h : ∀ j, b.getD j 0 = c.getD j 0) (k : Nat) : secG b k = secG c k :=
  sec_ext fun i hi => by rw [secG_get b k i hi, secG_get c k i hi, h]
theorem zSec_get (i : Nat) (hi : i < 64) : zSec.1[i]? = some 0 := by
  have h : zSec.1 = List.replicate 64 0 := rfl
  rw [h, List.getElem?_replicate, if_pos hi]
theorem secG_nil (k : Nat) : secG [] k = zSec := sec_ext fun i hi => by rw [secG_get [] k i hi, zSec_get i hi]; rfl
theorem secM_get (m : Mt) (j : Nat) : (secM m).1.getD j 0 = (metaB m).getD j 0 := by
  unfold secM
  simp only [List.getD]
  rcases Nat.lt_or_ge j (metaB m).length with h | h
  · rw [List.getElem?_append_left h]
  · rw [List.getElem?_append_right h, List.getElem?_eq_none h, List.getElem?_replicate]
    split <;> rfl
theorem secG_secM (m : Mt) (k : Nat) : secG (secM m).1 k = secG (metaB m) k := secG_ext (secM_get m) k
theorem secG_meta (m : Mt) : secG (metaB m) 0 = secM m := sec_ext fun i hi => by
  rw [secG_get _ 0 i hi, Nat.mul_zero, Nat.zero_add, ← secM_get]
  have : i < (secM m).1.length := by rw [(secM m).2]; exact hi
  simp [List.getD, this]
theorem secG_meta1 (m : Mt) (k : Nat) (hk : 1 ≤ k) : secG (metaB m) k = zSec := sec_ext fun i hi => by
  rw [secG_get _ k i hi]
  have : (metaB m).length ≤ 64 * k + i := by rw [metaB_length]; omega
  rw [zSec_get i hi]
  simp [List.getD, List.getElem?_eq_none this]
/-- a page's octets with the noughts behind -/
def pad (b : List UInt8) : List UInt8 := b ++ List.replicate (512 - b.length) 0
theorem pad_length {b : List UInt8} (h : b.length ≤ 512) : (pad b).length = 512 := by simp [pad]; omega
theorem pad_get (b : List UInt8) (j : Nat) : (pad b).getD j 0 = b.getD j 0 := by
  unfold pad
  simp only [List.getD]
  rcases Nat.lt_or_ge j b.length with h | h
  · rw [List.getElem?_append_left h]
  · rw [List.getElem?_append_right h, List.getElem?_eq_none h, List.getElem?_replicate]
    split <;> rfl
theorem secG_take {b : List UInt8} (hb : b.length ≤ 512) (k : Nat) (hk : k < 8) : (pad b).take (64 * (k + 1)) = (pad b).take (64 * k) ++ (secG b k).1 := by
  have hl := pad_length hb
  apply List.ext_getElem?
  intro i
  rw [List.getElem?_take]
  have h1 : ((pad b).take (64 * k)).length = 64 * k := by rw [List.length_take]; omega
  by_cases hi : i < 64 * (k + 1)
  · rw [if_pos hi]
    rcases Nat.lt_or_ge i (64 * k) with h | h
    · rw [List.getElem?_append_left (by omega), List.getElem?_take, if_pos h]
    · rw [List.getElem?_append_right (by omega), h1, secG_get b k (i - 64 * k) (by omega), show 64 * k + (i - 64 * k) = i by omega, ← pad_get]
      have : i < (pad b).length := by omega
      simp [List.getD, this]
  · rw [if_neg hi, List.getElem?_append_right (by omega), h1, List.getElem?_eq_none (by rw [(secG b k).2]; omega)]

/-! ### pages of a file -/
def Pg (F : Fil) (id : Nat) (b : List UInt8) : Prop := ∀ k, k < 8 → Sees F (id * 8 + k) (secG b k)
theorem Pg.sy {F : Fil} {id : Nat} {b : List UInt8} (h : Pg F id b) : Pg (syF F) id b := fun k hk => (h k hk).sy
theorem Pg.le {F : Fil} {id : Nat} {b : List UInt8} (h : Pg F id b) : id * 8 + 8 ≤ F.l.length := by
  have := (h 7 (by omega)).lt
  omega
theorem wp_some (mo id : Nat) (b : List UInt8) : ∀ (n k : Nat) (F : Fil), id * 8 + k ≤ F.l.length → (id * 8 + k + n ≤ F.l.length ∨ id * 8 + k + n ≤ mo) →
    ∃ F', wpP nmP id b k n (one mo (-1) nmP F) = (0, one mo (-1) nmP F') ∧ F'.l.length = max F.l.length (id * 8 + k + n) ∧ (∀ j x, Sees F j x → (j < id * 8 + k ∨ id * 8 + k + n ≤ j) → Sees F' j x) ∧ (∀ i, k ≤ i → i < k + n → Sees F' (id * 8 + i) (secG b i)) := by
  intro n
  induction n with
  | zero => intro k F h1 _; exact ⟨F, rfl, by omega, fun j x hx _ => hx, fun i h h2 => by omega⟩
  | succ n ih =>
    intro k F h1 h2
    have hw := one_put_at (mo := mo) (le := -1) (nm := nmP) (F := F) (k := id * 8 + k) (by omega) h1 (by omega) (secG b k)
    have hl := wrF_length F (id * 8 + k) (secG b k)
    obtain ⟨F', e, e1, e2, e3⟩ := ih (k + 1) (wrF F (id * 8 + k) (secG b k)) (by split at hl <;> omega) (by split at hl <;> omega)
    refine ⟨F', ?_, ?_, ?_, ?_⟩
    · unfold wpP
      rw [hw, if_pos rfl]
      exact e
    · split at hl <;> omega
    · intro j x hx hj
      exact e2 j x (hx.other h1 (by omega) _) (by omega)
    · intro i hi hi2
      by_cases he : i = k
      · subst he
        exact e2 _ _ (Sees.wr h1 _) (by omega)
      · exact e3 i (by omega) (by omega)
theorem wp_full (mo id : Nat) (b : List UInt8) : ∀ (n k : Nat) (F : Fil), id * 8 + k ≤ F.l.length → F.l.length ≤ mo → mo < id * 8 + k + n →
    ∃ F', wpP nmP id b k n (one mo (-1) nmP F) = (6, one mo (-1) nmP F') ∧ F'.l.length = mo ∧ (∀ j x, Sees F j x → j < id * 8 + k → Sees F' j x) := by
  intro n
  induction n with
  | zero => intro k F h1 h2 h3; omega
  | succ n ih =>
    intro k F h1 h2 h3
    by_cases hf : id * 8 + k = F.l.length ∧ mo ≤ F.l.length
    · have hw := one_put_full (mo := mo) (le := -1) (nm := nmP) (F := F) (k := id * 8 + k) (by omega) hf.1 hf.2 (secG b k)
      refine ⟨F, ?_, by omega, fun j x hx _ => hx⟩
      unfold wpP
      rw [hw, if_neg (show ¬ (6 : Int) = 0 by decide)]
    · have hw := one_put_at (mo := mo) (le := -1) (nm := nmP) (F := F) (k := id * 8 + k) (by omega) h1 (by omega) (secG b k)
      have hl := wrF_length F (id * 8 + k) (secG b k)
      obtain ⟨F', e, e1, e2⟩ := ih (k + 1) (wrF F (id * 8 + k) (secG b k)) (by split at hl <;> omega) (by split at hl <;> omega) (by omega)
      refine ⟨F', ?_, e1, ?_⟩
      · unfold wpP
        rw [hw, if_pos rfl]
        exact e
      · intro j x hx hj
        exact e2 j x (hx.other h1 (by omega) _) (by omega)

/-- a meta's page: none yet, or this one -/
def mp : Option Mt → List UInt8
  | none => []
  | some m => metaB m
structure PD (mo : Nat) (a0 a1 : Option Mt) (D : List (List UInt8)) (S : Dv) : Prop where
  room : mo ≤ 100000
  file : ∃ F, S = one mo (-1) nmP F ∧ (D.length + 2) * 8 ≤ F.l.length ∧ F.l.length < (D.length + 3) * 8 ∧ F.l.length ≤ mo ∧ Pg F 0 (mp a0) ∧ Pg F 1 (mp a1) ∧ ∀ k b, D[k]? = some b → Pg F (k + 2) b
section
variable {mo : Nat} {a0 a1 : Option Mt} {D : List (List UInt8)} {S : Dv} {b : List UInt8} {k : Nat}
theorem PD.len (h : PD mo a0 a1 D S) : S.len nmP / 8 = D.length + 2 := by
  obtain ⟨h0, F, rfl, h1, h2, _⟩ := h
  rw [one_len]
  omega
theorem PD.len_le (h : PD mo a0 a1 D S) : S.len nmP ≤ 9000000000000000000 := by
  obtain ⟨h0, F, rfl, h1, h2, h3, _⟩ := h
  rw [one_len]
  omega
theorem PD.few (h : PD mo a0 a1 D S) : D.length ≤ 12500 := by
  obtain ⟨h0, F, rfl, h1, h2, h3, _⟩ := h
  omega
theorem PD.full (h : PD mo a0 a1 D S) : (D.length + 2) * 8 ≤ mo := by
  obtain ⟨h0, F, rfl, h1, h2, h3, _⟩ := h
  omega
theorem PD.put_new (h : PD mo a0 a1 D S) (hr : (D.length + 3) * 8 ≤ mo) (b : List UInt8) : ∃ S', wpP nmP (D.length + 2) b 0 8 S = (0, S') ∧ PD mo a0 a1 (D ++ [b]) S' := by
  obtain ⟨h0, F, rfl, h1, h2, h3, p0, p1, p2⟩ := h
  obtain ⟨F', e, e1, e2, e3⟩ := wp_some mo (D.length + 2) b 8 0 F (by omega) (by omega)
  have keep : ∀ {id c}, Pg F id c → id < D.length + 2 → Pg F' id c := fun hp hi i hi8 => e2 _ _ (hp i hi8) (by omega)
  refine ⟨_, e, h0, F', rfl, by simp; omega, by simp; omega, by omega, keep p0 (by omega), keep p1 (by omega), ?_⟩
  intro k c hk
  rcases Nat.lt_or_ge k D.length with hl | hl
  · rw [List.getElem?_append_left hl] at hk
    exact keep (p2 k c hk) (by omega)
  · have hk2 := (List.getElem?_eq_some_iff.1 hk).1
    simp at hk2
    have : k = D.length := by omega
    subst this
    rw [List.getElem?_append_right (Nat.le_refl _)] at hk
    simp at hk
    subst hk
    exact fun i hi => e3 i (by omega) (by omega)
theorem PD.put_old (h : PD mo a0 a1 D S) (hk : k < D.length) (b : List UInt8) : ∃ S', wpP nmP (k + 2) b 0 8 S = (0, S') ∧ PD mo a0 a1 (D.set k b) S' := by
  obtain ⟨h0, F, rfl, h1, h2, h3, p0, p1, p2⟩ := h
  obtain ⟨F', e, e1, e2, e3⟩ := wp_some mo (k + 2) b 8 0 F (by omega) (by omega)
  have keep : ∀ {id c}, Pg F id c → id ≠ k + 2 → Pg F' id c := fun hp hi i hi8 => e2 _ _ (hp i hi8) (by omega)
  refine ⟨_, e, h0, F', rfl, by simp; omega, by simp; omega, by omega, keep p0 (by omega), keep p1 (by omega), ?_⟩
  intro j c hj
  rw [List.getElem?_set] at hj
  by_cases he : k = j
  · subst he
    rw [if_pos rfl, if_pos hk] at hj
    cases hj
    exact fun i hi => e3 i (by omega) (by omega)
  · rw [if_neg he] at hj
    exact keep (p2 j c hj) (by omega)
theorem PD.put_full (h : PD mo a0 a1 D S) (hr : mo < (D.length + 3) * 8) (b : List UInt8) : ∃ S', wpP nmP (D.length + 2) b 0 8 S = (6, S') ∧ PD mo a0 a1 D S' := by
  obtain ⟨h0, F, rfl, h1, h2, h3, p0, p1, p2⟩ := h
  obtain ⟨F', e, e1, e2⟩ := wp_full mo (D.length + 2) b 8 0 F (by omega) (by omega) (by omega)
  have keep : ∀ {id c}, Pg F id c → id < D.length + 2 → Pg F' id c := fun hp hi i hi8 => e2 _ _ (hp i hi8) (by omega)
  refine ⟨_, e, h0, F', rfl, by omega, by omega, by omega, keep p0 (by omega), keep p1 (by omega), ?_⟩
  intro k c hk
  have := (List.getElem?_eq_some_iff.1 hk).1
  exact keep (p2 k c hk) (by omega)
theorem PD.read (h : PD mo a0 a1 D S) (hk : D[k]? = some b) (i : Nat) (hi : i < 8) : pRead S nmP (((k + 2) * 8 + i : Nat) : Int) = (secG b i, 0) := by
  obtain ⟨h0, F, rfl, h1, h2, h3, p0, p1, p2⟩ := h
  exact (p2 k b hk i hi).read
theorem PD.read0 (h : PD mo a0 a1 D S) (i : Nat) (hi : i < 8) : pRead S nmP (i : Int) = (secG (mp a0) i, 0) := by
  obtain ⟨h0, F, rfl, h1, h2, h3, p0, p1, p2⟩ := h
  have := (p0 i hi).read (mo := mo) (le := -1) (nm := nmP)
  rwa [Nat.zero_mul, Nat.zero_add] at this
theorem PD.read1 (h : PD mo a0 a1 D S) (i : Nat) (hi : i < 8) : pRead S nmP ((8 + i : Nat) : Int) = (secG (mp a1) i, 0) := by
  obtain ⟨h0, F, rfl, h1, h2, h3, p0, p1, p2⟩ := h
  have := (p1 i hi).read (mo := mo) (le := -1) (nm := nmP)
  rwa [Nat.one_mul] at this
theorem PD.sync (h : PD mo a0 a1 D S) : ∃ S', pSync S nmP = (0, S') ∧ PD mo a0 a1 D S' := by
  obtain ⟨h0, F, rfl, h1, h2, h3, p0, p1, p2⟩ := h
  refine ⟨_, one_sync (by omega), h0, syF F, rfl, ?_, ?_, ?_, p0.sy, p1.sy, fun k b hk => (p2 k b hk).sy⟩
  all_goals rw [syF_length]; assumption
/-- a meta's page is written over -/
theorem Pg.meta {F : Fil} {a : Option Mt} (h : Pg F k (mp a)) (m : Mt) : Pg (wrF F (k * 8) (secM m)) k (metaB m) := by
  have hle := h.le
  intro i hi
  by_cases h0 : i = 0
  · subst h0
    rw [secG_meta]
    exact Sees.wr (by omega) _
  · have h1 := h i hi
    have e : secG (mp a) i = secG (metaB m) i := by
      rw [secG_meta1 m i (by omega)]
      cases a with
      | none => exact secG_nil i
      | some m' => exact secG_meta1 m' i (by omega)
    rw [e] at h1
    exact h1.other (by omega) (by omega) _
theorem Pg.apart {F : Fil} {j : Nat} (h : Pg F j b) (hk : k * 8 ≤ F.l.length) (hne : j ≠ k) (x : Sec) : Pg (wrF F (k * 8) x) j b := fun i hi => (h i hi).other hk (by omega) _
theorem PD.store0 (h : PD mo a0 a1 D S) (m : Mt) (hm : m.gen % 2 = 0) : ∃ S', storeP S m = (0, S') ∧ PD mo (some m) a1 D S' := by
  obtain ⟨S1, e1, h⟩ := h.sync
  obtain ⟨h0, F, rfl, h1, h2, h3, p0, p1, p2⟩ := h
  have hw := one_put_at (mo := mo) (le := -1) (nm := nmP) (F := F) (k := 0) (by omega) (by omega) (by omega) (secM m)
  have hl := wrF_length F 0 (secM m)
  rw [if_pos (by omega)] at hl
  have q0 := p0.meta m
  rw [Nat.zero_mul] at q0
  have h4 : PD mo (some m) a1 D (one mo (-1) nmP (wrF F 0 (secM m))) := ⟨h0, _, rfl, by omega, by omega, by omega, q0, p1.apart (k := 0) (by omega) (by omega) _, fun k b hk => (p2 k b hk).apart (k := 0) (by omega) (by omega) _⟩
  obtain ⟨S2, e2, h5⟩ := h4.sync
  refine ⟨S2, ?_, h5⟩
  unfold storeP
  rw [e1, hm]
  simp only [if_true, Nat.zero_mul]
  rw [hw]
  exact e2
theorem PD.store1 (h : PD mo a0 a1 D S) (m : Mt) (hm : m.gen % 2 = 1) : ∃ S', storeP S m = (0, S') ∧ PD mo a0 (some m) D S' := by
  obtain ⟨S1, e1, h⟩ := h.sync
  obtain ⟨h0, F, rfl, h1, h2, h3, p0, p1, p2⟩ := h
  have hw := one_put_at (mo := mo) (le := -1) (nm := nmP) (F := F) (k := 8) (by omega) (by omega) (by omega) (secM m)
  have hl := wrF_length F 8 (secM m)
  rw [if_pos (by omega)] at hl
  have q1 := p1.meta m
  have h4 : PD mo a0 (some m) D (one mo (-1) nmP (wrF F 8 (secM m))) := ⟨h0, _, rfl, by omega, by omega, by omega, p0.apart (k := 1) (by omega) (by omega) _, q1, fun k b hk => (p2 k b hk).apart (k := 1) (by omega) (by omega) _⟩
  obtain ⟨S2, e2, h5⟩ := h4.sync
  refine ⟨S2, ?_, h5⟩
  unfold storeP
  rw [e1, hm]
  simp only [if_true, Nat.one_mul]
  rw [hw]
  exact e2
/-- the meta that holds, of two pages -/
def newM (a : Option Mt) (page pages : Nat) (best : Mt) : Mt := match a with
  | none => best
  | some m => if mtGood m page pages ∧ best.gen < m.gen then m else best
theorem newP1_is {page : Nat} {a : Option Mt} {pages : Nat} {best : Mt} (hr : pRead S nmP ((page * 8 : Nat) : Int) = (secG (mp a) 0, 0)) (hf : ∀ m, a = some m → m.fit) : newP1 S pages page best = newM a page pages best := by
  unfold newP1 newM
  rw [hr]
  cases a with
  | none =>
    have e : secG (mp none) 0 = zSec := secG_nil 0
    rw [e, if_neg (by rw [parse_zero]; simp)]
  | some m =>
    have e : secG (mp (some m)) 0 = secM m := secG_meta m
    simp only [e, parse_secM (hf m rfl), mtOf_secM (hf m rfl)]
    simp
theorem PD.new (h : PD mo a0 a1 D S) (f0 : ∀ m, a0 = some m → m.fit) (f1 : ∀ m, a1 = some m → m.fit) : newP S = newM a1 1 (D.length + 2) (newM a0 0 (D.length + 2) ⟨0, 0, 0, 0⟩) := by
  unfold newP
  rw [h.len, if_neg (by omega), newP1_is (page := 0) (a := a0) (h.read0 0 (by omega)) f0, newP1_is (page := 1) (a := a1) (h.read1 0 (by omega)) f1]
theorem PD.create (hr : 16 ≤ mo) (hm : mo ≤ 100000) : ∃ S', createP ⟨mo, -1, []⟩ = (0, S') ∧ PD mo none (some ⟨1, 0, 0, 0⟩) [] S' := by
  have hmk : pMake ⟨mo, -1, []⟩ nmP = (0, one mo (-1) nmP newF) := by rfl
  obtain ⟨F1, e, e1, e2, e3⟩ := wp_some mo 0 [] 8 0 newF (by show 0 ≤ _; omega) (by omega)
  have hl0 : newF.l.length = 0 := rfl
  obtain ⟨F2, g, g1, g2, g3⟩ := wp_some mo 1 (secM ⟨1, 0, 0, 0⟩).1 8 0 F1 (by omega) (by omega)
  have hf : fillP (one mo (-1) nmP newF) = (0, one mo (-1) nmP F2) := by
    unfold fillP
    rw [e, if_pos rfl]
    exact g
  refine ⟨one mo (-1) nmP F2, ?_, hm, F2, rfl, by simp; omega, by simp; omega, by omega, ?_, ?_, fun k b hk => by simp at hk⟩
  · unfold createP
    rw [hmk, if_pos rfl, hf, if_pos rfl]
  · intro i hi
    have := e3 i (by omega) (by omega)
    exact g2 _ _ this (by omega)
  · intro i hi
    have := g3 i (by omega) (by omega)
    rw [secG_secM] at this
    exact this
end
end
end Go.Proofs.Ytcmffifehpbjnaa
