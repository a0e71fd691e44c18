/- Layer 9: the statements' octets of a number; a file of pages with its device, within a law's walk. -/
import Derived.Test.YtcmffifehpbjnaaPageU
import Derived.Test.YtcmffifehpbjnaaPageX
namespace Go.Proofs.Ytcmffifehpbjnaa
open Go.RowKit Go.Maps
set_option maxRecDepth 100000
set_option linter.unusedSimpArgs false
set_option linter.unusedVariables false
def fillN (v : Int) : Nat := 1 + (v % 512).toNat
def fillB (v : Int) : List UInt8 := (List.range (fillN v)).map fun i : Nat => UInt8.ofNat ((v / 16 + (i : Int)) % 256).toNat
theorem fillB_length (v : Int) : (fillB v).length = fillN v := by simp [fillB]
theorem fillN_le (v : Int) : 1 ≤ fillN v ∧ fillN v ≤ 512 := by unfold fillN; omega
def flA (v : Int) (k : Nat) : List UInt8 := (fillB v).take k ++ List.replicate (fillN v - k) 0
theorem flA_length (v : Int) (k : Nat) (h : k ≤ fillN v) : (flA v k).length = fillN v := by simp [flA, fillB_length]; omega
theorem flA_zero (v : Int) : flA v 0 = List.replicate (fillN v) 0 := by simp [flA]
theorem flA_all (v : Int) : flA v (fillN v) = fillB v := by
  unfold flA
  rw [List.take_of_length_le (by rw [fillB_length]; exact Nat.le_refl _), Nat.sub_self]
  simp
theorem B8_set9 (l : List UInt8) (j : Nat) (c : UInt8) : B8 (l.set j c) = (B8 l).set j (.int .u8 (c.toNat : Int)) := by simp [B8, List.map_set]
theorem flA_next (v : Int) (k : Nat) (h : k < fillN v) : B8 (flA v (k + 1)) = (B8 (flA v k)).set k (.int .u8 ((v / 16 + (k : Int)) % 256)) := by
  have hb : k < (fillB v).length := by rw [fillB_length]; exact h
  have hk : (fillB v)[k] = UInt8.ofNat ((v / 16 + (k : Int)) % 256).toNat := by simp [fillB]
  have e : ((v / 16 + (k : Int)) % 256) = ((UInt8.ofNat ((v / 16 + (k : Int)) % 256).toNat).toNat : Int) := by
    rw [UInt8.toNat_ofNat']
    omega
  have h2 : flA v (k + 1) = (flA v k).set k (UInt8.ofNat ((v / 16 + (k : Int)) % 256).toNat) := by
    unfold flA
    have hl : ((fillB v).take k).length = k := by rw [List.length_take]; omega
    rw [List.set_append_right _ _ (by omega), hl, Nat.sub_self, List.take_succ_eq_append_getElem hb, hk, List.append_assoc]
    congr 1
    obtain ⟨q, hq⟩ : ∃ q, fillN v - k = q + 1 := ⟨fillN v - k - 1, by omega⟩
    rw [hq, show fillN v - (k + 1) = q by omega, List.replicate_succ]
    rfl
  rw [h2, B8_set9, ← e]
def FlAt (W : World) (v : Int) (vi : Value) (wr : World) : Prop :=
  ∃ k : Nat, vi = .int .i64 (k : Int) ∧ k ≤ fillN v ∧ wr.ownsRow W.heap.size 5 1 (.slice (some ⟨W.heap.size, 0, none⟩) (fillN v) (fillN v)) (fillN v) (B8 (flA v k)) ∧ Below W.heap.size W wr
set_option maxHeartbeats 4000000 in
theorem fill_any (v : Int) (hv : -9223372036854775808 ≤ v ∧ v < 9223372036854775808) (W : World) :
    Calls Try.prog 12 #[.int .i64 v] W fun e w' => ∃ A c, e = .returned (.slice A (fillB v).length c) ∧ w'.ownsRow W.heap.size 5 1 (.slice A (fillB v).length c) (fillB v).length (B8 (fillB v)) ∧ Below W.heap.size W w' := by
  obtain ⟨i0, hi, hz0, hz1, hz2⟩ := info_parts u8_info
  have hfl := fillN_le v
  have hfn : ((fillN v : Nat) : Int) = 1 + v % 512 := by unfold fillN; omega
  have hmk : bits .and .i64 v 511 = v % 512 := by
    have := i64_mask v 9 (by omega)
    simpa using this
  obtain ⟨n, hn⟩ : ∃ n, n = fillN v := ⟨_, rfl⟩
  have hby : i0.bytes * n ≤ 281474976710656 := by rw [hz2, hn]; omega
  have hml : n ≤ maxLen := by unfold maxLen; rw [hn]; omega
  have hw : IntKind.i64.wrap (1 + v % 512) = 1 + v % 512 := IntWalk.i64_in _ ⟨by omega, by omega⟩
  have HFN : Hid (1 + v % 512 = (n : Int)) := Lib.hid (by rw [hn, hfn])
  have HI := Lib.hid hi
  have H0 := Lib.hid hz0
  have H1 := Lib.hid hz1
  have HB := Lib.hid hby
  have HM := Lib.hid hml
  have HNN := Lib.hid hn
  rw [← hn] at hfl
  clear hi hz0 hz1 hz2 hby hml hn hfn
  go_enter Try.func12, Try.ntmps12
  go_upto_region 2 with (at_make; go_must (refine wpList_make_full _ rfl _ _ 31 rfl W.heap.size 5 i0 (.int .u8 0) 1 Try.underlying31 HI.out H0.out H1.out .i64 .i64 _ _ n rfl rfl HFN.out HFN.out HB.out HM.out (Nat.le_refl _) ?_); intro w1 hown hg; have hbel := below_none hg; have HB1 := Lib.hid hbel; have HO := Lib.hid hown; clear hown hg hbel)
  have hz0 : (madeCells (Value.int .u8 0).cells (n * 1)).toList = B8 (List.replicate n 0) := by
    rw [Nat.mul_one]
    simp [madeCells, B8, Value.cells, Nat.mod_one]
    rw [List.map_const', List.length_range]
  have HO2 := Lib.hid (show w1.ownsRow W.heap.size 5 1 (.slice (some ⟨W.heap.size, 0, none⟩) n n) n (B8 (flA v 0)) by rw [flA_zero, ← HNN.out, ← hz0]; exact HO.out)
  rw [HNN.out] at HO2
  clear hz0 HO
  go_wp2_with fail
  go_loopw [11] (fun vi wr => FlAt W v vi wr) (fun vi _ => n - (intOf vi).toNat)
  case atStart => exact ⟨0, rfl, Nat.zero_le _, HO2.out, HB1.out⟩
  case round =>
    obtain ⟨k, rfl, hk, hown, hbr⟩ := hrel
    have HO := Lib.hid hown
    have BR := Lib.hid hbr
    rw [← HNN.out] at hk
    by_cases hlt : k < n
    · have hi1 : (k : Int) < (n : Int) := by omega
      have hc := hown.cellAt k (by rw [← HNN.out, Nat.mul_one]; exact hlt)
      have hc2 : wr.cell? ⟨W.heap.size, k, none⟩ = some (.int .u8 (((flA v k)[k]'(by rw [flA_length v k (by rw [← HNN.out]; omega), ← HNN.out]; exact hlt)).toNat : Int)) := hc.trans (B8_get _ k _)
      have hfz := hown.frozenAt k
      clear hc hown hbr
      obtain ⟨oc, hoc⟩ : ∃ oc, oc = (((flA v k)[k]'(by rw [flA_length v k (by rw [← HNN.out]; omega), ← HNN.out]; exact hlt)).toNat : Int) := ⟨_, rfl⟩
      rw [← hoc] at hc2
      have hwa : wrap64 (v / 16 + (k : Int)) = v / 16 + (k : Int) := IntWalk.wrap64_in _ ⟨by omega, by omega⟩
      clear hoc
      go_wp2
      go_roundw
      case rel =>
        refine ⟨k + 1, by go_num, by rw [← HNN.out]; omega, ?_, BR.out.setCell (Nat.le_refl _) _⟩
        rw [flA_next v k (by rw [← HNN.out]; exact hlt)]
        exact (HO.out.stored k (.int .u8 ((v / 16 + (k : Int)) % 256))).1
      case measure => simp [intOf]; omega
    · have hk2 : k = n := by omega
      subst hk2
      clear hown hbr
      go_wp2
      go_ret
      have hf := HO.out
      rw [HNN.out, flA_all] at hf
      refine ⟨some ⟨W.heap.size, 0, none⟩, fillN v, ?_, ?_, BR.out⟩
      · rw [fillB_length, ← HNN.out]; rfl
      · rw [fillB_length]; exact hf
/-- a file of pages with its device -/
structure PAt (B g fb mo : Nat) (Y : Nat → Prop) (w0 : World) (a0 a1 : Option Mt) (D : List (List UInt8)) (m : Mt) (L : List Int) (put : Nat) (W : World) : Prop where
  ex : ∃ S, PD mo a0 a1 D S ∧ FAt B g fb Y w0 S m L put false W
section
variable {B g fb mo put : Nat} {Y : Nat → Prop} {w0 W w' : World} {a0 a1 : Option Mt} {D : List (List UInt8)} {m : Mt} {L : List Int}
theorem PAt.below (h : PAt B g fb mo Y w0 a0 a1 D m L put W) (hb : Below W.heap.size W w') : PAt B g fb mo Y w0 a0 a1 D m L put w' := by
  obtain ⟨S, h1, h2⟩ := h.ex
  exact ⟨S, h1, h2.below hb⟩
theorem PAt.fence (h : PAt B g fb mo Y w0 a0 a1 D m L put W) (hb : Below W.heap.size W w') : PAt B g fb mo (fun i => Y i ∨ (W.heap.size ≤ i ∧ i < w'.heap.size)) w0 a0 a1 D m L put w' := by
  obtain ⟨S, h1, h2⟩ := h.ex
  exact ⟨S, h1, h2.fence hb⟩
theorem PAt.less (h : PAt B g fb mo Y w0 a0 a1 D m L put W) {Y' : Nat → Prop} (hy : ∀ i, Y' i → Y i) : PAt B g fb mo Y' w0 a0 a1 D m L put W := by
  obtain ⟨S, h1, h2⟩ := h.ex
  exact ⟨S, h1, h2.less hy⟩
theorem PAt.bel (h : PAt B g fb mo Y w0 a0 a1 D m L put W) : Below B w0 W := by
  obtain ⟨S, h1, h2⟩ := h.ex
  exact h2.dev.bel
theorem PAt.le (h : PAt B g fb mo Y w0 a0 a1 D m L put W) : B ≤ W.heap.size := by
  obtain ⟨S, h1, h2⟩ := h.ex
  exact h2.dev.le
theorem PAt.xs (h : PAt B g fb mo Y w0 a0 a1 D m L put W) : ∀ i, Y i → B ≤ i ∧ i < W.heap.size := by
  obtain ⟨S, h1, h2⟩ := h.ex
  exact h2.dev.xs
theorem PAt.few (h : PAt B g fb mo Y w0 a0 a1 D m L put W) : D.length ≤ 12500 := by
  obtain ⟨S, h1, h2⟩ := h.ex
  exact h1.few
theorem p_meta (h : PAt B g fb mo Y w0 a0 a1 D m L put W) : Calls Try.prog 16 #[ptr fb] W fun e w' => e = .returned (.agg #[.int .u64 (m.gen : Int), .int .i64 (m.root : Int), .int .i64 (m.count : Int), .int .u64 (m.mark : Int)]) ∧ Below W.heap.size W w' := by
  obtain ⟨S, h1, h2⟩ := h.ex
  exact fmeta_at h2
theorem p_len (h : PAt B g fb mo Y w0 a0 a1 D m L put W) : Calls Try.prog 17 #[ptr fb] W fun e w' => e = .returned (.int .i64 ((D.length + 2 : Nat) : Int)) ∧ W = w' := by
  obtain ⟨S, h1, h2⟩ := h.ex
  exact flen_at h2 _ h1.len
theorem p_free (h : PAt B g fb mo Y w0 a0 a1 D m L put W) (hL : L.length ≤ 1000000) : Calls Try.prog 18 #[ptr fb] W fun e w' => ∃ v, e = .returned v ∧ w'.ownsRow W.heap.size 3 1 v (L.drop put).length (cellsZ (L.drop put)) ∧ Below W.heap.size W w' := by
  obtain ⟨S, h1, h2⟩ := h.ex
  exact ffree_at h2 hL
theorem p_drop (h : PAt B g fb mo Y w0 a0 a1 D m L put W) : Calls Try.prog 23 #[ptr fb] W fun e w' => e = .returned (.tuple #[]) ∧ PAt B g fb mo Y w0 a0 a1 D m L 0 w' ∧ KeptX Y W w' := by
  obtain ⟨S, h1, h2⟩ := h.ex
  exact (fdrop_at h2).mono fun e w' ⟨r1, r2, r3⟩ => ⟨r1, ⟨S, h1, r2⟩, r3⟩
theorem p_keep (h : PAt B g fb mo Y w0 a0 a1 D m L put W) (ids : List Int) (A : Option Addr) (c : Nat) (hl : Lies W W.heap.size A (cellsZ ids)) (hc1 : ids.length ≤ c) (hc2 : c ≤ maxLen) (h64 : In64 ids) (hk : keepsB (D.length + 2) ids = true) :
    Calls Try.prog 19 #[ptr fb, .slice A ids.length c] W fun e w' => e = .returned (.int .i64 0) ∧ PAt B g fb mo Y w0 a0 a1 D m (othP ids 2 D.length) 0 w' ∧ KeptX Y W w' := by
  obtain ⟨S, h1, h2⟩ := h.ex
  refine (keep_any h2 (D.length + 2) h1.len ids A c _ hl (Nat.le_refl _) hc1 hc2 h64).mono ?_
  rintro e w' ⟨r1, r2, r3⟩
  rw [if_pos hk] at r1
  simp only [if_pos hk, Nat.add_sub_cancel] at r2
  exact ⟨r1, ⟨S, h1, r2⟩, r3⟩
theorem p_put_new (h : PAt B g fb mo Y w0 a0 a1 D m L put W) (b : List UInt8) (A : Option Addr) (c : Nat) (hl : LiesP W Y A (B8 b)) (hc1 : b.length ≤ c) (hc2 : c ≤ maxLen) (hL : L.length ≤ 1000000) (hb : b.length ≤ 512) (hp : put = L.length) (hr : (D.length + 3) * 8 ≤ mo) :
    Calls Try.prog 11 #[ptr fb, .slice A b.length c] W fun e w' => e = .returned (.tuple #[.int .i64 ((D.length + 2 : Nat) : Int), .int .i64 0]) ∧ PAt B g fb mo Y w0 a0 a1 (D ++ [b]) m (L ++ [((D.length + 2 : Nat) : Int)]) (put + 1) w' ∧ KeptX Y W w' := by
  obtain ⟨S, h1, h2⟩ := h.ex
  obtain ⟨S', e1, h3⟩ := h1.put_new hr b
  have hpt : ptP S L put false b = ⟨((D.length + 2 : Nat) : Int), 0, S', L ++ [((D.length + 2 : Nat) : Int)], put + 1⟩ := by
    unfold ptP
    rw [if_neg (by simp), if_neg (by omega), if_neg (by omega), h1.len, e1, if_pos rfl]
  have hh := put_any h2 b A c hl hc1 hc2 (by rw [h1.len]; omega) hL
  rw [hpt] at hh
  exact hh.mono fun e w' ⟨r1, r2, r3⟩ => ⟨r1, ⟨S', h3, r2⟩, r3⟩
theorem p_put_old (h : PAt B g fb mo Y w0 a0 a1 D m L put W) (b : List UInt8) (A : Option Addr) (c : Nat) (hl : LiesP W Y A (B8 b)) (hc1 : b.length ≤ c) (hc2 : c ≤ maxLen) (hL : L.length ≤ 1000000) (hb : b.length ≤ 512) (k : Nat) (hp : put < L.length) (hk : L.getD put 0 = ((k + 2 : Nat) : Int)) (hkd : k < D.length) :
    Calls Try.prog 11 #[ptr fb, .slice A b.length c] W fun e w' => e = .returned (.tuple #[.int .i64 ((k + 2 : Nat) : Int), .int .i64 0]) ∧ PAt B g fb mo Y w0 a0 a1 (D.set k b) m L (put + 1) w' ∧ KeptX Y W w' := by
  obtain ⟨S, h1, h2⟩ := h.ex
  obtain ⟨S', e1, h3⟩ := h1.put_old hkd b
  have hpt : ptP S L put false b = ⟨((k + 2 : Nat) : Int), 0, S', L, put + 1⟩ := by
    unfold ptP
    rw [if_neg (by simp), if_neg (by omega), if_pos hp, hk, Int.toNat_natCast, e1, if_pos rfl]
  have hh := put_any h2 b A c hl hc1 hc2 (by rw [h1.len]; omega) hL
  rw [hpt] at hh
  exact hh.mono fun e w' ⟨r1, r2, r3⟩ => ⟨r1, ⟨S', h3, r2⟩, r3⟩
theorem p_put_full (h : PAt B g fb mo Y w0 a0 a1 D m L put W) (b : List UInt8) (A : Option Addr) (c : Nat) (hl : LiesP W Y A (B8 b)) (hc1 : b.length ≤ c) (hc2 : c ≤ maxLen) (hL : L.length ≤ 1000000) (hb : b.length ≤ 512) (hp : put = L.length) (hr : mo < (D.length + 3) * 8) :
    Calls Try.prog 11 #[ptr fb, .slice A b.length c] W fun e w' => e = .returned (.tuple #[.int .i64 0, .int .i64 6]) ∧ PAt B g fb mo Y w0 a0 a1 D m L put w' ∧ KeptX Y W w' := by
  obtain ⟨S, h1, h2⟩ := h.ex
  obtain ⟨S', e1, h3⟩ := h1.put_full hr b
  have hpt : ptP S L put false b = ⟨0, 6, S', L, put⟩ := by
    unfold ptP
    rw [if_neg (by simp), if_neg (by omega), if_neg (by omega), h1.len, e1, if_neg (show ¬ (6 : Int) = 0 by decide)]
  have hh := put_any h2 b A c hl hc1 hc2 (by rw [h1.len]; omega) hL
  rw [hpt] at hh
  exact hh.mono fun e w' ⟨r1, r2, r3⟩ => ⟨r1, ⟨S', h3, r2⟩, r3⟩
theorem p_put_arg (h : PAt B g fb mo Y w0 a0 a1 D m L put W) (b : List UInt8) (A : Option Addr) (c : Nat) (hl : LiesP W Y A (B8 b)) (hc1 : b.length ≤ c) (hc2 : c ≤ maxLen) (hL : L.length ≤ 1000000) (hb : 512 < b.length) :
    Calls Try.prog 11 #[ptr fb, .slice A b.length c] W fun e w' => e = .returned (.tuple #[.int .i64 0, .int .i64 1]) ∧ PAt B g fb mo Y w0 a0 a1 D m L put w' ∧ KeptX Y W w' := by
  obtain ⟨S, h1, h2⟩ := h.ex
  have hpt : ptP S L put false b = ⟨0, 1, S, L, put⟩ := by
    unfold ptP
    rw [if_neg (by simp), if_pos hb]
  have hh := put_any h2 b A c hl hc1 hc2 (by rw [h1.len]; omega) hL
  rw [hpt] at hh
  exact hh.mono fun e w' ⟨r1, r2, r3⟩ => ⟨r1, ⟨S, h1, r2⟩, r3⟩
theorem p_commit_arg (h : PAt B g fb mo Y w0 a0 a1 D m L put W) (root count : Int) (mark : Nat) (ids : List Int) (A : Option Addr) (c : Nat) (hl : LiesP W (fun i => Y i ∨ i < B) A (cellsZ ids)) (hc1 : ids.length ≤ c) (hc2 : c ≤ maxLen) (h64 : In64 ids)
    (hr : -9223372036854775808 ≤ root ∧ root < 9223372036854775808) (hc : -9223372036854775808 ≤ count ∧ count < 9223372036854775808) (hmk : mark < 18446744073709551616) (hbad : cmBad (D.length + 2) root count ids = true) :
    Calls Try.prog 14 #[ptr fb, .int .i64 root, .int .i64 count, .int .u64 (mark : Int), .slice A ids.length c] W fun e w' => e = .returned (.int .i64 1) ∧ PAt B g fb mo Y w0 a0 a1 D m L put w' ∧ KeptX Y W w' := by
  obtain ⟨S, h1, h2⟩ := h.ex
  have hcm : cmP S m L put false root count mark ids = ⟨1, S, m, L, put, false⟩ := by
    unfold cmP
    rw [if_neg (by simp), h1.len, if_pos hbad]
  have hh := commit_any h2 root count mark ids A c hl hc1 hc2 h64 hr hc hmk
  rw [hcm] at hh
  exact hh.mono fun e w' ⟨r1, r2, r3⟩ => ⟨r1, ⟨S, h1, r2⟩, r3⟩
/-- which meta's page a Commit writes over -/
def st0 (a0 : Option Mt) (m' : Mt) : Option Mt := if m'.gen % 2 = 0 then some m' else a0
def st1 (a1 : Option Mt) (m' : Mt) : Option Mt := if m'.gen % 2 = 0 then a1 else some m'
theorem p_commit (h : PAt B g fb mo Y w0 a0 a1 D m L put W) (r k mark : Nat) (ids : List Int) (A : Option Addr) (c : Nat) (hl : LiesP W (fun i => Y i ∨ i < B) A (cellsZ ids)) (hc1 : ids.length ≤ c) (hc2 : c ≤ maxLen) (h64 : In64 ids)
    (hr : r < 9223372036854775808) (hc : k < 9223372036854775808) (hmk : mark < 18446744073709551616) (hgood : cmBad (D.length + 2) (r : Int) (k : Int) ids = false) (hkp : keepsB (D.length + 2) ids = true) (hg : m.gen ≠ 18446744073709551615) :
    Calls Try.prog 14 #[ptr fb, .int .i64 (r : Int), .int .i64 (k : Int), .int .u64 (mark : Int), .slice A ids.length c] W fun e w' => e = .returned (.int .i64 0) ∧ PAt B g fb mo Y w0 (st0 a0 ⟨m.gen + 1, r, k, mark⟩) (st1 a1 ⟨m.gen + 1, r, k, mark⟩) D ⟨m.gen + 1, r, k, mark⟩ (othP ids 2 D.length) 0 w' ∧ KeptX Y W w' := by
  obtain ⟨S, h1, h2⟩ := h.ex
  obtain ⟨m', hm'⟩ : ∃ m' : Mt, m' = ⟨m.gen + 1, r, k, mark⟩ := ⟨_, rfl⟩
  have hst : ∃ S', storeP S m' = (0, S') ∧ PD mo (st0 a0 m') (st1 a1 m') D S' := by
    unfold st0 st1
    by_cases hq : m'.gen % 2 = 0
    · rw [if_pos hq, if_pos hq]
      exact h1.store0 m' hq
    · rw [if_neg hq, if_neg hq]
      exact h1.store1 m' (by omega)
  obtain ⟨S', e1, h3⟩ := hst
  have hcm : cmP S m L put false (r : Int) (k : Int) mark ids = ⟨0, S', m', othP ids 2 D.length, 0, false⟩ := by
    unfold cmP
    rw [if_neg (by simp), h1.len, if_neg (by rw [hgood]; simp), if_neg hg, Int.toNat_natCast, Int.toNat_natCast]
    simp only [← hm', e1, h3.len, hkp, if_true, Nat.add_sub_cancel]
  have hh := commit_any h2 (r : Int) (k : Int) mark ids A c hl hc1 hc2 h64 (by omega) (by omega) hmk
  rw [hcm] at hh
  rw [← hm']
  exact hh.mono fun e w' ⟨r1, r2, r3⟩ => ⟨r1, ⟨S', h3, r2⟩, r3⟩
theorem p_read_no (h : PAt B g fb mo Y w0 a0 a1 D m L put W) (id : Int) (hid : ¬ (2 ≤ id ∧ id < ((D.length + 2 : Nat) : Int))) :
    Calls Try.prog 21 #[ptr fb, .int .i64 id] W fun e w' => ∃ v, e = .returned (.tuple #[v, .int .i64 1]) ∧ w'.ownsRow W.heap.size 5 1 v 0 [] ∧ Below W.heap.size W w' := by
  obtain ⟨S, h1, h2⟩ := h.ex
  have hrd : rdA S id = ([], 1) := by
    unfold rdA
    rw [h1.len, if_neg hid]
  have hh := fread_at h2 id
  rw [hrd] at hh
  exact hh
theorem rdG_page {S : Dv} (h1 : PD mo a0 a1 D S) {k : Nat} {b : List UInt8} (hk : D[k]? = some b) (hb : b.length ≤ 512) : ∀ (n j : Nat), j + n = 8 → rdG S (k + 2) j n ((pad b).take (64 * j)) = (pad b, 0) := by
  intro n
  induction n with
  | zero =>
    intro j hj
    have : j = 8 := by omega
    subst this
    unfold rdG
    rw [List.take_of_length_le (by rw [pad_length hb]; omega)]
  | succ n ih =>
    intro j hj
    unfold rdG
    rw [h1.read hk j (by omega), if_pos rfl, ← secG_take hb j (by omega)]
    exact ih (j + 1) (by omega)
theorem p_read (h : PAt B g fb mo Y w0 a0 a1 D m L put W) (k : Nat) (b : List UInt8) (hk : D[k]? = some b) (hb : b.length ≤ 512) :
    Calls Try.prog 21 #[ptr fb, .int .i64 ((k + 2 : Nat) : Int)] W fun e w' => ∃ v, e = .returned (.tuple #[v, .int .i64 0]) ∧ w'.ownsRow W.heap.size 5 1 v 512 (B8 (pad b)) ∧ Below W.heap.size W w' := by
  obtain ⟨S, h1, h2⟩ := h.ex
  have hlt := (List.getElem?_eq_some_iff.1 hk).1
  have hrd : rdA S ((k + 2 : Nat) : Int) = (pad b, 0) := by
    unfold rdA
    rw [h1.len, if_pos (by omega), Int.toNat_natCast]
    have := rdG_page h1 hk hb 8 0 (by omega)
    rw [Nat.mul_zero, List.take_zero] at this
    exact this
  have hh := fread_at h2 ((k + 2 : Nat) : Int)
  rw [hrd] at hh
  rw [← pad_length hb]
  exact hh
/-- a device that is new, opened -/
theorem p_open {S : Dv} (h : At B Y w0 g S W) (hS : S = ⟨mo, -1, []⟩) (hr : 16 ≤ mo) (hm : mo ≤ 100000) :
    Calls Try.prog 10 #[ptr g] W fun e w' => ∃ fb, e = .returned (.tuple #[ptr fb, .int .i64 0]) ∧ W.heap.size ≤ fb ∧ PAt B g fb mo Y w0 none (some ⟨1, 0, 0, 0⟩) [] ⟨1, 0, 0, 0⟩ [] 0 w' ∧ KeptX Y W w' := by
  subst hS
  obtain ⟨S1, e1, h1⟩ := PD.create hr hm
  obtain ⟨S2, e2, h2⟩ := h1.sync
  have hn : newP S2 = ⟨1, 0, 0, 0⟩ := by
    rw [h2.new (fun m hm => by cases hm) (fun m hm => by cases hm; exact ⟨by decide, by decide, by decide, by decide⟩)]
    rfl
  have hop : openP ⟨mo, -1, []⟩ = (0, S2) := by
    unfold openP
    rw [e1]
    simp only [e2, hn]
    rfl
  refine (open_any h (by show 0 < 1000000; omega)).mono ?_
  rintro e w' ⟨vp, r1, r2, r3, r4⟩
  rw [hop] at r1 r2
  obtain ⟨fb, rfl, hfb, hf⟩ := r2 rfl
  simp only [hn] at hf
  exact ⟨fb, r1, hfb, ⟨S2, h2, hf⟩, r4⟩
end
end Go.Proofs.Ytcmffifehpbjnaa
