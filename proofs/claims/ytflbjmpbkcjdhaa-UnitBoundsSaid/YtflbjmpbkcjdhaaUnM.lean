/- The law UnitBounds, walked. -/
import Derived.Test.YtflbjmpbkcjdhaaUnJ
import Derived.Deep.OwnRows
namespace Go.Proofs.Ytflbjmpbkcjdhaa
open Go.RowKit
set_option maxRecDepth 100000
set_option linter.unusedSimpArgs false
set_option linter.unusedVariables false

theorem mu8_info : (Try.prog.info? 5).map (fun i => (i.zero, i.size, i.bytes)) = some (some (.int .u8 0), 1, 1) := by kernel_rfl
theorem make_n (n : Nat) (hn : n ≤ 1000000) (w : World) : (Instr.makeSlice 22 (.int .i64 (n : Int)) (.int .i64 (n : Int))).run Try.prog w = .ok (.slice (some ⟨w.heap.size, 0, none⟩) n n) (w.alloc (.cells (madeCells #[.int .u8 0] n) 5)) :=
  run_make_row' (P := Try.prog) 22 5 (.int .u8 0) 1 Try.underlying22 mu8_info rfl .i64 .i64 n (by omega) (by omega) w
theorem made_zeros (n : Nat) : madeCells #[Value.int .u8 0] n = (B8 (List.replicate n 0)).toArray := by
  apply Array.ext
  · simp [madeCells, B8]
  · intro i h1 h2
    simp [madeCells, Nat.mod_one, B8]
def ksL (j : Nat) : List UInt8 := List.replicate j 107
def zeL (j : Nat) : List UInt8 := List.replicate j 0
theorem ksL_length (j : Nat) : (ksL j).length = j := by simp [ksL]
theorem zeL_length (j : Nat) : (zeL j).length = j := by simp [zeL]
theorem put_ks (j : Nat) : (⟨(ksL j).toArray⟩ : ByteArray) ++ ⟨#[107]⟩ = ⟨(ksL (j + 1)).toArray⟩ := by
  unfold ksL
  apply ByteArray.ext
  rw [ByteArray.data_append]
  show (List.replicate j 107).toArray ++ [107].toArray = _
  rw [List.append_toArray, ← List.replicate_succ']
theorem made_own (n : Nat) (hn : n ≤ 1000000) (base : Nat) (w : World) (hb : base ≤ w.heap.size) : (w.alloc (.cells (madeCells #[.int .u8 0] n) 5)).ownsRow base 5 1 (.slice (some ⟨w.heap.size, 0, none⟩) n n) n (B8 (zeL n)) := by
  rw [made_zeros]
  refine ⟨by rw [B8_length, zeL_length, Nat.mul_one], .inr ⟨w.heap.size, n, _, rfl, hb, heap_alloc_new w _, Nat.le_refl _, room63 (by omega), by simp [B8], ?_⟩⟩
  simp [zeL, B8]
def rowU (k v : Nat) : Opx := ⟨ksL k, false, zeL v⟩
theorem rowU_fit (k v : Nat) (hk : 1 ≤ k) : fitO (rowU k v) = (decide (k ≤ 130) && decide (v ≤ 11000)) := by
  unfold fitO rowU
  simp [hk, ksL_length, zeL_length]
theorem rowU_size (k v : Nat) : (opB (rowU k v)).length = 6 + k + v := by
  rw [opB_length]
  unfold sizeO rowU
  simp [ksL_length, zeL_length]
theorem rowU_ok (k v : Nat) (hk : 1 ≤ k) : unitOk [rowU k v] = (decide (k ≤ 130) && decide (v ≤ 11000)) := by
  unfold unitOk
  rw [List.all_cons, rowU_fit k v hk]
  by_cases h1 : k ≤ 130 <;> by_cases h2 : v ≤ 11000 <;> simp [h1, h2]
  have := rowU_size k v
  simp only [opsB, List.flatMap_cons, List.flatMap_nil, List.append_nil]
  omega
theorem opsB_rep (n : Nat) : (opsB (List.replicate n (rowU 1 9993))).length = 10000 * n := by
  induction n with
  | zero => rfl
  | succ n ih =>
    rw [List.replicate_succ, opsB_cons, List.length_append, ih, rowU_size]
    omega
theorem rep_ok (n : Nat) : unitOk (List.replicate n (rowU 1 9993)) = decide (n ≤ 19) := by
  unfold unitOk
  have h : (List.replicate n (rowU 1 9993)).all fitO = true := by
    rw [List.all_eq_true]
    intro o ho
    rw [(List.mem_replicate.1 ho).2, rowU_fit 1 9993 (by omega)]
    rfl
  rw [h, opsB_rep, Bool.true_and]
  by_cases hn : n ≤ 19
  · rw [decide_eq_true hn, decide_eq_true (by omega)]
  · rw [decide_eq_false hn, decide_eq_false (by omega)]
/-- what Append tells, with the answer told apart -/
theorem uappend_two (l : List Om) (A : Option Addr) (n c B : Nat) (w : World) (ok : Bool) (hn : n = l.length) (ht : OpsAt w B l A c) (hB : B ≤ w.heap.size) (hf : Few l) (hok : unitOk (pl l) = ok) :
    Calls Try.prog 7 #[.slice A n c] w fun e w' => ∃ A' n' c', e = .returned (.tuple #[.slice A' n' c', .bool ok]) ∧ (ok = true → n' = (opsB (pl l)).length) ∧ n' ≤ c' ∧ c' ≤ maxLen ∧ Below w.heap.size w w' := by
  refine (uappend_any l A n c B w hn ht hB hf).mono ?_
  rintro e w' ⟨hb, h⟩
  rw [hok] at h
  cases ok
  · exact ⟨none, 0, 0, h, fun e => (by cases e), Nat.le_refl _, Nat.zero_le _, hb⟩
  · obtain ⟨v, rfl, ho⟩ := h
    obtain ⟨A', c', rfl, h1, h2⟩ := own_form ho
    exact ⟨A', _, c', rfl, fun _ => rfl, h1, h2, hb⟩
theorem ops_one {w : World} (m : Om) (B : Nat) (hv : ValAt w B m) (hB : B ≤ w.heap.size) : OpsAt (w.alloc (.cells (cellsOm m).toArray 24)) (w.heap.size + 1) [m] (some ⟨w.heap.size, 0, none⟩) 1 := by
  refine ⟨Nat.le_refl _, room63 (by omega), ?_, fun x hx => ?_⟩
  · have := Lies.lit w 24 (cellsOm m)
    simpa [cellsOms] using this
  · rw [List.mem_singleton] at hx
    subst hx
    exact (hv.below ((Below.refl B w).alloc hB _)).more (by omega)
theorem two_lit (w : World) (o : Obj) (T : TypeId) (cs : List Value) : Lies ((w.alloc o).alloc (.cells cs.toArray T)) (w.heap.size + 1 + 1) (some ⟨w.heap.size + 1, 0, none⟩) cs := by
  have h := Lies.lit (w.alloc o) T cs
  have e : (w.alloc o).heap.size = w.heap.size + 1 := by simp
  rw [e] at h
  exact h
/-- the rows of the law's second loop -/
structure UbAt (w0 wr : World) (j : Nat) (v : Value) : Prop where
  ex : ∃ acc : List Om, pl acc = List.replicate j (rowU 1 9993) ∧ wr.ownsRow w0.heap.size 24 3 v j (cellsOms acc) ∧ ∀ m ∈ acc, wr.ownsRow w0.heap.size 5 1 (.slice m.A m.o.val.length m.c) m.o.val.length (B8 m.o.val)
  bel : Below w0.heap.size w0 wr
theorem UbAt.len {w0 wr : World} {j : Nat} {v : Value} (h : UbAt w0 wr j v) : ∃ A c, v = .slice A j c ∧ j ≤ c ∧ c ≤ maxLen := by
  obtain ⟨acc, _, h2, _⟩ := h.ex
  exact own_form h2
theorem UbAt.ops {w0 wr : World} {j : Nat} {A : Option Addr} {c : Nat} (h : UbAt w0 wr j (.slice A j c)) : ∃ l : List Om, pl l = List.replicate j (rowU 1 9993) ∧ l.length = j ∧ OpsAt wr wr.heap.size l A c := by
  obtain ⟨acc, h1, h2, h3⟩ := h.ex
  have hl : acc.length = j := by rw [← pl_length, h1, List.length_replicate]
  obtain ⟨A', c', e, h4, h5⟩ := own_form h2
  injection e with e1 e2 e3
  subst e3
  refine ⟨acc, h1, hl, by omega, h5, own_lies h2 (Nat.le_refl _), fun m hm => ?_⟩
  obtain ⟨A', c', e, h6, h7⟩ := own_form (h3 m hm)
  injection e with e1 e2 e3
  rw [← e3] at h6 h7
  exact ⟨own_lies (h3 m hm) (Nat.le_refl _), h6, h7⟩
theorem UbAt.more {w0 wr w7 : World} {j : Nat} {A A7 : Option Addr} {c c7 : Nat} {m : Om} {o : Obj} {acc : List Om} (h1 : pl acc = List.replicate j (rowU 1 9993)) (h2 : wr.ownsRow w0.heap.size 24 3 (.slice A j c) j (cellsOms acc)) (h3 : ∀ m ∈ acc, wr.ownsRow w0.heap.size 5 1 (.slice m.A m.o.val.length m.c) m.o.val.length (B8 m.o.val)) (hbel : Below w0.heap.size w0 wr) (hm : m = ⟨rowU 1 9993, some ⟨wr.heap.size, 0, none⟩, 9993⟩)
    (hg : ((wr.alloc (.cells (madeCells #[.int .u8 0] 9993) 5)).alloc o).grownBy w7 (Value.slice A j c).ownBlock) (ho : w7.ownsRow w0.heap.size 24 3 (.slice A7 (j + 1) c7) (j + 1) (cellsOms acc ++ cellsOm m)) :
    UbAt w0 w7 (j + 1) (.slice A7 (j + 1) c7) := by
  have b1 : Below wr.heap.size wr (wr.alloc (.cells (madeCells #[.int .u8 0] 9993) 5)) := (Below.refl _ _).alloc (Nat.le_refl _) _
  have b2 : Below wr.heap.size wr ((wr.alloc (.cells (madeCells #[.int .u8 0] 9993) 5)).alloc o) := b1.alloc b1.size _
  have k2 := h2.kept (only_below b2 none) (Classical.em _)
  have val : ∀ {v : Value} {n : Nat} {xs : List Value}, ((wr.alloc (.cells (madeCells #[.int .u8 0] 9993) 5)).alloc o).ownsRow w0.heap.size 5 1 v n xs → w7.ownsRow w0.heap.size 5 1 v n xs := fun hv => hv.kept hg (own_apart_types hv k2 (by decide))
  refine ⟨⟨acc ++ [m], ?_, ?_, ?_⟩, ?_⟩
  · rw [pl_append, h1, List.replicate_succ', hm]; rfl
  · rw [cellsOms_append]
    simpa [cellsOms] using ho
  · intro x hx
    rcases List.mem_append.1 hx with hx | hx
    · exact val ((h3 x hx).kept (only_below b2 none) (Classical.em _))
    · rw [List.mem_singleton] at hx
      subst hx
      rw [hm]
      have h4 := made_own 9993 (by omega) w0.heap.size wr hbel.size
      have h5 := h4.alloc o
      have e : (rowU 1 9993).val = zeL 9993 := rfl
      simp only [e, zeL_length]
      exact val h5
  · have b3 : Below w0.heap.size ((wr.alloc (.cells (madeCells #[.int .u8 0] 9993) 5)).alloc o) w7 := below_grown k2 hg (by have := hbel.size; simp; omega)
    exact (hbel.trans (b2.mono hbel.size)).trans b3
theorem last_row (K V n : Nat) (hn : n ≤ 31) : (decide (n ≤ 19) = true → (10000 : Int) * (n : Int) = ((10000 * n : Nat) : Int)) := fun _ => by push_cast; rfl
set_option maxHeartbeats 2000000 in
theorem ubounds_law (a0 a1 a2 : Int) (w : World) :
    Calls Try.prog 3 #[.int .i64 a0, .int .i64 a1, .int .i64 a2] w fun e w' => e = .returned (.bool true) ∧ Below w.heap.size w w' := by
  obtain ⟨k0, hk0, ek, fk⟩ := mask_is a0 7 3 (by omega) rfl
  obtain ⟨v0, hv0, ev, fv⟩ := mask_is a1 7 3 (by omega) rfl
  obtain ⟨n, hn, en, fn⟩ := mask_is a2 31 5 (by omega) rfl
  obtain ⟨K, hK⟩ : ∃ K, K = 127 + k0 := ⟨_, rfl⟩
  obtain ⟨V, hV⟩ : ∃ V, V = 10996 + v0 := ⟨_, rfl⟩
  have wk : IntKind.i64.wrap (127 + (k0 : Int)) = (K : Int) := by rw [hK]; push_cast; exact IntWalk.i64_in _ ⟨by omega, by omega⟩
  have wv : IntKind.i64.wrap (10996 + (v0 : Int)) = (V : Int) := by rw [hV]; push_cast; exact IntWalk.i64_in _ ⟨by omega, by omega⟩
  have wk' : (127 : Int) + (k0 : Int) = (K : Int) := by omega
  have wv' : (10996 : Int) + (v0 : Int) = (V : Int) := by omega
  have hKb : 127 ≤ K ∧ K ≤ 134 := by omega
  have hVb : 10996 ≤ V ∧ V ≤ 11003 := by omega
  have hnb : n ≤ 31 := by omega
  clear hK hV ek ev en
  go_enter Try.func3, Try.ntmps3
  go_wp2_with fail
  go_loop [7, 8] (fun s i => ∃ j : Nat, j ≤ K ∧ i = .int .i64 j ∧ s = .string ⟨(ksL j).toArray⟩) (fun _ i => K - (intOf i).toNat)
  case atStart => exact ⟨0, Nat.zero_le _, rfl, rfl⟩
  case round =>
    obtain ⟨j, hj, rfl, rfl⟩ := hrel
    by_cases hlt : j < K
    · have sz := size_arr (ksL j)
      rw [ksL_length] at sz
      have c63 : ¬ 9223372036854775807 < j + 1 := by omega
      have pk := put_ks j
      have hj1 : (j : Int) < (K : Int) := by omega
      go_wp2_with fail
      go_round
      case rel => exact ⟨j + 1, by omega, by go_num, rfl⟩
      case measure => simp [intOf]; omega
    · obtain rfl : K = j := by omega
      clear wk wk' fk hk0
      have mk := make_n V (by omega) w
      have mz := made_own V (by omega) w.heap.size w (Nat.le_refl _)
      obtain ⟨W1, hW1⟩ : ∃ W, W = w.alloc (.cells (madeCells #[.int .u8 0] V) 5) := ⟨_, rfl⟩
      have z1 : W1.heap.size = w.heap.size + 1 := by rw [hW1]; simp
      rw [← hW1] at mz mk
      obtain ⟨m1, hm1⟩ : ∃ m : Om, m = ⟨rowU K V, some ⟨w.heap.size, 0, none⟩, V⟩ := ⟨_, rfl⟩
      have hc1 : cellsOm m1 = [.string ⟨(ksL K).toArray⟩, .bool false, .slice (some ⟨w.heap.size, 0, none⟩) V V] := by
        rw [hm1]
        show [Value.string ⟨(ksL K).toArray⟩, .bool false, .slice (some ⟨w.heap.size, 0, none⟩) (zeL V).length V] = _
        rw [zeL_length]
      have hv1 : ValAt W1 W1.heap.size m1 := by
        rw [hm1]
        exact ⟨own_lies mz (Nat.le_refl _), by show (zeL V).length ≤ V; rw [zeL_length]; exact Nat.le_refl _, room63 (show V ≤ 140737488355328 by omega)⟩
      have t2 := ops_one m1 _ hv1 (Nat.le_refl _)
      rw [hc1, z1] at t2
      obtain ⟨W2, hW2⟩ : ∃ W, W = W1.alloc (.cells #[.string ⟨(ksL K).toArray⟩, .bool false, .slice (some ⟨w.heap.size, 0, none⟩) V V] 24) := ⟨_, rfl⟩
      have b2 : Below w.heap.size w W2 := by rw [hW2, hW1]; exact ((Below.refl _ w).alloc (Nat.le_refl _) _).alloc (by simp) _
      have T2 : Hid (OpsAt W2 W2.heap.size [m1] (some ⟨w.heap.size + 1, 0, none⟩) 1) := Lib.hid (by rw [hW2]; exact t2.more (by simp [z1]))
      have hpl : pl [m1] = [rowU K V] := by rw [hm1]; rfl
      have hfew : Few [m1] := by
        refine ⟨by simp, fun m hm => ?_⟩
        rw [List.mem_singleton] at hm
        subst hm
        rw [hm1]
        show (ksL K).length ≤ 1000000 ∧ (zeL V).length ≤ 1000000
        rw [ksL_length, zeL_length]
        omega
      have HFEW := Lib.hid hfew
      have HPL := Lib.hid hpl
      have HB2 := Lib.hid b2
      obtain ⟨ok1, hok1⟩ : ∃ b, b = (decide (K ≤ 130) && decide (V ≤ 11000)) := ⟨_, rfl⟩
      have HOK1 := Lib.hid hok1
      have HU1 : Hid (unitOk (pl [m1]) = ok1) := Lib.hid (by rw [hpl, rowU_ok K V (by omega), hok1])
      have HS1 : Hid ((opsB (pl [m1])).length = 6 + K + V) := Lib.hid (by rw [hpl]; simp only [opsB, List.flatMap_cons, List.flatMap_nil, List.append_nil]; exact rowU_size K V)
      clear mz z1 hm1 hc1 hv1 t2 b2 hpl hfew hok1
      go_wp2_with fail
      rw [← hW1, ← hW2]
      clear hW1 hW2 mk
      refine (uappend_two [m1] _ _ _ _ _ ok1 rfl T2.out (Nat.le_refl _) HFEW.out HU1.out).mono ?_
      rintro e w2 ⟨A1, n1, c1, rfl, hn1, hc1, hm1, hb2⟩
      rw [HS1.out] at hn1
      have HN1 := Lib.hid hn1
      have B2 := Lib.hid (HB2.out.trans (hb2.mono HB2.out.size))
      unfold maxLen at hm1
      clear hn1 hb2
      have cvt := Lib.run_convert_bytes_const (P := Try.prog) w2 22 5 #[.int .u8 120] 1 1 Try.underlying22 Try.underlying5
      obtain ⟨W3, hW3⟩ : ∃ w0, w0 = w2.alloc (.cells #[.int .u8 120] 5 (1, 2)) := ⟨_, rfl⟩
      have h3 : Lies W3 (w2.heap.size + 1) (some ⟨w2.heap.size, 0, none⟩) (B8 [120]) := by rw [hW3]; exact Lies.litm w2 5 [.int .u8 120] _
      have b3 : Below w2.heap.size w2 W3 := by rw [hW3]; exact (Below.refl _ _).alloc (Nat.le_refl _) _
      have s3 : W3.heap.size = w2.heap.size + 1 := by rw [hW3]; simp
      obtain ⟨m2, hm2⟩ : ∃ m : Om, m = ⟨⟨[107], true, [120]⟩, some ⟨w2.heap.size, 0, none⟩, 1⟩ := ⟨_, rfl⟩
      have t4 := ops_one (w := W3) m2 W3.heap.size (by rw [hm2]; exact ⟨h3.more (by omega), Nat.le_refl _, room63 (show 1 ≤ 140737488355328 by omega)⟩) (Nat.le_refl _)
      obtain ⟨W4, hW4⟩ : ∃ W, W = W3.alloc (.cells #[.string ⟨#[107]⟩, .bool true, .slice (some ⟨w2.heap.size, 0, none⟩) 1 1] 24) := ⟨_, rfl⟩
      have hc2 : cellsOm m2 = [.string ⟨#[107]⟩, .bool true, .slice (some ⟨w2.heap.size, 0, none⟩) 1 1] := by rw [hm2]; rfl
      rw [hc2, s3] at t4
      have T4 : Hid (OpsAt W4 W4.heap.size [m2] (some ⟨w2.heap.size + 1, 0, none⟩) 1) := Lib.hid (by rw [hW4]; exact t4.more (by simp [s3]))
      have b4 : Below w2.heap.size w2 W4 := by rw [hW4]; exact b3.alloc b3.size _
      have HB4 := Lib.hid b4
      have HU2 : Hid (unitOk (pl [m2]) = false) := Lib.hid (by rw [hm2]; rfl)
      have HF2 : Hid (Few [m2]) := Lib.hid ⟨by simp, fun m hm => by rw [List.mem_singleton] at hm; subst hm; rw [hm2]; simp⟩
      clear h3 b3 s3 t4 hc2 b4 hm2
      go_wp2_with fail
      rw [← hW3, ← hW4]
      clear hW3 hW4 cvt
      refine (uappend_two [m2] _ _ _ _ _ false rfl T4.out (Nat.le_refl _) HF2.out HU2.out).mono ?_
      rintro e w3 ⟨A2, n2, c2, rfl, _, hc2, hm2, hb3⟩
      have B3 := Lib.hid (B2.out.trans ((HB4.out.trans (hb3.mono HB4.out.size)).mono B2.out.size))
      clear hb3
      obtain ⟨m3, hm3⟩ : ∃ m : Om, m = ⟨⟨[], false, []⟩, none, 0⟩ := ⟨_, rfl⟩
      have t5 := ops_one (w := w3) m3 w3.heap.size (by rw [hm3]; exact ⟨.inl rfl, Nat.le_refl _, Nat.zero_le _⟩) (Nat.le_refl _)
      obtain ⟨W5, hW5⟩ : ∃ W, W = w3.alloc (.cells #[.string ⟨#[]⟩, .bool false, .slice none 0 0] 24) := ⟨_, rfl⟩
      have hc3 : cellsOm m3 = [.string ⟨#[]⟩, .bool false, .slice none 0 0] := by rw [hm3]; rfl
      rw [hc3] at t5
      have T5 : Hid (OpsAt W5 W5.heap.size [m3] (some ⟨w3.heap.size, 0, none⟩) 1) := Lib.hid (by rw [hW5]; exact t5.more (by simp))
      have b5 : Below w3.heap.size w3 W5 := by rw [hW5]; exact (Below.refl _ _).alloc (Nat.le_refl _) _
      have HB5 := Lib.hid b5
      have HU3 : Hid (unitOk (pl [m3]) = false) := Lib.hid (by rw [hm3]; rfl)
      have HF3 : Hid (Few [m3]) := Lib.hid ⟨by simp, fun m hm => by rw [List.mem_singleton] at hm; subst hm; rw [hm3]; simp⟩
      clear t5 hc3 b5 hm3
      go_wp2_with fail
      rw [← hW5]
      clear hW5
      refine (uappend_two [m3] _ _ _ _ _ false rfl T5.out (Nat.le_refl _) HF3.out HU3.out).mono ?_
      rintro e w4 ⟨A3, n3, c3, rfl, _, hc3, hm3, hb4⟩
      have B4 := Lib.hid (B3.out.trans ((HB5.out.trans (hb4.mono HB5.out.size)).mono B3.out.size))
      clear hb4
      obtain ⟨i0, hi, hz0, hz1, hz2⟩ := info_parts2 om_info
      have HI := Lib.hid hi
      have H0 := Lib.hid hz0
      have H1 := Lib.hid hz1
      have H2 := Lib.hid hz2
      clear hi hz0 hz1 hz2
      go_wp2_with fail
      go_loopw [16, 17] (fun v i wr => ∃ q : Nat, q ≤ n ∧ i = .int .i64 q ∧ UbAt w4 wr q v) (fun _ i _ => n - (intOf i).toNat)
      case atStart => exact ⟨0, Nat.zero_le _, rfl, ⟨[], rfl, World.ownsRow_nil _ _ _ _, fun m hm => by cases hm⟩, Below.refl _ _⟩
      case round =>
        obtain ⟨q, hq, rfl, hU⟩ := hrel
        obtain ⟨A5, c5, rfl, hc5, hm5⟩ := hU.len
        have HU := Lib.hid hU
        clear hU
        by_cases hlt : q < n
        · obtain ⟨acc, e1, e2, e3⟩ := HU.out.ex
          have E1 := Lib.hid e1
          have E2 := Lib.hid e2
          have E3 := Lib.hid e3
          obtain ⟨m, hm⟩ : ∃ m : Om, m = ⟨rowU 1 9993, some ⟨wr.heap.size, 0, none⟩, 9993⟩ := ⟨_, rfl⟩
          have hcm : cellsOm m = [.string ⟨#[107]⟩, .bool false, .slice (some ⟨wr.heap.size, 0, none⟩) 9993 9993] := by
            rw [hm]
            show [Value.string ⟨(ksL 1).toArray⟩, .bool false, .slice (some ⟨wr.heap.size, 0, none⟩) (zeL 9993).length 9993] = _
            rw [zeL_length]
            rfl
          have HM := Lib.hid hm
          have HCM := Lib.hid hcm
          have mk9 : (Instr.makeSlice 22 (.int .i64 9993) (.int .i64 9993)).run Try.prog wr = .ok (.slice (some ⟨wr.heap.size, 0, none⟩) 9993 9993) (wr.alloc (.cells (madeCells #[.int .u8 0] 9993) 5)) := make_n 9993 (by omega) wr
          have HR1 : Hid (q + 1 ≤ maxLen) := Lib.hid (room63 (by omega))
          have HR2 : Hid ((q + 1) * 48 ≤ 140737488355328) := Lib.hid (by omega)
          have HR3 := Lib.hid HU.out.bel.size
          have hq1 : (q : Int) < (n : Int) := by omega
          clear e1 e2 e3 hm hcm
          go_wp2_with (at_builtin; go_must (refine wpList_append_apart rfl _ _ 25 rfl w4.heap.size 24 i0 _ 3 48 Try.underlying25 HI.out H0.out H1.out H2.out rfl (by omega) (.slice A5 q c5) q _ rfl ((E2.out.alloc _).alloc _) _ _ 1 1 (cellsOm m) rfl (by rw [HCM.out]; exact two_lit wr (.cells (madeCells #[.int .u8 0] 9993) 5) 24 [.string ⟨#[107]⟩, .bool false, .slice (some ⟨wr.heap.size, 0, none⟩) 9993 9993]) (by rw [HCM.out]; rfl) (cellsOm_one _) HR1.out HR2.out (by have := HR3.out; simp; omega) ?_); intro v7 w7 o7 g7; obtain ⟨A7, c7, rfl, hc7, hm7⟩ := own_form o7; have U7 := Lib.hid (UbAt.more E1.out E2.out E3.out HU.out.bel HM.out g7 o7); clear o7 g7)
          go_roundw
          case rel => exact ⟨q + 1, by omega, by go_num, U7.out⟩
          case measure => simp [intOf]; omega
        · obtain rfl : n = q := by omega
          obtain ⟨l, hl1, hl2, hl3⟩ := HU.out.ops
          have HL3 := Lib.hid hl3
          have HL2 := Lib.hid hl2
          have B6 := Lib.hid (B4.out.trans (HU.out.bel.mono B4.out.size))
          have HUA : Hid (unitOk (pl l) = decide (n ≤ 19)) := Lib.hid (by rw [hl1, rep_ok])
          have HSA : Hid ((opsB (pl l)).length = 10000 * n) := Lib.hid (by rw [hl1, opsB_rep])
          have HFA : Hid (Few l) := Lib.hid (by
            refine ⟨by omega, fun m hm => ?_⟩
            have h : m.o ∈ pl l := List.mem_map.2 ⟨m, hm, rfl⟩
            rw [hl1] at h
            rw [(List.mem_replicate.1 h).2]
            show (ksL 1).length ≤ 1000000 ∧ (zeL 9993).length ≤ 1000000
            rw [ksL_length, zeL_length]
            omega)
          obtain ⟨ok2, hok2⟩ : ∃ b, b = decide (n ≤ 19) := ⟨_, rfl⟩
          have HOK2 := Lib.hid hok2
          rw [← hok2] at HUA
          clear hl1 hl2 hl3 hok2
          go_wp2_with fail
          refine (uappend_two l _ _ _ _ _ ok2 HL2.out.symm HL3.out (Nat.le_refl _) HFA.out HUA.out).mono ?_
          rintro e w8 ⟨A8, n8, c8, rfl, hn8, hc8, hm8, hb8⟩
          rw [HSA.out] at hn8
          have B8' := Lib.hid (B6.out.trans (hb8.mono B6.out.size))
          have HN8 := Lib.hid hn8
          unfold maxLen at hm8
          clear hn8 hb8
          have case1 : (K ≤ 130 ∧ V ≤ 11000 ∧ ok1 = true) ∨ (K ≤ 130 ∧ 11000 < V ∧ ok1 = false) ∨ (130 < K ∧ ok1 = false) := by
            have := HOK1.out
            by_cases q1 : K ≤ 130 <;> by_cases q2 : V ≤ 11000 <;> simp [q1, q2] at this <;> simp [q1, q2, this] <;> omega
          have case2 : (n ≤ 19 ∧ ok2 = true) ∨ (19 < n ∧ ok2 = false) := by
            have := HOK2.out
            by_cases q1 : n ≤ 19 <;> simp [q1] at this <;> simp [q1, this] <;> omega
          have w10 : IntKind.i64.wrap (10000 * (n : Int)) = 10000 * (n : Int) := IntWalk.i64_in _ ⟨by omega, by omega⟩
          have hq1 : ok1 = true → ((n1 : Int) == 6 + (K : Int) + (V : Int)) = true := fun h => by
            rw [HN1.out h]; simp
          have hq2 : ok2 = true → ((n8 : Int) == 10000 * (n : Int)) = true := fun h => by
            rw [HN8.out h]; simp
          have HQ1 := Lib.hid hq1
          have HQ2 := Lib.hid hq2
          clear hq1 hq2 HOK1 HOK2
          rcases case1 with ⟨q1, q2, rfl⟩ | ⟨q1, q2, rfl⟩ | ⟨q1, rfl⟩
          all_goals rcases case2 with ⟨q3, rfl⟩ | ⟨q3, rfl⟩
          all_goals (
            first | have x1 : decide ((K : Int) ≤ 130) = false := decide_eq_false (by omega) | have x1 : decide ((K : Int) ≤ 130) = true := decide_eq_true (by omega)
            first | have x2 : decide ((V : Int) ≤ 11000) = false := decide_eq_false (by omega) | have x2 : decide ((V : Int) ≤ 11000) = true := decide_eq_true (by omega) | skip
            first | have x3 : decide ((n : Int) ≤ 19) = false := decide_eq_false (by omega) | have x3 : decide ((n : Int) ≤ 19) = true := decide_eq_true (by omega)
            first | have r1 := HQ1.out rfl | skip
            first | have r2 := HQ2.out rfl | skip
            go_wp2_with fail
            refine (uawake_any _).mono ?_
            rintro e w9 ⟨rfl, hb9⟩
            have D := Lib.hid (B8'.out.trans (hb9.mono B8'.out.size))
            clear hb9
            go_wp2_with fail
            go_ret
            exact ⟨rfl, D.out⟩)
theorem ubounds_all (a0 a1 a2 : Int) (W : World) :
    Calls Try.prog 3 #[.int .i64 a0, .int .i64 a1, .int .i64 a2] W fun e W' => e = .returned (.bool true) ∧ Below W.heap.size W W' := ubounds_law a0 a1 a2 W
end Go.Proofs.Ytflbjmpbkcjdhaa
