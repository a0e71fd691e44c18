/- A content's frames, as plain data; Frames where its head may not be. -/
import Derived.Test.YtfajkbegmmlmjaaContC
import Derived.Test.YtfajkbegmmlmjaaContK
import Derived.Test.YtfajkbegmmlmjaaFrms
namespace Go.Proofs.Ytfajkbegmmlmjaa
open Go.RowKit
set_option maxRecDepth 100000
set_option linter.unusedSimpArgs false
set_option linter.unusedVariables false

/-- the part k of a body -/
def part (l : List UInt8) (k : Nat) : List UInt8 := (l.drop (4088 * k)).take 4088
theorem part_length (l : List UInt8) (k : Nat) : (part l k).length = plen l.length k := by
  unfold part plen
  rw [List.length_take, List.length_drop]
/-- the parts from k on -/
theorem parts_join (l : List UInt8) : ∀ n, (List.range n).flatMap (part l) = l.take (4088 * n) := by
  intro n
  induction n with
  | zero => simp
  | succ n ih =>
    rw [List.range_succ, List.flatMap_append, ih]
    simp only [List.flatMap_cons, List.flatMap_nil, List.append_nil]
    unfold part
    rw [← List.take_add]
    congr 1
theorem parts_all (l : List UInt8) : (List.range (pcount l.length)).flatMap (part l) = l := by
  rw [parts_join, List.take_of_length_le]
  unfold pcount
  omega
theorem part_pos (l : List UInt8) (k : Nat) (h : k < pcount l.length) : 0 < (part l k).length := by
  rw [part_length]
  unfold pcount at h
  unfold plen
  omega
theorem part_le (l : List UInt8) (k : Nat) : (part l k).length ≤ 4088 := by
  rw [part_length]
  unfold plen
  omega
theorem part_get (l : List UInt8) (k j : Nat) (hj : j < (part l k).length) (h2 : 4088 * k + j < l.length) : (part l k)[j] = l[4088 * k + j] := by
  have h4 : j < 4088 := Nat.lt_of_lt_of_le hj (part_le l k)
  have h : (part l k)[j]? = l[4088 * k + j]? := by
    unfold part
    rw [List.getElem?_take, if_pos h4, List.getElem?_drop]
  rw [List.getElem?_eq_getElem hj, List.getElem?_eq_getElem h2] at h
  injection h
/-- a content's frames -/
def headF (ch : Int) (A : Option Addr) (c : Nat) (H : List UInt8) : Frm := ⟨2, ch, A, c, H⟩
def partF (ch : Int) (b o : Nat) (l : List UInt8) (k : Nat) : Frm := ⟨3, ch, some ⟨b, o + 4088 * k, none⟩, plen l.length k, part l k⟩
def framesF (ch : Int) (A : Option Addr) (c : Nat) (H : List UInt8) (b o : Nat) (l : List UInt8) (ks : List Nat) : List Frm := headF ch A c H :: ks.map (partF ch b o l)
theorem framesF_length (ch : Int) (A : Option Addr) (c : Nat) (H : List UInt8) (b o : Nat) (l : List UInt8) (ks : List Nat) : (framesF ch A c H b o l ks).length = 1 + ks.length := by
  simp [framesF]; omega
theorem framesF_snoc (ch : Int) (A : Option Addr) (c : Nat) (H : List UInt8) (b o : Nat) (l : List UInt8) (ks : List Nat) (k : Nat) : cellsFs (framesF ch A c H b o l (ks ++ [k])) = cellsFs (framesF ch A c H b o l ks) ++ [.int .i64 3, .int .i64 ch, partV b o l.length k] := by
  have e : framesF ch A c H b o l (ks ++ [k]) = framesF ch A c H b o l ks ++ [partF ch b o l k] := by simp [framesF]
  rw [e, cellsFs_append]
  congr 1
  show cellsR (partF ch b o l k) ++ [] = _
  rw [List.append_nil]
  unfold cellsR cells3 partF partV
  simp only [part_length]
/-- a content's octets -/
def contB (ch : Nat) (H l : List UInt8) : List UInt8 := frameB 2 ch H ++ (List.range (pcount l.length)).flatMap fun k => frameB 3 ch (part l k)
theorem octs_frames (ch : Nat) (A : Option Addr) (c : Nat) (H : List UInt8) (b o : Nat) (l : List UInt8) : octsF (framesF (ch : Int) A c H b o l (List.range (pcount l.length))) = contB ch H l := by
  unfold framesF octsF contB
  rw [List.flatMap_cons]
  congr 1
  rw [List.flatMap_map]
  rfl
def chanOk (ch : Int) : Bool := decide (0 ≤ ch ∧ ch ≤ 65535)
theorem frames_ok (ch : Int) (A : Option Addr) (c : Nat) (H : List UInt8) (b o : Nat) (l : List UInt8) (ks : List Nat) (hH : H.length ≤ 4088) : ∀ f ∈ framesF ch A c H b o l ks, okF f = chanOk ch := by
  intro f hf
  unfold framesF at hf
  rcases List.mem_cons.1 hf with rfl | h
  · unfold okF headF frameOk fkind chanOk
    simp only [Bool.and_eq_true, decide_eq_true_eq]
    rw [Bool.eq_iff_iff]
    simp
    omega
  · obtain ⟨k, _, rfl⟩ := List.mem_map.1 h
    have hp := part_le l k
    unfold okF partF frameOk fkind chanOk
    rw [Bool.eq_iff_iff]
    simp
    omega

set_option maxHeartbeats 400000 in
theorem cframes_not (A : Option Addr) (c : Nat) (l : List UInt8) (B : Nat) (ch : Int) (s : Nat) (m : Int) (t : List UInt8) (AB : Option Addr) (nB cB : Nat) (w : World) (hl : Lies w B A (B8 l)) (hB : B ≤ w.heap.size) (hs : l.length ≤ 70368744177664) (ht : t.length ≤ maxLen) (hn : nB ≤ 9223372036854775807) (hok : headOk m t = false) :
    Calls Try.prog 14 #[.slice A l.length c, .int .i64 ch, .agg #[.int .u64 s, .int .i64 m, .string ⟨t.toArray⟩], .slice AB nB cB] w (NewOctsOk w.heap.size l false w) := by
  have kw := u64_nat nB (by omega)
  have HL := Lib.hid hl
  have HOK := Lib.hid hok
  clear hl hok
  obtain ⟨w1, hw1⟩ : ∃ w1, w1 = (w.alloc (.cells #[.int .i64 ch] 3)).alloc (.cells #[.int .u64 nB, .int .i64 m, .string ⟨t.toArray⟩] 25) := ⟨_, rfl⟩
  have hb1 : Below w.heap.size w w1 := by rw [hw1]; exact ((Below.refl _ _).alloc (Nat.le_refl _) _).alloc (by simp) _
  have B1 := Lib.hid hb1
  have z1 := hb1.size
  have HW1 := Lib.hid hw1
  clear hb1 hw1
  go_enter Try.func14, Try.ntmps14
  go_wp2_with fail
  rw [← HW1.out]
  refine (cwrite_any nB m t _ ht).mono ?_
  intro e w2 h
  unfold CWrite at h
  rw [HOK.out, if_neg (by decide)] at h
  obtain ⟨rfl, hb2⟩ := h
  have B2 := Lib.hid (B1.out.trans (hb2.mono z1))
  have z2 := B2.out.size
  have L2 := Lib.hid (HL.out.below (B2.out.mono hB))
  clear hb2
  go_wp2_with fail
  refine (clone_any A c l B _ L2.out (by omega) (by omega)).mono ?_
  rintro e w3 ⟨v3, rfl, ho, hb3⟩
  have D : Hid (NewOctsOk w.heap.size l false w (.returned (.tuple #[v3, .bool false])) w3) := Lib.hid ⟨v3, rfl, own_at_base ho z2, B2.out.trans (hb3.mono z2)⟩
  clear ho hb3
  go_wp2_with fail
  go_ret2
  exact D.out
end Go.Proofs.Ytfajkbegmmlmjaa
