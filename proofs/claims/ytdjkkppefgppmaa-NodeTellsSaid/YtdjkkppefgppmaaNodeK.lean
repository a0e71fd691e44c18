/- Layer 10: the fixed call. -/
import Derived.Test.YtdjkkppefgppmaaNodeJ
import Derived.Test.YtdjkkppefgppmaaNodeG
import Derived.Test.YtdjkkppefgppmaaNodeD
import Derived.Test.YtdjkkppefgppmaaConv2
namespace Go.Proofs.Ytdjkkppefgppmaa
open Go.RowKit
set_option maxRecDepth 100000
set_option linter.unusedSimpArgs false
set_option linter.unusedVariables false

theorem nappend_at (leaf : Bool) (l : List Rw) (A : Option Addr) (n c B : Nat) (w : World) (hn : n = l.length) (ht : RowsAt w B l A c) (hB : B ≤ w.heap.size) (hf : Few l) :
    Calls Try.prog 7 #[.agg #[.bool leaf, .slice A n c]] w (AppN leaf l w) := by
  subst hn
  cases h : okN leaf l
  · exact nappend_no leaf l A c B w ht hB hf h
  · exact nappend_yes leaf l A c B w ht hB hf h
def Octets (o : List UInt8) (ok : Bool) (w : World) (e : Ending) (w' : World) : Prop :=
  ∃ A c, e = .returned (.tuple #[.slice A o.length c, .bool ok]) ∧ o.length ≤ c ∧ c ≤ maxLen ∧ w'.ownsRow w.heap.size 5 1 (.slice A o.length c) o.length (B8 o) ∧ Below w.heap.size w w'
theorem nappend_is (leaf : Bool) (l : List Rw) (o : List UInt8) (ok : Bool) (A : Option Addr) (n c B : Nat) (w : World) (hn : n = l.length) (hok : okN leaf l = ok) (ho : o = if ok then nodeB leaf l else []) (ht : RowsAt w B l A c) (hB : B ≤ w.heap.size) (hf : Few l) :
    Calls Try.prog 7 #[.agg #[.bool leaf, .slice A n c]] w (Octets o ok w) := by
  refine (nappend_at leaf l A n c B w hn ht hB hf).mono ?_
  rintro e w' ⟨v, he, hown, hb⟩
  rw [hok, ← ho] at hown
  rw [hok] at he
  obtain ⟨A', c', rfl, h1, h2⟩ := own_form hown
  exact ⟨A', c', he, h1, h2, hown, hb⟩
def IsNode (leaf : Bool) (l : List Rw) (w : World) (e : Ending) (w' : World) : Prop :=
  ∃ A c, e = .returned (.tuple #[.agg #[.bool leaf, .slice A l.length c], .bool true]) ∧ w'.ownsRow w.heap.size 23 3 (.slice A l.length c) l.length (cellsRws l) ∧ Below w.heap.size w w'
theorem nparse_yes (b : List UInt8) (leaf : Bool) (l : List Rw) (A : Option Addr) (n c B : Nat) (w : World) (hn : n = b.length) (h : nodeP b = some (leaf, l)) (hl : Lies w B A (B8 b)) (hB : B ≤ w.heap.size) (hs : b.length ≤ 140737488355328) :
    Calls Try.prog 15 #[.slice A n c] w (IsNode leaf l w) := by
  subst hn
  refine (nparse_any b A c B w hl hB hs).mono ?_
  rintro e w' ⟨hb, hm⟩
  rw [h] at hm
  obtain ⟨A', c', he, ho⟩ := hm
  exact ⟨A', c', he, ho, hb⟩
theorem nparse_no (b : List UInt8) (A : Option Addr) (n c B : Nat) (w : World) (hn : n = b.length) (h : nodeP b = none) (hl : Lies w B A (B8 b)) (hB : B ≤ w.heap.size) (hs : b.length ≤ 140737488355328) :
    Calls Try.prog 15 #[.slice A n c] w fun e w' => e = .returned (.tuple #[.agg #[.bool false, .slice none 0 0], .bool false]) ∧ Below w.heap.size w w' := by
  subst hn
  refine (nparse_any b A c B w hl hB hs).mono ?_
  rintro e w' ⟨hb, hm⟩
  rw [h] at hm
  exact ⟨hm, hb⟩
theorem size_is (leaf : Bool) (l : List Rw) (k : Nat) (A : Option Addr) (n c B : Nat) (w : World) (hn : n = l.length) (hk : sizeN leaf l = k) (ht : RowsAt w B l A c) (hB : B ≤ w.heap.size) (hf : Few l) :
    Calls Try.prog 12 #[.agg #[.bool leaf, .slice A n c]] w fun e w' => e = .returned (.int .i64 k) ∧ Below w.heap.size w w' := by
  subst hn
  subst hk
  exact size_any leaf l A c B w ht hB hf
theorem ok_is (leaf : Bool) (l : List Rw) (k : Bool) (A : Option Addr) (n c B : Nat) (w : World) (hn : n = l.length) (hk : okN leaf l = k) (ht : RowsAt w B l A c) (hB : B ≤ w.heap.size) (hf : Few l) :
    Calls Try.prog 8 #[.agg #[.bool leaf, .slice A n c]] w fun e w' => e = .returned (.bool k) ∧ Below w.heap.size w w' := by
  subst hn
  subst hk
  exact ok_any leaf l A c B w ht hB hf
theorem same_is (leaf : Bool) (l : List Rw) (A A' : Option Addr) (n n' c c' B : Nat) (w : World) (hn : n = l.length) (hn' : n' = l.length) (ht : RowsAt w B l A c) (ht' : RowsAt w B l A' c') (hB : B ≤ w.heap.size) (hf : Few l) :
    Calls Try.prog 17 #[.agg #[.bool leaf, .slice A n c], .agg #[.bool leaf, .slice A' n' c']] w fun e w' => e = .returned (.bool true) ∧ Below w.heap.size w w' := by
  subst hn
  subst hn'
  exact same_node leaf l A A' c c' B w ht ht' hB hf
theorem find_is (l : List Rw) (key : List UInt8) (i : Int) (b : Bool) (A : Option Addr) (n c B : Nat) (s : ByteArray) (w : World) (hs : s = ⟨key.toArray⟩) (hn : n = l.length) (hk : findR l key = (i, b)) (ht : RowsAt w B l A c) (hB : B ≤ w.heap.size) (hf : Few l) :
    Calls Try.prog 19 #[.agg #[.bool true, .slice A n c], .string s] w fun e w' => e = .returned (.tuple #[.int .i64 i, .bool b]) ∧ Below w.heap.size w w' := by
  subst hn
  subst hs
  refine (find_leaf l A c B key w ht hB hf).mono ?_
  rintro e w' ⟨he, hb⟩
  rw [hk] at he
  exact ⟨he, hb⟩
theorem rowsAt_nil (w : World) (B : Nat) : RowsAt w B [] none 0 := ⟨Nat.le_refl _, Nat.zero_le _, Lies.empty _ _ _⟩
theorem few_nil : Few [] := ⟨Nat.zero_le _, fun r hr => by cases hr⟩

def L10 : List Rw := [⟨[97], [49], 0⟩, ⟨[99], [], 0⟩]
theorem L10_ok : okN true L10 = true := by decide
theorem L10_few : Few L10 := ⟨by decide, by decide⟩
theorem L10_find : findR L10 [98] = (1, false) := by decide
def O10 : List UInt8 := nodeB true L10
theorem O10_len : O10.length = 10 := by decide
theorem L10_back : nodeP (O10 ++ [0, 0]) = some (true, L10) := node_back true L10 [0, 0] L10_ok (by decide)

set_option maxHeartbeats 1000000 in
theorem awake10_any (w : World) : Calls Try.prog 9 #[] w fun e w' => e = .returned (.bool true) ∧ Below w.heap.size w w' := by
  obtain ⟨i0, hi, hz0, hz1, hz2⟩ := info_parts u8_info
  have HI := Lib.hid hi
  have H0 := Lib.hid hz0
  have H1 := Lib.hid hz1
  have H2 := Lib.hid hz2
  clear hi hz0 hz1 hz2
  go_enter Try.func9, Try.ntmps9
  go_wp2_with fail
  obtain ⟨W1, hW1⟩ : ∃ W1, W1 = ((w.alloc (.cells #[.string ⟨#[97]⟩, .string ⟨#[49]⟩, .int .i64 0, .string ⟨#[99]⟩, .string ⟨#[]⟩, .int .i64 0] 23)).alloc (.cells #[.bool true, .slice (some ⟨w.heap.size, 0, none⟩) 2 2] 26)) := ⟨_, rfl⟩
  have z0 : (w.alloc (.cells #[.string ⟨#[97]⟩, .string ⟨#[49]⟩, .int .i64 0, .string ⟨#[99]⟩, .string ⟨#[]⟩, .int .i64 0] 23)).heap.size = w.heap.size + 1 := by simp
  have z1 : W1.heap.size = w.heap.size + 2 := by rw [hW1]; simp
  have b1 : Below w.heap.size w W1 := by rw [hW1]; exact ((Below.refl _ w).alloc (Nat.le_refl _) _).alloc (by simp) _
  have X1 : Whole W1 (w.heap.size + 1) 26 #[.bool true, .slice (some ⟨w.heap.size, 0, none⟩) 2 2] := by
    have h := Whole.new (w.alloc (.cells #[.string ⟨#[97]⟩, .string ⟨#[49]⟩, .int .i64 0, .string ⟨#[99]⟩, .string ⟨#[]⟩, .int .i64 0] 23)) 26 #[.bool true, .slice (some ⟨w.heap.size, 0, none⟩) 2 2]
    rw [z0] at h
    rw [hW1]
    exact h
  have T1 : RowsAt W1 (w.heap.size + 1) L10 (some ⟨w.heap.size, 0, none⟩) 2 := by
    refine ⟨by decide, by unfold maxLen; omega, ?_⟩
    rw [hW1]
    exact (Lies.lit w 23 (cellsRws L10)).alloc (by simp) _
  rw [← hW1]
  have BX := Lib.hid b1
  have XX := Lib.hid X1
  have TX := Lib.hid T1
  have ZX := Lib.hid z1
  clear hW1 z0 z1 b1 X1 T1
  refine (nappend_is true L10 O10 true _ 2 2 _ _ rfl L10_ok rfl TX.out (by rw [ZX.out]; omega) L10_few).mono ?_
  rintro e W2 ⟨A2, c2, rfl, hc2, hm2, o2, b2⟩
  have B2 := Lib.hid (BX.out.trans (b2.mono BX.out.size))
  have X2 := Lib.hid (XX.out.below b2 XX.out.lt)
  have T2 := Lib.hid (TX.out.below (b2.mono (by rw [ZX.out]; omega)))
  have L2 := Lib.hid (Lies.own o2 (Nat.le_refl _))
  have z2 : w.heap.size + 2 ≤ W2.heap.size := by have := b2.size; rw [ZX.out] at this; exact this
  obtain ⟨O, hO⟩ : ∃ O, O = O10 := ⟨_, rfl⟩
  have hOl : O.length = 10 := by rw [hO]; exact O10_len
  rw [← hO] at L2 hc2 o2 ⊢
  have HO := Lib.hid hO
  have HOl := Lib.hid hOl
  have ho1 : 0 + O.length ≤ 140737488355328 := by rw [hOl]; omega
  have ho2 : 0 + O.length + 2 ≤ 140737488355328 := by rw [hOl]; omega
  have y0 : W2.cell? ⟨w.heap.size + 1, 0, none⟩ = some (.bool true) := X2.out.cell 0
  have y1 : W2.cell? ⟨w.heap.size + 1, 1, none⟩ = some (.slice (some ⟨w.heap.size, 0, none⟩) 2 2) := X2.out.cell 1
  clear b2 o2 hO hOl
  have hown : (W2.alloc (.cells #[] 5)).ownsRow W2.heap.size 5 1 (.slice (some ⟨W2.heap.size, 0, none⟩) 0 0) 0 [] := World.ownsRow_made W2 #[] 0 (Nat.le_refl _) (Nat.zero_le _) rfl
  have HW := Lib.hid hown
  have LO := Lib.hid (L2.out.alloc (Nat.le_refl _) (.cells #[] 5))
  clear hown
  have hone : ∀ u ∈ [Value.int .u8 0, Value.int .u8 0], u.oneCell' = true := by simp [Value.oneCell']
  have hroom : ∀ (w3 : World) (o : Obj), Below W2.heap.size (W2.alloc (.cells #[] 5)) w3 → W2.heap.size ≤ (w3.alloc o).heap.size := fun w3 o h => by have := h.size; simp at this ⊢; omega
  have HR := Lib.hid hroom
  have HN := Lib.hid hone
  clear hroom hone
  go_wp2_with (first
    | (at_builtin; refine wpList_append_cells rfl _ _ 27 rfl W2.heap.size 5 i0 (.int .u8 0) 1 1 Try.underlying27 HI.out H0.out H1.out H2.out rfl (by omega) (.slice (some ⟨W2.heap.size, 0, none⟩) 0 0) 0 [] rfl HW.out W2.heap.size A2 O.length c2 (B8 O) rfl LO.out (B8_len1 O) (B8_one O) (room63 ho1) (room1 ho1) (by simp) ?_; intro v3 w3 o3 b3; have O3 := Lib.hid o3; have B3 := Lib.hid b3; clear o3 b3)
    | (at_builtin; refine wpList_append_cells rfl _ _ 27 rfl W2.heap.size 5 i0 (.int .u8 0) 1 1 Try.underlying27 HI.out H0.out H1.out H2.out rfl (by omega) v3 (0 + O.length) _ rfl (O3.out.alloc _) _ _ 2 2 _ rfl (Lies.lit w3 5 [.int .u8 0, .int .u8 0]) rfl HN.out (room63 ho2) (room1 ho2) (HR.out w3 _ B3.out) ?_; intro v4 w4 o4 b4; have O4 := Lib.hid o4; have B4 := Lib.hid b4; clear o4 b4; obtain ⟨A4, c4, rfl, hc4, hm4⟩ := own_form O4.out))
  have bb4 : Below W2.heap.size W2 w4 := (((((Below.refl _ W2).alloc (Nat.le_refl _) (.cells #[] 5)).trans B3.out).alloc (by have := B3.out.size; simp at this; omega) (.cells #[.int .u8 0, .int .u8 0] 5)).trans B4.out)
  have BB4 := Lib.hid (B2.out.trans (bb4.mono (by omega)))
  have X4 := Lib.hid (X2.out.below bb4 (by omega))
  have T4 := Lib.hid (T2.out.below (bb4.mono (by omega)))
  have e4 : [] ++ B8 O ++ [Value.int .u8 0, Value.int .u8 0] = B8 (O ++ [0, 0]) := by rw [List.nil_append, B8_append]; rfl
  have L4 := Lib.hid (Lies.own O4.out (Nat.le_refl _))
  rw [e4] at L4
  have hsz : (O ++ [0, 0]).length ≤ 140737488355328 := by rw [List.length_append, HOl.out]; simp
  have hln : O.length + 2 = (O ++ [0, 0]).length := by rw [List.length_append]; rfl
  have hback : nodeP (O ++ [0, 0]) = some (true, L10) := by rw [HO.out]; exact L10_back
  have z4 : w.heap.size + 2 ≤ w4.heap.size := Nat.le_trans z2 bb4.size
  clear bb4 e4 ho1 ho2 y0 y1
  refine (nparse_yes (O ++ [0, 0]) true L10 A4 _ c4 _ _ hln hback L4.out (Nat.le_refl _) hsz).mono ?_
  rintro e w5 ⟨A5, c5, rfl, o5, b5⟩
  clear hsz hln hback
  have X5 := X4.out.below b5 X4.out.lt
  have BB5 := Lib.hid (BB4.out.trans (b5.mono BB4.out.size))
  have T5 := Lib.hid (T4.out.below (b5.mono (by omega)))
  have M5 := Lib.hid (own_rows o5)
  have z5 : w.heap.size + 1 < w5.heap.size := Nat.le_trans z4 b5.size
  have y0 : w5.cell? ⟨w.heap.size + 1, 0, none⟩ = some (.bool true) := X5.cell 0
  have y1 : w5.cell? ⟨w.heap.size + 1, 1, none⟩ = some (.slice (some ⟨w.heap.size, 0, none⟩) 2 2) := X5.cell 1
  have X5' := Lib.hid (X5.alloc (.cells #[.bool true, .slice A5 L10.length c5] 26))
  have Y5 := Lib.hid (Whole.new w5 26 #[.bool true, .slice A5 L10.length c5])
  have BB5' := Lib.hid (BB5.out.alloc BB5.out.size (.cells #[.bool true, .slice A5 L10.length c5] 26))
  have T5' := Lib.hid (T5.out.below ((Below.refl _ w5).alloc (by omega) (.cells #[.bool true, .slice A5 L10.length c5] 26)))
  have M5' := Lib.hid (M5.out.below ((Below.refl _ w5).alloc (Nat.le_refl _) (.cells #[.bool true, .slice A5 L10.length c5] 26)))
  have zz5 : w5.heap.size < (w5.alloc (.cells #[.bool true, .slice A5 L10.length c5] 26)).heap.size := by simp
  have ZZ5 := Lib.hid zz5
  clear b5 o5 X5 zz5
  go_wp2_with fail
  refine (find_is L10 [98] 1 false (some ⟨w.heap.size, 0, none⟩) 2 2 _ _ _ rfl rfl L10_find T5'.out (by have := ZZ5.out; omega) L10_few).mono ?_
  rintro e w6 ⟨rfl, b6⟩
  have X6 := Lib.hid (X5'.out.below b6 X5'.out.lt)
  have Y6 := Lib.hid (Y5.out.below b6 Y5.out.lt)
  have BB6 := Lib.hid (BB5'.out.trans (b6.mono BB5'.out.size))
  have T6 := Lib.hid (T5'.out.below (b6.mono (by have := ZZ5.out; omega)))
  have M6 := Lib.hid (M5'.out.below (b6.mono (by have := ZZ5.out; omega)))
  have z6 : w5.heap.size < w6.heap.size := Y6.out.lt
  clear b6 y0 y1
  go_wp2_with fail
  refine (nparse_no [] none 0 0 0 _ rfl (by decide) (Lies.empty _ _ _) (Nat.zero_le _) (by simp)).mono ?_
  rintro e w7 ⟨rfl, b7⟩
  have X7 := X6.out.below b7 X6.out.lt
  have Y7 := Y6.out.below b7 Y6.out.lt
  have BB7 := Lib.hid (BB6.out.trans (b7.mono BB6.out.size))
  have T7 := Lib.hid (T6.out.below (b7.mono (by omega)))
  have M7 := Lib.hid (M6.out.below (b7.mono (by omega)))
  have z7 : w5.heap.size < w7.heap.size := Y7.lt
  have z7' : w.heap.size + 1 < w7.heap.size := X7.lt
  have XA := Lib.hid (X7.alloc (.cells #[.bool false, .slice none 0 0] 26))
  have YA := Lib.hid (Y7.alloc (.cells #[.bool false, .slice none 0 0] 26))
  have BBA := Lib.hid (BB7.out.alloc BB7.out.size (.cells #[.bool false, .slice none 0 0] 26))
  have TA := Lib.hid (T7.out.below ((Below.refl _ w7).alloc (by omega) (.cells #[.bool false, .slice none 0 0] 26)))
  have MA := Lib.hid (M7.out.below ((Below.refl _ w7).alloc (by omega) (.cells #[.bool false, .slice none 0 0] 26)))
  have y0 : w7.cell? ⟨w.heap.size + 1, 0, none⟩ = some (.bool true) := X7.cell 0
  have y1 : w7.cell? ⟨w.heap.size + 1, 1, none⟩ = some (.slice (some ⟨w.heap.size, 0, none⟩) 2 2) := X7.cell 1
  have v0 : w7.cell? ⟨w5.heap.size, 0, none⟩ = some (.bool true) := Y7.cell 0
  have v1 : w7.cell? ⟨w5.heap.size, 1, none⟩ = some (.slice A5 L10.length c5) := Y7.cell 1
  have zA : w7.heap.size < (w7.alloc (.cells #[.bool false, .slice none 0 0] 26)).heap.size := by simp
  have ZA := Lib.hid zA
  clear b7 X7 Y7 zA
  go_wp2_with fail
  refine (same_is true L10 (some ⟨w.heap.size, 0, none⟩) A5 2 L10.length 2 c5 w7.heap.size _ rfl rfl (TA.out.more (by omega)) (MA.out.more (by omega)) (by have := ZA.out; omega) L10_few).mono ?_
  rintro e w8 ⟨rfl, b8⟩
  have X8 := XA.out.below b8 XA.out.lt
  have BB8 := Lib.hid (BBA.out.trans (b8.mono BBA.out.size))
  have T8 := Lib.hid (TA.out.below (b8.mono (by have := ZA.out; omega)))
  have z8 : w.heap.size + 1 < w8.heap.size := X8.lt
  have y0 : w8.cell? ⟨w.heap.size + 1, 0, none⟩ = some (.bool true) := X8.cell 0
  have y1 : w8.cell? ⟨w.heap.size + 1, 1, none⟩ = some (.slice (some ⟨w.heap.size, 0, none⟩) 2 2) := X8.cell 1
  clear b8 X8 v0 v1
  go_wp2_with fail
  refine (size_is true L10 10 (some ⟨w.heap.size, 0, none⟩) 2 2 _ _ rfl (by decide) T8.out (by omega) L10_few).mono ?_
  rintro e w9 ⟨rfl, b9⟩
  have BB9 := Lib.hid (BB8.out.trans (b9.mono BB8.out.size))
  clear b9 y0 y1
  go_wp2_with fail
  refine (size_is true [] 3 none 0 0 0 _ rfl (by decide) (rowsAt_nil _ _) (Nat.zero_le _) few_nil).mono ?_
  rintro e wA ⟨rfl, bA⟩
  have BBa := Lib.hid (BB9.out.trans (bA.mono BB9.out.size))
  clear bA
  go_wp2_with fail
  refine (ok_is false [] false none 0 0 0 _ rfl (by decide) (rowsAt_nil _ _) (Nat.zero_le _) few_nil).mono ?_
  rintro e wB ⟨rfl, bB⟩
  have BBb := Lib.hid (BBa.out.trans (bB.mono BBa.out.size))
  clear bB
  go_wp2_with fail
  go_ret
  exact ⟨rfl, BBb.out⟩
end Go.Proofs.Ytdjkkppefgppmaa
