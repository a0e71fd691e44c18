/- Layer 12: two messages; the fixed call that every statement of layer 12 asks. -/
import Derived.Test.YtgdlgkbckblagaaKeyN
import Derived.Test.YtgdlgkbckblagaaConv2
import Derived.Deep.DeepCutAuto
import Derived.Lib.SlBytesConst
namespace Go.Proofs.Ytgdlgkbckblagaa
open Go.RowKit
set_option maxRecDepth 100000
set_option linter.unusedSimpArgs false
set_option linter.unusedVariables false

def sameM (E K T : List UInt8) (m : Int) (b : List UInt8) (E' K' T' : List UInt8) (m' : Int) (b' : List UInt8) : Bool := decide (E = E') && decide (K = K') && decide (T = T') && decide (m = m') && decide (b = b')
set_option maxHeartbeats 1000000 in
theorem same_any12 (E K T : List UInt8) (m : Int) (A : Option Addr) (n c : Nat) (b : List UInt8) (E' K' T' : List UInt8) (m' : Int) (A' : Option Addr) (n' c' : Nat) (b' : List UInt8) (B B' : Nat) (w : World)
    (hn : n = b.length) (hn' : n' = b'.length) (hl : Lies w B A (B8 b)) (hl' : Lies w B' A' (B8 b')) (hB : B ≤ w.heap.size) (hB' : B' ≤ w.heap.size) :
    Calls Try.prog 18 #[msV E K T m (.slice A n c), msV E' K' T' m' (.slice A' n' c')] w fun e w' => e = .returned (.bool (sameM E K T m b E' K' T' m' b')) ∧ Below w.heap.size w w' := by
  subst hn hn'
  obtain ⟨R, hR⟩ : ∃ R, R = sameM E K T m b E' K' T' m' b' := ⟨_, rfl⟩
  have D : Hid (∀ q : Bool, sameM E K T m b E' K' T' m' b' = q → ∀ r : Bool, r = q → ∀ cs cs', (Ending.returned (.bool r) = .returned (.bool R)) ∧ Below w.heap.size w ((w.alloc (.cells cs 32)).alloc (.cells cs' 32))) := Lib.hid fun q hq r hr cs cs' => ⟨by rw [hR, hq, hr], ((Below.refl _ _).alloc (Nat.le_refl _) _).alloc (by simp) _⟩
  rw [← hR]
  clear hR
  have L1 := (hl.alloc hB (.cells #[.string ⟨E.toArray⟩, .string ⟨K.toArray⟩, .string ⟨T.toArray⟩, .int .i64 m, .slice A b.length c] 32)).alloc (by simp; omega) (.cells #[.string ⟨E'.toArray⟩, .string ⟨K'.toArray⟩, .string ⟨T'.toArray⟩, .int .i64 m', .slice A' b'.length c'] 32)
  have L2 := (hl'.alloc hB' (.cells #[.string ⟨E.toArray⟩, .string ⟨K.toArray⟩, .string ⟨T.toArray⟩, .int .i64 m, .slice A b.length c] 32)).alloc (by simp; omega) (.cells #[.string ⟨E'.toArray⟩, .string ⟨K'.toArray⟩, .string ⟨T'.toArray⟩, .int .i64 m', .slice A' b'.length c'] 32)
  have cv1 := run_octets_string (P := Try.prog) 23 9 5 Try.underlying23 Try.underlying5 Try.underlying9 L1 c
  have cv2 := run_octets_string (P := Try.prog) 23 9 5 Try.underlying23 Try.underlying5 Try.underlying9 L2 c'
  clear L1 L2 hl hl'
  have eS : ∀ a b : List UInt8, ¬ a = b → ¬ ((⟨a.toArray⟩ : ByteArray) = ⟨b.toArray⟩) := fun a b h e => h (by injection e with e; simpa using e)
  unfold sameM at D
  unfold msV
  by_cases h1 : E = E'
  · subst h1
    by_cases h2 : K = K'
    · subst h2
      by_cases h3 : T = T'
      · subst h3
        by_cases h4 : m = m'
        · subst h4
          by_cases h5 : b = b'
          · have X := Lib.hid (D.out true (by simp [h5]))
            clear D eS
            subst h5
            go_enter Try.func18, Try.ntmps18
            go_wp2_with fail
            go_ret
            exact X.out _ (by first | rfl | simp_all) _ _
          · have X := Lib.hid (D.out false (by simp [h5]))
            have e5 := eS _ _ h5
            clear D eS
            go_enter Try.func18, Try.ntmps18
            go_wp2_with fail
            go_ret
            exact X.out _ (by first | rfl | simp_all) _ _
        · have X := Lib.hid (D.out false (by simp [h4]))
          clear D eS
          go_enter Try.func18, Try.ntmps18
          go_wp2_with fail
          go_ret
          exact X.out _ (by first | rfl | simp_all) _ _
      · have X := Lib.hid (D.out false (by simp [h3]))
        have e5 := eS _ _ h3
        clear D eS
        go_enter Try.func18, Try.ntmps18
        go_wp2_with fail
        go_ret
        exact X.out _ (by first | rfl | simp_all) _ _
    · have X := Lib.hid (D.out false (by simp [h2]))
      have e5 := eS _ _ h2
      clear D eS
      go_enter Try.func18, Try.ntmps18
      go_wp2_with fail
      go_ret
      exact X.out _ (by first | rfl | simp_all) _ _
  · have X := Lib.hid (D.out false (by simp [h1]))
    have e5 := eS _ _ h1
    clear D eS
    go_enter Try.func18, Try.ntmps18
    go_wp2_with fail
    go_ret
    exact X.out _ (by first | rfl | simp_all) _ _

theorem text_at (k : Int) (A B C : List UInt8) (id : Nat) (w : World) (ok : Bool) (T : List UInt8) (hA : A.length ≤ maxLen) (hB : B.length ≤ maxLen) (hC : C.length ≤ maxLen) (hok : okK k A B C id = ok) (hT : (if ok then txK k A B C id else []) = T) :
    Calls Try.prog 8 #[kyV k A B C id] w fun e w' => e = .returned (.tuple #[.string ⟨T.toArray⟩, .bool ok]) ∧ Below w.heap.size w w' := by
  have h := text_any k A B C id w hA hB hC
  unfold tellsT at h
  rw [hok, hT] at h
  exact h
theorem kparse_yes (s : List UInt8) (w : World) (hs : s.length ≤ 140737488355328) (k : Int) (A B C : List UInt8) (id : Nat) (h : keyOf s = some (k, A, B, C, id)) :
    Calls Try.prog 12 #[.string ⟨s.toArray⟩] w fun e w' => e = .returned (.tuple #[kyV k A B C id, .bool true]) ∧ Below w.heap.size w w' := by
  have hh := kparse_any s w hs
  rw [h] at hh
  exact hh
theorem kparse_no (s : List UInt8) (w : World) (hs : s.length ≤ 140737488355328) (h : keyOf s = none) :
    Calls Try.prog 12 #[.string ⟨s.toArray⟩] w fun e w' => e = .returned (.tuple #[kyV 0 [] [] [] 0, .bool false]) ∧ Below w.heap.size w w' := by
  have hh := kparse_any s w hs
  rw [h] at hh
  exact hh
theorem pmsg_yes (A : Option Addr) (n c : Nat) (s : List UInt8) (B : Nat) (w : World) (hn : n = s.length) (hl : Lies w B A (B8 s)) (hB : B ≤ w.heap.size) (hs : s.length ≤ 140737488355328) (E K T : List UInt8) (m : Nat) (b : List UInt8) (h : msgOf s = some (E, K, T, m, b)) :
    Calls Try.prog 16 #[.slice A n c] w fun e w' => ∃ A c, e = .returned (.tuple #[msV E K T (m : Int) (.slice A b.length c), .bool true]) ∧ Lies w' w'.heap.size A (B8 b) ∧ Below w.heap.size w w' := by
  refine (pmsg_any A n c s B w hn hl hB hs).mono ?_
  rw [h]
  rintro e w' ⟨⟨A, c, h1, _, _, h2⟩, h3⟩
  exact ⟨A, c, h1, h2, h3⟩
theorem msg_yes (E K T : List UInt8) (m : Int) (mn : Nat) (A : Option Addr) (n c : Nat) (b : List UInt8) (B : Nat) (w : World) (hm : m = (mn : Int)) (hn : n = b.length) (hl : Lies w B A (B8 b)) (hB : B ≤ w.heap.size) (hE : E.length ≤ maxLen) (hK : K.length ≤ maxLen) (hT : T.length ≤ maxLen) (hb : b.length ≤ maxLen)
    (h : okM E.length K.length T.length m b.length = true) (Z : List UInt8) (hZ : msB E K T mn b = Z) :
    Calls Try.prog 9 #[msV E K T m (.slice A n c)] w (NewOctsOk w.heap.size Z true w) := by
  subst hm
  refine (msg_any E K T mn A n c b B w hn hl hB hE hK hT hb).mono ?_
  rintro e w' (⟨h1, _⟩ | ⟨_, h2⟩)
  · rw [h] at h1; cases h1
  · rw [Int.toNat_natCast, hZ] at h2; exact h2
theorem one_key : keyOf [2, 1, 113] = some (2, [113], [], [], 0) := by kernel_rfl
theorem none_key : keyOf [] = none := by kernel_rfl
theorem one_msg : msgOf [0, 1, 107, 0, 2, 120] = some ([], [107], [], 2, [120]) := by kernel_rfl
set_option maxHeartbeats 4000000 in
theorem awake12_any (w : World) : Calls Try.prog 7 #[] w fun e w' => e = .returned (.bool true) ∧ Below w.heap.size w w' := by
  go_enter Try.func7, Try.ntmps7
  go_wp2_with fail
  refine (text_at 2 [113] [] [] 0 _ true [2, 1, 113] (by decide) (by decide) (by decide) (by kernel_rfl) (by kernel_rfl)).mono ?_
  rintro e w1 ⟨rfl, hb1⟩
  have B1 := Lib.hid hb1
  have z1 := hb1.size
  clear hb1
  go_wp2_with fail
  refine (kparse_yes [2, 1, 113] _ (by decide) 2 [113] [] [] 0 one_key).mono ?_
  rintro e w2 ⟨rfl, hb2⟩
  have B2 := Lib.hid (B1.out.trans (hb2.mono z1))
  obtain ⟨W2, hW2⟩ : ∃ W, W = w2.alloc (.cells #[.int .i64 2, .string ⟨#[113]⟩, .string ⟨#[]⟩, .string ⟨#[]⟩, .int .u64 0] 28) := ⟨_, rfl⟩
  have K2 : Hid (Whole W2 w2.heap.size 28 #[.int .i64 2, .string ⟨#[113]⟩, .string ⟨#[]⟩, .string ⟨#[]⟩, .int .u64 0]) := Lib.hid (by rw [hW2]; exact Whole.new _ _ _)
  have B2' : Hid (Below w.heap.size w W2) := Lib.hid (by rw [hW2]; exact B2.out.alloc B2.out.size _)
  have cvt := Lib.run_convert_bytes_const (P := Try.prog) W2 23 5 #[.int .u8 120] 1 1 Try.underlying23 Try.underlying5
  obtain ⟨W3, hW3⟩ : ∃ W, W = W2.alloc (.cells #[.int .u8 120] 5 (#[Value.int .u8 120].size, #[Value.int .u8 120].size + 1)) := ⟨_, rfl⟩
  have L3 : Hid (Lies W3 (W2.heap.size + 1) (some ⟨W2.heap.size, 0, none⟩) (B8 [120])) := Lib.hid (by rw [hW3]; exact Lies.litm W2 5 [.int .u8 120] _)
  have B3 : Hid (Below w.heap.size w W3) := Lib.hid (by rw [hW3]; exact B2'.out.alloc B2'.out.size _)
  have K3 : Hid (Whole W3 w2.heap.size 28 #[.int .i64 2, .string ⟨#[113]⟩, .string ⟨#[]⟩, .string ⟨#[]⟩, .int .u64 0]) := Lib.hid (by rw [hW3]; exact K2.out.below (B := W2.heap.size) ((Below.refl _ _).alloc (Nat.le_refl _) _) K2.out.lt)
  have y3 : Hid (W3.heap.size = W2.heap.size + 1) := Lib.hid (by rw [hW3]; simp)
  rw [← hW3] at cvt
  clear hb2 hW3
  unfold kyV
  go_upto_region 3 with fail
  rw [← hW2]
  clear hW2
  go_wp2_with fail
  refine (msg_yes [] [107] [] 2 2 (some ⟨W2.heap.size, 0, none⟩) 1 1 [120] _ _ rfl rfl L3.out (by rw [y3.out]; exact Nat.le_refl _) (by decide) (by decide) (by decide) (by decide) (by kernel_rfl) [0, 1, 107, 0, 2, 120] (by kernel_rfl)).mono ?_
  rintro e w4 ⟨v4, rfl, ho4, hb4⟩
  obtain ⟨A4, c4, rfl, _, _⟩ := own_form ho4
  have L4 := Lib.hid (Lies.own ho4 (Nat.le_refl _))
  have B4 := Lib.hid (B3.out.trans (hb4.mono B3.out.size))
  have K4 := Lib.hid (K3.out.below hb4 K3.out.lt)
  clear cvt ho4 hb4
  go_wp2_with fail
  refine (pmsg_yes A4 _ c4 [0, 1, 107, 0, 2, 120] _ _ rfl L4.out (Nat.le_refl _) (by decide) [] [107] [] 2 [120] one_msg).mono ?_
  rintro e w5 ⟨A5, c5, rfl, hl5, hb5⟩
  have B5 := Lib.hid (B4.out.trans (hb5.mono B4.out.size))
  have K5 := Lib.hid (K4.out.below hb5 K4.out.lt)
  obtain ⟨W6, hW6⟩ : ∃ W, W = w5.alloc (.cells #[.string ⟨#[]⟩, .string ⟨#[107]⟩, .string ⟨#[]⟩, .int .i64 2, .slice A5 1 c5] 32) := ⟨_, rfl⟩
  have M6 : Hid (Whole W6 w5.heap.size 32 #[.string ⟨#[]⟩, .string ⟨#[107]⟩, .string ⟨#[]⟩, .int .i64 2, .slice A5 1 c5]) := Lib.hid (by rw [hW6]; exact Whole.new _ _ _)
  have B6 : Hid (Below w.heap.size w W6) := Lib.hid (by rw [hW6]; exact B5.out.alloc B5.out.size _)
  have K6 : Hid (Whole W6 w2.heap.size 28 #[.int .i64 2, .string ⟨#[113]⟩, .string ⟨#[]⟩, .string ⟨#[]⟩, .int .u64 0]) := Lib.hid (by rw [hW6]; exact K5.out.alloc _)
  have L6 : Hid (Lies W6 w5.heap.size A5 (B8 [120])) := Lib.hid (by rw [hW6]; exact hl5.alloc (Nat.le_refl _) _)
  clear hl5 hb5
  unfold msV
  go_upto_region 5 with fail
  rw [← hW6]
  clear hW6
  go_wp2_with fail
  refine (kparse_no [] _ (by decide) none_key).mono ?_
  rintro e w7 ⟨rfl, hb7⟩
  obtain ⟨W8, hW8⟩ : ∃ W, W = w7.alloc (.cells #[.int .i64 0, .string ⟨#[]⟩, .string ⟨#[]⟩, .string ⟨#[]⟩, .int .u64 0] 28) := ⟨_, rfl⟩
  have B7 := Lib.hid (B6.out.trans (hb7.mono B6.out.size))
  have hb8 : Below W6.heap.size W6 W8 := by rw [hW8]; exact hb7.alloc hb7.size _
  have B8' := Lib.hid (B6.out.trans (hb8.mono B6.out.size))
  have K8 := Lib.hid (K6.out.below hb8 K6.out.lt)
  have M8 := Lib.hid (M6.out.below hb8 M6.out.lt)
  have L8 := Lib.hid (L6.out.below (hb8.mono (Nat.le_of_lt M6.out.lt)))
  unfold kyV
  go_upto_region 6 with fail
  rw [← hW8]
  clear hW8 hb7 hb8
  obtain ⟨c0, c1, c2, c3, c4⟩ := five12 K8.out
  have cvt := Lib.run_convert_bytes_const (P := Try.prog) W8 23 5 #[.int .u8 120] 1 1 Try.underlying23 Try.underlying5
  obtain ⟨W9, hW9⟩ : ∃ W, W = W8.alloc (.cells #[.int .u8 120] 5 (#[Value.int .u8 120].size, #[Value.int .u8 120].size + 1)) := ⟨_, rfl⟩
  have L9 : Hid (Lies W9 (W8.heap.size + 1) (some ⟨W8.heap.size, 0, none⟩) (B8 [120])) := Lib.hid (by rw [hW9]; exact Lies.litm W8 5 [.int .u8 120] _)
  have B9 : Hid (Below w.heap.size w W9) := Lib.hid (by rw [hW9]; exact B8'.out.alloc B8'.out.size _)
  have L9' : Hid (Lies W9 w5.heap.size A5 (B8 [120])) := Lib.hid (by rw [hW9]; exact L8.out.alloc (Nat.le_of_lt M8.out.lt) _)
  have y9 : Hid (W9.heap.size = W8.heap.size + 1) := Lib.hid (by rw [hW9]; simp)
  have y5 : Hid (w5.heap.size ≤ W9.heap.size) := Lib.hid (by have := M8.out.lt; rw [hW9]; simp; omega)
  obtain ⟨m0, m1, m2, m3, m4⟩ := five12 M8.out
  rw [← hW9] at cvt
  clear hW9
  go_wp2_with fail
  refine (same_any12 [] [107] [] 2 A5 1 c5 [120] [] [107] [] 2 (some ⟨W8.heap.size, 0, none⟩) 1 1 [120] w5.heap.size _ _ rfl rfl L9'.out L9.out y5.out (by rw [y9.out]; exact Nat.le_refl _)).mono ?_
  rintro e w10 ⟨rfl, hb10⟩
  rw [show sameM [] [107] [] 2 [120] [] [107] [] 2 [120] = true from rfl]
  have B10 := Lib.hid (B9.out.trans (hb10.mono B9.out.size))
  clear hb10 cvt
  go_wp2_with fail
  go_ret
  exact ⟨rfl, B10.out⟩
end Go.Proofs.Ytgdlgkbckblagaa
