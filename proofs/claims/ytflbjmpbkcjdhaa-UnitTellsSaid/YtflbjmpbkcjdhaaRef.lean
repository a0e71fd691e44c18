/- Contracts of the document's own answer for layer 1. Contracts of the document's own answer: numbers and texts that are written. -/
import Derived.Test.YtflbjmpbkcjdhaaOctsR
import Derived.Test.YtflbjmpbkcjdhaaWords2
namespace Go.Proofs.Ytflbjmpbkcjdhaa
section
open Go.RowKit
set_option maxRecDepth 100000

theorem num_any (A : Option Addr) (c B : Nat) (l : List UInt8) (p k : Nat) (w : World) (hl : Lies w B A (B8 l)) (hp : p ≤ l.length) (hk : k ≤ 8) (hs : l.length ≤ 140737488355328) :
    Calls Try.prog 34 #[.slice A l.length c, .int .i64 p, .int .i64 k] w fun e w' => e = .returned (.tuple #[.int .u64 (nat (tk k (l.drop p))), .bool (!short k (l.drop p))]) ∧ w = w' := by
  have hdl : (l.drop p).length = l.length - p := List.length_drop
  rcases Nat.lt_or_ge (l.length - p) k with h | h
  · have h1 : (l.length : Int) - (p : Int) < (k : Int) := by omega
    have e1 := tk_less (n := k) (l := l.drop p) (by omega)
    have HE := Lib.hid e1
    clear e1 hdl
    go_enter Try.func34, Try.ntmps34
    go_wp2_with fail
    go_ret2
    rw [HE.out.1, HE.out.2.2]
    exact ⟨rfl, rfl⟩
  · have h1 : (k : Int) ≤ (l.length : Int) - (p : Int) := by omega
    have ht : tk k (l.drop p) = (l.drop p).take k := tk_yes (by omega)
    have hn : short k (l.drop p) = false := short_no (by omega)
    obtain ⟨t, htt⟩ : ∃ t, t = (l.drop p).take k := ⟨_, rfl⟩
    have hkt : k = t.length := by rw [htt, List.length_take]; omega
    rw [ht, hn, ← htt]
    have HC : Hid (∀ (b o : Nat), A = some ⟨b, o, none⟩ → (∀ (j : Nat) (hj : j < l.length), w.cell? ⟨b, o + j, none⟩ = some (.int .u8 (l[j].toNat : Int))) → ∀ (j : Nat) (hj : j < t.length), w.cell? ⟨b, o + (p + j), none⟩ = some (.int .u8 (t[j].toNat : Int))) := by
      intro b o _ hc j hj
      subst htt
      have := hc (p + j) (by omega)
      rw [this]
      simp
    subst hkt
    clear ht hn htt hdl
    rcases hl.octets with rfl | ⟨b, o, rfl, hb, hcell⟩
    · have hz : ([] : List UInt8).length = 0 := rfl
      have h0 : t.length = 0 := by omega
      have h0' : t = [] := List.eq_nil_of_length_eq_zero h0
      subst h0'
      have hp0 : p = 0 := by simp at hp; omega
      subst hp0
      go_enter Try.func34, Try.ntmps34
      go_wp2_with fail
      refine wp_loop_rounds 1 ?_
      rw [rounds_succ]
      go_wp2_with fail
      go_ret2
      exact ⟨rfl, rfl⟩
    · have hcell2 := HC.out b o rfl hcell
      have HC2 := Lib.hid hcell2
      clear hcell hcell2 hl HC
      go_enter Try.func34, Try.ntmps34
      go_wp2_with fail
      go_loop [8, 9] (fun v i => ∃ j : Nat, j ≤ t.length ∧ i = .int .i64 j ∧ v = .int .u64 (nat (t.take j))) (fun _ i => t.length - (intOf i).toNat)
      case atStart => exact ⟨0, Nat.zero_le _, rfl, rfl⟩
      case round =>
        obtain ⟨j, hj, rfl, rfl⟩ := hrel
        by_cases hlt : j < t.length
        · have hc := HC2.out j hlt
          have hb1 : nat (t.take j) * 256 < 18446744073709551616 := nat_room t j hlt (by omega)
          have hb2 := t[j].toNat_lt
          have OR : Hid _ := or_octet (nat (t.take j)) t[j].toNat hb1 hb2
          have SN : Hid (nat (t.take (j + 1)) = nat (t.take j) * 256 + t[j].toNat) := by rw [take_one t j hlt]; exact nat_snoc _ _
          go_wp2_with fail
          go_round
          case rel => exact ⟨j + 1, by omega, by go_num, by rw [SN.out, ← OR.out]⟩
          case measure => simp [intOf]; omega
        · obtain rfl : j = t.length := by omega
          go_wp2_with fail
          go_ret2
          exact ⟨rfl, rfl⟩

theorem text_no (A : Option Addr) (c B : Nat) (l : List UInt8) (p k : Nat) (w : World) (hl : Lies w B A (B8 l)) (hp : p ≤ l.length) (hk1 : 1 ≤ k) (hk : k ≤ 8) (hs : l.length ≤ 140737488355328)
    (h : txtShort k (l.drop p) = true) :
    Calls Try.prog 26 #[.slice A l.length c, .int .i64 p, .int .i64 k] w fun e w' => e = .returned (.tuple #[.slice none 0 0, .int .i64 0, .bool false]) ∧ w = w' := by
  have hdl : (l.drop p).length = l.length - p := List.length_drop
  have HL := Lib.hid hl
  clear hl
  rcases Nat.lt_or_ge (l.length - p) k with h1 | h1
  · have e1 := tk_less (n := k) (l := l.drop p) (by omega)
    have HE := Lib.hid e1
    clear e1 hdl h
    go_enter Try.func26, Try.ntmps26
    go_wp2_with fail
    refine (num_any A c B l p k _ HL.out hp hk hs).mono ?_
    rintro e w' ⟨rfl, rfl⟩
    rw [HE.out.2.2]
    go_wp2_with fail
    go_ret3
    exact ⟨rfl, rfl⟩
  · have e1 : short k (l.drop p) = false := short_no (by omega)
    have e2 : (rst k (l.drop p)).length = l.length - p - k := by rw [rst_yes (by omega), List.length_drop, hdl]
    obtain ⟨V, hV⟩ : ∃ V, V = nat (tk k (l.drop p)) := ⟨_, rfl⟩
    unfold txtShort at h
    rw [e1, ← hV, Bool.false_or] at h
    have h2 : l.length - p - k < V := by
      rw [← e2]
      simpa [short] using h
    have hV64 : V < 18446744073709551616 := by
      have h3 := nat_lt (tk k (l.drop p))
      have h4 := tk_le k (l.drop p)
      have h5 : 256 ^ (tk k (l.drop p)).length ≤ 256 ^ 8 := Nat.pow_le_pow_right (by omega) (by omega)
      have h6 : (256 : Nat) ^ 8 = 18446744073709551616 := by decide
      omega
    have h7 : (l.length : Int) - (p : Int) - (k : Int) < (V : Int) := by omega
    have h8 : 0 ≤ (l.length : Int) - (p : Int) - (k : Int) := by omega
    have HV := Lib.hid hV
    have HE := Lib.hid e1
    clear e1 e2 h hV hdl
    go_enter Try.func26, Try.ntmps26
    go_wp2_with fail
    refine (num_any A c B l p k _ HL.out hp hk hs).mono ?_
    rintro e w' ⟨rfl, rfl⟩
    rw [HE.out, ← HV.out]
    go_wp2_with fail
    go_ret3
    exact ⟨rfl, rfl⟩

def TextYes (B : Nat) (l : List UInt8) (p k : Nat) (w : World) (e : Ending) (w' : World) : Prop :=
  ∃ A' c', e = .returned (.tuple #[.slice A' (txt k (l.drop p)).length c', .int .i64 (p + k + (txt k (l.drop p)).length : Nat), .bool true]) ∧ Lies w B A' (B8 (txt k (l.drop p))) ∧
    p + k + (txt k (l.drop p)).length ≤ l.length ∧ txtRest k (l.drop p) = l.drop (p + k + (txt k (l.drop p)).length) ∧ w = w'
theorem text_yes (A : Option Addr) (c B : Nat) (l : List UInt8) (p k : Nat) (w : World) (hl : Lies w B A (B8 l)) (hp : p ≤ l.length) (hk1 : 1 ≤ k) (hk : k ≤ 8) (hs : l.length ≤ 140737488355328) (hc : l.length ≤ c) (hcm : c ≤ maxLen)
    (h : txtShort k (l.drop p) = false) :
    Calls Try.prog 26 #[.slice A l.length c, .int .i64 p, .int .i64 k] w (TextYes B l p k w) := by
  have hdl : (l.drop p).length = l.length - p := List.length_drop
  have e1 : short k (l.drop p) = false := by
    unfold txtShort at h
    cases hh : short k (l.drop p) <;> simp_all
  have h1 : k ≤ l.length - p := by
    rw [← hdl]
    simpa [short] using e1
  have er : rst k (l.drop p) = l.drop (p + k) := by rw [rst_yes (by omega), List.drop_drop]
  have erl : (l.drop (p + k)).length = l.length - (p + k) := List.length_drop
  obtain ⟨V, hV⟩ : ∃ V, V = nat (tk k (l.drop p)) := ⟨_, rfl⟩
  have h2 : V ≤ l.length - (p + k) := by
    unfold txtShort at h
    rw [e1, ← hV, er, Bool.false_or] at h
    rw [← erl]
    simpa [short] using h
  have et : txt k (l.drop p) = (l.drop (p + k)).take V := by
    unfold txt
    rw [← hV, er, tk_yes (by omega)]
  have etl : (txt k (l.drop p)).length = V := by rw [et, List.length_take]; omega
  have ers : txtRest k (l.drop p) = l.drop (p + k + V) := by
    unfold txtRest
    rw [← hV, er, rst_yes (by omega), List.drop_drop]
  unfold maxLen at hcm
  have done : ∀ (A' : Option Addr) (m n : Nat), n = V → A' = (if c = p + k then A else A.map (·.add (p + k))) →
      TextYes B l p k w (.returned (.tuple #[.slice A' n m, .int .i64 ((p : Int) + k + V), .bool true])) w := by
    intro A' m n hn hA
    rw [hn]
    refine ⟨A', m, ?_, ?_, ?_, ?_, rfl⟩
    · rw [etl]; simp
    · have h3 := (hl.drop (p + k) c (by rw [B8_length]; omega) (by rw [B8_length]; omega)).take V
      rw [B8, ← List.map_drop, ← List.map_take, ← et, ← hA] at h3
      exact h3
    · rw [etl]; omega
    · rw [etl]; exact ers
  have HV := Lib.hid hV
  have HE := Lib.hid e1
  have HL := Lib.hid hl
  clear hV e1 et etl ers er erl hdl hl h
  have h7 : (V : Int) ≤ (l.length : Int) - (p : Int) - (k : Int) := by omega
  by_cases hcn : c = p + k
  · have d0 := done A (c - (p + k)) V rfl (by rw [if_pos hcn])
    have hv0 : V = 0 := by omega
    subst hv0
    rw [show ((0 : Nat) : Int) = 0 from rfl, Int.add_zero] at d0
    subst hcn
    have D := Lib.hid d0
    clear done d0
    go_enter Try.func26, Try.ntmps26
    go_wp2_with fail
    refine (num_any A (p + k) B l p k _ HL.out hp hk hs).mono ?_
    rintro e w' ⟨rfl, rfl⟩
    rw [HE.out, ← HV.out]
    go_wp2_with fail
    go_ret3
    exact D.out
  · have D := Lib.hid (done _ (c - (p + k)) (p + k + V - (p + k)) (by omega) (by rw [if_neg hcn]))
    clear done
    go_enter Try.func26, Try.ntmps26
    go_wp2_with fail
    refine (num_any A c B l p k _ HL.out hp hk hs).mono ?_
    rintro e w' ⟨rfl, rfl⟩
    rw [HE.out, ← HV.out]
    go_wp2_with fail
    go_ret3
    exact D.out
end
section
open Go.RowKit
set_option maxRecDepth 100000

set_option maxHeartbeats 400000 in
theorem put_any (A : Option Addr) (c : Nat) (l : List UInt8) (B n x : Nat) (w : World) (hl : Lies w B A (B8 l)) (hB : B ≤ w.heap.size) (hn1 : 1 ≤ n) (hn8 : n ≤ 8) (hs : l.length + 8 ≤ 140737488355328) :
    Calls Try.prog 30 #[.slice A l.length c, .int .i64 n, .int .u64 x] w (NewOcts w.heap.size (l ++ be n x) w) := by
  obtain ⟨i0, hi, hz0, hz1, hz2⟩ := info_parts u8_info
  have hown0 : (w.alloc (.cells #[] 5)).ownsRow w.heap.size 5 1 (.slice (some ⟨w.heap.size, 0, none⟩) 0 0) 0 [] := World.ownsRow_made w #[] 0 (Nat.le_refl _) (Nat.zero_le _) rfl
  have hl' := hl.alloc hB (.cells #[] 5)
  have hs' : 0 + l.length ≤ 140737488355328 := by omega
  have hb0 : Below w.heap.size w (w.alloc (.cells #[] 5)) := (Below.refl _ _).alloc (Nat.le_refl _) _
  have hz : w.heap.size ≤ (w.alloc (.cells #[] 5)).heap.size := by simp
  have HI := Lib.hid hi
  have H0 := Lib.hid hz0
  have H1 := Lib.hid hz1
  have H2 := Lib.hid hz2
  have HL := Lib.hid hl'
  have HO := Lib.hid hown0
  have HB := Lib.hid hb0
  have HZ := Lib.hid hz
  clear hi hz0 hz1 hz2 hl' hown0 hb0 hz hl
  go_enter Try.func30, Try.ntmps30
  go_wp2_with (at_builtin; refine wpList_append_cells rfl _ _ 22 rfl w.heap.size 5 i0 (.int .u8 0) 1 1 Try.underlying22 HI.out H0.out H1.out H2.out rfl (by omega) _ 0 [] rfl HO.out B _ l.length c (B8 l) rfl HL.out (B8_len1 l) (B8_one l) (room63 hs') (room1 hs') HZ.out ?_; intro v1 w1 hown1 hb1; rw [Nat.zero_add, List.nil_append] at hown1; have HO1 := Lib.hid hown1; have HB1 := Lib.hid (HB.out.trans hb1); clear hown1 hb1)
  go_loopw [7, 8] (fun b i wr => ∃ j : Nat, j ≤ n ∧ i = .int .i64 ((n : Int) - 1 - j) ∧ Below w.heap.size w wr ∧ wr.ownsRow w.heap.size 5 1 b (l.length + j) (B8 (l ++ (be n x).take j))) (fun _ i _ => (intOf i + 1).toNat)
  case atStart => exact ⟨0, Nat.zero_le _, by go_num, HB1.out, by simpa using HO1.out⟩
  case round =>
    obtain ⟨j, hj, rfl, hbel, hown⟩ := hrel
    have HBR := Lib.hid hbel
    have HOR := Lib.hid hown
    have hsz := hbel.size
    clear hbel hown
    by_cases hlt : j < n
    · have hone : ∀ u ∈ [Value.int .u8 ((x : Int) / 2 ^ (8 * (n - 1 - j)) % 256)], u.oneCell' = true := by simp [Value.oneCell']
      have HN := Lib.hid hone
      have hbs : w.heap.size ≤ (wr.alloc (.cells #[.int .u8 ((x : Int) / 2 ^ (8 * (n - 1 - j)) % 256)] 5)).heap.size := by simp; omega
      have HBS := Lib.hid hbs
      have hs2 : l.length + j + 1 ≤ 140737488355328 := by omega
      clear hone hbs
      go_wp2_with (at_builtin; refine wpList_append_cells rfl _ _ 22 rfl w.heap.size 5 i0 (.int .u8 0) 1 1 Try.underlying22 HI.out H0.out H1.out H2.out rfl (by omega) _ (l.length + j) _ rfl (HOR.out.alloc _) _ _ 1 1 _ rfl (Lies.one wr 5 _) rfl HN.out (room63 hs2) (room1 hs2) HBS.out ?_; intro v' w2 hown2 hbel2)
      have hbel3 := (HBR.out.alloc (by omega) _).trans hbel2
      rw [← be_next l n x j hlt] at hown2
      have HB3 := Lib.hid hbel3
      have HO2 := Lib.hid hown2
      clear hbel2 hown2 hbel3
      go_wp2_with fail
      go_roundw
      case rel => exact ⟨j + 1, by omega, by go_num, HB3.out, HO2.out⟩
      case measure => simp [intOf]; omega
    · obtain rfl : j = n := by omega
      go_wp2_with fail
      go_ret
      refine ⟨_, rfl, ?_, HBR.out⟩
      have h := HOR.out
      rw [List.take_of_length_le (by rw [be_length]; exact Nat.le_refl _)] at h
      rw [List.length_append, be_length]
      exact h
end
end Go.Proofs.Ytflbjmpbkcjdhaa
