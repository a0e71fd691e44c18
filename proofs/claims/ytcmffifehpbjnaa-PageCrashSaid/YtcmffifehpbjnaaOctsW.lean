/- Contracts of package octs: what is written. -/
import Derived.Test.YtcmffifehpbjnaaOcts
import Derived.WalkSpells
import Derived.Lib.AppendStr
namespace Go.Proofs.Ytcmffifehpbjnaa
open Go.RowKit
set_option maxRecDepth 100000

theorem u8_info : (Try.prog.info? 5).map (fun i => (i.zero, i.size, i.bytes)) = some (some (.int .u8 0), 1, 1) := by kernel_rfl

/-- the answer is new memory that holds l -/
def NewOcts (base : Nat) (l : List UInt8) (w : World) (e : Ending) (w' : World) : Prop :=
  ∃ v, e = .returned v ∧ w'.ownsRow base 5 1 v l.length (B8 l) ∧ Below base w w'

theorem clone_any (A : Option Addr) (c : Nat) (l : List UInt8) (B : Nat) (w : World) (hl : Lies w B A (B8 l)) (hB : B ≤ w.heap.size) (hs : l.length ≤ 140737488355328) :
    Calls Try.prog 81 #[.slice A l.length c] w (NewOcts w.heap.size l w) := by
  obtain ⟨i0, hi, hz0, hz1, hz2⟩ := info_parts u8_info
  have q : ∀ (w : World) (a : Option Addr) (n c n' c' : Nat), (binOp .eql 31 (.slice a n c) (.slice none n' c')).run Try.prog w = .ok (.bool a.isNone) w := fun w a n c n' c' => Lib.run_eql_slice_nil w _ _ a n c n' c' Try.underlying31
  rcases A with _ | ad
  · have hn : l = [] := by
      rcases hl.octets with h | ⟨b, o, e, _⟩
      · exact h
      · cases e
    subst hn
    go_enter Try.func81, Try.ntmps81
    go_wp2_with fail
    go_ret
    exact ⟨_, rfl, World.ownsRow_nil _ _ _ _, Below.refl _ _⟩
  · have hown : (w.alloc (.cells #[] 5)).ownsRow w.heap.size 5 1 (.slice (some ⟨w.heap.size, 0, none⟩) 0 0) 0 [] := World.ownsRow_made w #[] 0 (Nat.le_refl _) (Nat.zero_le _) rfl
    have hl' := hl.alloc hB (.cells #[] 5)
    have hs' : 0 + l.length ≤ 140737488355328 := by omega
    have HI := Lib.hid hi
    have H0 := Lib.hid hz0
    have H1 := Lib.hid hz1
    have H2 := Lib.hid hz2
    have HL := Lib.hid hl'
    have HO := Lib.hid hown
    clear hi hz0 hz1 hz2 hl' hown
    go_enter Try.func81, Try.ntmps81
    go_wp2_with (at_builtin; refine wpList_append_cells rfl _ _ 31 rfl w.heap.size 5 i0 (.int .u8 0) 1 1 Try.underlying31 HI.out H0.out H1.out H2.out rfl (by omega) _ 0 [] rfl HO.out B _ l.length c (B8 l) rfl HL.out (B8_len1 l) (B8_one l) (room63 hs') (room1 hs') (by simp) ?_; intro v' w1 hown1 hbel)
    go_ret
    refine ⟨_, rfl, ?_, ?_⟩
    · simpa using hown1
    · exact ((Below.refl _ w).alloc (Nat.le_refl _) _).trans hbel

theorem roomy_any (A : Option Addr) (c : Nat) (l : List UInt8) (B n : Nat) (w : World) (hl : Lies w B A (B8 l)) (hB : B ≤ w.heap.size) (hs : l.length + n ≤ 140737488355328) :
    Calls Try.prog 80 #[.slice A l.length c, .int .i64 n] w (NewOcts w.heap.size l w) := by
  obtain ⟨i0, hi, hz0, hz1, hz2⟩ := info_parts u8_info
  have hs' : 0 + l.length ≤ 140737488355328 := by omega
  have hby : i0.bytes * (l.length + n) ≤ 281474976710656 := by rw [hz2]; omega
  have hml : l.length + n ≤ maxLen := room63 hs
  have HI := Lib.hid hi
  have H0 := Lib.hid hz0
  have H1 := Lib.hid hz1
  have H2 := Lib.hid hz2
  have HL := Lib.hid hl
  have HB := Lib.hid hby
  have HM := Lib.hid hml
  clear hi hz0 hz1 hz2 hl hby hml
  go_enter Try.func80, Try.ntmps80
  go_wp2_with (first
    | (at_make; refine wpList_make_own _ rfl _ _ 31 rfl w.heap.size 5 i0 (.int .u8 0) 1 Try.underlying31 HI.out H0.out H1.out .i64 .i64 _ (l.length + n) rfl rfl (by omega) HB.out HM.out (Nat.le_refl _) ?_; intro w1 hown hg; have hbel := below_none hg; have HB1 := Lib.hid hbel; have HO := Lib.hid hown; have hsz := hbel.size; have HL1 := Lib.hid (HL.out.below (hbel.mono hB)); clear hown hg hbel)
    | (at_builtin; refine wpList_append_cells rfl _ _ 31 rfl w.heap.size 5 i0 (.int .u8 0) 1 1 Try.underlying31 HI.out H0.out H1.out H2.out rfl (by omega) _ 0 [] rfl HO.out B _ l.length c (B8 l) rfl HL1.out (B8_len1 l) (B8_one l) (room63 hs') (room1 hs') hsz ?_; intro v' w2 hown1 hbel1))
  go_ret
  refine ⟨_, rfl, ?_, HB1.out.trans hbel1⟩
  simpa using hown1

theorem from_any (A : Option Addr) (c : Nat) (l : List UInt8) (B : Nat) (w : World) (hl : Lies w B A (B8 l)) (hB : B ≤ w.heap.size) (hs : l.length ≤ 140737488355328) :
    Calls Try.prog 62 #[.slice A l.length c] w fun e w' => ∃ g, w.heap.size ≤ g ∧ e = .returned (.pointer (some ⟨g, 0, none⟩)) ∧ InAt w' g l false ∧ Below w.heap.size w w' := by
  have HL := Lib.hid hl
  clear hl
  go_enter Try.func62, Try.ntmps62
  go_wp2_with fail
  refine (clone_any A c l B _ HL.out hB hs).mono ?_
  rintro e w1 ⟨v, rfl, hown, hbel⟩
  obtain ⟨A', c', rfl, hc1, hc2⟩ := own_form hown
  have done : ∃ g, w.heap.size ≤ g ∧ (Ending.returned (.pointer (some ⟨w1.heap.size, 0, none⟩)) = .returned (.pointer (some ⟨g, 0, none⟩))) ∧ InAt (w1.alloc (.cells #[.slice A' l.length c', .bool false] 135)) g l false ∧ Below w.heap.size w (w1.alloc (.cells #[.slice A' l.length c', .bool false] 135)) :=
    ⟨_, hbel.size, rfl, ⟨A', c', Whole.new _ _ _, hc1, hc2, (Lies.own hown (Nat.le_refl _)).alloc (Nat.le_refl _) _⟩, hbel.alloc hbel.size _⟩
  have D := Lib.hid done
  clear hown hbel done
  go_wp2_with fail
  go_ret
  exact D.out

theorem addInt_any (base : Nat) (v : Value) (l : List UInt8) (n x : Nat) (w : World) (hown : w.ownsRow base 5 1 v l.length (B8 l)) (hbase : base ≤ w.heap.size)
    (hn1 : 1 ≤ n) (hn8 : n ≤ 8) (hs : l.length + 8 ≤ 140737488355328) :
    Calls Try.prog 79 #[v, .int .i64 n, .int .u64 x] w (NewOcts base (l ++ be n x) w) := by
  obtain ⟨i0, hi, hz0, hz1, hz2⟩ := info_parts u8_info
  have HI := Lib.hid hi
  have H0 := Lib.hid hz0
  have H1 := Lib.hid hz1
  have H2 := Lib.hid hz2
  have HO := Lib.hid hown
  clear hi hz0 hz1 hz2 hown
  go_enter Try.func79, Try.ntmps79
  go_wp2_with fail
  go_loopw [0, 7] (fun b sh wr => ∃ j : Nat, j ≤ n ∧ sh = .int .i64 (8 * ((n : Int) - 1 - j)) ∧ Below base w wr ∧ wr.ownsRow base 5 1 b (l.length + j) (B8 (l ++ (be n x).take j))) (fun _ sh _ => (intOf sh + 8).toNat)
  case atStart => exact ⟨0, Nat.zero_le _, by go_num, Below.refl _ _, by simpa using HO.out⟩
  case round =>
    obtain ⟨j, hj, rfl, hbel, hown⟩ := hrel
    have HB := Lib.hid hbel
    have HO1 := Lib.hid hown
    have hsz := hbel.size
    clear hbel hown
    by_cases hlt : j < n
    · have hone : ∀ u ∈ [Value.int .u8 ((x : Int) / 2 ^ (8 * (n - 1 - j)) % 256)], u.oneCell' = true := by simp [Value.oneCell']
      have HN := Lib.hid hone
      have hbs : base ≤ (wr.alloc (.cells #[.int .u8 ((x : Int) / 2 ^ (8 * (n - 1 - j)) % 256)] 5)).heap.size := by simp; omega
      have HBS := Lib.hid hbs
      have hs' : l.length + j + 1 ≤ 140737488355328 := by omega
      clear hone hbs
      go_wp2_with (at_builtin; refine wpList_append_cells rfl _ _ 31 rfl base 5 i0 (.int .u8 0) 1 1 Try.underlying31 HI.out H0.out H1.out H2.out rfl (by omega) _ (l.length + j) _ rfl (HO1.out.alloc _) _ _ 1 1 _ rfl (Lies.one wr 5 _) rfl HN.out (room63 hs') (room1 hs') HBS.out ?_; intro v' w2 hown2 hbel2)
      have hbel3 := (HB.out.alloc (by omega) _).trans hbel2
      rw [← be_next l n x j hlt] at hown2
      have HB3 := Lib.hid hbel3
      have HO2 := Lib.hid hown2
      clear hbel2 hown2 hbel3
      go_wp2_with fail
      go_roundw
      case rel => exact ⟨j + 1, by omega, by go_num, HB3.out, HO2.out⟩
      case measure => simp [intOf]; omega
    · obtain rfl : j = n := by omega
      go_wp2_with fail
      go_ret
      refine ⟨_, rfl, ?_, HB.out⟩
      have h := HO1.out
      rw [List.take_of_length_le (by rw [be_length]; exact Nat.le_refl _)] at h
      rw [List.length_append, be_length]
      exact h

theorem int_any (A : Option Addr) (c : Nat) (l : List UInt8) (B : Nat) (n : Int) (x : Nat) (w : World) (hl : Lies w B A (B8 l)) (hB : B ≤ w.heap.size) (hs : l.length + 8 ≤ 140737488355328) :
    Calls Try.prog 61 #[.slice A l.length c, .int .i64 n, .int .u64 x] w (NewOcts w.heap.size (l ++ be (wid n) x) w) := by
  have hw := wid_in n
  have HL := Lib.hid hl
  clear hl
  go_enter Try.func61, Try.ntmps61
  go_wp2_with fail
  refine (width_any _ _).mono ?_
  rintro e w' ⟨rfl, rfl⟩
  generalize wid n = k at *
  go_wp2_with fail
  refine (roomy_any A c l B k _ HL.out hB (by omega)).mono ?_
  rintro e w1 ⟨v, rfl, hown, hbel⟩
  have HO := Lib.hid hown
  have HB := Lib.hid hbel
  have hsz := hbel.size
  clear hown hbel
  go_wp2_with fail
  refine (addInt_any _ v l k x _ HO.out hsz hw.1 hw.2 hs).mono ?_
  rintro e w2 ⟨v2, rfl, hown2, hbel2⟩
  have HO2 := Lib.hid hown2
  have HB2 := Lib.hid hbel2
  clear hown2 hbel2
  go_wp2_with fail
  go_ret
  exact ⟨_, rfl, HO2.out, HB.out.trans HB2.out⟩

def NewOctsOk (base : Nat) (l : List UInt8) (ok : Bool) (w : World) (e : Ending) (w' : World) : Prop :=
  ∃ v, e = .returned (.tuple #[v, .bool ok]) ∧ w'.ownsRow base 5 1 v l.length (B8 l) ∧ Below base w w'

end Go.Proofs.Ytcmffifehpbjnaa
