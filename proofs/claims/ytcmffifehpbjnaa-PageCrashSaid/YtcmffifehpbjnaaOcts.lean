/- Contracts of package octs. -/
import Derived.Test.YtcmffifehpbjnaaWords
import Derived.Test.YtcmffifehpbjnaaProg
import Derived.Outline
import Derived.Lib.Hide
namespace Go.Proofs.Ytcmffifehpbjnaa
open Go.RowKit
set_option maxRecDepth 100000

/-- an In that has l left, bad or not, in block g -/
def InAt (w : World) (g : Nat) (l : List UInt8) (bad : Bool) : Prop :=
  ∃ A c, Whole w g 135 #[.slice A l.length c, .bool bad] ∧ l.length ≤ c ∧ c ≤ maxLen ∧ Lies w g A (B8 l)
def TakeSome (g : Nat) (l : List UInt8) (n : Nat) (bad : Bool) (w : World) (e : Ending) (w' : World) : Prop :=
  ∃ A c, e = .returned (.slice A n c) ∧ n ≤ c ∧ c ≤ maxLen ∧ Lies w' g A (B8 (l.take n)) ∧ InAt w' g (l.drop n) bad ∧ w.grownBy w' (some g)
def TakeNone (g : Nat) (w : World) (e : Ending) (w' : World) : Prop :=
  e = .returned (.slice none 0 0) ∧ InAt w' g [] true ∧ w.grownBy w' (some g)

theorem ret_int {k : IntKind} {a b : Int} (h : a = b) : Ending.returned (.int k a) = .returned (.int k b) := by rw [h]

/-- width: held to 1 to 8 -/
def wid (n : Int) : Nat := (min (max n 1) 8).toNat
theorem wid_in (n : Int) : 1 ≤ wid n ∧ wid n ≤ 8 := by unfold wid; omega
theorem width_any (n : Int) (w : World) : Calls Try.prog 78 #[.int .i64 n] w fun e w' => e = .returned (.int .i64 (wid n)) ∧ w = w' := by
  have h1 : 8 < n → (8 : Int) = (wid n : Int) := by unfold wid; omega
  have h2 : n < 1 → (1 : Int) = (wid n : Int) := by unfold wid; omega
  have h3 : 1 ≤ n → n ≤ 8 → n = (wid n : Int) := by unfold wid; omega
  have H1 : Hid _ := h1
  have H2 : Hid _ := h2
  have H3 : Hid _ := h3
  clear h1 h2 h3
  rcases Int.lt_or_le n 1 with h | h
  · go_enter Try.func78, Try.ntmps78
    go_wp2
    go_ret
    exact ⟨ret_int (H2.out h), rfl⟩
  · rcases Int.lt_or_le 8 n with h' | h'
    · go_enter Try.func78, Try.ntmps78
      go_wp2
      go_ret
      exact ⟨ret_int (H1.out h'), rfl⟩
    · go_enter Try.func78, Try.ntmps78
      go_wp2
      go_ret
      exact ⟨ret_int (H3.out h h'), rfl⟩

theorem take_none (g n : Nat) (l : List UInt8) (bad : Bool) (w : World) (h : InAt w g l bad) (hn : l.length < n) :
    Calls Try.prog 82 #[.pointer (some ⟨g, 0, none⟩), .int .u64 n] w (TakeNone g w) := by
  obtain ⟨A, c, hw, hlc, hcm, hl⟩ := h
  unfold maxLen at hcm
  have c0 : w.cell? ⟨g, 0, none⟩ = some (.slice A l.length c) := hw.cell 0
  have c1 : w.cell? ⟨g, 1, none⟩ = some (.bool bad) := hw.cell 1
  have f0 := hw.frozen 0
  have f1 := hw.frozen 1
  go_enter Try.func82, Try.ntmps82
  go_wp2
  go_ret
  exact ⟨rfl, ⟨none, 0, (hw.put 0 _).put 1 _, Nat.le_refl _, Nat.zero_le _, Lies.empty _ _ _⟩, only_set (only_set (only_refl _ _) _ _) _ _⟩

theorem take_some (g n : Nat) (l : List UInt8) (bad : Bool) (w : World) (h : InAt w g l bad) (hn : n ≤ l.length) :
    Calls Try.prog 82 #[.pointer (some ⟨g, 0, none⟩), .int .u64 n] w (TakeSome g l n bad w) := by
  obtain ⟨A, c, hw, hlc, hcm, hl⟩ := h
  have hcm' := hcm
  unfold maxLen at hcm
  have c0 : w.cell? ⟨g, 0, none⟩ = some (.slice A l.length c) := hw.cell 0
  have c1 : w.cell? ⟨g, 1, none⟩ = some (.bool bad) := hw.cell 1
  have f0 := hw.frozen 0
  have f1 := hw.frozen 1
  have done : ∀ (A' : Option Addr) (m k : Nat), A' = (if c = n then A else A.map (·.add n)) → m = l.length - n → k = c - n →
      TakeSome g l n bad w (.returned (.slice A n c)) (w.setCell ⟨g, 0, none⟩ (.slice A' m k)) := by
    rintro A' m k hA rfl rfl
    have hg := only_set (only_refl w (some g)) 0 (.slice A' (l.length - n) (c - n))
    have keep : ∀ (X : Option Addr) (xs : List Value), Lies w g X xs → Lies (w.setCell ⟨g, 0, none⟩ (.slice A' (l.length - n) (c - n))) g X xs :=
      fun X xs h => h.keep fun b o hb => World.cell?_of_block (a := ⟨b, o, none⟩) (hg.block b (by have := hw.lt; omega) (fun e => by injection e; omega))
    refine ⟨A, c, rfl, by omega, hcm', ?_, ⟨A', c - n, ?_, ?_, ?_, ?_⟩, hg⟩
    · have := keep _ _ (hl.take n)
      rwa [B8, ← List.map_take] at this
    · rw [List.length_drop]
      exact hw.put 0 _
    · rw [List.length_drop]; omega
    · unfold maxLen; omega
    · have := keep _ _ (hl.drop n c (by rw [B8_length]; exact hn) (by rw [B8_length]; exact hlc))
      rw [B8, ← List.map_drop, ← hA] at this
      exact this
  by_cases hcn : c = n
  · have D : Hid _ := done A 0 0 (by rw [if_pos hcn]) (by omega) (by omega)
    clear done
    subst hcn
    go_enter Try.func82, Try.ntmps82
    go_wp2
    go_ret
    exact D.out
  · have D : Hid _ := done _ _ _ (by rw [if_neg hcn]) rfl rfl
    clear done
    go_enter Try.func82, Try.ntmps82
    go_wp2
    go_ret
    exact D.out

def Take (g : Nat) (l : List UInt8) (n : Nat) (bad : Bool) (w : World) (e : Ending) (w' : World) : Prop :=
  ∃ A c, e = .returned (.slice A (tk n l).length c) ∧ (tk n l).length ≤ c ∧ c ≤ maxLen ∧ Lies w' g A (B8 (tk n l)) ∧ InAt w' g (rst n l) (bad || short n l) ∧ w.grownBy w' (some g)
theorem take_any (g n : Nat) (l : List UInt8) (bad : Bool) (w : World) (h : InAt w g l bad) :
    Calls Try.prog 82 #[.pointer (some ⟨g, 0, none⟩), .int .u64 n] w (Take g l n bad w) := by
  rcases Nat.lt_or_ge l.length n with hn | hn
  · refine (take_none g n l bad w h hn).mono ?_
    rintro e w' ⟨rfl, h1, h2⟩
    refine ⟨none, 0, ?_, ?_, Nat.zero_le _, ?_, ?_, h2⟩
    · rw [tk_no hn]; rfl
    · rw [tk_no hn]; exact Nat.le_refl _
    · rw [tk_no hn]; exact Lies.empty _ _ _
    · rw [rst_no hn, short_yes hn, Bool.or_true]; exact h1
  · refine (take_some g n l bad w h hn).mono ?_
    rintro e w' ⟨A, c, rfl, h1, h2, h3, h4, h5⟩
    have ht : (l.take n).length = n := by rw [List.length_take]; omega
    refine ⟨A, c, ?_, ?_, h2, ?_, ?_, h5⟩
    · rw [tk_yes hn, ht]
    · rw [tk_yes hn, ht]; exact h1
    · rw [tk_yes hn]; exact h3
    · rw [rst_yes hn, short_no hn, Bool.or_false]; exact h4

def ReadInt (g : Nat) (l : List UInt8) (n : Nat) (bad : Bool) (w : World) (e : Ending) (w' : World) : Prop :=
  e = .returned (.int .u64 (nat (tk n l))) ∧ InAt w' g (rst n l) (bad || short n l) ∧ w.grownBy w' (some g)
theorem in_int (g : Nat) (n : Int) (l : List UInt8) (bad : Bool) (w : World) (h : InAt w g l bad) :
    Calls Try.prog 63 #[.pointer (some ⟨g, 0, none⟩), .int .i64 n] w (ReadInt g l (wid n) bad w) := by
  have hw := wid_in n
  have H := Lib.hid h
  clear h
  go_enter Try.func63, Try.ntmps63
  go_wp2_with fail
  refine (width_any _ _).mono ?_
  rintro e w' ⟨rfl, rfl⟩
  generalize wid n = k at *
  go_wp2_with fail
  refine (take_any g k l bad _ H.out).mono ?_
  rintro e w1 ⟨A, c, rfl, h1, h2, h3, h4, h5⟩
  have hk := tk_le k l
  have DONE : Hid (ReadInt g l k bad w (.returned (.int .u64 (nat (tk k l)))) w1) := ⟨rfl, h4, h5⟩
  clear h4 h5
  unfold maxLen at h2
  generalize tk k l = t at *
  rcases h3.octets with rfl | ⟨b, o, rfl, hb, hcell⟩
  · go_wp2_with fail
    refine wp_loop_rounds 1 ?_
    rw [rounds_succ]
    go_wp2_with fail
    go_ret
    exact DONE.out
  · go_wp2_with fail
    go_loop [5, 14] (fun v i => ∃ j : Nat, j ≤ t.length ∧ i = .int .i64 j ∧ v = .int .u64 (nat (t.take j))) (fun _ i => t.length - (intOf i).toNat)
    case atStart => exact ⟨0, Nat.zero_le _, rfl, rfl⟩
    case round =>
      obtain ⟨j, hj, rfl, rfl⟩ := hrel
      by_cases hlt : j < t.length
      · have hc := hcell j hlt
        have hb1 : nat (t.take j) * 256 < 18446744073709551616 := nat_room t j hlt (by omega)
        have hb2 := t[j].toNat_lt
        have OR : Hid _ := or_octet (nat (t.take j)) t[j].toNat hb1 hb2
        have SN : Hid (nat (t.take (j + 1)) = nat (t.take j) * 256 + t[j].toNat) := by rw [take_one t j hlt]; exact nat_snoc _ _
        clear hcell
        go_wp2_with fail
        go_round
        case rel =>
          exact ⟨j + 1, by omega, by go_num, by rw [SN.out, ← OR.out]⟩
        case measure => simp [intOf]; omega
      · obtain rfl : j = t.length := by omega
        go_wp2_with fail
        go_ret
        exact DONE.out
end Go.Proofs.Ytcmffifehpbjnaa
