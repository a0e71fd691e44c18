/- Layer 9: the statements' rows: the same numbers; numbers that rise already are sorted; a page's octets as a text. -/
import Derived.Test.YtcmffifehpbjnaaPageRo
namespace Go.Proofs.Ytcmffifehpbjnaa
open Go.RowKit Go.Maps
set_option maxRecDepth 100000
set_option linter.unusedSimpArgs false
set_option linter.unusedVariables false
theorem below_drewN9 {B : Nat} {a w : World} (h : Below B a w) (n : Nat) : Below B a (w.drewN n) := ⟨h.os, h.tape, h.output, h.size, h.block⟩
theorem getD_ext {a b : List Int} (h : a.length = b.length) (hh : ∀ j, j < a.length → a.getD j 0 = b.getD j 0) : a = b := by
  apply List.ext_getElem h
  intro j h1 h2
  have := hh j h1
  simpa [List.getD, h1, h2] using this
set_option maxHeartbeats 4000000 in
theorem same_ints9 (l r : List Int) (A A' : Option Addr) (c c' D D' : Nat) (W : World) (h : Lies W D A (cellsZ l)) (h' : Lies W D' A' (cellsZ r)) (hd : D ≤ W.heap.size) (hd' : D' ≤ W.heap.size) (hm : l.length ≤ 1000000) :
    Calls Try.prog 20 #[.slice A l.length c, .slice A' r.length c'] W fun e w' => e = .returned (.bool (decide (l = r))) ∧ Below W.heap.size W w' := by
  have HL := Lib.hid h
  have HR := Lib.hid h'
  have HDL := Lib.hid hd
  have HDR := Lib.hid hd'
  clear h h' hd hd'
  by_cases hlen : l.length = r.length
  · have hne : (((l.length : Nat) : Int) != ((r.length : Nat) : Int)) = false := by rw [hlen]; simp
    have HLEN := Lib.hid hlen
    clear hlen
    go_enter Try.func20, Try.ntmps20
    go_wp2_with fail
    go_loopw [5] (fun vi wr => ∃ i : Nat, vi = .int .i64 (i : Int) ∧ i ≤ l.length ∧ (∀ j, j < i → l.getD j 0 = r.getD j 0) ∧ Below W.heap.size W wr) (fun vi _ => l.length - (intOf vi).toNat)
    case atStart => exact ⟨0, rfl, Nat.zero_le _, fun j hj => absurd hj (Nat.not_lt_zero j), Below.refl _ _⟩
    case round =>
      obtain ⟨i, rfl, hi, hok, hbr⟩ := hrel
      have BR := Lib.hid hbr
      have DR : Hid (∀ n, Below W.heap.size W (wr.drewN n)) := Lib.hid (fun n => below_drewN9 hbr n)
      have OK := Lib.hid hok
      clear hok
      by_cases hlt : i < l.length
      · have hi1 : (i : Int) < (l.length : Int) := by omega
        obtain ⟨b, o, rfl, hc⟩ := lies_z (HL.out.below (BR.out.mono HDL.out)) i hlt
        have hir : i < r.length := by rw [← HLEN.out]; exact hlt
        obtain ⟨b', o', rfl, hc'⟩ := lies_z (HR.out.below (BR.out.mono HDR.out)) i hir
        have hir1 : (i : Int) < (r.length : Int) := by omega
        have hci := hc i hlt
        have hci' := hc' i hir
        obtain ⟨x, hx⟩ : ∃ x, x = l.getD i 0 := ⟨_, rfl⟩
        obtain ⟨y, hy⟩ : ∃ y, y = r.getD i 0 := ⟨_, rfl⟩
        rw [← hx] at hci
        rw [← hy] at hci'
        clear hbr
        have HX := Lib.hid hx
        have HY := Lib.hid hy
        clear hc hc' hx hy
        by_cases hxy : x = y
        · have hne2 : (x != y) = false := by rw [hxy]; simp
          have hok1 : ∀ j, j < i + 1 → l.getD j 0 = r.getD j 0 := fun j hj => by
            by_cases e : j = i
            · rw [e, ← HX.out, ← HY.out, hxy]
            · exact OK.out j (by omega)
          have OK1 := Lib.hid hok1
          clear hxy hok1
          go_wp2_with fail
          go_quiet (fail)
          go_wp2_with fail
          go_roundw
          case rel => exact ⟨i + 1, by go_num, by omega, OK1.out, DR.out _⟩
          case measure => simp [intOf]; omega
        · have hne2 : (x != y) = true := bne_iff_ne.2 hxy
          have hd : decide (l = r) = false := decide_eq_false fun e => hxy (by rw [HX.out, HY.out, e])
          have HD := Lib.hid hd
          clear hxy hd
          go_wp2_with fail
          go_quiet (fail)
          go_wp2_with fail
          go_ret
          rw [HD.out]
          exact ⟨rfl, DR.out _⟩
      · have hin : i = l.length := by omega
        have hd : decide (l = r) = true := decide_eq_true (getD_ext HLEN.out fun j hj => OK.out j (by omega))
        have HD := Lib.hid hd
        clear hd hbr
        go_wp2_with fail
        go_ret
        rw [HD.out]
        exact ⟨rfl, BR.out⟩
  · have hne : (((l.length : Nat) : Int) != ((r.length : Nat) : Int)) = true := bne_iff_ne.2 (by omega)
    have hd : decide (l = r) = false := decide_eq_false fun e => hlen (by rw [e])
    have HD := Lib.hid hd
    clear hlen hd
    go_enter Try.func20, Try.ntmps20
    go_wp2_with fail
    go_ret
    rw [HD.out]
    exact ⟨rfl, Below.refl _ _⟩
set_option maxHeartbeats 4000000 in
/-- numbers that rise already stay as they are -/
theorem sorted_up9 (l : List Int) (A : Option Addr) (c D : Nat) (W : World) (hl : Lies W D A (cellsZ l)) (hD : D ≤ W.heap.size) (hs : l.length ≤ 1000000) (hup : ∀ j, j + 1 < l.length → l.getD j 0 < l.getD (j + 1) 0) :
    Calls Try.prog 13 #[.slice A l.length c] W fun e w' => ∃ v, e = .returned v ∧ w'.ownsRow W.heap.size 3 1 v l.length (cellsZ l) ∧ Below W.heap.size W w' := by
  obtain ⟨i0, hI, hz0, hz1, hz2⟩ := info_parts int_info9
  have HI := Lib.hid hI
  have H0 := Lib.hid hz0
  have H1 := Lib.hid hz1
  have H2 := Lib.hid hz2
  have HL := Lib.hid hl
  have HD := Lib.hid hD
  have HUP := Lib.hid hup
  have h8 : (0 + l.length) * 8 ≤ 140737488355328 := by omega
  have h63 : 0 + l.length ≤ maxLen := by unfold maxLen; omega
  have H8 := Lib.hid h8
  have H63 := Lib.hid h63
  have HON := Lib.hid (cellsZ_one l)
  clear hI hz0 hz1 hz2 hl hD h8 h63 hup
  go_enter Try.func13, Try.ntmps13
  have hown : (W.alloc (.cells #[] 3)).ownsRow W.heap.size 3 1 (.slice (some ⟨W.heap.size, 0, none⟩) 0 0) 0 [] := World.ownsRow_made W #[] 0 (Nat.le_refl _) (Nat.zero_le _) rfl
  have HOW := Lib.hid hown
  have HLA := Lib.hid (HL.out.alloc HD.out (.cells #[] 3))
  have hbs : W.heap.size ≤ (W.alloc (.cells #[] 3)).heap.size := by simp
  have HBS := Lib.hid hbs
  clear hown hbs
  go_upto_region 3 with (at_builtin; refine wpList_append_cells rfl _ _ 22 rfl W.heap.size 3 i0 (.int .i64 0) 1 8 Try.underlying22 HI.out H0.out H1.out H2.out rfl (by omega) _ 0 [] rfl HOW.out D _ l.length c (cellsZ l) rfl HLA.out (cellsZ_length l) HON.out H63.out H8.out HBS.out ?_; intro v2 w2 ho2 hb2; have O2 := Lib.hid ho2; have B2 := Lib.hid (((Below.refl _ W).alloc (Nat.le_refl _) (.cells #[] 3)).trans hb2); clear ho2 hb2)
  have ho2 : w2.ownsRow W.heap.size 3 1 v2 l.length (cellsZ l) := by simpa using O2.out
  obtain ⟨A2, c2, rfl, hc1, hc2⟩ := own_form ho2
  have hl2 : Lies w2 w2.heap.size A2 (cellsZ l) := (LiesP.own (P := fun _ => True) ho2 (fun _ _ => trivial)).lies
  have HL2 := Lib.hid hl2
  have HO2 := Lib.hid ho2
  clear ho2 hl2
  go_wp2_with fail
  go_loopw [4] (fun vi wr => ∃ i : Nat, vi = .int .i64 (i : Int) ∧ 1 ≤ i ∧ Below w2.heap.size w2 wr) (fun vi _ => l.length - (intOf vi).toNat)
  case atStart => exact ⟨1, rfl, Nat.le_refl _, Below.refl _ _⟩
  case round =>
    obtain ⟨i, rfl, hi, hbr⟩ := hrel
    have BR := Lib.hid hbr
    clear hbr
    by_cases hlt : i < l.length
    · have hi1 : (i : Int) < (l.length : Int) := by omega
      go_upto_region 7 with fail
      go_loopw [5] (fun vk wx => vk = .int .i64 (i : Int) ∧ Below w2.heap.size w2 wx) (fun _ _ => 0)
      case atStart => exact ⟨rfl, BR.out⟩
      case round =>
        obtain ⟨rfl, hbx⟩ := hrel
        have DR : Hid (∀ n, Below w2.heap.size w2 (wr.drewN n)) := Lib.hid (fun n => below_drewN9 hbx n)
        obtain ⟨q, hq⟩ : ∃ q, i = q + 1 := ⟨i - 1, by omega⟩
        subst hq
        obtain ⟨b, o, rfl, hc⟩ := lies_z (HL2.out.below hbx) (q + 1) hlt
        have hc1 := hc (q + 1) hlt
        have hc0 := hc q (by omega)
        have hxy := HUP.out q hlt
        obtain ⟨x, hx⟩ : ∃ x, x = l.getD q 0 := ⟨_, rfl⟩
        obtain ⟨y, hy⟩ : ∃ y, y = l.getD (q + 1) 0 := ⟨_, rfl⟩
        rw [← hx] at hc0 hxy
        rw [← hy] at hc1 hxy
        have hng : ¬ (y < x) := by omega
        have hq0 : (0 : Int) < ((q + 1 : Nat) : Int) := by omega
        have hql : (q : Int) < (l.length : Int) := by omega
        have hql2 : q < l.length := by omega
        have hw1 : IntKind.i64.wrap (((q + 1 : Nat) : Int) - 1) = (q : Int) := by
          rw [show (((q + 1 : Nat) : Int) - 1) = (q : Int) by omega]
          exact IntWalk.i64_in _ ⟨by omega, by omega⟩
        clear hc hx hy hxy hbx
        go_wp2_with fail
        go_quiet (fail)
        go_wp2_with fail
        go_roundw
        case rel => exact ⟨q + 1 + 1, by go_num, by omega, DR.out _⟩
        case measure => simp [intOf]; omega
    · go_wp2_with fail
      go_ret
      exact ⟨_, rfl, own_block HO2.out (fun i hi => BR.out.block i (HO2.out.lt i hi).2), B2.out.trans (BR.out.mono B2.out.size)⟩
theorem conv_of9 {w : World} {P : Nat → Prop} {A : Option Addr} {l : List UInt8} {N : Nat} (h : LiesP w P A (B8 l)) (hl : l.length = N) (c : Nat) : (convert 31 9 (.slice A N c)).run Try.prog w = .ok (.string ⟨l.toArray⟩) w := by
  subst hl
  exact run_octets_string (P := Try.prog) 31 9 5 Try.underlying31 Try.underlying5 Try.underlying9 h.lies c
end Go.Proofs.Ytcmffifehpbjnaa
