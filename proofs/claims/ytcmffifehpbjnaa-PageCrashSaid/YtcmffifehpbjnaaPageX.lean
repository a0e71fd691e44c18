/- Layer 9: Read and Free, within a law's walk. -/
import Derived.Test.YtcmffifehpbjnaaPageR
namespace Go.Proofs.Ytcmffifehpbjnaa
open Go.RowKit Go.Maps
set_option maxRecDepth 100000
set_option linter.unusedSimpArgs false
set_option linter.unusedVariables false
section
variable {B g fb put : Nat} {Y : Nat → Prop} {w0 W w' : World} {S S' : Dv} {m : Mt} {L : List Int} {dead : Bool}
theorem fmeta_at (h : FAt B g fb Y w0 S m L put dead W) : Calls Try.prog 16 #[ptr fb] W fun e w' => e = .returned (.agg #[.int .u64 (m.gen : Int), .int .i64 (m.root : Int), .int .i64 (m.count : Int), .int .u64 (m.mark : Int)]) ∧ Below W.heap.size W w' := by
  obtain ⟨Z, hat, hdis, hZ, v, hbox, hown, hZv⟩ := h.at_
  exact fmeta_any hbox
theorem flen_at (h : FAt B g fb Y w0 S m L put dead W) (n : Nat) (hn : S.len nmP / 8 = n) : Calls Try.prog 17 #[ptr fb] W fun e w' => e = .returned (.int .i64 (n : Int)) ∧ W = w' := by
  obtain ⟨Z, hat, hdis, hZ, v, hbox, hown, hZv⟩ := h.at_
  exact flen_any hbox hat n hn (by have := len_small hat; omega)
theorem fdrop_at (h : FAt B g fb Y w0 S m L put dead W) : Calls Try.prog 23 #[ptr fb] W fun e w' => e = .returned (.tuple #[]) ∧ FAt B g fb Y w0 S m L 0 dead w' ∧ KeptX Y W w' := by
  obtain ⟨Z, hat, hdis, hZ, v, hbox, hown, hZv⟩ := h.at_
  refine (fdrop_any hbox).mono ?_
  rintro e w' ⟨rfl, hb, rfl⟩
  have hbv : some fb ≠ v.ownBlock := whole_apart hbox hown (by decide)
  exact ⟨rfl, ⟨⟨Z, hat.cell fb 6 (.inr hZ) _, hdis, hZ, v, hb, own_block hown (fun i hi => Below.heap_setCell _ ⟨fb, 6, none⟩ _ _ (ne_of_own hbv hi)), hZv⟩, h.lo, h.num, Nat.zero_le _⟩, fun i hi => Below.heap_setCell _ ⟨fb, 6, none⟩ _ _ (ne_of_dis hdis hZ hi), by simp⟩
set_option maxHeartbeats 4000000 in
/-- slices.Clone of numbers -/
theorem clonez_any (l : List Int) (A : Option Addr) (c : Nat) (D : Nat) (W : World) (hl : Lies W D A (cellsZ l)) (hD : D ≤ W.heap.size) (hs : l.length ≤ 1000000) :
    Calls Try.prog 40 #[.slice A l.length c] W fun e w' => ∃ v, e = .returned v ∧ w'.ownsRow W.heap.size 3 1 v l.length (cellsZ l) ∧ Below W.heap.size W w' := by
  obtain ⟨i0, hI, hz0, hz1, hz2⟩ := info_parts int_info9
  have HI := Lib.hid hI
  have H0 := Lib.hid hz0
  have H1 := Lib.hid hz1
  have H2 := Lib.hid hz2
  have HL := Lib.hid hl
  have HD := Lib.hid hD
  have h8 : (0 + l.length) * 8 ≤ 140737488355328 := by omega
  have h63 : 0 + l.length ≤ maxLen := by unfold maxLen; omega
  have H8 := Lib.hid h8
  have H63 := Lib.hid h63
  have HON := Lib.hid (cellsZ_one l)
  have q : ∀ (w : World) (a : Option Addr) (n c n' c' : Nat), (binOp .eql 22 (.slice a n c) (.slice none n' c')).run Try.prog w = .ok (.bool a.isNone) w := fun w a n c n' c' => Lib.run_eql_slice_nil w _ _ a n c n' c' Try.underlying22
  clear hI hz0 hz1 hz2 hl hD h8 h63
  cases A with
  | none =>
    have hl0 : l = [] := by
      rcases HL.out with h | ⟨b, o, e, _⟩
      · simpa [cellsZ] using h
      · cases e
    subst hl0
    go_enter Try.func40, Try.ntmps40
    go_wp2_with fail
    go_ret
    exact ⟨_, rfl, World.ownsRow_nil _ _ _ _, Below.refl _ _⟩
  | some ad =>
    go_enter Try.func40, Try.ntmps40
    have hown : (W.alloc (.cells #[] 3)).ownsRow W.heap.size 3 1 (.slice (some ⟨W.heap.size, 0, none⟩) 0 0) 0 [] := World.ownsRow_made W #[] 0 (Nat.le_refl _) (Nat.zero_le _) rfl
    have HOW := Lib.hid hown
    have HLA := Lib.hid (HL.out.alloc HD.out (.cells #[] 3))
    have hbs : W.heap.size ≤ (W.alloc (.cells #[] 3)).heap.size := by simp
    have HBS := Lib.hid hbs
    clear hown hbs
    go_wp2_with (at_builtin; refine wpList_append_cells rfl _ _ 22 rfl W.heap.size 3 i0 (.int .i64 0) 1 8 Try.underlying22 HI.out H0.out H1.out H2.out rfl (by omega) _ 0 [] rfl HOW.out D _ l.length c (cellsZ l) rfl HLA.out (cellsZ_length l) HON.out H63.out H8.out HBS.out ?_; intro v2 w2 ho2 hb2; have O2 := Lib.hid ho2; have B2 := Lib.hid (((Below.refl _ W).alloc (Nat.le_refl _) (.cells #[] 3)).trans hb2); clear ho2 hb2)
    go_ret
    exact ⟨_, rfl, by simpa using O2.out, B2.out⟩
set_option maxHeartbeats 4000000 in
theorem ffree_at (h : FAt B g fb Y w0 S m L put dead W) (hL : L.length ≤ 1000000) : Calls Try.prog 18 #[ptr fb] W fun e w' => ∃ v, e = .returned v ∧ w'.ownsRow W.heap.size 3 1 v (L.drop put).length (cellsZ (L.drop put)) ∧ Below W.heap.size W w' := by
  obtain ⟨Z, hat, hdis, hZ, v, hbox, hown, hZv⟩ := h.at_
  obtain ⟨Av, cv, rfl, hcv1, hcv2⟩ := own_form hown
  obtain ⟨c0, c1, c2, c3, c4, c5, c6, c7⟩ := hbox.cells
  have hp := h.putle
  have hlt := Whole.lt hbox
  have hlp : LiesP W.drew (fun _ => True) Av (cellsZ L) := LiesP.own (show W.drew.ownsRow 0 3 1 (.slice Av L.length cv) L.length (cellsZ L) from hown) (fun _ _ => trivial)
  have hld := hlp.drop put cv (by simpa [cellsZ] using hp) (by simpa [cellsZ] using hcv1)
  rw [show (cellsZ L).drop put = cellsZ (L.drop put) by simp [cellsZ]] at hld
  have hcl := fun (A : Option Addr) (cc : Nat) (h : Lies W.drew W.drew.heap.size A (cellsZ (L.drop put))) => clonez_any (L.drop put) A cc W.drew.heap.size W.drew h (Nat.le_refl _) (by rw [List.length_drop]; omega)
  have hlen : (L.drop put).length = L.length - put := List.length_drop
  rw [hlen] at hcl ⊢
  have HLD := Lib.hid hld
  have HCL := Lib.hid hcl
  have hpl : (put : Int) ≤ (L.length : Int) := by omega
  have hpc : (put : Int) ≤ (cv : Int) := by omega
  have hlc : (L.length : Int) ≤ (cv : Int) := by omega
  clear h hat hdis hZ hbox hown hZv hlp hld hcl hlen
  by_cases hc : cv = put
  · have hl : Hid (Lies W.drew W.drew.heap.size Av (cellsZ (L.drop put))) := Lib.hid (by have := HLD.out; rw [if_pos hc] at this; exact this.lies)
    go_enter Try.func18, Try.ntmps18
    go_upto_region 1 with fail
    go_region_held (fun w' => w'.cell? ⟨fb, 5, none⟩ = some (.slice Av L.length cv) ∧ w'.cell? ⟨fb, 6, none⟩ = some (.int .i64 (put : Int))) (first | exact ⟨c5, c6⟩ | exact ⟨c5', c6'⟩) (first | (go_at_call 40; go_must (refine (HCL.out _ _ hl.out).mono ?_); rintro e w2 ⟨v2, rfl, ho2, hb2⟩; have O2 := Lib.hid ho2; have B2 := Lib.hid hb2; have c5' := (hb2.cell (p := ⟨fb, 5, none⟩) hlt).trans c5; have c6' := (hb2.cell (p := ⟨fb, 6, none⟩) hlt).trans c6; clear ho2 hb2))
    all_goals
      go_wp2_with fail
      go_ret
      exact ⟨_, rfl, O2.out, (show Below W.heap.size W W.drew from (Below.refl _ _).drew).trans B2.out⟩
  · have hl : Hid (Lies W.drew W.drew.heap.size (Av.map (·.add put)) (cellsZ (L.drop put))) := Lib.hid (by have := HLD.out; rw [if_neg hc] at this; exact this.lies)
    go_enter Try.func18, Try.ntmps18
    go_upto_region 1 with fail
    go_region_held (fun w' => w'.cell? ⟨fb, 5, none⟩ = some (.slice Av L.length cv) ∧ w'.cell? ⟨fb, 6, none⟩ = some (.int .i64 (put : Int))) (first | exact ⟨c5, c6⟩ | exact ⟨c5', c6'⟩) (first | (go_at_call 40; go_must (refine (HCL.out _ _ hl.out).mono ?_); rintro e w2 ⟨v2, rfl, ho2, hb2⟩; have O2 := Lib.hid ho2; have B2 := Lib.hid hb2; have c5' := (hb2.cell (p := ⟨fb, 5, none⟩) hlt).trans c5; have c6' := (hb2.cell (p := ⟨fb, 6, none⟩) hlt).trans c6; clear ho2 hb2))
    all_goals
      go_wp2_with fail
      go_ret
      exact ⟨_, rfl, O2.out, (show Below W.heap.size W W.drew from (Below.refl _ _).drew).trans B2.out⟩
/-- what Read answers: the octets of a page's sectors from the k-th on, behind t -/
def rdG (S : Dv) (id : Nat) : Nat → Nat → List UInt8 → List UInt8 × Int
  | _, 0, t => (t, 0)
  | k, n + 1, t => if (pRead S nmP ((id * 8 + k : Nat) : Int)).2 = 0 then rdG S id (k + 1) n (t ++ (pRead S nmP ((id * 8 + k : Nat) : Int)).1.1) else ([], (pRead S nmP ((id * 8 + k : Nat) : Int)).2)
def rdA (S : Dv) (id : Int) : List UInt8 × Int := if 2 ≤ id ∧ id < ((S.len nmP / 8 : Nat) : Int) then rdG S id.toNat 0 8 [] else ([], 1)
def RdAt (S : Dv) (id : Nat) (W : World) (vb vk : Value) (wr : World) : Prop :=
  ∃ (k : Nat) (t : List UInt8), vk = .int .i64 (k : Int) ∧ k ≤ 8 ∧ t.length = 64 * k ∧ wr.ownsRow W.heap.size 5 1 vb t.length (B8 t) ∧ Below W.heap.size W wr ∧ rdG S id 0 8 [] = rdG S id k (8 - k) t
set_option maxHeartbeats 8000000 in
theorem fread_at (h : FAt B g fb Y w0 S m L put dead W) (id : Int) :
    Calls Try.prog 21 #[ptr fb, .int .i64 id] W fun e w' => ∃ v, e = .returned (.tuple #[v, .int .i64 (rdA S id).2]) ∧ w'.ownsRow W.heap.size 5 1 v (rdA S id).1.length (B8 (rdA S id).1) ∧ Below W.heap.size W w' := by
  obtain ⟨Z, hat, hdis, hZ, v, hbox, hown, hZv⟩ := h.at_
  have hs := len_small hat
  obtain ⟨n, hn⟩ : ∃ n, S.len nmP / 8 = n := ⟨_, rfl⟩
  have hhs := has_any hbox hat n id hn (by omega)
  have hlt := Whole.lt hbox
  have HAT := Lib.hid hat
  have HBX := Lib.hid hbox
  have HHS := Lib.hid hhs
  have HN := Lib.hid hn
  have HS := Lib.hid hs
  have ml : nmP.length ≤ maxLen := by show 1 ≤ maxLen; unfold maxLen; omega
  have ML := Lib.hid ml
  clear h hat hdis hZ hbox hown hZv hs hn hhs ml
  by_cases hp : 2 ≤ id ∧ id < (n : Int)
  · have E : rdA S id = rdG S id.toNat 0 8 [] := by unfold rdA; rw [HN.out, if_pos hp]
    obtain ⟨q, hq⟩ : ∃ q : Nat, id = (q : Int) := ⟨id.toNat, by omega⟩
    subst hq
    rw [Int.toNat_natCast] at E
    rw [decide_eq_true hp] at HHS
    have hq6 : q ≤ 1000000 := by have := HS.out; have := HN.out; omega
    have HE := Lib.hid E
    have hwm : IntKind.i64.wrap ((q : Int) * 8) = (q : Int) * 8 := IntWalk.i64_in _ ⟨by omega, by omega⟩
    obtain ⟨i0, hI, hz0, hz1, hz2⟩ := info_parts u8_info
    have hby : i0.bytes * 512 ≤ 281474976710656 := by rw [hz2]; omega
    have hml : 512 ≤ maxLen := by unfold maxLen; omega
    have HI := Lib.hid hI
    have H0 := Lib.hid hz0
    have H1 := Lib.hid hz1
    have H2 := Lib.hid hz2
    have HB := Lib.hid hby
    have HM := Lib.hid hml
    clear hI hz0 hz1 hz2 hby hml E hp
    go_enter Try.func21, Try.ntmps21
    go_upto_region 4 with (first
      | (go_at_call 43; go_must (refine HHS.out.mono ?_); rintro e w1 ⟨rfl, rfl⟩)
      | (at_make; go_must (refine wpList_make_own _ rfl _ _ 31 rfl W.heap.size 5 i0 (.int .u8 0) 1 Try.underlying31 HI.out H0.out H1.out .i64 .i64 _ 512 rfl rfl (by omega) HB.out HM.out (Nat.le_refl _) ?_); intro w2 hown hg; have B2 := Lib.hid (below_none hg); have O2 := Lib.hid hown; clear hown hg))
    go_wp2_with fail
    go_loopw [6, 15] (fun vb vk wr => RdAt S q W vb vk wr) (fun _ vk _ => 8 - (intOf vk).toNat)
    case atStart => exact ⟨0, [], rfl, by omega, rfl, O2.out, B2.out, rfl⟩
    case round =>
      obtain ⟨k, t, rfl, hk, htl, hown, hb, heq⟩ := hrel
      obtain ⟨At, ct, rfl, hct1, hct2⟩ := own_form hown
      have OW := Lib.hid hown
      have BW := Lib.hid hb
      have EQ := Lib.hid heq
      have TL := Lib.hid htl
      have AT := Lib.hid (HAT.out.below hb).1
      have hbx : FBox wr fb g m v put dead := (hb.block fb hlt).trans HBX.out
      obtain ⟨c0, c1, c2, c3, c4, c5, c6, c7⟩ := hbx.cells
      clear hown hb heq htl hbx
      by_cases hl8 : k < 8
      · have hi1 : (k : Int) < 8 := by omega
        have hwa : IntKind.i64.wrap ((q : Int) * 8 + (k : Int)) = (q : Int) * 8 + (k : Int) := IntWalk.i64_in _ ⟨by omega, by omega⟩
        obtain ⟨x, cc, hx⟩ : ∃ x cc, pRead S nmP ((q * 8 + k : Nat) : Int) = (x, cc) := ⟨_, _, rfl⟩
        have hx2 : pRead S nmP ((q : Int) * 8 + (k : Int)) = (x, cc) := by rw [← hx]; congr 1
        have heq2 : rdG S q 0 8 [] = if cc = 0 then rdG S q (k + 1) (8 - (k + 1)) (t ++ x.1) else ([], cc) := by
          rw [EQ.out, show 8 - k = (8 - (k + 1)) + 1 by omega]
          conv => lhs; unfold rdG
          rw [hx]
        have HX2 := Lib.hid hx2
        have EQ2 := Lib.hid heq2
        clear hx hx2 heq2
        go_upto_region 8 with (first
          | (go_at_call 28; go_must (refine (at_readB AT.out nmP ML.out ((q : Int) * 8 + (k : Int)) x cc HX2.out).mono ?_); rintro e w3 ⟨rfl, h3⟩; have B3 := Lib.hid h3; clear h3)
          | (with_reducible refine at_store36 ?_; go_must (refine wpList_store64 rfl (.tmp 8) (.tmp 28) rfl w3.heap.size x rfl rfl _ (heap_alloc_new w3 _) rfl ?_)))
        refine wp_ren (fun W' => Below wr.heap.size wr W' ∧ Lies W' W'.heap.size (some ⟨w3.heap.size, 0, none⟩) (B8 x.1)) ⟨below_setRow (B3.out.alloc B3.out.size _) B3.out.size _, ?_⟩ ?_
        · refine .inr ⟨w3.heap.size, 0, rfl, by simp [World.setRow], fun j u hu => ?_⟩
          have hrow := setRow_heap _ _ (csF zSec) (csF x) _ _ (heap_alloc_new w3 (.cells (csF zSec) 64))
          exact (cell_of_row _ _ (0 + j) _ _ _ hrow).trans (by rw [Nat.zero_add]; simpa [csF] using hu)
        rintro W4 ⟨hb4, hl4⟩
        have B4 := Lib.hid hb4
        have L4 := Lib.hid hl4
        have O4 := Lib.hid (own_block OW.out (fun i hi => hb4.block i (OW.out.lt i hi).2))
        have hsz4 : W.heap.size ≤ W4.heap.size := Nat.le_trans BW.out.size hb4.size
        have HSZ := Lib.hid hsz4
        clear hb4 hl4 hsz4
        by_cases hc : cc = 0
        · subst hc
          have hr : t.length + 64 ≤ 140737488355328 := by have := TL.out; omega
          have HR63 := Lib.hid (room63 hr)
          have HR1 := Lib.hid (room1 hr)
          have hxl : (B8 x.1).length = 64 * 1 := by rw [B8_length, x.2]
          have HXL := Lib.hid hxl
          have hfin : rdG S q 0 8 [] = rdG S q (k + 1) (8 - (k + 1)) (t ++ x.1) := by have := EQ2.out; simpa using this
          have HFIN := Lib.hid hfin
          have htl2 : (t ++ x.1).length = 64 * (k + 1) := by rw [List.length_append, TL.out, x.2]; omega
          have HTL2 := Lib.hid htl2
          clear hr hxl hfin htl2
          go_wp2_with (at_builtin; refine wpList_append_cells rfl _ _ 31 rfl W.heap.size 5 i0 (.int .u8 0) 1 1 Try.underlying31 HI.out H0.out H1.out H2.out rfl (by omega) _ t.length (B8 t) rfl O4.out W4.heap.size _ 64 64 (B8 x.1) rfl L4.out HXL.out (B8_one _) HR63.out HR1.out HSZ.out ?_; intro v5 w5 ho5 hb5; have O5 := Lib.hid ho5; have B5 := Lib.hid ((BW.out.trans (B4.out.mono BW.out.size)).trans hb5); clear ho5 hb5)
          go_roundw
          case rel => exact ⟨k + 1, t ++ x.1, by go_num, by omega, HTL2.out, by have h := O5.out; rw [← B8_append, show t.length + 64 = (t ++ x.1).length by rw [List.length_append, x.2]] at h; exact h, B5.out, HFIN.out⟩
          case measure => simp [intOf]; omega
        · have hcn : (cc == 0) = false := beq_false_of_ne hc
          have hfin : rdG S q 0 8 [] = ([], cc) := by have := EQ2.out; rwa [if_neg hc] at this
          have HFIN := Lib.hid hfin
          clear hfin
          go_wp2_with fail
          go_ret2
          rw [HE.out, HFIN.out]
          exact ⟨_, rfl, World.ownsRow_nil _ _ _ _, BW.out.trans (B4.out.mono BW.out.size)⟩
      · have hk8 : k = 8 := by omega
        subst hk8
        have hfin : rdG S q 0 8 [] = (t, 0) := EQ.out
        have HFIN := Lib.hid hfin
        clear hfin
        go_wp2_with fail
        go_ret2
        rw [HE.out, HFIN.out]
        exact ⟨_, rfl, OW.out, BW.out⟩
  · have E : rdA S id = ([], 1) := by unfold rdA; rw [HN.out, if_neg hp]
    rw [decide_eq_false hp] at HHS
    rw [E]
    clear E hp
    go_enter Try.func21, Try.ntmps21
    go_wp2_with (go_at_call 43; go_must (refine HHS.out.mono ?_); rintro e w1 ⟨rfl, rfl⟩)
    go_ret2
    exact ⟨_, rfl, World.ownsRow_nil _ _ _ _, Below.refl _ _⟩
end
end Go.Proofs.Ytcmffifehpbjnaa
