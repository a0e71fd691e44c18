/- The walk of the law on reading any octets. -/
import Derived.Test.YtpfenhlclegalaaRef
import Derived.Deep.RegionHeld3
import Derived.Deep.DeepCutAuto
import Derived.Deep.CutRange
namespace Go.Proofs.Ytpfenhlclegalaa
open Go.RowKit

def I64 (l : List Int) : List Value := l.map (Value.int .i64)
theorem wid_cases (n : Int) : n < 1 ∧ (wid n : Int) = 1 ∨ 8 < n ∧ (wid n : Int) = 8 ∨ 1 ≤ n ∧ n ≤ 8 ∧ (wid n : Int) = n := by unfold wid; omega
/-- what the In has left, and where the document's answer stands -/
def At (b : List UInt8) (p : Nat) (bd : Bool) (L : List UInt8) : Prop := p ≤ b.length ∧ (bd = true ∧ L = [] ∨ bd = false ∧ L = b.drop p)
def Rel (w : World) (g : Nat) (b : List UInt8) (n : Nat) (s6 s7 s8 : Value) (wr : World) : Prop :=
  ∃ (j p : Nat) (bd : Bool) (L : List UInt8), s8 = .int .i64 j ∧ s6 = .int .i64 p ∧ s7 = .bool bd ∧ j ≤ 60 ∧ j ≤ n ∧ InAt wr g L bd ∧ At b p bd L ∧ Below w.heap.size w wr

theorem txt_short (k : Nat) (l : List UInt8) (h : txtShort k l = true) : txt k l = [] ∧ txtRest k l = [] := by
  have e : tk (nat (tk k l)) (rst k l) = [] ∧ rst (nat (tk k l)) (rst k l) = [] := by
    unfold txtShort at h
    rcases Nat.lt_or_ge l.length k with h1 | h1
    · obtain ⟨t1, t2, t3⟩ := tk_less h1
      rw [t1, t2, nat_nil]
      exact ⟨rfl, rfl⟩
    · rw [short_no h1, Bool.false_or] at h
      have h2 : (rst k l).length < nat (tk k l) := by simpa [short] using h
      obtain ⟨t1, t2, t3⟩ := tk_less h2
      exact ⟨t1, t2⟩
  exact e
/-- what the document's answer tells of a text -/
def TextRel (w : World) (B : Nat) (b : List UInt8) (p k : Nat) (s14 s15 s16 : Value) : Prop :=
  (txtShort k (b.drop p) = true ∧ s14 = .slice none 0 0 ∧ s15 = .int .i64 0 ∧ s16 = .bool false) ∨
  (txtShort k (b.drop p) = false ∧ ∃ A' c' V, V = (txt k (b.drop p)).length ∧ s14 = .slice A' V c' ∧ s15 = .int .i64 ((p + k + V : Nat) : Int) ∧ s16 = .bool true ∧ Lies w B A' (B8 (txt k (b.drop p))) ∧ p + k + V ≤ b.length ∧ txtRest k (b.drop p) = b.drop (p + k + V))
theorem TextRel.yes {w : World} {B : Nat} {b : List UInt8} {p k V : Nat} {A' : Option Addr} {c' : Nat} {v : Int} (h : txtShort k (b.drop p) = false) (hl : (txt k (b.drop p)).length = V)
    (h1 : Lies w B A' (B8 (txt k (b.drop p)))) (h2 : p + k + V ≤ b.length) (h3 : txtRest k (b.drop p) = b.drop (p + k + V)) (hv : v = ((p + k + V : Nat) : Int) := by go_num) :
    TextRel w B b p k (.slice A' V c') (.int .i64 v) (.bool true) :=
  .inr ⟨h, A', c', V, hl.symm, rfl, by rw [hv], rfl, h1, h2, h3⟩
/-- where the document's answer stands behind a text, and the text -/
def TextAt (w : World) (B : Nat) (b t R : List UInt8) (bd2 : Bool) (s6 s14 : Value) : Prop :=
  ∃ A' c' p', s14 = .slice A' t.length c' ∧ s6 = .int .i64 ((p' : Nat) : Int) ∧ Lies w B A' (B8 t) ∧ At b p' bd2 R
theorem InAt.drew {w : World} {g : Nat} {l : List UInt8} {bad : Bool} (h : InAt w g l bad) : InAt w.drew g l bad := h
theorem Lies.drew {w : World} {B : Nat} {A : Option Addr} {xs : List Value} (h : Lies w B A xs) : Lies w.drew B A xs := h
theorem short_to (g : Nat) (L t R : List UInt8) (bd bd2 : Bool) (w : World) (h : InAt w g L bd) (h1 : t = txt 1 L) (h2 : R = txtRest 1 L) (h3 : bd2 = (bd || txtShort 1 L)) :
    Calls Try.prog 14 #[.pointer (some ⟨g, 0, none⟩)] w fun e w' => e = .returned (.string ⟨t.toArray⟩) ∧ InAt w' g R bd2 ∧ w.grownBy w' (some g) :=
  (in_short g L bd w h).mono fun e w' ⟨a, b, c⟩ => ⟨by rw [a, h1], by rw [h2, h3]; exact b, c⟩
theorem long_to (g : Nat) (L t R : List UInt8) (bd bd2 : Bool) (w : World) (h : InAt w g L bd) (hs : L.length ≤ 140737488355328) (h1 : t = txt 4 L) (h2 : R = txtRest 4 L) (h3 : bd2 = (bd || txtShort 4 L)) :
    Calls Try.prog 15 #[.pointer (some ⟨g, 0, none⟩)] w (ReadOcts g t R bd2 w) := by
  rw [h1, h2, h3]
  exact in_long g L bd w h hs

set_option maxRecDepth 100000 in
set_option maxHeartbeats 16000000 in
theorem reads_any (a : Option Addr) (ca : Nat) (b : List UInt8) (a' : Option Addr) (ca' : Nat) (ns : List Int) (w : World)
    (hb : b.length ≤ 600) (hca : b.length ≤ ca) (hcm : ca ≤ maxLen) (hn : ns.length ≤ maxLen) (lb : Lies w w.heap.size a (B8 b)) (ln : Lies w w.heap.size a' (I64 ns)) :
    Calls Try.prog 5 #[.slice a b.length ca, .slice a' ns.length ca'] w fun e w' => e = .returned (.bool true) ∧ Below w.heap.size w w' := by
  have LB := Lib.hid lb
  have LN := Lib.hid ln
  have HCM := Lib.hid hcm
  unfold maxLen at hn
  unfold maxLen at hcm
  clear lb ln
  go_enter Try.func5, Try.ntmps5
  go_wp2_with fail
  refine (from_any a ca b w.heap.size _ LB.out (Nat.le_refl _) (by omega)).mono ?_
  rintro e w1 ⟨g, hg, rfl, hi, hb1⟩
  have I1 := Lib.hid hi
  have B1 := Lib.hid hb1
  have hgs := hi.lt
  clear hi hb1
  go_wp2_with fail
  refine (awake_any _).mono ?_
  rintro e w2 ⟨rfl, hb2⟩
  have I2 := Lib.hid (I1.out.below hb2 hgs)
  have B2 := Lib.hid (B1.out.trans (hb2.mono B1.out.size))
  clear hb2 I1 B1 hgs
  go_wp2_with fail
  go_loopw [6, 7, 8] (fun s6 s7 s8 wr => Rel w g b ns.length s6 s7 s8 wr) (fun _ _ s8 _ => (60 - (intOf s8).toNat))
  case atStart => exact ⟨0, 0, false, b, rfl, rfl, rfl, by omega, by omega, I2.out, ⟨by omega, .inr ⟨rfl, rfl⟩⟩, B2.out⟩
  case round =>
    obtain ⟨j, p, bd, L, rfl, rfl, rfl, hj, hjn, hi, hat, hbel⟩ := hrel
    have I3 := Lib.hid hi
    have AT := Lib.hid hat
    have B3 := Lib.hid hbel
    have LB3 := Lib.hid (LB.out.below hbel)
    have LN3 := LN.out.below hbel
    clear hi hat hbel
    by_cases hlt : j < ns.length ∧ j < 60
    · obtain ⟨hl1, hl2⟩ := hlt
      rcases LN3 with h0 | ⟨gi, oi, rfl, hgi, hcell⟩
      · have h1 := congrArg List.length h0
        rw [I64, List.length_map] at h1
        have h2 : ns.length = 0 := h1
        omega
      · have hc := hcell j (.int .i64 ns[j]) (by simp [I64, hl1])
        obtain ⟨q, hq, _, eq⟩ := mask_is ns[j] 3 2 (by omega) rfl
        rw [show 2 ^ 2 = 4 from rfl] at hq
        clear hcell
        generalize ns[j] = x at *
        have hq4 : q = 0 ∨ q = 1 ∨ q = 2 ∨ q = 3 := by omega
        rcases hq4 with rfl | rfl | rfl | rfl
        · as_aux_lemma =>
            go_upto_region 20 with fail
            go_cut [10] from 31 to 153 (fun s10 wx => s10 = .int .i64 (wid (x / 4)) ∧ wx = wr)
            case first =>
              rcases wid_cases (x / 4) with ⟨h, h'⟩ | ⟨h, h'⟩ | ⟨h, h0, h'⟩
              · have H' := Lib.hid h'
                clear h'
                go_wp2_with fail
                go_meet
                exact ⟨by rw [H'.out], rfl⟩
              · have H' := Lib.hid h'
                clear h'
                go_wp2_with fail
                go_meet
                exact ⟨by rw [H'.out], rfl⟩
              · have H' := Lib.hid h'
                clear h'
                go_wp2_with fail
                go_meet
                exact ⟨by rw [H'.out], rfl⟩
            case rest =>
              obtain ⟨rfl, hwx⟩ := hcut
              subst hwx
              have hw := wid_in (x / 4)
              have HI := Lib.hid (in_int (n := x / 4))
              generalize wid (x / 4) = k at *
              obtain ⟨hp, hst⟩ := AT.out
              go_wp2_with fail
              refine (num_any a ca w.heap.size b p k _ LB3.out hp hw.2 (by omega)).mono ?_
              rintro e w' ⟨rfl, rfl⟩
              have hgw : w.heap.size ≤ g := hg
              rcases hst with ⟨rfl, rfl⟩ | ⟨rfl, rfl⟩
              · generalize nat (tk k (b.drop p)) = V at *
                generalize short k (b.drop p) = sb at *
                go_wp2_with fail
                refine (HI.out g [] true _ I3.out).mono ?_
                rintro e w5 ⟨rfl, hi, hb5⟩
                obtain ⟨t1, t2, t3⟩ := tk_less (n := k) (l := []) (by simp; omega)
                rw [t2, Bool.true_or] at hi
                rw [t1, nat_nil]
                have B5 := Lib.hid (B3.out.trans (below_only hb5 hgw B3.out.size))
                have I5 := Lib.hid hi
                clear hi hb5 t1 t2 t3
                go_wp2_with fail
                refine (in_ok g _ _ _ I5.out).mono ?_
                rintro e w' ⟨rfl, rfl⟩
                go_wp2_with fail
                refine (in_left g _ _ _ I5.out).mono ?_
                rintro e w' ⟨rfl, rfl⟩
                go_wp2_with fail
                go_roundw
                case rel => exact ⟨j + 1, p, true, [], by go_num, rfl, rfl, by omega, by omega, I5.out, ⟨hp, .inl ⟨rfl, rfl⟩⟩, B5.out⟩
                case measure => simp [intOf]; omega
              · rcases Nat.lt_or_ge (b.drop p).length k with hs | hs
                · obtain ⟨t1, t2, t3⟩ := tk_less hs
                  have T := Lib.hid (And.intro t1 (And.intro t2 t3))
                  rw [t1, t3, nat_nil]
                  clear t1 t2 t3
                  go_wp2_with fail
                  refine (HI.out g _ false _ I3.out).mono ?_
                  rintro e w5 ⟨rfl, hi, hb5⟩
                  rw [T.out.2.1, T.out.2.2, Bool.or_true] at hi
                  rw [T.out.1, nat_nil]
                  have B5 := Lib.hid (B3.out.trans (below_only hb5 hgw B3.out.size))
                  have I5 := Lib.hid hi
                  clear hi hb5
                  go_wp2_with fail
                  refine (in_ok g _ _ _ I5.out).mono ?_
                  rintro e w' ⟨rfl, rfl⟩
                  go_wp2_with fail
                  refine (in_left g _ _ _ I5.out).mono ?_
                  rintro e w' ⟨rfl, rfl⟩
                  go_wp2_with fail
                  go_roundw
                  case rel => exact ⟨j + 1, p, true, [], by go_num, rfl, rfl, by omega, by omega, I5.out, ⟨hp, .inl ⟨rfl, rfl⟩⟩, B5.out⟩
                  case measure => simp [intOf]; omega
                · have hsb : short k (b.drop p) = false := short_no hs
                  have hr : rst k (b.drop p) = b.drop (p + k) := by rw [rst_yes hs, List.drop_drop]
                  have hpk : p + k ≤ b.length := by rw [List.length_drop] at hs; omega
                  have hlen : (b.drop (p + k)).length = b.length - (p + k) := List.length_drop
                  rw [hsb]
                  have HS := Lib.hid hsb
                  have HR := Lib.hid hr
                  have HLE := Lib.hid hlen
                  obtain ⟨V, hV⟩ : ∃ V, V = nat (tk k (b.drop p)) := ⟨_, rfl⟩
                  rw [← hV]
                  have HV := Lib.hid hV
                  obtain ⟨M, hM⟩ : ∃ M, M = b.drop (p + k) := ⟨_, rfl⟩
                  have HM := Lib.hid hM
                  clear hsb hr hlen hV hM hs
                  go_wp2_with fail
                  refine (HI.out g _ false _ I3.out).mono ?_
                  rintro e w5 ⟨rfl, hi, hb5⟩
                  rw [HR.out, HS.out, Bool.or_false, ← HM.out] at hi
                  rw [← HV.out]
                  have B5 := Lib.hid (B3.out.trans (below_only hb5 hgw B3.out.size))
                  have I5 := Lib.hid hi
                  have hml : M.length = b.length - (p + k) := by rw [HM.out, HLE.out]
                  have e1 : ((M.length : Int) != (b.length : Int) - ((p : Int) + (k : Int))) = false := by rw [hml]; simp; omega
                  clear hi hb5 hml
                  go_wp2_with fail
                  refine (in_ok g _ _ _ I5.out).mono ?_
                  rintro e w' ⟨rfl, rfl⟩
                  go_wp2_with fail
                  refine (in_left g _ _ _ I5.out).mono ?_
                  rintro e w' ⟨rfl, rfl⟩
                  go_wp2_with fail
                  go_roundw
                  case rel => exact ⟨j + 1, p + k, false, M, by go_num, by go_num, rfl, by omega, by omega, I5.out, ⟨hpk, .inr ⟨rfl, HM.out⟩⟩, B5.out⟩
                  case measure => simp [intOf]; omega
        · as_aux_lemma =>
            obtain ⟨hp, hst⟩ := AT.out
            have hgw : w.heap.size ≤ g := hg
            obtain ⟨t, ht⟩ : ∃ t, t = txt 1 L := ⟨_, rfl⟩
            obtain ⟨R, hR⟩ : ∃ R, R = txtRest 1 L := ⟨_, rfl⟩
            obtain ⟨bd2, hbd2⟩ : ∃ bd2, bd2 = (bd || txtShort 1 L) := ⟨_, rfl⟩
            have HT := Lib.hid ht
            have HBD := Lib.hid hbd2
            have HST := Lib.hid hst
            have HR := Lib.hid hR
            have hlb : L.length ≤ 600 := by
              rcases hst with ⟨_, h⟩ | ⟨_, h⟩ <;> rw [h]
              · simp
              · rw [List.length_drop]; omega
            clear ht hbd2 hst hR
            go_upto_region 33 with fail
            go_cut [14, 15, 16] from 31 to 153 (fun s14 s15 s16 wx => TextRel wr w.heap.size b p 1 s14 s15 s16 ∧ wx = wr)
            case first =>
              cases hts : txtShort 1 (b.drop p)
              · have HTS := Lib.hid hts
                go_wp2_with fail
                refine (text_yes a ca w.heap.size b p 1 _ LB3.out hp (by omega) (by omega) (by omega) hca HCM.out HTS.out).mono ?_
                rintro e w' ⟨A', c', rfl, hl', h1, h2, rfl⟩
                have KEEP : Hid _ := And.intro hl' (And.intro h1 h2)
                have HTT := HTS.out
                clear hl' h1 h2 hts
                generalize hl : (txt 1 (b.drop p)).length = V at *
                have HLV := Lib.hid hl
                clear hl HTT
                go_wp2_with fail
                go_meet
                exact ⟨TextRel.yes HTS.out HLV.out KEEP.out.1 KEEP.out.2.1 KEEP.out.2.2, rfl⟩
              · have HTS := Lib.hid hts
                go_wp2_with fail
                refine (text_no a ca w.heap.size b p 1 _ LB3.out hp (by omega) (by omega) (by omega) HTS.out).mono ?_
                rintro e w' ⟨rfl, rfl⟩
                clear hts
                go_wp2_with fail
                go_meet
                exact ⟨.inl ⟨HTS.out, rfl, rfl, rfl⟩, rfl⟩
            case rest =>
              obtain ⟨htr, hwx⟩ := hcut
              subst hwx
              have TR := Lib.hid htr
              clear htr
              go_upto_region 34 with fail
              go_cut [7] from 31 to 153 (fun s7 wx => s7 = .bool bd2 ∧ wx = wc)
              case first =>
                rcases HST.out with ⟨rfl, rfl⟩ | ⟨rfl, rfl⟩
                · have e : bd2 = true := by rw [HBD.out]; rfl
                  subst e
                  go_wp2_with fail
                  go_meet
                  exact ⟨rfl, rfl⟩
                · rcases TR.out with ⟨h1, rfl, rfl, rfl⟩ | ⟨h1, A', c', V, hV, rfl, rfl, rfl, h2, h3, h4⟩
                  · have e : bd2 = true := by rw [HBD.out, h1]; rfl
                    subst e
                    clear h1
                    go_wp2_with fail
                    go_meet
                    exact ⟨rfl, rfl⟩
                  · have e : bd2 = false := by rw [HBD.out, h1]; rfl
                    subst e
                    clear h1 hV h2 h3 h4
                    go_wp2_with fail
                    go_meet
                    exact ⟨rfl, rfl⟩
              case rest =>
                obtain ⟨rfl, hwx⟩ := hcut
                subst hwx
                go_upto_if 117 with fail
                go_cut [6, 14] from 31 to 153 (fun s6 s14 wx => TextAt wc w.heap.size b t R bd2 s6 s14 ∧ wx = wc)
                case first =>
                  rcases HST.out with ⟨rfl, rfl⟩ | ⟨rfl, rfl⟩
                  · have e : bd2 = true := by rw [HBD.out]; rfl
                    subst e
                    have e2 := txt_nil 1 (by omega)
                    have e3 : t = [] := by rw [HT.out]; exact e2.1
                    have e4 : R = [] := by rw [HR.out]; exact e2.2.1
                    have HE := Lib.hid (And.intro e3 e4)
                    clear e2 e3 e4
                    go_wp2_with fail
                    go_meet
                    rw [HE.out.1, HE.out.2]
                    exact ⟨⟨none, 0, p, rfl, rfl, Lies.empty _ _ _, hp, .inl ⟨rfl, rfl⟩⟩, rfl⟩
                  · rcases TR.out with ⟨h1, rfl, rfl, rfl⟩ | ⟨h1, A', c', V, hV, rfl, rfl, rfl, h2, h3, h4⟩
                    · have e : bd2 = true := by rw [HBD.out, h1]; rfl
                      subst e
                      have e2 := txt_short 1 (b.drop p) h1
                      have e3 : t = [] := by rw [HT.out]; exact e2.1
                      have e4 : R = [] := by rw [HR.out]; exact e2.2
                      have HE := Lib.hid (And.intro e3 e4)
                      clear h1 e2 e3 e4
                      go_wp2_with fail
                      go_meet
                      rw [HE.out.1, HE.out.2]
                      exact ⟨⟨none, 0, p, rfl, rfl, Lies.empty _ _ _, hp, .inl ⟨rfl, rfl⟩⟩, rfl⟩
                    · have e : bd2 = false := by rw [HBD.out, h1]; rfl
                      subst e
                      rw [← HT.out] at hV h2
                      rw [← HR.out] at h4
                      have HE := Lib.hid (And.intro hV (And.intro h2 (And.intro h3 h4)))
                      clear h1 hV h2 h3 h4
                      go_wp2_with fail
                      go_meet
                      exact ⟨⟨A', c', _, by rw [HE.out.1], by go_num, HE.out.2.1, HE.out.2.2.1, .inr ⟨rfl, HE.out.2.2.2⟩⟩, rfl⟩
                case rest =>
                  obtain ⟨⟨A', c', p', rfl, rfl, hl, hat⟩, hwx⟩ := hcut
                  subst hwx
                  have HL := Lib.hid hl
                  have HAT := Lib.hid hat
                  clear hl hat TR
                  go_upto_region 38 with fail
                  go_cut [138] from 31 to 153 (fun s138 wx => s138 = .bool false ∧ InAt wx g R bd2 ∧ Below w.heap.size w wx)
                  case first =>
                    have cv3 := run_octets_string (P := Try.prog) 24 9 5 Try.underlying24 Try.underlying5 Try.underlying9 (Lies.drew HL.out) c'
                    have I3d := Lib.hid I3.out.drew
                    have B3d := Lib.hid B3.out.drew
                    clear hc
                    refine wp_region_held_drew (S := fun w' => (convert 24 9 (.slice A' t.length c')).run Try.prog w' = .ok (.string ⟨t.toArray⟩) w') (by kernel_rfl) cv3 (fun hS0 => ?_)
                    refine wpAnyH_take (i := 0) (oi := ⟨some 119, _, _, _, _, _⟩) (v := ?_) rfl (by kernel_rfl) (by kernel_rfl) (by kernel_rfl) (fun _ _ _ h => h) (Or.inl ⟨by rfl, ?_⟩) (by assumption) ?_
                    rotate_left
                    · (intro wS hSw; (try dsimp only at hSw); go_simp); all_goals (with_reducible rfl)
                    simp only [Act.put, List.setIfInBounds_toArray, List.set_cons_zero, List.set_cons_succ]
                    refine wpAnyH_take (i := 1) (oi := ⟨some 120, _, _, _, _, _⟩) (v := ?_) rfl (by kernel_rfl) (by kernel_rfl) (by kernel_rfl) (fun _ _ _ h => h) (Or.inl ⟨by rfl, ?_⟩) (by assumption) ?_
                    rotate_left
                    · (intro wS hSw; (try dsimp only at hSw); go_simp); all_goals (with_reducible rfl)
                    simp only [Act.put, List.setIfInBounds_toArray, List.set_cons_zero, List.set_cons_succ]
                    refine wpAnyH_take (i := 2) (oi := ⟨some 121, _, _, _, _, _⟩) (v := ?_) rfl (by kernel_rfl) (by kernel_rfl) (by kernel_rfl) (fun _ _ _ h => h) (Or.inl ⟨by rfl, ?_⟩) (by assumption) ?_
                    rotate_left
                    · (intro wS hSw; (try dsimp only at hSw); go_simp); all_goals (with_reducible rfl)
                    simp only [Act.put, List.setIfInBounds_toArray, List.set_cons_zero, List.set_cons_succ]
                    refine wpAnyH_take (i := 3) (oi := ⟨some 122, _, _, _, _, _⟩) (v := ?_) rfl (by kernel_rfl) (by kernel_rfl) (by kernel_rfl) (fun _ _ _ h => h) (Or.inl ⟨by rfl, ?_⟩) (by assumption) ?_
                    rotate_left
                    · (intro wS hSw; (try dsimp only at hSw); go_simp); all_goals (with_reducible rfl)
                    simp only [Act.put, List.setIfInBounds_toArray, List.set_cons_zero, List.set_cons_succ]
                    refine wpAnyH_take (i := 5) (oi := ⟨some 124, _, _, _, _, _⟩) (v := ?_) rfl (by kernel_rfl) (by kernel_rfl) (by kernel_rfl) (fun _ _ _ h => h) (Or.inl ⟨by rfl, ?_⟩) (by assumption) ?_
                    rotate_left
                    · (intro wS hSw; (try dsimp only at hSw); go_simp); all_goals (with_reducible rfl)
                    simp only [Act.put, List.setIfInBounds_toArray, List.set_cons_zero, List.set_cons_succ]
                    refine wpAnyH_take (i := 6) (oi := ⟨some 125, _, _, _, _, _⟩) (v := ?_) rfl (by kernel_rfl) (by kernel_rfl) (by kernel_rfl) (fun _ _ _ h => h) (Or.inl ⟨by rfl, ?_⟩) (by assumption) ?_
                    rotate_left
                    · (intro wS hSw; (try dsimp only at hSw); go_simp); all_goals (with_reducible rfl)
                    simp only [Act.put, List.setIfInBounds_toArray, List.set_cons_zero, List.set_cons_succ]
                    refine wpAnyH_ready (rs := [4]) (by kernel_rfl) (by simp) ?_
                    refine AllReadyH.cons (o := ⟨some 123, _, _, _, _, _⟩) rfl (fun K hK => ?_) AllReadyH.nil
                    go_simp
                    refine (short_to g L t R bd bd2 _ I3d.out HT.out HR.out HBD.out).mono ?_
                    rintro e w5 ⟨rfl, hi, hb5⟩
                    have B5 := Lib.hid (B3d.out.trans (below_only hb5 hgw B3.out.size))
                    have cv5 := run_octets_string (P := Try.prog) 24 9 5 Try.underlying24 Try.underlying5 Try.underlying9 ((Lies.drew HL.out).below (below_only hb5 hgw B3.out.size)) c'
                    have I5 := Lib.hid hi
                    clear hi hb5
                    go_wp2_with fail
                    refine hK.out _ _ ?_ (fun hHeld => ?_)
                    · exact cv5
                    clear hK K
                    try simp only [Act.put, List.setIfInBounds_toArray, List.set_cons_zero, List.set_cons_succ]
                    refine wpAnyH_take (i := 7) (oi := ⟨some 126, _, _, _, _, _⟩) (v := ?_) rfl (by kernel_rfl) (by kernel_rfl) (by kernel_rfl) (fun _ _ _ h => h) (Or.inl ⟨by rfl, ?_⟩) (by assumption) ?_
                    rotate_left
                    · (intro wS hSw; (try dsimp only at hSw); go_simp); all_goals (with_reducible rfl)
                    simp only [Act.put, List.setIfInBounds_toArray, List.set_cons_zero, List.set_cons_succ]
                    refine wpAnyH_take (i := 8) (oi := ⟨some 127, _, _, _, _, _⟩) (v := ?_) rfl (by kernel_rfl) (by kernel_rfl) (by kernel_rfl) (fun _ _ _ h => h) (Or.inl ⟨by rfl, ?_⟩) (by assumption) ?_
                    rotate_left
                    · (intro wS hSw; (try dsimp only at hSw); go_simp); all_goals (with_reducible rfl)
                    simp only [Act.put, List.setIfInBounds_toArray, List.set_cons_zero, List.set_cons_succ]
                    refine wpAnyH_take (i := 9) (oi := ⟨some 128, _, _, _, _, _⟩) (v := ?_) rfl (by kernel_rfl) (by kernel_rfl) (by kernel_rfl) (fun _ _ _ h => h) (Or.inl ⟨by rfl, ?_⟩) (by assumption) ?_
                    rotate_left
                    · (intro wS hSw; (try dsimp only at hSw); go_simp); all_goals (with_reducible rfl)
                    simp only [Act.put, List.setIfInBounds_toArray, List.set_cons_zero, List.set_cons_succ]
                    refine wpAnyH_take (i := 10) (oi := ⟨some 129, _, _, _, _, _⟩) (v := ?_) rfl (by kernel_rfl) (by kernel_rfl) (by kernel_rfl) (fun _ _ _ h => h) (Or.inl ⟨by rfl, ?_⟩) (by assumption) ?_
                    rotate_left
                    · (intro wS hSw; (try dsimp only at hSw); go_simp); all_goals (with_reducible rfl)
                    simp only [Act.put, List.setIfInBounds_toArray, List.set_cons_zero, List.set_cons_succ]
                    refine wpAnyH_take (i := 11) (oi := ⟨some 130, _, _, _, _, _⟩) (v := ?_) rfl (by kernel_rfl) (by kernel_rfl) (by kernel_rfl) (fun _ _ _ h => h) (Or.inl ⟨by rfl, ?_⟩) (by assumption) ?_
                    rotate_left
                    · (intro wS hSw; (try dsimp only at hSw); go_simp); all_goals (with_reducible rfl)
                    simp only [Act.put, List.setIfInBounds_toArray, List.set_cons_zero, List.set_cons_succ]
                    refine wpAnyH_take (i := 12) (oi := ⟨some 131, _, _, _, _, _⟩) (v := ?_) rfl (by kernel_rfl) (by kernel_rfl) (by kernel_rfl) (fun _ _ _ h => h) (Or.inl ⟨by rfl, ?_⟩) (by assumption) ?_
                    rotate_left
                    · (intro wS hSw; (try dsimp only at hSw); go_simp); all_goals (with_reducible rfl)
                    simp only [Act.put, List.setIfInBounds_toArray, List.set_cons_zero, List.set_cons_succ]
                    refine wpAnyH_take (i := 13) (oi := ⟨some 132, _, _, _, _, _⟩) (v := undef) rfl (by kernel_rfl) (by kernel_rfl) (by kernel_rfl) (fun _ _ _ h => h) (Or.inr ⟨by rfl, rfl⟩) (by assumption) ?_
                    simp only [Act.put, List.setIfInBounds_toArray, List.set_cons_zero, List.set_cons_succ]
                    refine wpAnyH_take (i := 14) (oi := ⟨some 133, _, _, _, _, _⟩) (v := undef) rfl (by kernel_rfl) (by kernel_rfl) (by kernel_rfl) (fun _ _ _ h => h) (Or.inr ⟨by rfl, rfl⟩) (by assumption) ?_
                    simp only [Act.put, List.setIfInBounds_toArray, List.set_cons_zero, List.set_cons_succ]
                    refine wpAnyH_take (i := 15) (oi := ⟨some 134, _, _, _, _, _⟩) (v := undef) rfl (by kernel_rfl) (by kernel_rfl) (by kernel_rfl) (fun _ _ _ h => h) (Or.inr ⟨by rfl, rfl⟩) (by assumption) ?_
                    simp only [Act.put, List.setIfInBounds_toArray, List.set_cons_zero, List.set_cons_succ]
                    refine wpAnyH_take (i := 16) (oi := ⟨some 135, _, _, _, _, _⟩) (v := undef) rfl (by kernel_rfl) (by kernel_rfl) (by kernel_rfl) (fun _ _ _ h => h) (Or.inr ⟨by rfl, rfl⟩) (by assumption) ?_
                    simp only [Act.put, List.setIfInBounds_toArray, List.set_cons_zero, List.set_cons_succ]
                    refine wpAnyH_take (i := 17) (oi := ⟨some 136, _, _, _, _, _⟩) (v := undef) rfl (by kernel_rfl) (by kernel_rfl) (by kernel_rfl) (fun _ _ _ h => h) (Or.inr ⟨by rfl, rfl⟩) (by assumption) ?_
                    simp only [Act.put, List.setIfInBounds_toArray, List.set_cons_zero, List.set_cons_succ]
                    refine wpAnyH_take (i := 18) (oi := ⟨some 137, _, _, _, _, _⟩) (v := ?_) rfl (by kernel_rfl) (by kernel_rfl) (by kernel_rfl) (fun _ _ _ h => h) (Or.inl ⟨by rfl, ?_⟩) (by assumption) ?_
                    rotate_left
                    · (intro wS hSw; (try dsimp only at hSw); go_simp); all_goals (with_reducible rfl)
                    simp only [Act.put, List.setIfInBounds_toArray, List.set_cons_zero, List.set_cons_succ]
                    refine wpAnyH_take (i := 19) (oi := ⟨some 138, _, _, _, _, _⟩) (v := ?_) rfl (by kernel_rfl) (by kernel_rfl) (by kernel_rfl) (fun _ _ _ h => h) (Or.inl ⟨by rfl, ?_⟩) (by assumption) ?_
                    rotate_left
                    · (intro wS hSw; (try dsimp only at hSw); go_simp); all_goals (with_reducible rfl)
                    simp only [Act.put, List.setIfInBounds_toArray, List.set_cons_zero, List.set_cons_succ]
                    refine wpAnyH_done (by kernel_rfl) ?_ _
                    go_wp2_with fail
                    go_meet
                    exact ⟨rfl, I5.out, B5.out⟩
                  case rest =>
                    obtain ⟨rfl, hi, hbel⟩ := hcut
                    have I6 := Lib.hid hi
                    have B6 := Lib.hid hbel
                    obtain ⟨hp2, hst2⟩ := HAT.out
                    clear hi hbel hc
                    rcases hst2 with ⟨e1, e2⟩ | ⟨e1, e2⟩
                    · subst e1 e2
                      go_wp2_with fail
                      refine (in_ok g _ _ _ I6.out).mono ?_
                      rintro e w' ⟨rfl, rfl⟩
                      go_wp2_with fail
                      refine (in_left g _ _ _ I6.out).mono ?_
                      rintro e w' ⟨rfl, rfl⟩
                      go_wp2_with fail
                      go_roundw
                      case rel => exact ⟨j + 1, p', true, [], by go_num, rfl, rfl, by omega, by omega, I6.out, ⟨hp2, .inl ⟨rfl, rfl⟩⟩, B6.out⟩
                      case measure => simp [intOf]; omega
                    · have hml : R.length = b.length - p' := by rw [e2, List.length_drop]
                      have HE2 := Lib.hid e2
                      subst e1
                      have e3 : ((R.length : Int) != (b.length : Int) - (p' : Int)) = false := by rw [hml]; simp; omega
                      clear hml e2
                      go_wp2_with fail
                      refine (in_ok g _ _ _ I6.out).mono ?_
                      rintro e w' ⟨rfl, rfl⟩
                      go_wp2_with fail
                      refine (in_left g _ _ _ I6.out).mono ?_
                      rintro e w' ⟨rfl, rfl⟩
                      go_wp2_with fail
                      go_roundw
                      case rel => exact ⟨j + 1, p', false, R, by go_num, rfl, rfl, by omega, by omega, I6.out, ⟨hp2, .inr ⟨rfl, HE2.out⟩⟩, B6.out⟩
                      case measure => simp [intOf]; omega
        · as_aux_lemma =>
            obtain ⟨hp, hst⟩ := AT.out
            have hgw : w.heap.size ≤ g := hg
            obtain ⟨t, ht⟩ : ∃ t, t = txt 4 L := ⟨_, rfl⟩
            obtain ⟨R, hR⟩ : ∃ R, R = txtRest 4 L := ⟨_, rfl⟩
            obtain ⟨bd2, hbd2⟩ : ∃ bd2, bd2 = (bd || txtShort 4 L) := ⟨_, rfl⟩
            have HT := Lib.hid ht
            have HBD := Lib.hid hbd2
            have HST := Lib.hid hst
            have HR := Lib.hid hR
            have hlb : L.length ≤ 600 := by
              rcases hst with ⟨_, h⟩ | ⟨_, h⟩ <;> rw [h]
              · simp
              · rw [List.length_drop]; omega
            clear ht hbd2 hst hR
            go_upto_region 33 with fail
            go_cut [14, 15, 16] from 31 to 153 (fun s14 s15 s16 wx => TextRel wr w.heap.size b p 4 s14 s15 s16 ∧ wx = wr)
            case first =>
              cases hts : txtShort 4 (b.drop p)
              · have HTS := Lib.hid hts
                go_wp2_with fail
                refine (text_yes a ca w.heap.size b p 4 _ LB3.out hp (by omega) (by omega) (by omega) hca HCM.out HTS.out).mono ?_
                rintro e w' ⟨A', c', rfl, hl', h1, h2, rfl⟩
                have KEEP : Hid _ := And.intro hl' (And.intro h1 h2)
                have HTT := HTS.out
                clear hl' h1 h2 hts
                generalize hl : (txt 4 (b.drop p)).length = V at *
                have HLV := Lib.hid hl
                clear hl HTT
                go_wp2_with fail
                go_meet
                exact ⟨TextRel.yes HTS.out HLV.out KEEP.out.1 KEEP.out.2.1 KEEP.out.2.2, rfl⟩
              · have HTS := Lib.hid hts
                go_wp2_with fail
                refine (text_no a ca w.heap.size b p 4 _ LB3.out hp (by omega) (by omega) (by omega) HTS.out).mono ?_
                rintro e w' ⟨rfl, rfl⟩
                clear hts
                go_wp2_with fail
                go_meet
                exact ⟨.inl ⟨HTS.out, rfl, rfl, rfl⟩, rfl⟩
            case rest =>
              obtain ⟨htr, hwx⟩ := hcut
              subst hwx
              have TR := Lib.hid htr
              clear htr
              go_upto_region 34 with fail
              go_cut [7] from 31 to 153 (fun s7 wx => s7 = .bool bd2 ∧ wx = wc)
              case first =>
                rcases HST.out with ⟨rfl, rfl⟩ | ⟨rfl, rfl⟩
                · have e : bd2 = true := by rw [HBD.out]; rfl
                  subst e
                  go_wp2_with fail
                  go_meet
                  exact ⟨rfl, rfl⟩
                · rcases TR.out with ⟨h1, rfl, rfl, rfl⟩ | ⟨h1, A', c', V, hV, rfl, rfl, rfl, h2, h3, h4⟩
                  · have e : bd2 = true := by rw [HBD.out, h1]; rfl
                    subst e
                    clear h1
                    go_wp2_with fail
                    go_meet
                    exact ⟨rfl, rfl⟩
                  · have e : bd2 = false := by rw [HBD.out, h1]; rfl
                    subst e
                    clear h1 hV h2 h3 h4
                    go_wp2_with fail
                    go_meet
                    exact ⟨rfl, rfl⟩
              case rest =>
                obtain ⟨rfl, hwx⟩ := hcut
                subst hwx
                go_upto_if 117 with fail
                go_cut [6, 14] from 31 to 153 (fun s6 s14 wx => TextAt wc w.heap.size b t R bd2 s6 s14 ∧ wx = wc)
                case first =>
                  rcases HST.out with ⟨rfl, rfl⟩ | ⟨rfl, rfl⟩
                  · have e : bd2 = true := by rw [HBD.out]; rfl
                    subst e
                    have e2 := txt_nil 4 (by omega)
                    have e3 : t = [] := by rw [HT.out]; exact e2.1
                    have e4 : R = [] := by rw [HR.out]; exact e2.2.1
                    have HE := Lib.hid (And.intro e3 e4)
                    clear e2 e3 e4
                    go_wp2_with fail
                    go_meet
                    rw [HE.out.1, HE.out.2]
                    exact ⟨⟨none, 0, p, rfl, rfl, Lies.empty _ _ _, hp, .inl ⟨rfl, rfl⟩⟩, rfl⟩
                  · rcases TR.out with ⟨h1, rfl, rfl, rfl⟩ | ⟨h1, A', c', V, hV, rfl, rfl, rfl, h2, h3, h4⟩
                    · have e : bd2 = true := by rw [HBD.out, h1]; rfl
                      subst e
                      have e2 := txt_short 4 (b.drop p) h1
                      have e3 : t = [] := by rw [HT.out]; exact e2.1
                      have e4 : R = [] := by rw [HR.out]; exact e2.2
                      have HE := Lib.hid (And.intro e3 e4)
                      clear h1 e2 e3 e4
                      go_wp2_with fail
                      go_meet
                      rw [HE.out.1, HE.out.2]
                      exact ⟨⟨none, 0, p, rfl, rfl, Lies.empty _ _ _, hp, .inl ⟨rfl, rfl⟩⟩, rfl⟩
                    · have e : bd2 = false := by rw [HBD.out, h1]; rfl
                      subst e
                      rw [← HT.out] at hV h2
                      rw [← HR.out] at h4
                      have HE := Lib.hid (And.intro hV (And.intro h2 (And.intro h3 h4)))
                      clear h1 hV h2 h3 h4
                      go_wp2_with fail
                      go_meet
                      exact ⟨⟨A', c', _, by rw [HE.out.1], by go_num, HE.out.2.1, HE.out.2.2.1, .inr ⟨rfl, HE.out.2.2.2⟩⟩, rfl⟩
                case rest =>
                  obtain ⟨⟨A', c', p', rfl, rfl, hl, hat⟩, hwx⟩ := hcut
                  subst hwx
                  have HL := Lib.hid hl
                  have HAT := Lib.hid hat
                  clear hl hat TR
                  go_upto_region 38 with fail
                  go_cut [138] from 31 to 153 (fun s138 wx => s138 = .bool false ∧ InAt wx g R bd2 ∧ Below w.heap.size w wx)
                  case first =>
                    have I3d := Lib.hid I3.out.drew
                    have B3d := Lib.hid B3.out.drew
                    clear hc
                    refine wp_region_held_drew (S := fun _ => True) (by kernel_rfl) trivial (fun hS0 => ?_)
                    refine wpAnyH_take (i := 0) (oi := ⟨some 119, _, _, _, _, _⟩) (v := ?_) rfl (by kernel_rfl) (by kernel_rfl) (by kernel_rfl) (fun _ _ _ h => h) (Or.inl ⟨by rfl, ?_⟩) (by assumption) ?_
                    rotate_left
                    · (intro wS hSw; (try dsimp only at hSw); go_simp); all_goals (with_reducible rfl)
                    simp only [Act.put, List.setIfInBounds_toArray, List.set_cons_zero, List.set_cons_succ]
                    refine wpAnyH_take (i := 1) (oi := ⟨some 120, _, _, _, _, _⟩) (v := ?_) rfl (by kernel_rfl) (by kernel_rfl) (by kernel_rfl) (fun _ _ _ h => h) (Or.inl ⟨by rfl, ?_⟩) (by assumption) ?_
                    rotate_left
                    · (intro wS hSw; (try dsimp only at hSw); go_simp); all_goals (with_reducible rfl)
                    simp only [Act.put, List.setIfInBounds_toArray, List.set_cons_zero, List.set_cons_succ]
                    refine wpAnyH_take (i := 2) (oi := ⟨some 121, _, _, _, _, _⟩) (v := ?_) rfl (by kernel_rfl) (by kernel_rfl) (by kernel_rfl) (fun _ _ _ h => h) (Or.inl ⟨by rfl, ?_⟩) (by assumption) ?_
                    rotate_left
                    · (intro wS hSw; (try dsimp only at hSw); go_simp); all_goals (with_reducible rfl)
                    simp only [Act.put, List.setIfInBounds_toArray, List.set_cons_zero, List.set_cons_succ]
                    refine wpAnyH_take (i := 3) (oi := ⟨some 122, _, _, _, _, _⟩) (v := undef) rfl (by kernel_rfl) (by kernel_rfl) (by kernel_rfl) (fun _ _ _ h => h) (Or.inr ⟨by rfl, rfl⟩) (by assumption) ?_
                    simp only [Act.put, List.setIfInBounds_toArray, List.set_cons_zero, List.set_cons_succ]
                    refine wpAnyH_take (i := 4) (oi := ⟨some 123, _, _, _, _, _⟩) (v := undef) rfl (by kernel_rfl) (by kernel_rfl) (by kernel_rfl) (fun _ _ _ h => h) (Or.inr ⟨by rfl, rfl⟩) (by assumption) ?_
                    simp only [Act.put, List.setIfInBounds_toArray, List.set_cons_zero, List.set_cons_succ]
                    refine wpAnyH_take (i := 5) (oi := ⟨some 124, _, _, _, _, _⟩) (v := undef) rfl (by kernel_rfl) (by kernel_rfl) (by kernel_rfl) (fun _ _ _ h => h) (Or.inr ⟨by rfl, rfl⟩) (by assumption) ?_
                    simp only [Act.put, List.setIfInBounds_toArray, List.set_cons_zero, List.set_cons_succ]
                    refine wpAnyH_take (i := 6) (oi := ⟨some 125, _, _, _, _, _⟩) (v := undef) rfl (by kernel_rfl) (by kernel_rfl) (by kernel_rfl) (fun _ _ _ h => h) (Or.inr ⟨by rfl, rfl⟩) (by assumption) ?_
                    simp only [Act.put, List.setIfInBounds_toArray, List.set_cons_zero, List.set_cons_succ]
                    refine wpAnyH_take (i := 7) (oi := ⟨some 126, _, _, _, _, _⟩) (v := undef) rfl (by kernel_rfl) (by kernel_rfl) (by kernel_rfl) (fun _ _ _ h => h) (Or.inr ⟨by rfl, rfl⟩) (by assumption) ?_
                    simp only [Act.put, List.setIfInBounds_toArray, List.set_cons_zero, List.set_cons_succ]
                    refine wpAnyH_take (i := 8) (oi := ⟨some 127, _, _, _, _, _⟩) (v := ?_) rfl (by kernel_rfl) (by kernel_rfl) (by kernel_rfl) (fun _ _ _ h => h) (Or.inl ⟨by rfl, ?_⟩) (by assumption) ?_
                    rotate_left
                    · (intro wS hSw; (try dsimp only at hSw); go_simp); all_goals (with_reducible rfl)
                    simp only [Act.put, List.setIfInBounds_toArray, List.set_cons_zero, List.set_cons_succ]
                    refine wpAnyH_take (i := 9) (oi := ⟨some 128, _, _, _, _, _⟩) (v := ?_) rfl (by kernel_rfl) (by kernel_rfl) (by kernel_rfl) (fun _ _ _ h => h) (Or.inl ⟨by rfl, ?_⟩) (by assumption) ?_
                    rotate_left
                    · (intro wS hSw; (try dsimp only at hSw); go_simp); all_goals (with_reducible rfl)
                    simp only [Act.put, List.setIfInBounds_toArray, List.set_cons_zero, List.set_cons_succ]
                    refine wpAnyH_take (i := 10) (oi := ⟨some 129, _, _, _, _, _⟩) (v := ?_) rfl (by kernel_rfl) (by kernel_rfl) (by kernel_rfl) (fun _ _ _ h => h) (Or.inl ⟨by rfl, ?_⟩) (by assumption) ?_
                    rotate_left
                    · (intro wS hSw; (try dsimp only at hSw); go_simp); all_goals (with_reducible rfl)
                    simp only [Act.put, List.setIfInBounds_toArray, List.set_cons_zero, List.set_cons_succ]
                    refine wpAnyH_take (i := 11) (oi := ⟨some 130, _, _, _, _, _⟩) (v := ?_) rfl (by kernel_rfl) (by kernel_rfl) (by kernel_rfl) (fun _ _ _ h => h) (Or.inl ⟨by rfl, ?_⟩) (by assumption) ?_
                    rotate_left
                    · (intro wS hSw; (try dsimp only at hSw); go_simp); all_goals (with_reducible rfl)
                    simp only [Act.put, List.setIfInBounds_toArray, List.set_cons_zero, List.set_cons_succ]
                    refine wpAnyH_take (i := 12) (oi := ⟨some 131, _, _, _, _, _⟩) (v := ?_) rfl (by kernel_rfl) (by kernel_rfl) (by kernel_rfl) (fun _ _ _ h => h) (Or.inl ⟨by rfl, ?_⟩) (by assumption) ?_
                    rotate_left
                    · (intro wS hSw; (try dsimp only at hSw); go_simp); all_goals (with_reducible rfl)
                    simp only [Act.put, List.setIfInBounds_toArray, List.set_cons_zero, List.set_cons_succ]
                    refine wpAnyH_take (i := 13) (oi := ⟨some 132, _, _, _, _, _⟩) (v := ?_) rfl (by kernel_rfl) (by kernel_rfl) (by kernel_rfl) (fun _ _ _ h => h) (Or.inl ⟨by rfl, ?_⟩) (by assumption) ?_
                    rotate_left
                    · (intro wS hSw; (try dsimp only at hSw); go_simp); all_goals (with_reducible rfl)
                    simp only [Act.put, List.setIfInBounds_toArray, List.set_cons_zero, List.set_cons_succ]
                    refine wpAnyH_take (i := 15) (oi := ⟨some 134, _, _, _, _, _⟩) (v := ?_) rfl (by kernel_rfl) (by kernel_rfl) (by kernel_rfl) (fun _ _ _ h => h) (Or.inl ⟨by rfl, ?_⟩) (by assumption) ?_
                    rotate_left
                    · (intro wS hSw; (try dsimp only at hSw); go_simp); all_goals (with_reducible rfl)
                    simp only [Act.put, List.setIfInBounds_toArray, List.set_cons_zero, List.set_cons_succ]
                    refine wpAnyH_ready (rs := [14]) (by kernel_rfl) (by simp) ?_
                    refine AllReadyH.cons (o := ⟨some 133, _, _, _, _, _⟩) rfl (fun K hK => ?_) AllReadyH.nil
                    go_simp
                    refine (long_to g L t R bd bd2 _ I3d.out (by omega) HT.out HR.out HBD.out).mono ?_
                    rintro e w5 ⟨v5, rfl, ho, hi, hb5⟩
                    have B5 := Lib.hid (B3d.out.trans (below_only hb5 hgw B3.out.size))
                    have I5 := Lib.hid hi
                    have HL5 := Lib.hid ((Lies.drew HL.out).below (below_only hb5 hgw B3.out.size))
                    obtain ⟨A5, c5, rfl, _, _⟩ := own_form ho
                    have L5 := Lib.hid (Lies.own ho (Nat.le_refl _))
                    clear hi hb5 ho
                    go_wp2_with fail
                    refine hK.out _ _ ?_ (fun hHeld => ?_)
                    · trivial
                    clear hK K
                    try simp only [Act.put, List.setIfInBounds_toArray, List.set_cons_zero, List.set_cons_succ]
                    refine wpAnyH_ready (rs := [16]) (by kernel_rfl) (by simp) ?_
                    refine AllReadyH.cons (o := ⟨some 135, _, _, _, _, _⟩) rfl (fun K hK => ?_) AllReadyH.nil
                    go_simp
                    refine (same_yes A5 A' c5 c' _ _ t _ L5.out HL5.out).mono ?_
                    rintro e w' ⟨rfl, rfl⟩
                    go_wp2_with fail
                    refine hK.out _ _ ?_ (fun hHeld => ?_)
                    · trivial
                    clear hK K
                    try simp only [Act.put, List.setIfInBounds_toArray, List.set_cons_zero, List.set_cons_succ]
                    refine wpAnyH_take (i := 17) (oi := ⟨some 136, _, _, _, _, _⟩) (v := ?_) rfl (by kernel_rfl) (by kernel_rfl) (by kernel_rfl) (fun _ _ _ h => h) (Or.inl ⟨by rfl, ?_⟩) (by assumption) ?_
                    rotate_left
                    · (intro wS hSw; (try dsimp only at hSw); go_simp); all_goals (with_reducible rfl)
                    simp only [Act.put, List.setIfInBounds_toArray, List.set_cons_zero, List.set_cons_succ]
                    refine wpAnyH_take (i := 18) (oi := ⟨some 137, _, _, _, _, _⟩) (v := ?_) rfl (by kernel_rfl) (by kernel_rfl) (by kernel_rfl) (fun _ _ _ h => h) (Or.inl ⟨by rfl, ?_⟩) (by assumption) ?_
                    rotate_left
                    · (intro wS hSw; (try dsimp only at hSw); go_simp); all_goals (with_reducible rfl)
                    simp only [Act.put, List.setIfInBounds_toArray, List.set_cons_zero, List.set_cons_succ]
                    refine wpAnyH_take (i := 19) (oi := ⟨some 138, _, _, _, _, _⟩) (v := ?_) rfl (by kernel_rfl) (by kernel_rfl) (by kernel_rfl) (fun _ _ _ h => h) (Or.inl ⟨by rfl, ?_⟩) (by assumption) ?_
                    rotate_left
                    · (intro wS hSw; (try dsimp only at hSw); go_simp); all_goals (with_reducible rfl)
                    simp only [Act.put, List.setIfInBounds_toArray, List.set_cons_zero, List.set_cons_succ]
                    refine wpAnyH_done (by kernel_rfl) ?_ _
                    go_wp2_with fail
                    go_meet
                    exact ⟨rfl, I5.out, B5.out⟩
                  case rest =>
                    obtain ⟨rfl, hi, hbel⟩ := hcut
                    have I6 := Lib.hid hi
                    have B6 := Lib.hid hbel
                    obtain ⟨hp2, hst2⟩ := HAT.out
                    clear hi hbel hc
                    rcases hst2 with ⟨e1, e2⟩ | ⟨e1, e2⟩
                    · subst e1 e2
                      go_wp2_with fail
                      refine (in_ok g _ _ _ I6.out).mono ?_
                      rintro e w' ⟨rfl, rfl⟩
                      go_wp2_with fail
                      refine (in_left g _ _ _ I6.out).mono ?_
                      rintro e w' ⟨rfl, rfl⟩
                      go_wp2_with fail
                      go_roundw
                      case rel => exact ⟨j + 1, p', true, [], by go_num, rfl, rfl, by omega, by omega, I6.out, ⟨hp2, .inl ⟨rfl, rfl⟩⟩, B6.out⟩
                      case measure => simp [intOf]; omega
                    · have hml : R.length = b.length - p' := by rw [e2, List.length_drop]
                      have HE2 := Lib.hid e2
                      subst e1
                      have e3 : ((R.length : Int) != (b.length : Int) - (p' : Int)) = false := by rw [hml]; simp; omega
                      clear hml e2
                      go_wp2_with fail
                      refine (in_ok g _ _ _ I6.out).mono ?_
                      rintro e w' ⟨rfl, rfl⟩
                      go_wp2_with fail
                      refine (in_left g _ _ _ I6.out).mono ?_
                      rintro e w' ⟨rfl, rfl⟩
                      go_wp2_with fail
                      go_roundw
                      case rel => exact ⟨j + 1, p', false, R, by go_num, rfl, rfl, by omega, by omega, I6.out, ⟨hp2, .inr ⟨rfl, HE2.out⟩⟩, B6.out⟩
                      case measure => simp [intOf]; omega
        · as_aux_lemma =>
            obtain ⟨r, hr, _, er⟩ := mask_is (x / 4) 7 3 (by omega) rfl
            rw [show 2 ^ 3 = 8 from rfl] at hr
            obtain ⟨hp, hst⟩ := AT.out
            have hgw : w.heap.size ≤ g := hg
            by_cases hr0 : r = 0
            · subst hr0
              rcases hst with ⟨rfl, rfl⟩ | ⟨rfl, rfl⟩
              · have cases_ : ca = p ∨ ¬ ca = p := by omega
                rcases cases_ with hcp | hcp
                · have hpc := hcp.symm
                  subst hpc
                  go_wp2_with fail
                  refine (in_rest g [] true _ I3.out (by simp)).mono ?_
                  rintro e w5 ⟨v5, rfl, ho, hi, hb5⟩
                  have B5 := Lib.hid (B3.out.trans (below_only hb5 hgw B3.out.size))
                  have I5 := Lib.hid hi
                  obtain ⟨A5, c5, rfl, _, _⟩ := own_form ho
                  clear hi hb5 ho
                  go_wp2_with fail
                  refine (same_yes A5 none c5 0 0 0 [] _ (Lies.empty _ _ _) (Lies.empty _ _ _)).mono ?_
                  rintro e w' ⟨rfl, rfl⟩
                  go_wp2_with fail
                  refine (in_ok g _ _ _ I5.out).mono ?_
                  rintro e w' ⟨rfl, rfl⟩
                  go_wp2_with fail
                  refine (in_left g _ _ _ I5.out).mono ?_
                  rintro e w' ⟨rfl, rfl⟩
                  go_wp2_with fail
                  go_roundw
                  case rel => exact ⟨j + 1, p, true, [], by go_num, rfl, rfl, by omega, by omega, I5.out, ⟨hp, .inl ⟨rfl, rfl⟩⟩, B5.out⟩
                  case measure => simp [intOf]; omega
                · go_wp2_with fail
                  refine (in_rest g [] true _ I3.out (by simp)).mono ?_
                  rintro e w5 ⟨v5, rfl, ho, hi, hb5⟩
                  have B5 := Lib.hid (B3.out.trans (below_only hb5 hgw B3.out.size))
                  have I5 := Lib.hid hi
                  obtain ⟨A5, c5, rfl, _, _⟩ := own_form ho
                  clear hi hb5 ho
                  go_wp2_with fail
                  refine (same_yes A5 none c5 0 0 0 [] _ (Lies.empty _ _ _) (Lies.empty _ _ _)).mono ?_
                  rintro e w' ⟨rfl, rfl⟩
                  go_wp2_with fail
                  refine (in_ok g _ _ _ I5.out).mono ?_
                  rintro e w' ⟨rfl, rfl⟩
                  go_wp2_with fail
                  refine (in_left g _ _ _ I5.out).mono ?_
                  rintro e w' ⟨rfl, rfl⟩
                  go_wp2_with fail
                  go_roundw
                  case rel => exact ⟨j + 1, p, true, [], by go_num, rfl, rfl, by omega, by omega, I5.out, ⟨hp, .inl ⟨rfl, rfl⟩⟩, B5.out⟩
                  case measure => simp [intOf]; omega
              · obtain ⟨M, hM⟩ : ∃ M, M = b.drop p := ⟨_, rfl⟩
                rw [← hM] at I3
                have hml : b.length - p = M.length := by rw [hM, List.length_drop]
                have hmb : M.length ≤ 600 := by omega
                have HM := Lib.hid hM
                clear hM
                have LM := LB3.out.drop p ca (by rw [B8_length]; exact hp) (by rw [B8_length]; exact hca)
                rw [B8, ← List.map_drop, ← HM.out] at LM
                have cases_ : ca = p ∨ ¬ ca = p := by omega
                rcases cases_ with hcp | hcp
                · rw [if_pos hcp] at LM
                  have HLM := Lib.hid LM
                  subst hcp
                  clear LM
                  go_wp2_with fail
                  refine (in_rest g M false _ I3.out (by omega)).mono ?_
                  rintro e w5 ⟨v5, rfl, ho, hi, hb5⟩
                  have B5 := Lib.hid (B3.out.trans (below_only hb5 hgw B3.out.size))
                  have I5 := Lib.hid hi
                  obtain ⟨A5, c5, rfl, _, _⟩ := own_form ho
                  have L5 := Lib.hid (Lies.own ho (Nat.le_refl _))
                  have LM5 := Lib.hid (HLM.out.below (below_only hb5 hgw B3.out.size))
                  clear hi hb5 ho
                  go_wp2_with fail
                  refine (same_yes A5 _ c5 _ _ _ M _ L5.out LM5.out).mono ?_
                  rintro e w' ⟨rfl, rfl⟩
                  go_wp2_with fail
                  refine (in_ok g _ _ _ I5.out).mono ?_
                  rintro e w' ⟨rfl, rfl⟩
                  go_wp2_with fail
                  refine (in_left g _ _ _ I5.out).mono ?_
                  rintro e w' ⟨rfl, rfl⟩
                  go_wp2_with fail
                  go_roundw
                  case rel => exact ⟨j + 1, b.length, false, [], by go_num, rfl, rfl, by omega, by omega, I5.out, ⟨Nat.le_refl _, .inr ⟨rfl, by simp⟩⟩, B5.out⟩
                  case measure => simp [intOf]; omega
                · rw [if_neg hcp] at LM
                  have HLM := Lib.hid LM
                  clear LM
                  go_wp2_with fail
                  refine (in_rest g M false _ I3.out (by omega)).mono ?_
                  rintro e w5 ⟨v5, rfl, ho, hi, hb5⟩
                  have B5 := Lib.hid (B3.out.trans (below_only hb5 hgw B3.out.size))
                  have I5 := Lib.hid hi
                  obtain ⟨A5, c5, rfl, _, _⟩ := own_form ho
                  have L5 := Lib.hid (Lies.own ho (Nat.le_refl _))
                  have LM5 := Lib.hid (HLM.out.below (below_only hb5 hgw B3.out.size))
                  clear hi hb5 ho
                  go_wp2_with fail
                  refine (same_yes A5 _ c5 _ _ _ M _ L5.out LM5.out).mono ?_
                  rintro e w' ⟨rfl, rfl⟩
                  go_wp2_with fail
                  refine (in_ok g _ _ _ I5.out).mono ?_
                  rintro e w' ⟨rfl, rfl⟩
                  go_wp2_with fail
                  refine (in_left g _ _ _ I5.out).mono ?_
                  rintro e w' ⟨rfl, rfl⟩
                  go_wp2_with fail
                  go_roundw
                  case rel => exact ⟨j + 1, b.length, false, [], by go_num, rfl, rfl, by omega, by omega, I5.out, ⟨Nat.le_refl _, .inr ⟨rfl, by simp⟩⟩, B5.out⟩
                  case measure => simp [intOf]; omega
            · go_wp2_with fail
              go_roundw
              case rel => exact ⟨j + 1, p, bd, L, by go_num, rfl, rfl, by omega, by omega, I3.out, AT.out, B3.out⟩
              case measure => simp [intOf]; omega
    · by_cases hl1 : j < ns.length
      · have hl2 : ¬ j < 60 := fun h => hlt ⟨hl1, h⟩
        have hj60 : j = 60 := by omega
        subst hj60
        go_wp2_with fail
        go_ret
        exact ⟨rfl, B3.out⟩
      · go_wp2_with fail
        go_ret
        exact ⟨rfl, B3.out⟩
end Go.Proofs.Ytpfenhlclegalaa
