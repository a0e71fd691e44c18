/- Layer 8: Append. -/
import Derived.Test.YtmemdkgoeldemaaGreatDoorJourX
import Derived.Test.YtmemdkgoeldemaaGreatDoorJourY
import Derived.Deep.Onto
namespace Go.Proofs.YtmemdkgoeldemaaGreatDoor
open Go.RowKit Go.Maps
set_option maxRecDepth 100000
set_option linter.unusedSimpArgs false
set_option linter.unusedVariables false
def zB : Array Value := #[.int .u64 0, .int .i64 0, .slice none 0 0, .int .i64 0, .int .i64 0]
theorem rfP_zero {S : Dv} {J : Jr} {kind : Int} {n : Nat} (h : rfP S J kind n = 0) : J.dead = false ∧ 1 ≤ kind ∧ kind ≤ 255 ∧ n ≤ 4096 ∧ J.seq ≠ 18446744073709551615 ∧ S.used + n ≤ S.most := by
  unfold rfP at h
  split at h
  · omega
  · rename_i h1
    split at h
    · omega
    · split at h
      · omega
      · split at h
        · omega
        · refine ⟨by simpa using h1, ?_, ?_, ?_, ?_, ?_⟩ <;> omega
theorem dv_len' {S : Dv} (hO : Ok S) (nm : Nm) : S.len nm ≤ 100000 := by
  have h1 := hO.room
  have h2 := hO.most
  unfold Dv.len
  cases hff : fnd S.fs nm with
  | none => simp
  | some F => have := (fil_le hO hff).1; simp only []; omega
theorem nxP_ok {S S1 : Dv} {J J1 : Jr} {n1 : Int} (h : nxP S J = ⟨n1, 0, S1, J1⟩) (h3 : 1 ≤ J.next) (h4 : J.next < 100) : J1.seq = J.seq ∧ 1 ≤ J1.file ∧ J1.file < 100 := by
  unfold nxP at h
  split at h
  · injection h with _ h; omega
  · split at h
    · injection h with _ h; omega
    · split at h
      · rename_i h5
        injection h with _ h
        exact absurd h h5
      · injection h with _ _ _ h
        subst h
        exact ⟨rfl, h3, h4⟩
theorem whole_ne {w : World} {a b t1 t2 : Nat} {c1 c2 : Array Value} (h1 : Whole w a t1 c1) (h2 : Whole w b t2 c2) (hne : t1 ≠ t2) : a ≠ b := by
  rintro rfl
  unfold Whole at h1 h2
  rw [h1] at h2
  injection h2 with h2
  injection h2 with _ h2
  exact hne h2
/-- the state of Append ahead of what it makes -/
structure ApAt (B g : Nat) (X X6 : Nat → Prop) (w0 W : World) (S : Dv) (J : Jr) (jb b6 : Nat) (A : Option Addr) (b : List UInt8) (w : World) : Prop where
  at_ : At B X6 w0 g S w
  j : JAt w jb g J
  z : Whole w b6 32 #[.int .u64 0, .int .i64 0, .slice none 0 0, .int .i64 0, .int .i64 0]
  l : LiesP w (fun i => X i ∧ i ≠ jb) A (B8 b)
  k : KeptO X jb W w
theorem ApAt.below {B g : Nat} {X X6 : Nat → Prop} {w0 W : World} {S : Dv} {J : Jr} {jb b6 : Nat} {A : Option Addr} {b : List UInt8} {w w' : World} (h : ApAt B g X X6 w0 W S J jb b6 A b w) (hb : Below w.heap.size w w') (hX : ∀ i, X i → X6 i) : ApAt B g X X6 w0 W S J jb b6 A b w' :=
  ⟨(h.at_.below hb).1, (hb.block jb (Whole.lt h.j)).trans h.j, h.z.below hb h.z.lt, h.l.below hb, h.k.trans (KeptO.of ⟨fun i hi => hb.block i (h.at_.xs i (hX i hi)).2, hb.size⟩)⟩
/-- behind what is opened -/
def ApMid (B g : Nat) (X X6 : Nat → Prop) (w0 W : World) (S : Dv) (J : Jr) (jb b6 : Nat) (A : Option Addr) (b : List UInt8) (wx : World) : Prop :=
  ∃ n1 S1 J1, opP S J = ⟨n1, 0, S1, J1⟩ ∧ J1.seq = J.seq ∧ 1 ≤ J1.file ∧ J1.file < 100 ∧ ApAt B g X X6 w0 W S1 J1 jb b6 A b wx
/-- what is made: its box, and its octets -/
def ApCut (W5 : World) (seq kind : Nat) (b : List UInt8) (file pos : Int) (v11 : Value) (wx : World) : Prop :=
  ∃ bx A' c', v11 = .pointer (some ⟨bx, 0, none⟩) ∧ W5.heap.size ≤ bx ∧ Whole wx bx 32 #[.int .u64 (seq : Int), .int .i64 (kind : Int), .slice A' b.length c', .int .i64 file, .int .i64 pos] ∧
    wx.ownsRow W5.heap.size 5 1 (.slice A' b.length c') b.length (B8 b) ∧ Below W5.heap.size W5 wx
section
variable {B g jb : Nat} {X : Nat → Prop} {w0 W : World} {S : Dv} {J : Jr}
set_option maxHeartbeats 16000000 in
theorem append_any (h : At B X w0 g S W) (hX : X jb) (hj : JAt W jb g J) (kind : Int) (hkd : -9223372036854775808 ≤ kind ∧ kind < 9223372036854775808) (A : Option Addr) (c : Nat) (b : List UInt8) (hl : LiesP W (fun i => X i ∧ i ≠ jb) A (B8 b)) (hb : b.length ≤ 300000)
    (hJ : J.seq < 18446744073709551616 ∧ J.file < 100 ∧ 1 ≤ J.next ∧ J.next < 100) (hfew : S.fs.length < 1000000) :
    Calls Tryz.prog 12 #[ptr jb, .int .i64 kind, .slice A b.length c] W fun e w' => ∃ (m : Bm) (X' : Nat → Prop), e = .returned (.tuple #[btV m, .int .i64 (apP S J kind b).e]) ∧ m.x = (apP S J kind b).x ∧ (∀ i, X i → X' i) ∧ At B X' w0 g (apP S J kind b).S w' ∧ JAt w' jb g (apP S J kind b).J ∧ KeptO X jb W w' ∧ BmAt w' (fun i => X' i ∧ W.heap.size ≤ i) m := by
  obtain ⟨j1, j2, j3, j4⟩ := hJ
  have H := Lib.hid h
  have HF := Lib.hid hfew
  obtain ⟨N, hN⟩ : ∃ N, N = need b.length := ⟨_, rfl⟩
  have hNl : N ≤ 300000 := by rw [hN]; unfold need; split <;> omega
  have hne := fun w => need_any b.length w (by omega)
  rw [← hN] at hne
  have HNE := Lib.hid hne
  obtain ⟨rf, hrf⟩ : ∃ rf, rfP S J kind N = rf := ⟨_, rfl⟩
  have hre := fun (w : World) (X' : Nat → Prop) (h' : At B X' w0 g S w) (hj' : JAt w jb g J) => refuses_any h' hj' kind N (by omega)
  simp only [hrf] at hre
  have HRE := Lib.hid hre
  have HRF := Lib.hid hrf
  have HN := Lib.hid hN
  have hlt := Whole.lt hj
  have P0 : Hid (ApAt B g X (fun i => X i ∨ i = W.heap.size) w0 W S J jb W.heap.size A b (W.alloc (.cells #[.int .u64 0, .int .i64 0, .slice none 0 0, .int .i64 0, .int .i64 0] 32))) := Lib.hid
    ⟨h.own _, (Below.heap_alloc _ _ _ hlt).trans hj, Whole.new _ _ _, hl.below ((Below.refl _ _).alloc (Nat.le_refl _) _), KeptO.of (h.below ((Below.refl _ _).alloc (Nat.le_refl _) _)).2⟩
  obtain ⟨b6, hb6⟩ : ∃ b6, b6 = W.heap.size := ⟨_, rfl⟩
  obtain ⟨X6, hX6⟩ : ∃ X6 : Nat → Prop, X6 = fun i => X i ∨ i = W.heap.size := ⟨_, rfl⟩
  rw [← hX6] at P0
  have hX6j : X6 jb := by rw [hX6]; exact .inl hX
  have hX6b : Hid (X6 W.heap.size) := Lib.hid (by rw [hX6]; exact .inr rfl)
  have hXX : Hid (∀ i, X i → X6 i) := Lib.hid (fun i hi => by rw [hX6]; exact .inl hi)
  have NX6 : Hid (¬ X W.heap.size) := Lib.hid (fun e => by have := (h.xs _ e).2; omega)
  clear h hj hl hfew hne hN hre hrf hb6 b6 hX6
  have fin0 : ∀ (w' : World) (X' : Nat → Prop) (c : Int) (S' : Dv) (J' : Jr), apP S J kind b = ⟨bt0, c, S', J'⟩ → (∀ i, X i → X' i) → At B X' w0 g S' w' → JAt w' jb g J' → KeptO X jb W w' → ∃ (m : Bm) (X' : Nat → Prop), Ending.returned (Value.tuple #[.agg #[.int .u64 0, .int .i64 0, .slice none 0 0, .int .i64 0, .int .i64 0], .int .i64 c]) = .returned (.tuple #[btV m, .int .i64 (apP S J kind b).e]) ∧ m.x = (apP S J kind b).x ∧ (∀ i, X i → X' i) ∧ At B X' w0 g (apP S J kind b).S w' ∧ JAt w' jb g (apP S J kind b).J ∧ KeptO X jb W w' ∧ BmAt w' (fun i => X' i ∧ W.heap.size ≤ i) m := fun w' X' c S' J' e h1 h2 h3 h4 => by
    rw [e]
    exact ⟨bm0, X', rfl, rfl, h1, h2, h3, h4, bm0_at _ _⟩
  have FIN0 := Lib.hid fin0
  clear fin0
  go_enter Tryz.func12, Tryz.ntmps12
  go_upto_region 2 with (first
    | (go_at_call 17; go_must (refine (HNE.out _).mono ?_); rintro e w1 ⟨rfl, rfl⟩)
    | (go_at_call 41; go_must (refine (HRE.out _ _ P0.out.at_ P0.out.j).mono ?_); rintro e w1 ⟨rfl, k1, rfl⟩))
  refine wp_rename5 (fun W' => ApAt B g X X6 w0 W S J jb W.heap.size A b W') ?_ ?_
  · exact ⟨P0.out.at_.drewN k1, P0.out.j, P0.out.z, P0.out.l, P0.out.k⟩
  rintro W1 hp1
  have P1 := Lib.hid hp1
  obtain ⟨z0, z1, z2, z3, z4⟩ := hp1.z.five
  have zf := Whole.frozen hp1.z
  obtain ⟨c0, c1, c2, c3, c4⟩ := hp1.j.cells
  clear hp1 P0
  by_cases hr0 : rf = 0
  · subst hr0
    obtain ⟨q1, q2, q3, q4, q5, q6⟩ := rfP_zero HRF.out
    obtain ⟨kn, hkn⟩ : ∃ kn : Nat, kind = (kn : Int) := ⟨kind.toNat, by omega⟩
    subst hkn
    obtain ⟨q, hq⟩ : ∃ q, q = J.seq + 1 := ⟨_, rfl⟩
    have HQ := Lib.hid hq
    have hql : q < 18446744073709551616 := by omega
    clear hq
    have hsq : J.seq + 1 < 18446744073709551616 := by omega
    have hb2 : b.length ≤ 196608 := by
      have h1 := HN.out
      unfold need at h1
      split at h1 <;> omega
    have Q6 := Lib.hid q6
    have NRF : Hid (rfP S J (kn : Int) (need b.length) = 0) := Lib.hid (by rw [← HN.out]; exact HRF.out)
    have HO := Lib.hid P1.out.at_.dev.1
    have hname := fun w' => name_any (J.file : Int) w' (by omega) (fun _ => itoas_small (J.file : Int) (by omega) w')
    have HNA := Lib.hid hname
    obtain ⟨nm, hnm⟩ : ∃ nm, nm = nmJ (J.file : Int) := ⟨_, rfl⟩
    have hml : nm.length ≤ maxLen := by rw [hnm]; have := nmJ_le (J.file : Int); unfold maxLen; omega
    have ML := Lib.hid hml
    rw [← hnm] at HNA
    have HNM := Lib.hid hnm
    obtain ⟨ln, hln⟩ : ∃ ln, S.len nm = ln := ⟨_, rfl⟩
    have HLN := Lib.hid hln
    have hlnb : ln ≤ 100000 := by rw [← hln]; have h1 := HO.out.room; have h2 := HO.out.most; unfold Dv.len; cases hff : fnd S.fs nm with | none => simp | some F => (have := (fil_le HO.out hff).1; simp only []; omega)
    clear hname hml hnm hln q6
    have opB : J.file = 0 ∨ 256 ≤ ln → opP S J = nxP S J := fun e => by unfold opP; rw [← HNM.out, HLN.out, if_pos e]
    have opA : ¬ (J.file = 0 ∨ 256 ≤ ln) → opP S J = ⟨0, 0, S, J⟩ := fun e => by unfold opP; rw [← HNM.out, HLN.out, if_neg e]
    have OPB := Lib.hid opB
    have OPA := Lib.hid opA
    clear opA opB
    have D1 : Hid (ApAt B g X X6 w0 W S J jb W.heap.size A b W1.drew) := Lib.hid ⟨P1.out.at_.drewN 1, P1.out.j, P1.out.z, P1.out.l, P1.out.k⟩
    have hnx := fun (w : World) (hp : ApAt B g X X6 w0 W S J jb W.heap.size A b w) => next_any hp.at_ hX6j hp.j HF.out (by omega) (fun _ w' => itoas_small (J.next : Int) (by omega) w') j3
    have HNX := Lib.hid hnx
    clear hnx
    go_upto_region 4 with fail
    go_cut [40] (fun v40 wx => v40 = .bool (decide (J.file = 0 ∨ 256 ≤ ln)) ∧ ApAt B g X X6 w0 W S J jb W.heap.size A b wx)
    case first =>
      by_cases hf0 : J.file = 0
      · have hfi : (J.file : Int) = 0 := by omega
        rw [hfi] at c2
        go_region
        all_goals
          go_wp2_with fail
          go_meet
          exact ⟨by rw [decide_eq_true (show J.file = 0 ∨ 256 ≤ ln from .inl hf0)], D1.out⟩
      · have hfb : ((J.file : Int) == 0) = false := by apply beq_false_of_ne; omega
        have hfd : decide ((J.file : Int) = 0) = false := by apply decide_eq_false; omega
        go_region_held3 (fun w' => w'.cell? ⟨jb, 2, none⟩ = some (.int .i64 (J.file : Int)) ∧ w'.cell? ⟨jb, 0, none⟩ = some (ptr g)) (exact ⟨c2, c0⟩) (first
          | (go_at_call 16; go_must (refine (HNA.out _).mono ?_); rintro e w2 ⟨rfl, hb2⟩; have D2 := Lib.hid (D1.out.below hb2 hXX.out); obtain ⟨c0, c1, c2, c3, c4⟩ := D2.out.j.cells; clear hb2)
          | (go_at_call 42; go_must (refine (at_len D2.out.at_ nm ML.out ln HLN.out).mono ?_); rintro e w3 ⟨rfl, rfl⟩))
        all_goals
          go_wp2_with fail
          go_meet
          refine ⟨?_, D2.out⟩
          congr 1
          rw [decide_eq_decide]
          omega
    case rest =>
      obtain ⟨rfl, hp2⟩ := hcut
      have P2 := Lib.hid hp2
      obtain ⟨W4, hW4⟩ : ∃ W4 : World, W4 = wc := ⟨_, rfl⟩
      subst hW4
      clear hp2 c0 c1 c2 c3 c4
      go_upto_if 40 with fail
      go_cut [] (fun wx => ApMid B g X X6 w0 W S J jb W.heap.size A b wx)
      case first =>
        by_cases hl2 : J.file = 0 ∨ 256 ≤ ln
        · have OP : Hid (opP S J = nxP S J) := Lib.hid (OPB.out hl2)
          rw [decide_eq_true hl2]
          obtain ⟨n1, e1, S1, J1, hnx1⟩ : ∃ n1 e1 S1 J1, nxP S J = ⟨n1, e1, S1, J1⟩ := ⟨_, _, _, _, rfl⟩
          have hnc := HNX.out W4 P2.out
          rw [hnx1] at hnc
          simp only at hnc
          have HNC := Lib.hid hnc
          have OP1 : Hid (opP S J = ⟨n1, e1, S1, J1⟩) := Lib.hid (by rw [OP.out, hnx1])
          have HN1 := Lib.hid hnx1
          clear hnc hnx1
          by_cases he1 : e1 = 0
          · subst he1
            obtain ⟨hs1, hf1⟩ := nxP_ok HN1.out j3 j4
            go_wp2_with (go_at_call 25; go_must (refine HNC.out.mono ?_); rintro e w5 ⟨rfl, ha5, hj5, hk5⟩; have P5 : Hid (ApAt B g X X6 w0 W S1 J1 jb W.heap.size A b w5) := Lib.hid ⟨ha5, hj5, (hk5.1 _ hX6b.out (by omega)).trans P2.out.z, P2.out.l.kept (fun i _ hi => hk5.1 i (hXX.out i hi.1) hi.2) hk5.2, P2.out.k.trans ⟨fun i hi hn => hk5.1 i (hXX.out i hi) hn, hk5.2⟩⟩; clear ha5 hj5 hk5)
            go_meet
            exact ⟨n1, S1, J1, OP1.out, hs1, hf1.1, hf1.2, P5.out⟩
          · have e0 : apP S J (kn : Int) b = ⟨bt0, e1, S1, J1⟩ := by
              unfold apP
              rw [NRF.out, if_neg (by simp), OP1.out, if_pos he1]
            have E0 := Lib.hid e0
            clear e0
            go_wp2_with (go_at_call 25; go_must (refine HNC.out.mono ?_); rintro e w5 ⟨rfl, ha5, hj5, hk5⟩; have P5 : Hid (ApAt B g X X6 w0 W S1 J1 jb W.heap.size A b w5) := Lib.hid ⟨ha5, hj5, (hk5.1 _ hX6b.out (by omega)).trans P2.out.z, P2.out.l.kept (fun i _ hi => hk5.1 i (hXX.out i hi.1) hi.2) hk5.2, P2.out.k.trans ⟨fun i hi hn => hk5.1 i (hXX.out i hi) hn, hk5.2⟩⟩; obtain ⟨z0, z1, z2, z3, z4⟩ := P5.out.z.five; have zf := Whole.frozen P5.out.z; clear ha5 hj5 hk5)
            exact append_end (P5.out.z.put5 _ _ _ _ _) rfl _ _ e1 rfl rfl _ (FIN0.out _ X6 e1 S1 J1 E0.out hXX.out (((((P5.out.at_.cell _ 0 hX6b.out _).cell _ 1 hX6b.out _).cell _ 2 hX6b.out _).cell _ 3 hX6b.out _).cell _ 4 hX6b.out _) ((other_put5 (by omega) _ _ _ _ _).trans P5.out.j) ⟨fun i hi hn => (other_put5 (fun e => NX6.out (by rw [← e]; exact hi)) _ _ _ _ _).trans (P5.out.k.1 i hi hn), by have := P5.out.k.2; simpa using this⟩) rfl
        · have OP : Hid (opP S J = ⟨0, 0, S, J⟩) := Lib.hid (OPA.out hl2)
          rw [decide_eq_false hl2]
          go_wp2_with fail
          go_meet
          exact ⟨0, S, J, OP.out, rfl, by omega, by omega, P2.out⟩
      case rest =>
        obtain ⟨n1, S1, J1, hop1, hs1, hf1, hf2, hp5⟩ := hcut
        obtain ⟨W5, hW5⟩ : ∃ W5 : World, W5 = wc := ⟨_, rfl⟩
        subst hW5
        have P5 := Lib.hid hp5
        have OP1 := Lib.hid hop1
        clear hp5 hop1
        have hname1 := fun w' => name_any (J1.file : Int) w' (by omega) (fun _ => itoas_small (J1.file : Int) (by omega) w')
        have HNA1 := Lib.hid hname1
        obtain ⟨nm1, hnm1⟩ : ∃ nm1, nm1 = nmJ (J1.file : Int) := ⟨_, rfl⟩
        have hml1 : nm1.length ≤ maxLen := by rw [hnm1]; have := nmJ_le (J1.file : Int); unfold maxLen; omega
        have ML1 := Lib.hid hml1
        rw [← hnm1] at HNA1
        have HNM1 := Lib.hid hnm1
        obtain ⟨ln1, hln1⟩ : ∃ ln1, S1.len nm1 = ln1 := ⟨_, rfl⟩
        have HLN1 := Lib.hid hln1
        have hlnb1 : ln1 ≤ 100000 := by rw [← hln1]; exact dv_len' P5.out.at_.dev.1 nm1
        have hws : IntKind.u64.wrap ((J1.seq : Int) + 1) = (q : Int) := by rw [hs1]; have := HQ.out; rw [show (J.seq : Int) + 1 = (q : Int) by omega]; exact IntWalk.u64_in _ ⟨by omega, by omega⟩
        have hcl := fun (w : World) (hw : Lies w w.heap.size A (B8 b)) => clone_any A c b w.heap.size w hw (Nat.le_refl _) (by omega)
        have HCL := Lib.hid hcl
        have D5 : Hid (ApAt B g X X6 w0 W S1 J1 jb W.heap.size A b W5.drew) := Lib.hid ⟨P5.out.at_.drewN 1, P5.out.j, P5.out.z, P5.out.l, P5.out.k⟩
        have E5 : Hid (ApAt B g X X6 w0 W S1 J1 jb W.heap.size A b (W5.alloc (.cells #[.int .u64 0, .int .i64 0, .slice none 0 0, .int .i64 0, .int .i64 0] 32)).drew) := Lib.hid ((D5.out.below ((Below.refl _ _).alloc (Nat.le_refl _) _) hXX.out))
        obtain ⟨c0, c1, c2, c3, c4⟩ := P5.out.j.cells
        have HS1q := Lib.hid hs1
        clear hname1 hml1 hnm1 hln1 hcl hs1
        go_upto_region 8 with fail
        go_cut [11] (fun v11 wx => ApCut W5 q kn b (J1.file : Int) (ln1 : Int) v11 wx)
        case first =>
          refine wp_region_held_drew (S := fun w' => w'.cell? ⟨jb, 0, none⟩ = some (ptr g) ∧ w'.cell? ⟨jb, 1, none⟩ = some (.int .u64 (J1.seq : Int)) ∧ w'.cell? ⟨jb, 2, none⟩ = some (.int .i64 (J1.file : Int))) (by kernel_rfl) ⟨c0, c1, c2⟩ (fun hS0 => ?_)
          refine wpAnyH_take (i := 0) (oi := ⟨some 50, _, _, _, _, _⟩) (v := ?_) rfl (by kernel_rfl) (by kernel_rfl) (by kernel_rfl) (fun _ _ _ h => h) (Or.inl ⟨by rfl, ?_⟩) hS0 ?_
          rotate_left
          · (intro wS hSw; (try dsimp only at hSw); go_simp); all_goals (with_reducible rfl)
          try simp only [Act.put, List.setIfInBounds_toArray, List.set_cons_zero, List.set_cons_succ]
          refine wpAnyH_take (i := 1) (oi := ⟨some 51, _, _, _, _, _⟩) (v := ?_) rfl (by kernel_rfl) (by kernel_rfl) (by kernel_rfl) (fun _ _ _ h => h) (Or.inl ⟨by rfl, ?_⟩) hS0 ?_
          rotate_left
          · (intro wS hSw; (try dsimp only at hSw); go_simp); all_goals (with_reducible rfl)
          try simp only [Act.put, List.setIfInBounds_toArray, List.set_cons_zero, List.set_cons_succ]
          refine wpAnyH_take (i := 2) (oi := ⟨some 52, _, _, _, _, _⟩) (v := ?_) rfl (by kernel_rfl) (by kernel_rfl) (by kernel_rfl) (fun _ _ _ h => h) (Or.inl ⟨by rfl, ?_⟩) hS0 ?_
          rotate_left
          · (intro wS hSw; (try dsimp only at hSw); go_simp); all_goals (with_reducible rfl)
          try simp only [Act.put, List.setIfInBounds_toArray, List.set_cons_zero, List.set_cons_succ]
          refine wpAnyH_take (i := 3) (oi := ⟨some 53, _, _, _, _, _⟩) (v := ?_) rfl (by kernel_rfl) (by kernel_rfl) (by kernel_rfl) (fun _ _ _ h => h) (Or.inl ⟨by rfl, ?_⟩) hS0 ?_
          rotate_left
          · (intro wS hSw; (try dsimp only at hSw); go_simp); all_goals (with_reducible rfl)
          try simp only [Act.put, List.setIfInBounds_toArray, List.set_cons_zero, List.set_cons_succ]
          refine wpAnyH_take (i := 4) (oi := ⟨some 54, _, _, _, _, _⟩) (v := ?_) rfl (by kernel_rfl) (by kernel_rfl) (by kernel_rfl) (fun _ _ _ h => h) (Or.inl ⟨by rfl, ?_⟩) hS0 ?_
          rotate_left
          · (intro wS hSw; (try dsimp only at hSw); go_simp); all_goals (with_reducible rfl)
          try simp only [Act.put, List.setIfInBounds_toArray, List.set_cons_zero, List.set_cons_succ]
          refine wpAnyH_take (i := 5) (oi := ⟨some 55, _, _, _, _, _⟩) (v := ?_) rfl (by kernel_rfl) (by kernel_rfl) (by kernel_rfl) (fun _ _ _ h => h) (Or.inl ⟨by rfl, ?_⟩) hS0 ?_
          rotate_left
          · (intro wS hSw; (try dsimp only at hSw); go_simp); all_goals (with_reducible rfl)
          try simp only [Act.put, List.setIfInBounds_toArray, List.set_cons_zero, List.set_cons_succ]
          refine wpAnyH_take (i := 6) (oi := ⟨some 56, _, _, _, _, _⟩) (v := ?_) rfl (by kernel_rfl) (by kernel_rfl) (by kernel_rfl) (fun _ _ _ h => h) (Or.inl ⟨by rfl, ?_⟩) hS0 ?_
          rotate_left
          · (intro wS hSw; (try dsimp only at hSw); go_simp); all_goals (with_reducible rfl)
          try simp only [Act.put, List.setIfInBounds_toArray, List.set_cons_zero, List.set_cons_succ]
          refine wpAnyH_take (i := 8) (oi := ⟨some 58, _, _, _, _, _⟩) (v := ?_) rfl (by kernel_rfl) (by kernel_rfl) (by kernel_rfl) (fun _ _ _ h => h) (Or.inl ⟨by rfl, ?_⟩) hS0 ?_
          rotate_left
          · (intro wS hSw; (try dsimp only at hSw); go_simp); all_goals (with_reducible rfl)
          try simp only [Act.put, List.setIfInBounds_toArray, List.set_cons_zero, List.set_cons_succ]
          refine wpAnyH_take (i := 9) (oi := ⟨some 59, _, _, _, _, _⟩) (v := ?_) rfl (by kernel_rfl) (by kernel_rfl) (by kernel_rfl) (fun _ _ _ h => h) (Or.inl ⟨by rfl, ?_⟩) hS0 ?_
          rotate_left
          · (intro wS hSw; (try dsimp only at hSw); go_simp); all_goals (with_reducible rfl)
          try simp only [Act.put, List.setIfInBounds_toArray, List.set_cons_zero, List.set_cons_succ]
          refine wpAnyH_take (i := 10) (oi := ⟨some 60, _, _, _, _, _⟩) (v := ?_) rfl (by kernel_rfl) (by kernel_rfl) (by kernel_rfl) (fun _ _ _ h => h) (Or.inl ⟨by rfl, ?_⟩) hS0 ?_
          rotate_left
          · (intro wS hSw; (try dsimp only at hSw); go_simp); all_goals (with_reducible rfl)
          try simp only [Act.put, List.setIfInBounds_toArray, List.set_cons_zero, List.set_cons_succ]
          refine wpAnyH_take (i := 11) (oi := ⟨some 61, _, _, _, _, _⟩) (v := ?_) rfl (by kernel_rfl) (by kernel_rfl) (by kernel_rfl) (fun _ _ _ h => h) (Or.inl ⟨by rfl, ?_⟩) hS0 ?_
          rotate_left
          · (intro wS hSw; (try dsimp only at hSw); go_simp); all_goals (with_reducible rfl)
          try simp only [Act.put, List.setIfInBounds_toArray, List.set_cons_zero, List.set_cons_succ]
          refine wpAnyH_take (i := 12) (oi := ⟨some 62, _, _, _, _, _⟩) (v := ?_) rfl (by kernel_rfl) (by kernel_rfl) (by kernel_rfl) (fun _ _ _ h => h) (Or.inl ⟨by rfl, ?_⟩) hS0 ?_
          rotate_left
          · (intro wS hSw; (try dsimp only at hSw); go_simp); all_goals (with_reducible rfl)
          try simp only [Act.put, List.setIfInBounds_toArray, List.set_cons_zero, List.set_cons_succ]
          refine wpAnyH_take (i := 13) (oi := ⟨some 63, _, _, _, _, _⟩) (v := ?_) rfl (by kernel_rfl) (by kernel_rfl) (by kernel_rfl) (fun _ _ _ h => h) (Or.inl ⟨by rfl, ?_⟩) hS0 ?_
          rotate_left
          · (intro wS hSw; (try dsimp only at hSw); go_simp); all_goals (with_reducible rfl)
          try simp only [Act.put, List.setIfInBounds_toArray, List.set_cons_zero, List.set_cons_succ]
          refine wpAnyH_take (i := 14) (oi := ⟨some 64, _, _, _, _, _⟩) (v := ?_) rfl (by kernel_rfl) (by kernel_rfl) (by kernel_rfl) (fun _ _ _ h => h) (Or.inl ⟨by rfl, ?_⟩) hS0 ?_
          rotate_left
          · (intro wS hSw; (try dsimp only at hSw); go_simp); all_goals (with_reducible rfl)
          try simp only [Act.put, List.setIfInBounds_toArray, List.set_cons_zero, List.set_cons_succ]
          refine wpAnyH_take (i := 15) (oi := ⟨some 65, _, _, _, _, _⟩) (v := ?_) rfl (by kernel_rfl) (by kernel_rfl) (by kernel_rfl) (fun _ _ _ h => h) (Or.inl ⟨by rfl, ?_⟩) hS0 ?_
          rotate_left
          · (intro wS hSw; (try dsimp only at hSw); go_simp); all_goals (with_reducible rfl)
          try simp only [Act.put, List.setIfInBounds_toArray, List.set_cons_zero, List.set_cons_succ]
          refine wpAnyH_take (i := 16) (oi := ⟨some 66, _, _, _, _, _⟩) (v := ?_) rfl (by kernel_rfl) (by kernel_rfl) (by kernel_rfl) (fun _ _ _ h => h) (Or.inl ⟨by rfl, ?_⟩) hS0 ?_
          rotate_left
          · (intro wS hSw; (try dsimp only at hSw); go_simp); all_goals (with_reducible rfl)
          try simp only [Act.put, List.setIfInBounds_toArray, List.set_cons_zero, List.set_cons_succ]
          refine wpAnyH_take (i := 17) (oi := ⟨some 67, _, _, _, _, _⟩) (v := ?_) rfl (by kernel_rfl) (by kernel_rfl) (by kernel_rfl) (fun _ _ _ h => h) (Or.inl ⟨by rfl, ?_⟩) hS0 ?_
          rotate_left
          · (intro wS hSw; (try dsimp only at hSw); go_simp); all_goals (with_reducible rfl)
          try simp only [Act.put, List.setIfInBounds_toArray, List.set_cons_zero, List.set_cons_succ]
          refine wpAnyH_take (i := 18) (oi := ⟨some 68, _, _, _, _, _⟩) (v := ?_) rfl (by kernel_rfl) (by kernel_rfl) (by kernel_rfl) (fun _ _ _ h => h) (Or.inl ⟨by rfl, ?_⟩) hS0 ?_
          rotate_left
          · (intro wS hSw; (try dsimp only at hSw); go_simp); all_goals (with_reducible rfl)
          try simp only [Act.put, List.setIfInBounds_toArray, List.set_cons_zero, List.set_cons_succ]
          refine wpAnyH_take (i := 19) (oi := ⟨some 69, _, _, _, _, _⟩) (v := ?_) rfl (by kernel_rfl) (by kernel_rfl) (by kernel_rfl) (fun _ _ _ h => h) (Or.inl ⟨by rfl, ?_⟩) hS0 ?_
          rotate_left
          · (intro wS hSw; (try dsimp only at hSw); go_simp); all_goals (with_reducible rfl)
          try simp only [Act.put, List.setIfInBounds_toArray, List.set_cons_zero, List.set_cons_succ]
          obtain ⟨wd, hwd⟩ : ∃ wd, wd = W5.drew := ⟨_, rfl⟩
          have DD : Hid (ApAt B g X X6 w0 W S1 J1 jb W.heap.size A b wd) := Lib.hid (by rw [hwd]; exact D5.out)
          have BD : Hid (Below W5.heap.size W5 wd) := Lib.hid (by rw [hwd]; exact (Below.refl _ _).drew)
          rw [← hwd] at hS0 ⊢
          clear hwd
          refine wpAnyH_ready (rs := [7, 23]) (by kernel_rfl) (by simp) ?_
          refine (AllReadyH.cons (o := ⟨some 57, _, _, _, _, _⟩) rfl (fun K hK => ?_) (AllReadyH.cons (o := ⟨some 11, _, _, _, _, _⟩) rfl (fun K hK => ?_) AllReadyH.nil))
          · go_simp
            refine (HCL.out wd DD.out.l.lies).mono ?_
            rintro e w6 ⟨v6, rfl, hown6, hb6⟩
            obtain ⟨A6, c6, rfl, _, _⟩ := own_form hown6
            have O6 : Hid (w6.ownsRow W5.heap.size 5 1 (.slice A6 b.length c6) b.length (B8 b)) := Lib.hid (hown6.mono BD.out.size)
            have D6 := Lib.hid (DD.out.below hb6 hXX.out)
            have B6 := Lib.hid (BD.out.trans (hb6.mono BD.out.size))
            clear hb6 hown6
            go_wp2_with fail
            refine hK.out _ _ ⟨D6.out.j.cells.1, D6.out.j.cells.2.1, D6.out.j.cells.2.2.1⟩ (fun hS1 => ?_)
            clear hK K
            try simp only [Act.put, List.setIfInBounds_toArray, List.set_cons_zero, List.set_cons_succ]
            refine wpAnyH_ready (rs := [20, 23]) (by kernel_rfl) (by simp) ?_
            refine (AllReadyH.cons (o := ⟨some 70, _, _, _, _, _⟩) rfl (fun K hK => ?_) (AllReadyH.cons (o := ⟨some 11, _, _, _, _, _⟩) rfl (fun K hK => ?_) AllReadyH.nil))
            · go_simp
              refine (HNA1.out w6).mono ?_
              rintro e w7 ⟨rfl, hb7⟩
              have D7 := Lib.hid (D6.out.below hb7 hXX.out)
              have B7 := Lib.hid (B6.out.trans (hb7.mono B6.out.size))
              have O7 := Lib.hid (own_block O6.out (fun i hi => hb7.block i (O6.out.lt i hi).2))
              clear hb7
              go_wp2_with fail
              refine hK.out _ _ ⟨D7.out.j.cells.1, D7.out.j.cells.2.1, D7.out.j.cells.2.2.1⟩ (fun hS2 => ?_)
              clear hK K
              try simp only [Act.put, List.setIfInBounds_toArray, List.set_cons_zero, List.set_cons_succ]
              refine wpAnyH_ready (rs := [21, 23]) (by kernel_rfl) (by simp) ?_
              refine (AllReadyH.cons (o := ⟨some 71, _, _, _, _, _⟩) rfl (fun K hK => ?_) (AllReadyH.cons (o := ⟨some 11, _, _, _, _, _⟩) rfl (fun K hK => ?_) AllReadyH.nil))
              · go_simp
                refine (at_len D7.out.at_ nm1 ML1.out ln1 HLN1.out).mono ?_
                rintro e w8 ⟨rfl, rfl⟩
                go_wp2_with fail
                refine hK.out _ _ ⟨D7.out.j.cells.1, D7.out.j.cells.2.1, D7.out.j.cells.2.2.1⟩ (fun hS3 => ?_)
                clear hK K
                try simp only [Act.put, List.setIfInBounds_toArray, List.set_cons_zero, List.set_cons_succ]
                refine wpAnyH_take (i := 22) (oi := ⟨some 72, _, _, _, _, _⟩) (v := ?_) rfl (by kernel_rfl) (by kernel_rfl) (by kernel_rfl) (fun _ _ _ h => h) (Or.inl ⟨by rfl, ?_⟩) hS3 ?_
                rotate_left
                · (intro wS hSw; (try dsimp only at hSw); go_simp); all_goals (with_reducible rfl)
                try simp only [Act.put, List.setIfInBounds_toArray, List.set_cons_zero, List.set_cons_succ]
                refine wpAnyH_ready (rs := [23]) (by kernel_rfl) (by simp) ?_
                refine (AllReadyH.cons (o := ⟨some 11, _, _, _, _, _⟩) rfl (fun K hK => ?_) AllReadyH.nil)
                · go_simp
                  have DN4 : Hid (ApAt B g X X6 w0 W S1 J1 jb W.heap.size A b (w7.alloc (.cells #[.int .u64 0, .int .i64 0, .slice none 0 0, .int .i64 0, .int .i64 0] 32))) := Lib.hid (D7.out.below ((Below.refl _ _).alloc (Nat.le_refl _) _) hXX.out)
                  go_wp2_with fail
                  refine hK.out _ _ ⟨DN4.out.j.cells.1, DN4.out.j.cells.2.1, DN4.out.j.cells.2.2.1⟩ (fun hS4 => ?_)
                  clear hK K
                  try simp only [Act.put, List.setIfInBounds_toArray, List.set_cons_zero, List.set_cons_succ]
                  have BN4 : Hid (Below W5.heap.size W5 (w7.alloc (.cells #[.int .u64 0, .int .i64 0, .slice none 0 0, .int .i64 0, .int .i64 0] 32))) := Lib.hid (B7.out.alloc B7.out.size _)
                  have ZN4 : Hid (Whole (w7.alloc (.cells #[.int .u64 0, .int .i64 0, .slice none 0 0, .int .i64 0, .int .i64 0] 32)) w7.heap.size 32 #[.int .u64 0, .int .i64 0, .slice none 0 0, .int .i64 0, .int .i64 0]) := Lib.hid (Whole.new _ _ _)
                  have ZL4 : Hid (W5.heap.size ≤ w7.heap.size) := Lib.hid B7.out.size
                  have ON4 := Lib.hid (O7.out.alloc (.cells #[.int .u64 0, .int .i64 0, .slice none 0 0, .int .i64 0, .int .i64 0] 32))
                  obtain ⟨wn4, hwn4⟩ : ∃ wn, wn = w7.alloc (.cells #[.int .u64 0, .int .i64 0, .slice none 0 0, .int .i64 0, .int .i64 0] 32) := ⟨_, rfl⟩
                  obtain ⟨bx, hbx⟩ : ∃ bx, bx = w7.heap.size := ⟨_, rfl⟩
                  rw [← hwn4] at hS4 DN4 BN4 ZN4 ON4 ⊢
                  rw [← hbx] at ZN4 ZL4 ⊢
                  clear hwn4 hbx
                  refine wpAnyH_ready (rs := [24]) (by kernel_rfl) (by simp) ?_
                  refine (AllReadyH.cons (o := ⟨none, _, _, _, _, _⟩) rfl (fun K hK => ?_) AllReadyH.nil)
                  · obtain ⟨y0, y1, y2, y3, y4⟩ := ZN4.out.five
                    have yf := Whole.frozen ZN4.out
                    have hjx : jb ≠ bx := whole_ne DN4.out.j ZN4.out (by decide)
                    have FIN : Hid (ApCut W5 q kn b (J1.file : Int) (ln1 : Int) (.pointer (some ⟨bx, 0, none⟩)) _) := Lib.hid ⟨bx, A6, c6, rfl, ZL4.out, ZN4.out.put5 (.int .u64 (q : Int)) (.int .i64 (kn : Int)) (.slice A6 b.length c6) (.int .i64 (J1.file : Int)) (.int .i64 (ln1 : Int)), own_block ON4.out (fun i hi => other_put5 (fun e => whole_apart ZN4.out ON4.out (by decide) (by rw [← e]; exact hi.symm)) _ _ _ _ _), below_put5 BN4.out ZL4.out _ _ _ _ _⟩
                    have SJ := Lib.hid (show JAt _ jb g J1 from (other_put5 hjx (.int .u64 (q : Int)) (.int .i64 (kn : Int)) (.slice A6 b.length c6) (.int .i64 (J1.file : Int)) (.int .i64 (ln1 : Int))).trans DN4.out.j).cells
                    go_simp
                    go_wp2_with fail
                    refine hK.out _ _ ⟨SJ.out.1, SJ.out.2.1, SJ.out.2.2.1⟩ (fun hS5 => ?_)
                    clear hK K
                    try simp only [Act.put, List.setIfInBounds_toArray, List.set_cons_zero, List.set_cons_succ]
                    refine wpAnyH_done (by kernel_rfl) ?_ _
                    go_wp2_with fail
                    go_meet
                    exact FIN.out
              · go_simp
                have DN6 : Hid (ApAt B g X X6 w0 W S1 J1 jb W.heap.size A b (w7.alloc (.cells #[.int .u64 0, .int .i64 0, .slice none 0 0, .int .i64 0, .int .i64 0] 32))) := Lib.hid (D7.out.below ((Below.refl _ _).alloc (Nat.le_refl _) _) hXX.out)
                go_wp2_with fail
                refine hK.out _ _ ⟨DN6.out.j.cells.1, DN6.out.j.cells.2.1, DN6.out.j.cells.2.2.1⟩ (fun hS6 => ?_)
                clear hK K
                try simp only [Act.put, List.setIfInBounds_toArray, List.set_cons_zero, List.set_cons_succ]
                have BN6 : Hid (Below W5.heap.size W5 (w7.alloc (.cells #[.int .u64 0, .int .i64 0, .slice none 0 0, .int .i64 0, .int .i64 0] 32))) := Lib.hid (B7.out.alloc B7.out.size _)
                have ZN6 : Hid (Whole (w7.alloc (.cells #[.int .u64 0, .int .i64 0, .slice none 0 0, .int .i64 0, .int .i64 0] 32)) w7.heap.size 32 #[.int .u64 0, .int .i64 0, .slice none 0 0, .int .i64 0, .int .i64 0]) := Lib.hid (Whole.new _ _ _)
                have ZL6 : Hid (W5.heap.size ≤ w7.heap.size) := Lib.hid B7.out.size
                have ON6 := Lib.hid (O7.out.alloc (.cells #[.int .u64 0, .int .i64 0, .slice none 0 0, .int .i64 0, .int .i64 0] 32))
                obtain ⟨wn6, hwn6⟩ : ∃ wn, wn = w7.alloc (.cells #[.int .u64 0, .int .i64 0, .slice none 0 0, .int .i64 0, .int .i64 0] 32) := ⟨_, rfl⟩
                obtain ⟨bx, hbx⟩ : ∃ bx, bx = w7.heap.size := ⟨_, rfl⟩
                rw [← hwn6] at hS6 DN6 BN6 ZN6 ON6 ⊢
                rw [← hbx] at ZN6 ZL6 ⊢
                clear hwn6 hbx
                refine wpAnyH_ready (rs := [21]) (by kernel_rfl) (by simp) ?_
                refine (AllReadyH.cons (o := ⟨some 71, _, _, _, _, _⟩) rfl (fun K hK => ?_) AllReadyH.nil)
                · go_simp
                  refine (at_len DN6.out.at_ nm1 ML1.out ln1 HLN1.out).mono ?_
                  rintro e w8 ⟨rfl, rfl⟩
                  go_wp2_with fail
                  refine hK.out _ _ ⟨DN6.out.j.cells.1, DN6.out.j.cells.2.1, DN6.out.j.cells.2.2.1⟩ (fun hS7 => ?_)
                  clear hK K
                  try simp only [Act.put, List.setIfInBounds_toArray, List.set_cons_zero, List.set_cons_succ]
                  refine wpAnyH_take (i := 22) (oi := ⟨some 72, _, _, _, _, _⟩) (v := ?_) rfl (by kernel_rfl) (by kernel_rfl) (by kernel_rfl) (fun _ _ _ h => h) (Or.inl ⟨by rfl, ?_⟩) hS7 ?_
                  rotate_left
                  · (intro wS hSw; (try dsimp only at hSw); go_simp); all_goals (with_reducible rfl)
                  try simp only [Act.put, List.setIfInBounds_toArray, List.set_cons_zero, List.set_cons_succ]
                  refine wpAnyH_ready (rs := [24]) (by kernel_rfl) (by simp) ?_
                  refine (AllReadyH.cons (o := ⟨none, _, _, _, _, _⟩) rfl (fun K hK => ?_) AllReadyH.nil)
                  · obtain ⟨y0, y1, y2, y3, y4⟩ := ZN6.out.five
                    have yf := Whole.frozen ZN6.out
                    have hjx : jb ≠ bx := whole_ne DN6.out.j ZN6.out (by decide)
                    have FIN : Hid (ApCut W5 q kn b (J1.file : Int) (ln1 : Int) (.pointer (some ⟨bx, 0, none⟩)) _) := Lib.hid ⟨bx, A6, c6, rfl, ZL6.out, ZN6.out.put5 (.int .u64 (q : Int)) (.int .i64 (kn : Int)) (.slice A6 b.length c6) (.int .i64 (J1.file : Int)) (.int .i64 (ln1 : Int)), own_block ON6.out (fun i hi => other_put5 (fun e => whole_apart ZN6.out ON6.out (by decide) (by rw [← e]; exact hi.symm)) _ _ _ _ _), below_put5 BN6.out ZL6.out _ _ _ _ _⟩
                    have SJ := Lib.hid (show JAt _ jb g J1 from (other_put5 hjx (.int .u64 (q : Int)) (.int .i64 (kn : Int)) (.slice A6 b.length c6) (.int .i64 (J1.file : Int)) (.int .i64 (ln1 : Int))).trans DN6.out.j).cells
                    go_simp
                    go_wp2_with fail
                    refine hK.out _ _ ⟨SJ.out.1, SJ.out.2.1, SJ.out.2.2.1⟩ (fun hS8 => ?_)
                    clear hK K
                    try simp only [Act.put, List.setIfInBounds_toArray, List.set_cons_zero, List.set_cons_succ]
                    refine wpAnyH_done (by kernel_rfl) ?_ _
                    go_wp2_with fail
                    go_meet
                    exact FIN.out
            · go_simp
              have DN9 : Hid (ApAt B g X X6 w0 W S1 J1 jb W.heap.size A b (w6.alloc (.cells #[.int .u64 0, .int .i64 0, .slice none 0 0, .int .i64 0, .int .i64 0] 32))) := Lib.hid (D6.out.below ((Below.refl _ _).alloc (Nat.le_refl _) _) hXX.out)
              go_wp2_with fail
              refine hK.out _ _ ⟨DN9.out.j.cells.1, DN9.out.j.cells.2.1, DN9.out.j.cells.2.2.1⟩ (fun hS9 => ?_)
              clear hK K
              try simp only [Act.put, List.setIfInBounds_toArray, List.set_cons_zero, List.set_cons_succ]
              have BN9 : Hid (Below W5.heap.size W5 (w6.alloc (.cells #[.int .u64 0, .int .i64 0, .slice none 0 0, .int .i64 0, .int .i64 0] 32))) := Lib.hid (B6.out.alloc B6.out.size _)
              have ZN9 : Hid (Whole (w6.alloc (.cells #[.int .u64 0, .int .i64 0, .slice none 0 0, .int .i64 0, .int .i64 0] 32)) w6.heap.size 32 #[.int .u64 0, .int .i64 0, .slice none 0 0, .int .i64 0, .int .i64 0]) := Lib.hid (Whole.new _ _ _)
              have ZL9 : Hid (W5.heap.size ≤ w6.heap.size) := Lib.hid B6.out.size
              have ON9 := Lib.hid (O6.out.alloc (.cells #[.int .u64 0, .int .i64 0, .slice none 0 0, .int .i64 0, .int .i64 0] 32))
              obtain ⟨wn9, hwn9⟩ : ∃ wn, wn = w6.alloc (.cells #[.int .u64 0, .int .i64 0, .slice none 0 0, .int .i64 0, .int .i64 0] 32) := ⟨_, rfl⟩
              obtain ⟨bx, hbx⟩ : ∃ bx, bx = w6.heap.size := ⟨_, rfl⟩
              rw [← hwn9] at hS9 DN9 BN9 ZN9 ON9 ⊢
              rw [← hbx] at ZN9 ZL9 ⊢
              clear hwn9 hbx
              refine wpAnyH_ready (rs := [20]) (by kernel_rfl) (by simp) ?_
              refine (AllReadyH.cons (o := ⟨some 70, _, _, _, _, _⟩) rfl (fun K hK => ?_) AllReadyH.nil)
              · go_simp
                refine (HNA1.out wn9).mono ?_
                rintro e w7 ⟨rfl, hb7⟩
                have D7 := Lib.hid (DN9.out.below hb7 hXX.out)
                have B7 := Lib.hid (BN9.out.trans (hb7.mono BN9.out.size))
                have O7 := Lib.hid (own_block ON9.out (fun i hi => hb7.block i (ON9.out.lt i hi).2))
                have Z7 := Lib.hid (ZN9.out.below hb7 ZN9.out.lt)
                clear hb7
                go_wp2_with fail
                refine hK.out _ _ ⟨D7.out.j.cells.1, D7.out.j.cells.2.1, D7.out.j.cells.2.2.1⟩ (fun hS10 => ?_)
                clear hK K
                try simp only [Act.put, List.setIfInBounds_toArray, List.set_cons_zero, List.set_cons_succ]
                refine wpAnyH_ready (rs := [21]) (by kernel_rfl) (by simp) ?_
                refine (AllReadyH.cons (o := ⟨some 71, _, _, _, _, _⟩) rfl (fun K hK => ?_) AllReadyH.nil)
                · go_simp
                  refine (at_len D7.out.at_ nm1 ML1.out ln1 HLN1.out).mono ?_
                  rintro e w8 ⟨rfl, rfl⟩
                  go_wp2_with fail
                  refine hK.out _ _ ⟨D7.out.j.cells.1, D7.out.j.cells.2.1, D7.out.j.cells.2.2.1⟩ (fun hS11 => ?_)
                  clear hK K
                  try simp only [Act.put, List.setIfInBounds_toArray, List.set_cons_zero, List.set_cons_succ]
                  refine wpAnyH_take (i := 22) (oi := ⟨some 72, _, _, _, _, _⟩) (v := ?_) rfl (by kernel_rfl) (by kernel_rfl) (by kernel_rfl) (fun _ _ _ h => h) (Or.inl ⟨by rfl, ?_⟩) hS11 ?_
                  rotate_left
                  · (intro wS hSw; (try dsimp only at hSw); go_simp); all_goals (with_reducible rfl)
                  try simp only [Act.put, List.setIfInBounds_toArray, List.set_cons_zero, List.set_cons_succ]
                  refine wpAnyH_ready (rs := [24]) (by kernel_rfl) (by simp) ?_
                  refine (AllReadyH.cons (o := ⟨none, _, _, _, _, _⟩) rfl (fun K hK => ?_) AllReadyH.nil)
                  · obtain ⟨y0, y1, y2, y3, y4⟩ := Z7.out.five
                    have yf := Whole.frozen Z7.out
                    have hjx : jb ≠ bx := whole_ne D7.out.j Z7.out (by decide)
                    have FIN : Hid (ApCut W5 q kn b (J1.file : Int) (ln1 : Int) (.pointer (some ⟨bx, 0, none⟩)) _) := Lib.hid ⟨bx, A6, c6, rfl, ZL9.out, Z7.out.put5 (.int .u64 (q : Int)) (.int .i64 (kn : Int)) (.slice A6 b.length c6) (.int .i64 (J1.file : Int)) (.int .i64 (ln1 : Int)), own_block O7.out (fun i hi => other_put5 (fun e => whole_apart Z7.out O7.out (by decide) (by rw [← e]; exact hi.symm)) _ _ _ _ _), below_put5 B7.out ZL9.out _ _ _ _ _⟩
                    have SJ := Lib.hid (show JAt _ jb g J1 from (other_put5 hjx (.int .u64 (q : Int)) (.int .i64 (kn : Int)) (.slice A6 b.length c6) (.int .i64 (J1.file : Int)) (.int .i64 (ln1 : Int))).trans D7.out.j).cells
                    go_simp
                    go_wp2_with fail
                    refine hK.out _ _ ⟨SJ.out.1, SJ.out.2.1, SJ.out.2.2.1⟩ (fun hS12 => ?_)
                    clear hK K
                    try simp only [Act.put, List.setIfInBounds_toArray, List.set_cons_zero, List.set_cons_succ]
                    refine wpAnyH_done (by kernel_rfl) ?_ _
                    go_wp2_with fail
                    go_meet
                    exact FIN.out
          · go_simp
            have DN13 : Hid (ApAt B g X X6 w0 W S1 J1 jb W.heap.size A b (wd.alloc (.cells #[.int .u64 0, .int .i64 0, .slice none 0 0, .int .i64 0, .int .i64 0] 32))) := Lib.hid (DD.out.below ((Below.refl _ _).alloc (Nat.le_refl _) _) hXX.out)
            go_wp2_with fail
            refine hK.out _ _ ⟨DN13.out.j.cells.1, DN13.out.j.cells.2.1, DN13.out.j.cells.2.2.1⟩ (fun hS13 => ?_)
            clear hK K
            try simp only [Act.put, List.setIfInBounds_toArray, List.set_cons_zero, List.set_cons_succ]
            have BN13 : Hid (Below W5.heap.size W5 (wd.alloc (.cells #[.int .u64 0, .int .i64 0, .slice none 0 0, .int .i64 0, .int .i64 0] 32))) := Lib.hid (BD.out.alloc BD.out.size _)
            have ZN13 : Hid (Whole (wd.alloc (.cells #[.int .u64 0, .int .i64 0, .slice none 0 0, .int .i64 0, .int .i64 0] 32)) wd.heap.size 32 #[.int .u64 0, .int .i64 0, .slice none 0 0, .int .i64 0, .int .i64 0]) := Lib.hid (Whole.new _ _ _)
            have ZL13 : Hid (W5.heap.size ≤ wd.heap.size) := Lib.hid BD.out.size
            obtain ⟨wn13, hwn13⟩ : ∃ wn, wn = wd.alloc (.cells #[.int .u64 0, .int .i64 0, .slice none 0 0, .int .i64 0, .int .i64 0] 32) := ⟨_, rfl⟩
            obtain ⟨bx, hbx⟩ : ∃ bx, bx = wd.heap.size := ⟨_, rfl⟩
            rw [← hwn13] at hS13 DN13 BN13 ZN13 ⊢
            rw [← hbx] at ZN13 ZL13 ⊢
            clear hwn13 hbx
            refine wpAnyH_ready (rs := [7]) (by kernel_rfl) (by simp) ?_
            refine (AllReadyH.cons (o := ⟨some 57, _, _, _, _, _⟩) rfl (fun K hK => ?_) AllReadyH.nil)
            · go_simp
              refine (HCL.out wn13 DN13.out.l.lies).mono ?_
              rintro e w6 ⟨v6, rfl, hown6, hb6⟩
              obtain ⟨A6, c6, rfl, _, _⟩ := own_form hown6
              have O6 : Hid (w6.ownsRow W5.heap.size 5 1 (.slice A6 b.length c6) b.length (B8 b)) := Lib.hid (hown6.mono BN13.out.size)
              have D6 := Lib.hid (DN13.out.below hb6 hXX.out)
              have B6 := Lib.hid (BN13.out.trans (hb6.mono BN13.out.size))
              have Z6 := Lib.hid (ZN13.out.below hb6 ZN13.out.lt)
              clear hb6 hown6
              go_wp2_with fail
              refine hK.out _ _ ⟨D6.out.j.cells.1, D6.out.j.cells.2.1, D6.out.j.cells.2.2.1⟩ (fun hS14 => ?_)
              clear hK K
              try simp only [Act.put, List.setIfInBounds_toArray, List.set_cons_zero, List.set_cons_succ]
              refine wpAnyH_ready (rs := [20]) (by kernel_rfl) (by simp) ?_
              refine (AllReadyH.cons (o := ⟨some 70, _, _, _, _, _⟩) rfl (fun K hK => ?_) AllReadyH.nil)
              · go_simp
                refine (HNA1.out w6).mono ?_
                rintro e w7 ⟨rfl, hb7⟩
                have D7 := Lib.hid (D6.out.below hb7 hXX.out)
                have B7 := Lib.hid (B6.out.trans (hb7.mono B6.out.size))
                have O7 := Lib.hid (own_block O6.out (fun i hi => hb7.block i (O6.out.lt i hi).2))
                have Z7 := Lib.hid (Z6.out.below hb7 Z6.out.lt)
                clear hb7
                go_wp2_with fail
                refine hK.out _ _ ⟨D7.out.j.cells.1, D7.out.j.cells.2.1, D7.out.j.cells.2.2.1⟩ (fun hS15 => ?_)
                clear hK K
                try simp only [Act.put, List.setIfInBounds_toArray, List.set_cons_zero, List.set_cons_succ]
                refine wpAnyH_ready (rs := [21]) (by kernel_rfl) (by simp) ?_
                refine (AllReadyH.cons (o := ⟨some 71, _, _, _, _, _⟩) rfl (fun K hK => ?_) AllReadyH.nil)
                · go_simp
                  refine (at_len D7.out.at_ nm1 ML1.out ln1 HLN1.out).mono ?_
                  rintro e w8 ⟨rfl, rfl⟩
                  go_wp2_with fail
                  refine hK.out _ _ ⟨D7.out.j.cells.1, D7.out.j.cells.2.1, D7.out.j.cells.2.2.1⟩ (fun hS16 => ?_)
                  clear hK K
                  try simp only [Act.put, List.setIfInBounds_toArray, List.set_cons_zero, List.set_cons_succ]
                  refine wpAnyH_take (i := 22) (oi := ⟨some 72, _, _, _, _, _⟩) (v := ?_) rfl (by kernel_rfl) (by kernel_rfl) (by kernel_rfl) (fun _ _ _ h => h) (Or.inl ⟨by rfl, ?_⟩) hS16 ?_
                  rotate_left
                  · (intro wS hSw; (try dsimp only at hSw); go_simp); all_goals (with_reducible rfl)
                  try simp only [Act.put, List.setIfInBounds_toArray, List.set_cons_zero, List.set_cons_succ]
                  refine wpAnyH_ready (rs := [24]) (by kernel_rfl) (by simp) ?_
                  refine (AllReadyH.cons (o := ⟨none, _, _, _, _, _⟩) rfl (fun K hK => ?_) AllReadyH.nil)
                  · obtain ⟨y0, y1, y2, y3, y4⟩ := Z7.out.five
                    have yf := Whole.frozen Z7.out
                    have hjx : jb ≠ bx := whole_ne D7.out.j Z7.out (by decide)
                    have FIN : Hid (ApCut W5 q kn b (J1.file : Int) (ln1 : Int) (.pointer (some ⟨bx, 0, none⟩)) _) := Lib.hid ⟨bx, A6, c6, rfl, ZL13.out, Z7.out.put5 (.int .u64 (q : Int)) (.int .i64 (kn : Int)) (.slice A6 b.length c6) (.int .i64 (J1.file : Int)) (.int .i64 (ln1 : Int)), own_block O7.out (fun i hi => other_put5 (fun e => whole_apart Z7.out O7.out (by decide) (by rw [← e]; exact hi.symm)) _ _ _ _ _), below_put5 B7.out ZL13.out _ _ _ _ _⟩
                    have SJ := Lib.hid (show JAt _ jb g J1 from (other_put5 hjx (.int .u64 (q : Int)) (.int .i64 (kn : Int)) (.slice A6 b.length c6) (.int .i64 (J1.file : Int)) (.int .i64 (ln1 : Int))).trans D7.out.j).cells
                    go_simp
                    go_wp2_with fail
                    refine hK.out _ _ ⟨SJ.out.1, SJ.out.2.1, SJ.out.2.2.1⟩ (fun hS17 => ?_)
                    clear hK K
                    try simp only [Act.put, List.setIfInBounds_toArray, List.set_cons_zero, List.set_cons_succ]
                    refine wpAnyH_done (by kernel_rfl) ?_ _
                    go_wp2_with fail
                    go_meet
                    exact FIN.out
        case rest =>
          obtain ⟨bx, A6, c6, rfl, hxl, hxb, hxo, hxbel⟩ := hcut
          obtain ⟨W8, hW8⟩ : ∃ W8 : World, W8 = wc := ⟨_, rfl⟩
          subst hW8
          have P8 := Lib.hid (P5.out.below hxbel hXX.out)
          have F8 := Lib.hid (P5.out.at_.fence hxbel)
          obtain ⟨X8, hX8⟩ : ∃ X8 : Nat → Prop, X8 = fun i => X6 i ∨ (W5.heap.size ≤ i ∧ i < W8.heap.size) := ⟨_, rfl⟩
          rw [← hX8] at F8
          have H68 : Hid (∀ i, X6 i → X8 i) := Lib.hid (fun i hi => by rw [hX8]; exact .inl hi)
          have hX8x : X8 bx := by rw [hX8]; exact .inr ⟨hxl, hxb.lt⟩
          have hX8j : X8 jb := H68.out _ hX6j
          have BMA : Hid (BmAt W8 (fun i => X8 i ∧ W5.heap.size ≤ i) ⟨⟨q, kn, b, (J1.file : Int), (ln1 : Int)⟩, A6, c6⟩) := Lib.hid ⟨⟨hxo.1, hxo.2.imp id (fun ⟨g', cap', cur', e, _, r⟩ => ⟨g', cap', cur', e, Nat.zero_le _, r⟩)⟩, fun i hi => ⟨by rw [hX8]; exact .inr (hxo.lt i hi), (hxo.lt i hi).1⟩⟩
          have L58 : Hid (W.heap.size ≤ W5.heap.size) := Lib.hid P5.out.k.2
          have hbx6 : bx ≠ W.heap.size := fun e => by have := P5.out.z.lt; omega
          have hbxj : bx ≠ jb := fun e => by have := Whole.lt P5.out.j; omega
          have BX := Lib.hid hxb
          have BXL := Lib.hid hxl
          have hq0 : 0 < q := by have := HQ.out; omega
          have hwr := write_any (W := W8.drew) (F8.out.drewN 1) ⟨⟨q, kn, b, (J1.file : Int), (ln1 : Int)⟩, A6, c6⟩ (BMA.out.liesP.mono (fun i _ hi => hi.1)) BMA.out.cap.1 BMA.out.cap.2 ⟨hq0, hql, by show 0 < kn; omega, by show kn < 256; omega, hb2⟩ (by show 1 ≤ (J1.file : Int) ∧ (J1.file : Int) < 100; omega) (by show 0 ≤ (ln1 : Int) ∧ (ln1 : Int) ≤ 100000; omega)
          unfold btV at hwr
          simp only at hwr
          obtain ⟨e2, S2, hS2⟩ : ∃ e2 S2, wrP (nmJ (J1.file : Int)) (ln1 : Int) ⟨q, kn, b, (J1.file : Int), (ln1 : Int)⟩ (need b.length) S1 = (e2, S2) := ⟨_, _, rfl⟩
          simp only [hS2] at hwr
          have HWR := Lib.hid hwr
          have eB : apB S1 J1 (kn : Int) b = ⟨q, kn, b, (J1.file : Int), (ln1 : Int)⟩ := by
            unfold apB
            rw [← HNM1.out, HLN1.out, HS1q.out, ← HQ.out]
            rfl
          have eA : apP S J (kn : Int) b = if e2 ≠ 0 then ⟨bt0, e2, S2, { J1 with dead := true }⟩ else ⟨⟨q, kn, b, (J1.file : Int), (ln1 : Int)⟩, 0, S2, { J1 with seq := J1.seq + 1 }⟩ := by
            unfold apP
            rw [NRF.out, if_neg (by simp), OP1.out]
            simp only []
            rw [if_neg (by simp), eB, ← HNM1.out, HLN1.out]
            rw [HNM1.out, hS2]
          have EA := Lib.hid eA
          obtain ⟨x0, x1, x2, x3, x4⟩ := hxb.five
          obtain ⟨c0, c1, c2, c3, c4⟩ := P8.out.j.cells
          have D8 : Hid (At B X8 w0 g S1 W8.drew) := Lib.hid (F8.out.drewN 1)
          clear hxo hxbel hX8 hwr hS2 eB eA hxb hxl
          go_upto_region 9 with fail
          go_region_held3 (fun w' => w'.cell? ⟨jb, 0, none⟩ = some (ptr g) ∧ w'.cell? ⟨bx, 0, none⟩ = some (.int .u64 (q : Int)) ∧ w'.cell? ⟨bx, 1, none⟩ = some (.int .i64 (kn : Int)) ∧ w'.cell? ⟨bx, 2, none⟩ = some (.slice A6 b.length c6) ∧ w'.cell? ⟨bx, 3, none⟩ = some (.int .i64 (J1.file : Int)) ∧ w'.cell? ⟨bx, 4, none⟩ = some (.int .i64 (ln1 : Int))) (exact ⟨c0, x0, x1, x2, x3, x4⟩) (first
            | (go_at_call 44; go_must (refine HWR.out.mono ?_); rintro e w9 ⟨rfl, h9, k9⟩; have A9 := Lib.hid h9; have K9 := Lib.hid k9; have J9 : Hid (JAt w9 jb g J1) := Lib.hid (P8.out.j.kept k9 hX8j); have B9 := Lib.hid (Whole.kept BX.out k9 hX8x); have Z9 := Lib.hid (Whole.kept P8.out.z k9 (H68.out _ hX6b.out)); obtain ⟨c0, c1, c2, c3, c4⟩ := J9.out.cells; obtain ⟨x0, x1, x2, x3, x4⟩ := B9.out.five; obtain ⟨z0, z1, z2, z3, z4⟩ := Z9.out.five; clear h9 k9))
          have hltj := Whole.lt P5.out.j
          have hltz := P5.out.z.lt
          have KX : ∀ i, X i → i ≠ jb → w9.heap[i]? = W.heap[i]? := fun i hi hn => (K9.out.1 i (H68.out i (hXX.out i hi))).trans (P8.out.k.1 i hi hn)
          have KS : W.heap.size ≤ w9.heap.size := Nat.le_trans P8.out.k.2 K9.out.2
          have HKX := Lib.hid KX
          have cf := Whole.frozen J9.out
          have zf := Whole.frozen Z9.out
          have hjz : jb ≠ W.heap.size := by omega
          have LJ := Lib.hid hltj
          have LZ := Lib.hid hltz
          have HKS := Lib.hid KS
          clear KX KS hltj hltz
          by_cases he2 : e2 = 0
          · subst he2
            have EA2 : Hid (apP S J (kn : Int) b = ⟨⟨q, kn, b, (J1.file : Int), (ln1 : Int)⟩, 0, S2, { J1 with seq := J1.seq + 1 }⟩) := Lib.hid (by rw [EA.out, if_neg (by simp)])
            go_wp2_with fail
            have J10 : JAt (w9.setCell ⟨jb, 1, none⟩ (.int .u64 (q : Int))) jb g { J1 with seq := J1.seq + 1 } := by
              have := J9.out.go
              rw [show J1.seq + 1 = q by rw [HS1q.out, HQ.out]] at this ⊢
              exact this
            have Z10 : Whole (w9.setCell ⟨jb, 1, none⟩ (.int .u64 (q : Int))) W.heap.size 32 #[.int .u64 0, .int .i64 0, .slice none 0 0, .int .i64 0, .int .i64 0] := (Below.heap_setCell _ ⟨jb, 1, none⟩ _ _ (by show W.heap.size ≠ jb; omega)).trans Z9.out
            have hout : ∀ i, i ≠ W.heap.size → i ≠ jb → ((((((w9.setCell ⟨jb, 1, none⟩ (.int .u64 (q : Int))).setCell ⟨W.heap.size, 0, none⟩ (.int .u64 (q : Int))).setCell ⟨W.heap.size, 1, none⟩ (.int .i64 (kn : Int))).setCell ⟨W.heap.size, 2, none⟩ (.slice A6 b.length c6)).setCell ⟨W.heap.size, 3, none⟩ (.int .i64 (J1.file : Int))).setCell ⟨W.heap.size, 4, none⟩ (.int .i64 (ln1 : Int))).heap[i]? = w9.heap[i]? := fun i h1 h2 => (other_put5 h1 _ _ _ _ _).trans (Below.heap_setCell _ ⟨jb, 1, none⟩ _ _ h2)
            refine append_end (Z10.put5 _ _ _ _ _) rfl _ _ 0 rfl rfl _ ⟨⟨⟨q, kn, b, (J1.file : Int), (ln1 : Int)⟩, A6, c6⟩, X8, by rw [EA2.out]; rfl, by rw [EA2.out], fun i hi => H68.out i (hXX.out i hi), ?_, ?_, ?_, ?_⟩ rfl
            · rw [EA2.out]
              exact ((((((A9.out.cell jb 1 hX8j _).cell _ 0 (H68.out _ hX6b.out) _).cell _ 1 (H68.out _ hX6b.out) _).cell _ 2 (H68.out _ hX6b.out) _).cell _ 3 (H68.out _ hX6b.out) _).cell _ 4 (H68.out _ hX6b.out) _)
            · rw [EA2.out]
              exact (other_put5 hjz _ _ _ _ _).trans J10
            · exact ⟨fun i hi hn => (hout i (fun e => NX6.out (by rw [← e]; exact hi)) hn).trans (HKX.out i hi hn), by have := HKS.out; simpa using this⟩
            · refine ((BMA.out.kept (fun i _ hi => K9.out.1 i hi.1)).kept (fun i _ hi => hout i (by have := hi.2; have := LZ.out; omega) (by have := hi.2; have := LJ.out; omega))).mono (fun i _ hi => ⟨hi.1, Nat.le_trans L58.out hi.2⟩)
          · have EA2 : Hid (apP S J (kn : Int) b = ⟨bt0, e2, S2, { J1 with dead := true }⟩) := Lib.hid (by rw [EA.out, if_pos he2])
            go_wp2_with fail
            have J10 : JAt (w9.setCell ⟨jb, 4, none⟩ (.bool true)) jb g { J1 with dead := true } := J9.out.die
            have Z10 : Whole (w9.setCell ⟨jb, 4, none⟩ (.bool true)) W.heap.size 32 #[.int .u64 0, .int .i64 0, .slice none 0 0, .int .i64 0, .int .i64 0] := (Below.heap_setCell _ ⟨jb, 4, none⟩ _ _ (by show W.heap.size ≠ jb; omega)).trans Z9.out
            refine append_end (Z10.put5 _ _ _ _ _) rfl _ _ e2 rfl rfl _ (FIN0.out _ X8 e2 S2 { J1 with dead := true } EA2.out (fun i hi => H68.out i (hXX.out i hi)) ?_ ?_ ?_) rfl
            · exact ((((((A9.out.cell jb 4 hX8j _).cell _ 0 (H68.out _ hX6b.out) _).cell _ 1 (H68.out _ hX6b.out) _).cell _ 2 (H68.out _ hX6b.out) _).cell _ 3 (H68.out _ hX6b.out) _).cell _ 4 (H68.out _ hX6b.out) _)
            · exact (other_put5 hjz _ _ _ _ _).trans J10
            · exact ⟨fun i hi hn => ((other_put5 (fun e => NX6.out (by rw [← e]; exact hi)) _ _ _ _ _).trans (Below.heap_setCell _ ⟨jb, 4, none⟩ _ _ hn)).trans (HKX.out i hi hn), by have := HKS.out; simpa using this⟩
  · have e0 : apP S J kind b = ⟨bt0, rf, S, J⟩ := by
      unfold apP
      rw [← HN.out, HRF.out, if_pos hr0]
    go_wp2_with fail
    exact append_end (P1.out.z.put5 _ _ _ _ _) rfl _ _ rf rfl rfl _ (FIN0.out _ X6 rf S J e0 hXX.out (((((P1.out.at_.cell _ 0 hX6b.out _).cell _ 1 hX6b.out _).cell _ 2 hX6b.out _).cell _ 3 hX6b.out _).cell _ 4 hX6b.out _) ((other_put5 (by omega) _ _ _ _ _).trans P1.out.j) ⟨fun i hi hn => (other_put5 (fun e => NX6.out (by rw [← e]; exact hi)) _ _ _ _ _).trans (P1.out.k.1 i hi hn), by have := P1.out.k.2; simpa using this⟩) rfl
end
end Go.Proofs.YtmemdkgoeldemaaGreatDoor
