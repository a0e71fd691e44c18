/- Contracts of package fram: what may be a kind; what octets begin with. -/
import Derived.Test.YtfajkbegmmlmjaaOctsR
import Derived.Test.YtfajkbegmmlmjaaFramS
import Derived.Deep.DeepCutAuto
namespace Go.Proofs.Ytfajkbegmmlmjaa
open Go.RowKit
set_option maxRecDepth 100000

theorem isKind_any (k : Int) (w : World) : Calls Try.prog 31 #[.int .i64 k] w fun e w' => e = .returned (.bool (fkind k)) ∧ w = w' := by
  by_cases h : k = 1 ∨ k = 2 ∨ k = 3 ∨ k = 8
  · rcases h with rfl | rfl | rfl | rfl
    all_goals
      go_enter Try.func31, Try.ntmps31
      go_wp2_with fail
      go_ret
      exact ⟨rfl, rfl⟩
  · have D : Hid (fkind k = false) := Lib.hid (by unfold fkind; exact decide_eq_false (by omega))
    have h1 : (k == 1) = false := by simp; omega
    have h2 : (k == 2) = false := by simp; omega
    have h3 : (k == 3) = false := by simp; omega
    have h4 : (k == 8) = false := by simp; omega
    clear h
    go_enter Try.func31, Try.ntmps31
    go_wp2_with fail
    go_ret
    exact ⟨by rw [D.out]; rfl, rfl⟩

/-- the values that Parse tells -/
def frV (k ch : Int) (v : Value) (n e : Int) : Value := .tuple #[.agg #[.int .i64 k, .int .i64 ch, v], .int .i64 n, .int .i64 e]
def FrameIs (r : Fr) (w : World) (e : Ending) (w' : World) : Prop :=
  Below w.heap.size w w' ∧ match r with
  | .more => e = .returned (frV 0 0 (.slice none 0 0) 0 2)
  | .bad => e = .returned (frV 0 0 (.slice none 0 0) 0 3)
  | .ok k ch b => ∃ A c, e = .returned (frV k ch (.slice A b.length c) (b.length + 8) 0) ∧ b.length ≤ c ∧ c ≤ maxLen ∧ Lies w' w'.heap.size A (B8 b) ∧ w'.ownsRow w.heap.size 5 1 (.slice A b.length c) b.length (B8 b)
theorem FrameIs.more_ {r : Fr} {w w' : World} (h : r = .more) (hb : Below w.heap.size w w') : FrameIs r w (.returned (frV 0 0 (.slice none 0 0) 0 2)) w' := by
  subst h; exact ⟨hb, rfl⟩
theorem FrameIs.bad_ {r : Fr} {w w' : World} (h : r = .bad) (hb : Below w.heap.size w w') : FrameIs r w (.returned (frV 0 0 (.slice none 0 0) 0 3)) w' := by
  subst h; exact ⟨hb, rfl⟩
theorem FrameIs.ok_ {r : Fr} {w w' : World} {k ch : Nat} {b : List UInt8} (h : r = .ok k ch b) (hb : Below w.heap.size w w') (A : Option Addr) (c m : Nat) (n : Int) (hm : m = b.length) (hn : n = m + 8) (h1 : m ≤ c) (h2 : c ≤ maxLen) (h3 : Lies w' w'.heap.size A (B8 b)) (h4 : w'.ownsRow w.heap.size 5 1 (.slice A m c) m (B8 b)) : FrameIs r w (.returned (frV k ch (.slice A m c) n 0)) w' := by
  subst h; subst hm; subst hn; exact ⟨hb, A, c, rfl, h1, h2, h3, h4⟩

theorem from_at (A : Option Addr) (c n : Nat) (l : List UInt8) (B : Nat) (w : World) (hn : n = l.length) (hl : Lies w B A (B8 l)) (hB : B ≤ w.heap.size) (hs : l.length ≤ 140737488355328) :
    Calls Try.prog 20 #[.slice A n c] w fun e w' => ∃ g, w.heap.size ≤ g ∧ e = .returned (.pointer (some ⟨g, 0, none⟩)) ∧ InAt w' g l false ∧ Below w.heap.size w w' := by
  subst hn; exact from_any A c l B w hl hB hs
theorem own_keep {w w' : World} {b g : Nat} {e : TypeId} {size n : Nat} {v : Value} {xs : List Value} (h : w.ownsRow b e size v n xs) (hg : w.grownBy w' (some g)) (hlt : g < b) : w'.ownsRow b e size v n xs :=
  h.kept hg (by right; intro hv; have := (h.lt g hv).1; omega)
theorem clone_at (A : Option Addr) (c n : Nat) (l : List UInt8) (B : Nat) (w : World) (hn : n = l.length) (hl : Lies w B A (B8 l)) (hB : B ≤ w.heap.size) (hs : l.length ≤ 140737488355328) :
    Calls Try.prog 19 #[.slice A n c] w (NewOcts w.heap.size l w) := by
  subst hn; exact clone_any A c l B w hl hB hs
theorem own_at_base {w : World} {b b' : Nat} {e : TypeId} {size n : Nat} {v : Value} {xs : List Value} (h : w.ownsRow b e size v n xs) (hb : b' ≤ b) : w.ownsRow b' e size v n xs := by
  refine ⟨h.1, ?_⟩
  rcases h.2 with h | ⟨g, cap, cur, hv, hg, rest⟩
  · exact .inl h
  · exact .inr ⟨g, cap, cur, hv, Nat.le_trans hb hg, rest⟩
def Headed (w : World) (X : List UInt8) (v : Value) (w' : World) : Prop := ∃ g, w.heap.size < g ∧ v = .pointer (some ⟨g, 0, none⟩) ∧ InAt w' g X false ∧ Below w.heap.size w w' ∧ Whole w' w.heap.size 44 #[.int .i64 0, .int .i64 0, .slice none 0 0]

set_option maxRecDepth 100000 in
theorem fparse_any (A : Option Addr) (c : Nat) (b : List UInt8) (B : Nat) (w : World) (hl : Lies w B A (B8 b)) (hB : B ≤ w.heap.size) (hm : b.length ≤ c) (hc : c ≤ maxLen) :
    Calls Try.prog 16 #[.slice A b.length c] w (FrameIs (frameP b) w) := by
  unfold maxLen at hc
  obtain ⟨P, hP⟩ : ∃ P, P = frameP b := ⟨_, rfl⟩
  rw [← hP]
  have HP := Lib.hid hP
  obtain ⟨X, hX⟩ : ∃ X, X = b.take 7 := ⟨_, rfl⟩
  have hXl : X.length = min b.length 7 := by rw [hX, List.length_take]; omega
  have LX : Lies (w.alloc (.cells #[.int .i64 0, .int .i64 0, .slice none 0 0] 44)) B A (B8 X) := by
    have h := (hl.take 7).alloc hB (.cells #[.int .i64 0, .int .i64 0, .slice none 0 0] 44)
    rw [B8, ← List.map_take, ← hX] at h
    exact h
  have HL := Lib.hid hl
  have HX := Lib.hid hX
  have HLX := Lib.hid LX
  have hXl1 : X.length ≤ b.length := by omega
  have hXl7 : X.length ≤ 7 := by omega
  have HXL := Lib.hid hXl
  clear hl hP hX LX
  have WZ : Hid (Whole (w.alloc (.cells #[.int .i64 0, .int .i64 0, .slice none 0 0] 44)) w.heap.size 44 #[.int .i64 0, .int .i64 0, .slice none 0 0]) := Lib.hid (Whole.new w _ _)
  have BZ : Hid (Below w.heap.size w (w.alloc (.cells #[.int .i64 0, .int .i64 0, .slice none 0 0] 44))) := Lib.hid (Below.alloc (Below.refl w.heap.size w) (Nat.le_refl _) _)
  have SZ : Hid ((w.alloc (.cells #[.int .i64 0, .int .i64 0, .slice none 0 0] 44)).heap.size = w.heap.size + 1) := Lib.hid (by simp)
  clear hXl
  go_enter Try.func16, Try.ntmps16
  go_upto_region 1 with fail
  go_cut [5] (fun s5 wx => Headed w X s5 wx)
  case first =>
    rcases Nat.lt_or_ge 7 b.length with h | h
    all_goals
      go_wp2_with fail
      refine (from_at A c _ X B _ (by have := HXL.out; omega) HLX.out (by simp; omega) (by omega)).mono ?_
      rintro e w1 ⟨g, hg, rfl, hi, hb⟩
      have hg' : w.heap.size < g := by simp at hg; omega
      have D : Hid (Headed w X (.pointer (some ⟨g, 0, none⟩)) w1) := Lib.hid ⟨g, hg', rfl, hi, BZ.out.trans (hb.mono (by simp)), WZ.out.below hb (by simp)⟩
      clear hi hb
      go_wp2_with fail
      go_meet
      exact D.out
  case rest =>
    obtain ⟨g, hg, rfl, hi, hb, hw⟩ := hcut
    have I1 := Lib.hid hi
    have B1 := Lib.hid hb
    have W1 := Lib.hid hw
    clear hi hb hw
    obtain ⟨K, hK⟩ : ∃ K, K = nat (tk 1 X) := ⟨_, rfl⟩
    obtain ⟨H, hH⟩ : ∃ H, H = nat (tk 2 (rst 1 X)) := ⟨_, rfl⟩
    obtain ⟨S, hS⟩ : ∃ S, S = nat (tk 4 (rst 2 (rst 1 X))) := ⟨_, rfl⟩
    obtain ⟨bad, hbad⟩ : ∃ bad, bad = (((false || short 1 X) || short 2 (rst 1 X)) || short 4 (rst 2 (rst 1 X))) := ⟨_, rfl⟩
    have hKl : K < 256 := by rw [hK]; have := nat_lt (tk 1 X); have h2 := Nat.pow_le_pow_right (show 0 < 256 by omega) (tk_le 1 X); omega
    have hHl : H < 65536 := by rw [hH]; have := nat_lt (tk 2 (rst 1 X)); have h2 := Nat.pow_le_pow_right (show 0 < 256 by omega) (tk_le 2 (rst 1 X)); omega
    have hSl : S < 4294967296 := by rw [hS]; have := nat_lt (tk 4 (rst 2 (rst 1 X))); have h2 := Nat.pow_le_pow_right (show 0 < 256 by omega) (tk_le 4 (rst 2 (rst 1 X))); omega
    have EK := Lib.hid hK
    have EH := Lib.hid hH
    have ES := Lib.hid hS
    have EB := Lib.hid hbad
    clear hK hH hS hbad
    go_wp2_with fail
    refine (in_int g 1 X false _ I1.out).mono ?_
    rintro e w2 ⟨rfl, hi, hb⟩
    rw [show wid 1 = 1 from rfl] at hi ⊢
    rw [← EK.out]
    have I2 := Lib.hid hi
    have B2 := Lib.hid (B1.out.trans (below_only hb (by omega) B1.out.size))
    have W2 := Lib.hid (W1.out.grown hb (by simp; omega))
    clear hi hb
    go_wp2_with fail
    refine (in_int g 2 _ _ _ I2.out).mono ?_
    rintro e w3 ⟨rfl, hi, hb⟩
    rw [show wid 2 = 2 from rfl] at hi ⊢
    rw [← EH.out]
    have I3 := Lib.hid hi
    have B3 := Lib.hid (B2.out.trans (below_only hb (by omega) B2.out.size))
    have W3 := Lib.hid (W2.out.grown hb (by simp; omega))
    clear hi hb
    obtain ⟨F, hF⟩ : ∃ F, F = w3.heap.size := ⟨_, rfl⟩
    have FW : Hid (Whole (w3.alloc (.cells #[.int .i64 K, .int .i64 H, .slice none 0 0] 44)) F 44 #[.int .i64 K, .int .i64 H, .slice none 0 0]) := Lib.hid (by rw [hF]; exact Whole.new w3 _ _)
    have I4 := Lib.hid (I3.out.below ((Below.refl _ w3).alloc (Nat.le_refl _) (.cells #[.int .i64 K, .int .i64 H, .slice none 0 0] 44)) I3.out.lt)
    have W4 := Lib.hid (W3.out.alloc (.cells #[.int .i64 K, .int .i64 H, .slice none 0 0] 44))
    have B4 := Lib.hid (B3.out.alloc B3.out.size (.cells #[.int .i64 K, .int .i64 H, .slice none 0 0] 44))
    have hgF : g < F := by rw [hF]; exact I3.out.lt
    have HF := Lib.hid hF
    clear hF
    go_wp2_with fail
    refine (in_int g 4 _ _ _ I4.out).mono ?_
    rintro e w4 ⟨rfl, hi, hb⟩
    rw [show wid 4 = 4 from rfl] at hi ⊢
    rw [← ES.out, ← HF.out]
    rw [← EB.out] at hi
    have I5 := Lib.hid hi
    have B5 := Lib.hid (B4.out.trans (below_only hb (by omega) B4.out.size))
    have W5 := Lib.hid (W4.out.grown hb (by simp; omega))
    have F5 := Lib.hid (FW.out.grown hb (by simp; omega))
    clear hi hb
    have k0 : w4.cell? ⟨F, 0, none⟩ = some (.int .i64 K) := F5.out.cell 0
    have k1 : w4.cell? ⟨F, 1, none⟩ = some (.int .i64 H) := F5.out.cell 1
    have k2 : w4.cell? ⟨F, 2, none⟩ = some (.slice none 0 0) := F5.out.cell 2
    have f2 : w4.frozen? ⟨F, 2, none⟩ = false := F5.out.frozen 2
    have r0 : w4.cell? ⟨w.heap.size, 0, none⟩ = some (.int .i64 0) := W5.out.cell 0
    have r1 : w4.cell? ⟨w.heap.size, 1, none⟩ = some (.int .i64 0) := W5.out.cell 1
    have r2 : w4.cell? ⟨w.heap.size, 2, none⟩ = some (.slice none 0 0) := W5.out.cell 2
    have fr0 : w4.frozen? ⟨w.heap.size, 0, none⟩ = false := W5.out.frozen 0
    have fr1 : w4.frozen? ⟨w.heap.size, 1, none⟩ = false := W5.out.frozen 1
    have fr2 : w4.frozen? ⟨w.heap.size, 2, none⟩ = false := W5.out.frozen 2
    rcases Nat.eq_zero_or_pos b.length with h0 | h0
    · have hS0 : S = 0 := by rw [ES.out, HX.out]; exact (head_short b (by omega)).1
      have hb1 : bad = true := by rw [EB.out, HX.out, (head_short b (by omega)).2, Bool.or_true]
      have DP : Hid (P = .more) := Lib.hid (by rw [HP.out]; unfold frameP; rw [if_pos h0])
      subst hS0 hb1
      have hlt : ¬ (0 : Int) < b.length := by omega
      go_wp2_with fail
      refine (in_ok g _ _ _ I5.out).mono ?_
      rintro e w6 ⟨rfl, hw6⟩
      subst hw6
      go_wp2_with fail
      obtain ⟨wf, hwf⟩ : ∃ wf, wf = ((w4.setCell ⟨w.heap.size, 0, none⟩ (.int .i64 0)).setCell ⟨w.heap.size, 1, none⟩ (.int .i64 0)).setCell ⟨w.heap.size, 2, none⟩ (.slice none 0 0) := ⟨_, rfl⟩
      rw [← hwf]
      have hfw : Whole wf w.heap.size 44 #[.int .i64 0, .int .i64 0, .slice none 0 0] := by rw [hwf]; exact ((W5.out.put 0 _).put 1 _).put 2 _
      have hfb : Below w.heap.size w wf := by rw [hwf]; exact (((B5.out.setCell (Nat.le_refl _) _).setCell (Nat.le_refl _) _).setCell (Nat.le_refl _) _)
      have e0 : wf.cell? ⟨w.heap.size, 0, none⟩ = some (.int .i64 0) := hfw.cell 0
      have e1 : wf.cell? ⟨w.heap.size, 1, none⟩ = some (.int .i64 0) := hfw.cell 1
      have e2 : wf.cell? ⟨w.heap.size, 2, none⟩ = some (.slice none 0 0) := hfw.cell 2
      clear hwf
      exact bodyPost_ret (v := frV 0 0 (.slice none 0 0) 0 2) (by simp [results, Try.results16, go_sem, e0, e1, e2, frV]) rfl (FrameIs.more_ DP.out hfb)
    · have hlt : (0 : Int) < b.length := by omega
      by_cases hk : fkind (K : Int) = true
      case neg =>
        have hk' : fkind (K : Int) = false := by simpa using hk
        have DP : Hid (P = .bad) := Lib.hid (by rw [HP.out]; unfold frameP; rw [if_neg (by omega), ← head_kind b h0, ← HX.out, ← EK.out, if_pos hk'])
        have HK := Lib.hid hk'
        clear hk hk'
        go_wp2_with fail
        refine (isKind_any _ _).mono ?_
        rintro e w6 ⟨rfl, hw6⟩
        subst hw6
        rw [HK.out]
        go_wp2_with fail
        obtain ⟨wf, hwf⟩ : ∃ wf, wf = ((w4.setCell ⟨w.heap.size, 0, none⟩ (.int .i64 0)).setCell ⟨w.heap.size, 1, none⟩ (.int .i64 0)).setCell ⟨w.heap.size, 2, none⟩ (.slice none 0 0) := ⟨_, rfl⟩
        rw [← hwf]
        have hfw : Whole wf w.heap.size 44 #[.int .i64 0, .int .i64 0, .slice none 0 0] := by rw [hwf]; exact ((W5.out.put 0 _).put 1 _).put 2 _
        have hfb : Below w.heap.size w wf := by rw [hwf]; exact (((B5.out.setCell (Nat.le_refl _) _).setCell (Nat.le_refl _) _).setCell (Nat.le_refl _) _)
        have e0 : wf.cell? ⟨w.heap.size, 0, none⟩ = some (.int .i64 0) := hfw.cell 0
        have e1 : wf.cell? ⟨w.heap.size, 1, none⟩ = some (.int .i64 0) := hfw.cell 1
        have e2 : wf.cell? ⟨w.heap.size, 2, none⟩ = some (.slice none 0 0) := hfw.cell 2
        clear hwf
        exact bodyPost_ret (v := frV 0 0 (.slice none 0 0) 0 3) (by simp [results, Try.results16, go_sem, e0, e1, e2, frV]) rfl (FrameIs.bad_ DP.out hfb)
      case pos =>
        have HK := Lib.hid hk
        have e0 : (b.getD 0 0).toNat = K := by rw [EK.out, HX.out, head_kind b h0]
        have HPK : Hid (P = if b.length < 7 then .more else if 4088 < flen b then .bad else if b.length < 8 + flen b then .more else if (b.getD (7 + flen b) 0).toNat = 206 then .ok K (nat ((b.drop 1).take 2)) ((b.drop 7).take (flen b)) else .bad) := Lib.hid (by rw [HP.out]; unfold frameP; rw [if_neg (by omega), e0, if_neg (by rw [HK.out]; simp)])
        clear hk e0
        by_cases h7 : b.length < 7
        · have hS0 : S = 0 := by rw [ES.out, HX.out]; exact (head_short b h7).1
          have hb1 : bad = true := by rw [EB.out, HX.out, (head_short b h7).2, Bool.or_true]
          have DP : Hid (P = .more) := Lib.hid (by rw [HPK.out, if_pos h7])
          subst hS0 hb1
          go_wp2_with fail
          refine (isKind_any _ _).mono ?_
          rintro e w6 ⟨rfl, hw6⟩
          subst hw6
          rw [HK.out]
          go_wp2_with fail
          refine (in_ok g _ _ _ I5.out).mono ?_
          rintro e w6 ⟨rfl, hw6⟩
          subst hw6
          go_wp2_with fail
          obtain ⟨wf, hwf⟩ : ∃ wf, wf = ((w4.setCell ⟨w.heap.size, 0, none⟩ (.int .i64 0)).setCell ⟨w.heap.size, 1, none⟩ (.int .i64 0)).setCell ⟨w.heap.size, 2, none⟩ (.slice none 0 0) := ⟨_, rfl⟩
          rw [← hwf]
          have hfw : Whole wf w.heap.size 44 #[.int .i64 0, .int .i64 0, .slice none 0 0] := by rw [hwf]; exact ((W5.out.put 0 _).put 1 _).put 2 _
          have hfb : Below w.heap.size w wf := by rw [hwf]; exact (((B5.out.setCell (Nat.le_refl _) _).setCell (Nat.le_refl _) _).setCell (Nat.le_refl _) _)
          have e0 : wf.cell? ⟨w.heap.size, 0, none⟩ = some (.int .i64 0) := hfw.cell 0
          have e1 : wf.cell? ⟨w.heap.size, 1, none⟩ = some (.int .i64 0) := hfw.cell 1
          have e2 : wf.cell? ⟨w.heap.size, 2, none⟩ = some (.slice none 0 0) := hfw.cell 2
          clear hwf
          exact bodyPost_ret (v := frV 0 0 (.slice none 0 0) 0 2) (by simp [results, Try.results16, go_sem, e0, e1, e2, frV]) rfl (FrameIs.more_ DP.out hfb)
        · obtain ⟨q1, q2, q3, q4, q5⟩ := head_whole b (by omega)
          have hb1 : bad = false := by rw [EB.out, HX.out, q3, q4, q5]; rfl
          have ESb : Hid (S = flen b) := Lib.hid (by rw [ES.out, HX.out, q2])
          have EHb : Hid (H = nat ((b.drop 1).take 2)) := Lib.hid (by rw [EH.out, HX.out, q1])
          have HPS : Hid (P = if 4088 < S then .bad else if b.length < 8 + S then .more else if (b.getD (7 + S) 0).toNat = 206 then .ok K H ((b.drop 7).take S) else .bad) := Lib.hid (by rw [HPK.out, if_neg h7, ESb.out, EHb.out])
          subst hb1
          clear q1 q2 q3 q4 q5
          by_cases h8 : 4088 < S
          · have DP : Hid (P = .bad) := Lib.hid (by rw [HPS.out, if_pos h8])
            have h8' : (4088 : Int) < S := by omega
            go_wp2_with fail
            refine (isKind_any _ _).mono ?_
            rintro e w6 ⟨rfl, hw6⟩
            subst hw6
            rw [HK.out]
            go_wp2_with fail
            obtain ⟨wf, hwf⟩ : ∃ wf, wf = ((w4.setCell ⟨w.heap.size, 0, none⟩ (.int .i64 0)).setCell ⟨w.heap.size, 1, none⟩ (.int .i64 0)).setCell ⟨w.heap.size, 2, none⟩ (.slice none 0 0) := ⟨_, rfl⟩
            rw [← hwf]
            have hfw : Whole wf w.heap.size 44 #[.int .i64 0, .int .i64 0, .slice none 0 0] := by rw [hwf]; exact ((W5.out.put 0 _).put 1 _).put 2 _
            have hfb : Below w.heap.size w wf := by rw [hwf]; exact (((B5.out.setCell (Nat.le_refl _) _).setCell (Nat.le_refl _) _).setCell (Nat.le_refl _) _)
            have e0 : wf.cell? ⟨w.heap.size, 0, none⟩ = some (.int .i64 0) := hfw.cell 0
            have e1 : wf.cell? ⟨w.heap.size, 1, none⟩ = some (.int .i64 0) := hfw.cell 1
            have e2 : wf.cell? ⟨w.heap.size, 2, none⟩ = some (.slice none 0 0) := hfw.cell 2
            clear hwf
            exact bodyPost_ret (v := frV 0 0 (.slice none 0 0) 0 3) (by simp [results, Try.results16, go_sem, e0, e1, e2, frV]) rfl (FrameIs.bad_ DP.out hfb)
          · have h8' : (S : Int) ≤ 4088 := by omega
            by_cases h9 : b.length < 8 + S
            · have DP : Hid (P = .more) := Lib.hid (by rw [HPS.out, if_neg h8, if_pos h9])
              have h9' : (b.length : Int) ≤ 7 + S := by omega
              go_wp2_with fail
              refine (isKind_any _ _).mono ?_
              rintro e w6 ⟨rfl, hw6⟩
              subst hw6
              rw [HK.out]
              go_wp2_with fail
              refine (in_ok g _ _ _ I5.out).mono ?_
              rintro e w6 ⟨rfl, hw6⟩
              subst hw6
              go_wp2_with fail
              obtain ⟨wf, hwf⟩ : ∃ wf, wf = ((w4.setCell ⟨w.heap.size, 0, none⟩ (.int .i64 0)).setCell ⟨w.heap.size, 1, none⟩ (.int .i64 0)).setCell ⟨w.heap.size, 2, none⟩ (.slice none 0 0) := ⟨_, rfl⟩
              rw [← hwf]
              have hfw : Whole wf w.heap.size 44 #[.int .i64 0, .int .i64 0, .slice none 0 0] := by rw [hwf]; exact ((W5.out.put 0 _).put 1 _).put 2 _
              have hfb : Below w.heap.size w wf := by rw [hwf]; exact (((B5.out.setCell (Nat.le_refl _) _).setCell (Nat.le_refl _) _).setCell (Nat.le_refl _) _)
              have e0 : wf.cell? ⟨w.heap.size, 0, none⟩ = some (.int .i64 0) := hfw.cell 0
              have e1 : wf.cell? ⟨w.heap.size, 1, none⟩ = some (.int .i64 0) := hfw.cell 1
              have e2 : wf.cell? ⟨w.heap.size, 2, none⟩ = some (.slice none 0 0) := hfw.cell 2
              clear hwf
              exact bodyPost_ret (v := frV 0 0 (.slice none 0 0) 0 2) (by simp [results, Try.results16, go_sem, e0, e1, e2, frV]) rfl (FrameIs.more_ DP.out hfb)
            · have h9' : (7 : Int) + S < (b.length : Int) := by omega
              have hlb : b ≠ [] := by intro h; rw [h] at h0; simp at h0
              obtain ⟨bk, o, rfl, hbk, hcell⟩ := HL.out.octets.resolve_left hlb
              have hce : w4.cell? ⟨bk, o + (7 + S), none⟩ = some (.int .u8 ((b.getD (7 + S) 0).toNat : Int)) := by
                have h := hcell (7 + S) (by omega)
                rw [show b.getD (7 + S) 0 = b[7 + S] from by simp [List.getD, show 7 + S < b.length from by omega]]
                rw [← h]
                exact B5.out.cell (p := ⟨bk, o + (7 + S), none⟩) (by simp; omega)
              clear hcell
              generalize hq : b.getD (7 + S) 0 = q at *
              by_cases h206 : q.toNat = 206
              · have DP : Hid (P = .ok K H ((b.drop 7).take S)) := Lib.hid (by rw [HPS.out, if_neg h8, if_neg h9, if_pos h206])
                rw [h206] at hce
                clear hq h206
                go_wp2_with fail
                refine (isKind_any _ _).mono ?_
                rintro e w6 ⟨rfl, hw6⟩
                subst hw6
                rw [HK.out]
                go_wp2_with fail
                refine (in_ok g _ _ _ I5.out).mono ?_
                rintro e w6 ⟨rfl, hw6⟩
                subst hw6
                go_wp2_with fail
                obtain ⟨Y, hY⟩ : ∃ Y, Y = (b.drop 7).take S := ⟨_, rfl⟩
                have hYl : S = Y.length := by rw [hY, List.length_take, List.length_drop]; omega
                have LY : Lies w4 B (some ⟨bk, o + 7, none⟩) (B8 Y) := by
                  have h := ((HL.out.drop 7 c (by rw [B8_length]; omega) (by rw [B8_length]; omega)).take S).below (B5.out.mono hB)
                  rw [if_neg (by omega), B8, ← List.map_drop, ← List.map_take, ← hY] at h
                  rw [show (some (⟨bk, o, none⟩ : Addr)).map (·.add 7) = some ⟨bk, o + 7, none⟩ from by simp [Addr.add]] at h
                  exact h
                have HLY := Lib.hid LY
                have HYL := Lib.hid hYl
                have DPY : Hid (P = .ok K H Y) := Lib.hid (by rw [DP.out, hY])
                have z5 := B5.out.size
                clear hY hYl LY
                refine (clone_at _ _ S Y B _ HYL.out HLY.out (by omega) (by have := HYL.out; omega)).mono ?_
                rintro e w5 ⟨v5, rfl, hown, hb⟩
                rw [← HYL.out] at hown
                obtain ⟨A5, c5, rfl, hc5, hm5⟩ := own_form hown
                have O5 := Lib.hid hown
                have hF4 := F5.out.lt
                have F6 := Lib.hid (F5.out.below hb hF4)
                have W6 := Lib.hid (W5.out.below hb (by omega))
                have B6 := Lib.hid (B5.out.trans (hb.mono z5))
                clear hown hb k0 k1 k2 f2 r0 r1 r2 fr0 fr1 fr2 hce
                have f2 : w5.frozen? ⟨F, 2, none⟩ = false := F6.out.frozen 2
                have k2 : w5.cell? ⟨F, 2, none⟩ = some (.slice none 0 0) := F6.out.cell 2
                go_upto_region 15 with fail
                obtain ⟨wb, hwb⟩ : ∃ wb, wb = w5.setCell ⟨F, 2, none⟩ (.slice A5 S c5) := ⟨_, rfl⟩
                rw [← hwb]
                have F7 := Lib.hid (F6.out.put 2 (.slice A5 S c5))
                have hg7 : Below w.heap.size w5 wb := by rw [hwb]; exact (Below.refl _ _).setCell (by show w.heap.size ≤ F; omega) _
                have ho7 : w5.grownBy wb (some F) := by rw [hwb]; exact only_set (only_refl _ _) _ _
                rw [← hwb] at F7
                have B7 := Lib.hid (B6.out.trans hg7)
                have W7 := Lib.hid (W6.out.grown ho7 (by simp; omega))
                have O7 := Lib.hid (own_keep O5.out ho7 hF4)
                clear hg7 ho7 k2 f2
                have k0 : wb.cell? ⟨F, 0, none⟩ = some (.int .i64 K) := F7.out.cell 0
                have k1 : wb.cell? ⟨F, 1, none⟩ = some (.int .i64 H) := F7.out.cell 1
                have k2 : wb.cell? ⟨F, 2, none⟩ = some (.slice A5 S c5) := F7.out.cell 2
                have r0 : wb.cell? ⟨w.heap.size, 0, none⟩ = some (.int .i64 0) := W7.out.cell 0
                have r1 : wb.cell? ⟨w.heap.size, 1, none⟩ = some (.int .i64 0) := W7.out.cell 1
                have r2 : wb.cell? ⟨w.heap.size, 2, none⟩ = some (.slice none 0 0) := W7.out.cell 2
                have fr0 : wb.frozen? ⟨w.heap.size, 0, none⟩ = false := W7.out.frozen 0
                have fr1 : wb.frozen? ⟨w.heap.size, 1, none⟩ = false := W7.out.frozen 1
                have fr2 : wb.frozen? ⟨w.heap.size, 2, none⟩ = false := W7.out.frozen 2
                clear hwb
                go_wp2_with fail
                obtain ⟨wf, hwf⟩ : ∃ wf, wf = ((wb.setCell ⟨w.heap.size, 0, none⟩ (.int .i64 K)).setCell ⟨w.heap.size, 1, none⟩ (.int .i64 H)).setCell ⟨w.heap.size, 2, none⟩ (.slice A5 S c5) := ⟨_, rfl⟩
                rw [← hwf]
                have hfw : Whole wf w.heap.size 44 #[.int .i64 K, .int .i64 H, .slice A5 S c5] := by rw [hwf]; exact ((W7.out.put 0 _).put 1 _).put 2 _
                have hfb : Below w.heap.size w wf := by rw [hwf]; exact (((B7.out.setCell (Nat.le_refl _) _).setCell (Nat.le_refl _) _).setCell (Nat.le_refl _) _)
                have e0 : wf.cell? ⟨w.heap.size, 0, none⟩ = some (.int .i64 K) := hfw.cell 0
                have e1 : wf.cell? ⟨w.heap.size, 1, none⟩ = some (.int .i64 H) := hfw.cell 1
                have e2 : wf.cell? ⟨w.heap.size, 2, none⟩ = some (.slice A5 S c5) := hfw.cell 2
                have hof := own_keep (own_keep (own_keep O7.out (only_set (only_refl wb (some w.heap.size)) 0 (.int .i64 K)) (by omega)) (only_set (only_refl _ (some w.heap.size)) 1 (.int .i64 H)) (by omega)) (only_set (only_refl _ (some w.heap.size)) 2 (.slice A5 S c5)) (by omega)
                rw [← hwf] at hof
                clear hwf
                exact bodyPost_ret (v := frV K H (.slice A5 S c5) (7 + S + 1) 0) (by simp [results, Try.results16, go_sem, e0, e1, e2, frV]) rfl (FrameIs.ok_ (k := K) (ch := H) (b := Y) DPY.out hfb A5 c5 S (7 + S + 1) HYL.out (by omega) hc5 hm5 (Lies.own hof (Nat.le_refl _)) (own_at_base hof (by omega)))
              · have DP : Hid (P = .bad) := Lib.hid (by rw [HPS.out, if_neg h8, if_neg h9, if_neg h206])
                have hq1 : ((q.toNat : Int) == 206) = false := by simp; omega
                have hq2 : ((q.toNat : Int) != 206) = true := by simp; omega
                clear hq
                go_wp2_with fail
                refine (isKind_any _ _).mono ?_
                rintro e w6 ⟨rfl, hw6⟩
                subst hw6
                rw [HK.out]
                go_wp2_with fail
                refine (in_ok g _ _ _ I5.out).mono ?_
                rintro e w6 ⟨rfl, hw6⟩
                subst hw6
                go_wp2_with fail
                obtain ⟨wf, hwf⟩ : ∃ wf, wf = ((w4.setCell ⟨w.heap.size, 0, none⟩ (.int .i64 0)).setCell ⟨w.heap.size, 1, none⟩ (.int .i64 0)).setCell ⟨w.heap.size, 2, none⟩ (.slice none 0 0) := ⟨_, rfl⟩
                rw [← hwf]
                have hfw : Whole wf w.heap.size 44 #[.int .i64 0, .int .i64 0, .slice none 0 0] := by rw [hwf]; exact ((W5.out.put 0 _).put 1 _).put 2 _
                have hfb : Below w.heap.size w wf := by rw [hwf]; exact (((B5.out.setCell (Nat.le_refl _) _).setCell (Nat.le_refl _) _).setCell (Nat.le_refl _) _)
                have e0 : wf.cell? ⟨w.heap.size, 0, none⟩ = some (.int .i64 0) := hfw.cell 0
                have e1 : wf.cell? ⟨w.heap.size, 1, none⟩ = some (.int .i64 0) := hfw.cell 1
                have e2 : wf.cell? ⟨w.heap.size, 2, none⟩ = some (.slice none 0 0) := hfw.cell 2
                clear hwf
                exact bodyPost_ret (v := frV 0 0 (.slice none 0 0) 0 3) (by simp [results, Try.results16, go_sem, e0, e1, e2, frV]) rfl (FrameIs.bad_ DP.out hfb)
end Go.Proofs.Ytfajkbegmmlmjaa
