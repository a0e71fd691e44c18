/- The walk of the law on what is cut off. -/
import Derived.Test.YtpfenhlclegalaaAwake
import Derived.Test.YtpfenhlclegalaaConv
import Derived.Test.YtpfenhlclegalaaWords3
import Derived.Deep.DeepCutAuto
namespace Go.Proofs.Ytpfenhlclegalaa
open Go.RowKit

theorem short_list (A : Option Addr) (c : Nat) (l : List UInt8) (B : Nat) (S : List UInt8) (w : World) (hl : Lies w B A (B8 l)) (hB : B ≤ w.heap.size) (hs : l.length + 264 ≤ 140737488355328) (h255 : S.length ≤ 255) :
    Calls Try.prog 9 #[.slice A l.length c, .string ⟨S.toArray⟩] w (NewOctsOk w.heap.size (l ++ be 1 S.length ++ S) true w) :=
  short_any A c l B ⟨S.toArray⟩ w hl hB hs h255

theorem cuts_long (S : List UInt8) (v : Nat) (cut : Int) (w : World) (h : 200 < S.length) (hm : S.length ≤ maxLen) :
    Calls Try.prog 3 #[.string ⟨S.toArray⟩, .int .u64 v, .int .i64 cut] w fun e w' => e = .returned (.bool true) ∧ Below w.heap.size w w' := by
  unfold maxLen at hm
  go_enter Try.func3, Try.ntmps3
  go_wp2_with (go_at_call 8; refine (awake_any _).mono ?_; rintro e w4 ⟨rfl, hb4⟩)
  go_ret
  exact ⟨rfl, hb4⟩

theorem empty_or (S : List UInt8) : S = [] ∨ (([] : List UInt8) == S) = false ∧ (S == []) = false ∧ S.isEmpty = false := by
  cases S
  · exact .inl rfl
  · exact .inr ⟨rfl, rfl, rfl⟩
theorem cuts_any (S : List UInt8) (v : Nat) (cut : Int) (w : World) (hv : v < 18446744073709551616) (h : S.length ≤ 200) :
    Calls Try.prog 3 #[.string ⟨S.toArray⟩, .int .u64 v, .int .i64 cut] w fun e w' => e = .returned (.bool true) ∧ Below w.heap.size w w' := by
  go_enter Try.func3, Try.ntmps3
  go_wp2_with fail
  refine (int_any none 0 [] 0 4 v _ (Lies.empty _ _ _) (Nat.zero_le _) (by simp)).mono ?_
  rintro e w1 ⟨v1, rfl, ho, hb⟩
  rw [show wid 4 = 4 from rfl, List.nil_append] at ho
  have B1 := Lib.hid hb
  obtain ⟨A, c, rfl, _, _⟩ := own_form ho
  have L1 := Lib.hid (Lies.own ho (Nat.le_refl _))
  clear ho hb
  go_wp2_with fail
  refine (short_list A c (be 4 v) w1.heap.size S _ L1.out (Nat.le_refl _) (by rw [be_length]; omega) (by omega)).mono ?_
  rintro e w2 ⟨v2, rfl, ho, hb⟩
  have B2 := Lib.hid (B1.out.trans (hb.mono B1.out.size))
  obtain ⟨T, hT⟩ : ∃ T, T = be 4 v ++ be 1 S.length ++ S := ⟨_, rfl⟩
  rw [← hT] at ho
  have hTl : T.length = 5 + S.length := by rw [hT]; simp [be_length]; omega
  have hTb : T.length ≤ 205 := by omega
  have HT := Lib.hid hT
  have HTL := Lib.hid hTl
  clear hT hTl
  obtain ⟨A2, c2, rfl, _, _⟩ := own_form ho
  have L2 := Lib.hid (Lies.own ho (Nat.le_refl _))
  clear ho hb
  have cv := Lib.run_convert_string_bytes (P := Try.prog) w2 9 24 5 ⟨S.toArray⟩ Try.underlying9 Try.underlying24 Try.underlying5
  have LS := Lib.hid (bytes_lie w2 5 S)
  have BS := bytes_below w2 5 ⟨S.toArray⟩
  have B3 := Lib.hid (B2.out.trans (BS.mono B2.out.size))
  have L3 := Lib.hid (L2.out.below BS)
  have hsz : (Lib.bytesWorld w2 5 ⟨S.toArray⟩).heap.size = w2.heap.size + 1 := Lib.bytesWorld_size _ _ _
  have HSZ := Lib.hid hsz
  generalize Lib.bytesWorld w2 5 ⟨S.toArray⟩ = w3 at *
  generalize grownCap w2 (ByteArray.size ⟨S.toArray⟩) 0 5 = c3 at *
  clear BS hsz
  go_wp2_with fail
  refine (long_any A2 c2 T (w2.heap.size + 1) (some ⟨w2.heap.size, 0, none⟩) c3 S _ (L3.out.more (by omega)) LS.out (by rw [HSZ.out]; omega) (by omega)).mono ?_
  rintro e w4 ⟨v4, rfl, ho, hb⟩
  have B4 := Lib.hid (B3.out.trans (hb.mono B3.out.size))
  obtain ⟨U, hU⟩ : ∃ U, U = T ++ be 4 S.length ++ S := ⟨_, rfl⟩
  rw [← hU] at ho
  have hUl : U.length = 9 + S.length + S.length := by rw [hU, List.length_append, List.length_append, be_length, HTL.out]; omega
  have hUb : U.length ≤ 409 := by omega
  have HU := Lib.hid hU
  have HUL := Lib.hid hUl
  clear hU hUl
  obtain ⟨A4, c4, rfl, hc4, hm4⟩ := own_form ho
  have L4 := Lib.hid (Lies.own ho (Nat.le_refl _))
  clear ho hb
  unfold maxLen at hm4
  obtain ⟨m, hm, _, em⟩ := mask_is cut 65535 16 (by omega) rfl
  rw [show 2 ^ 16 = 65536 from rfl] at hm
  obtain ⟨q, hq, eq⟩ : ∃ q : Nat, q ≤ U.length ∧ (m : Int) % ((U.length : Int) + 1) = (q : Int) :=
    ⟨m % (U.length + 1), by have := Nat.mod_lt m (show 0 < U.length + 1 by omega); omega, by rw [Int.natCast_emod]; rfl⟩
  have hqc : q ≤ c4 := by omega
  go_wp2_with fail
  have LQ : Lies w4 w4.heap.size A4 (B8 (U.take q)) := by
    have := L4.out.take q
    rwa [B8, ← List.map_take] at this
  have hql : (U.take q).length = q := by rw [List.length_take]; omega
  obtain ⟨Q, hQ⟩ : ∃ Q, Q = U.take q := ⟨_, rfl⟩
  rw [← hQ] at LQ hql
  have HQ := Lib.hid hQ
  have HQL := Lib.hid hql
  have LQ' := Lib.hid LQ
  subst hql
  clear hQ LQ HQL
  refine (from_any A4 c4 Q w4.heap.size _ LQ'.out (Nat.le_refl _) (by omega)).mono ?_
  rintro e w5 ⟨g, hg, rfl, hi, hb⟩
  have hg' : w.heap.size ≤ g := by have := B4.out.size; omega
  have B5 := Lib.hid (B4.out.trans (hb.mono B4.out.size))
  have I5 := Lib.hid hi
  clear hi hb hg
  go_wp2_with fail
  refine (in_int g 4 _ _ _ I5.out).mono ?_
  rintro e w6 ⟨rfl, hi, hb⟩
  rw [show wid 4 = 4 from rfl] at hi ⊢
  have B6 := Lib.hid (B5.out.trans (below_only hb hg' B5.out.size))
  have I6 := Lib.hid hi
  clear hi hb
  obtain ⟨M, hM⟩ : ∃ M, M = nat (tk 4 Q) := ⟨_, rfl⟩
  rw [← hM]
  have HM := Lib.hid hM
  clear hM
  go_wp2_with fail
  refine (in_short g _ _ _ I6.out).mono ?_
  rintro e w7 ⟨rfl, hi, hb⟩
  have B7 := Lib.hid (B6.out.trans (below_only hb hg' B6.out.size))
  have I7 := Lib.hid hi
  clear hi hb
  obtain ⟨X, hX⟩ : ∃ X, X = txt 1 (rst 4 Q) := ⟨_, rfl⟩
  rw [← hX]
  have HX := Lib.hid hX
  clear hX
  go_wp2_with fail
  have hl7 : (txtRest 1 (rst 4 Q)).length ≤ 409 := Nat.le_trans (txtRest_sub _ _) (Nat.le_trans (rst_sub _ _) (by omega))
  refine (in_long g _ _ _ I7.out (by omega)).mono ?_
  rintro e w8 ⟨v8, rfl, ho, hi, hb⟩
  have BE := Lib.hid (B7.out.trans (below_only hb hg' B7.out.size))
  have I8 := Lib.hid hi
  obtain ⟨Y, hY⟩ : ∃ Y, Y = txt 4 (txtRest 1 (rst 4 Q)) := ⟨_, rfl⟩
  rw [← hY] at ho
  have HY := Lib.hid hY
  clear hi hb hY hl7
  obtain ⟨A8, c8, rfl, hc8, hm8⟩ := own_form ho
  have cv8 := run_octets_string (P := Try.prog) 24 9 5 Try.underlying24 Try.underlying5 Try.underlying9 (Lies.own ho (Nat.le_refl _)) c8
  clear ho hc8 hm8
  have hq5 : Q = (be 4 v ++ be 1 S.length ++ S ++ be 4 S.length ++ S).take Q.length := by
    have e := HQ.out
    rw [HU.out, HT.out] at e
    exact e
  obtain ⟨r1, r2, r3, r4, r5⟩ := cut_reads S v Q.length h Q hq5
  rw [← HM.out] at r1
  rw [← HX.out] at r2
  rw [← HY.out] at r3
  have I9 := I8.out
  rw [r4, r5] at I9
  have I10 := Lib.hid I9
  obtain ⟨V, hV⟩ : ∃ V, V = v % 4294967296 := ⟨_, rfl⟩
  have ev : bits .and .u64 (v : Int) 4294967295 = (V : Int) := by
    rw [hV]; exact mask_low32 v hv
  rw [← hV] at r1
  have HV := Lib.hid hV
  clear hV hq5 r4 r5 I9 I8 I7 I6 I5 HM HX HY HQ HU HT HTL
  have R1 := Lib.hid r1
  have R2 := Lib.hid r2
  have R3 := Lib.hid r3
  clear r1 r2 r3
  go_upto_region 11 with fail
  have hUl := HUL.out
  have r1 := R1.out
  have r2 := R2.out
  have r3 := R3.out
  clear R1 R2 R3
  rcases Nat.lt_or_ge Q.length (9 + S.length + S.length) with h3 | h3
  · have i1 := I10.out
    rw [decide_eq_false (by omega)] at i1
    have I11 := Lib.hid i1
    rw [if_neg (by omega)] at r3
    have d1 : ((Q.length : Int) == (U.length : Int)) = false := by simp; omega
    clear i1 hUl
    have E := empty_or S
    rcases Nat.lt_or_ge Q.length (5 + S.length) with h2 | h2
    · have d3 : ¬ (5 + (S.length : Int) ≤ (Q.length : Int)) := by omega
      rw [if_neg (by omega)] at r2
      rcases Nat.lt_or_ge Q.length 4 with h1 | h1
      · have d2 : ¬ ((4 : Int) ≤ (Q.length : Int)) := by omega
        rw [if_neg (by omega)] at r1
        subst M X Y
        have cv9 : (convert 24 9 (.slice A8 0 c8)).run Try.prog w8 = .ok (.string ⟨#[]⟩) w8 := cv8
        clear cv8
        by_cases hV0 : V = 0
        · subst hV0
          rcases E with rfl | ⟨e1, e2, e3⟩
          · go_wp2_with (first
      | (go_at_call 16; refine (in_ok g _ _ _ I11.out).mono ?_; rintro e w' ⟨rfl, rfl⟩)
      | (go_at_call 17; refine (in_left g _ _ _ I11.out).mono ?_; rintro e w' ⟨rfl, rfl⟩)
      | (go_at_call 8; refine (awake_any _).mono ?_; rintro e w9 ⟨rfl, hb9⟩))
            go_ret
            exact ⟨rfl, BE.out.trans (hb9.mono BE.out.size)⟩
          · go_wp2_with (first
      | (go_at_call 16; refine (in_ok g _ _ _ I11.out).mono ?_; rintro e w' ⟨rfl, rfl⟩)
      | (go_at_call 17; refine (in_left g _ _ _ I11.out).mono ?_; rintro e w' ⟨rfl, rfl⟩)
      | (go_at_call 8; refine (awake_any _).mono ?_; rintro e w9 ⟨rfl, hb9⟩))
            go_ret
            exact ⟨rfl, BE.out.trans (hb9.mono BE.out.size)⟩
        · have v1 : ((V : Int) == 0) = false := by simp; omega
          have v2 : ((0 : Int) == (V : Int)) = false := by simp; omega
          rcases E with rfl | ⟨e1, e2, e3⟩
          · go_wp2_with (first
      | (go_at_call 16; refine (in_ok g _ _ _ I11.out).mono ?_; rintro e w' ⟨rfl, rfl⟩)
      | (go_at_call 17; refine (in_left g _ _ _ I11.out).mono ?_; rintro e w' ⟨rfl, rfl⟩)
      | (go_at_call 8; refine (awake_any _).mono ?_; rintro e w9 ⟨rfl, hb9⟩))
            go_ret
            exact ⟨rfl, BE.out.trans (hb9.mono BE.out.size)⟩
          · go_wp2_with (first
      | (go_at_call 16; refine (in_ok g _ _ _ I11.out).mono ?_; rintro e w' ⟨rfl, rfl⟩)
      | (go_at_call 17; refine (in_left g _ _ _ I11.out).mono ?_; rintro e w' ⟨rfl, rfl⟩)
      | (go_at_call 8; refine (awake_any _).mono ?_; rintro e w9 ⟨rfl, hb9⟩))
            go_ret
            exact ⟨rfl, BE.out.trans (hb9.mono BE.out.size)⟩
      · have d2 : (4 : Int) ≤ (Q.length : Int) := by omega
        rw [if_pos (by omega)] at r1
        subst M X Y
        have cv9 : (convert 24 9 (.slice A8 0 c8)).run Try.prog w8 = .ok (.string ⟨#[]⟩) w8 := cv8
        clear cv8
        rcases E with rfl | ⟨e1, e2, e3⟩
        · have d4 : ¬ ((5 : Int) ≤ (Q.length : Int)) := by simpa using d3
          go_wp2_with (first
      | (go_at_call 16; refine (in_ok g _ _ _ I11.out).mono ?_; rintro e w' ⟨rfl, rfl⟩)
      | (go_at_call 17; refine (in_left g _ _ _ I11.out).mono ?_; rintro e w' ⟨rfl, rfl⟩)
      | (go_at_call 8; refine (awake_any _).mono ?_; rintro e w9 ⟨rfl, hb9⟩))
          go_ret
          exact ⟨rfl, BE.out.trans (hb9.mono BE.out.size)⟩
        · go_wp2_with (first
      | (go_at_call 16; refine (in_ok g _ _ _ I11.out).mono ?_; rintro e w' ⟨rfl, rfl⟩)
      | (go_at_call 17; refine (in_left g _ _ _ I11.out).mono ?_; rintro e w' ⟨rfl, rfl⟩)
      | (go_at_call 8; refine (awake_any _).mono ?_; rintro e w9 ⟨rfl, hb9⟩))
          go_ret
          exact ⟨rfl, BE.out.trans (hb9.mono BE.out.size)⟩
    · have d3 : 5 + (S.length : Int) ≤ (Q.length : Int) := by omega
      have d2 : (4 : Int) ≤ (Q.length : Int) := by omega
      rw [if_pos (by omega)] at r1 r2
      subst M X Y
      have cv9 : (convert 24 9 (.slice A8 0 c8)).run Try.prog w8 = .ok (.string ⟨#[]⟩) w8 := cv8
      clear cv8
      rcases E with rfl | ⟨e1, e2, e3⟩
      · go_wp2_with (first
      | (go_at_call 16; refine (in_ok g _ _ _ I11.out).mono ?_; rintro e w' ⟨rfl, rfl⟩)
      | (go_at_call 17; refine (in_left g _ _ _ I11.out).mono ?_; rintro e w' ⟨rfl, rfl⟩)
      | (go_at_call 8; refine (awake_any _).mono ?_; rintro e w9 ⟨rfl, hb9⟩))
        go_ret
        exact ⟨rfl, BE.out.trans (hb9.mono BE.out.size)⟩
      · go_wp2_with (first
      | (go_at_call 16; refine (in_ok g _ _ _ I11.out).mono ?_; rintro e w' ⟨rfl, rfl⟩)
      | (go_at_call 17; refine (in_left g _ _ _ I11.out).mono ?_; rintro e w' ⟨rfl, rfl⟩)
      | (go_at_call 8; refine (awake_any _).mono ?_; rintro e w9 ⟨rfl, hb9⟩))
        go_ret
        exact ⟨rfl, BE.out.trans (hb9.mono BE.out.size)⟩
  · have hd : Q.length = U.length := by omega
    rw [if_pos (by omega)] at r1 r2 r3
    subst M X Y
    have i1 := I10.out
    rw [decide_eq_true h3] at i1
    have I11 := Lib.hid i1
    have d1 : ((Q.length : Int) == (U.length : Int)) = true := by simp; omega
    have d2 : (4 : Int) ≤ (Q.length : Int) := by omega
    have d3 : 5 + (S.length : Int) ≤ (Q.length : Int) := by omega
    clear i1 hd hUl
    go_wp2_with (first
      | (go_at_call 16; refine (in_ok g _ _ _ I11.out).mono ?_; rintro e w' ⟨rfl, rfl⟩)
      | (go_at_call 17; refine (in_left g _ _ _ I11.out).mono ?_; rintro e w' ⟨rfl, rfl⟩)
      | (go_at_call 8; refine (awake_any _).mono ?_; rintro e w9 ⟨rfl, hb9⟩))
    go_ret
    exact ⟨rfl, BE.out.trans (hb9.mono BE.out.size)⟩
end Go.Proofs.Ytpfenhlclegalaa
