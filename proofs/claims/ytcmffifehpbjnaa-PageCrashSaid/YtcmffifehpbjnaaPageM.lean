/- Layer 9: which pages can be kept; which others there are; Keep. -/
import Derived.Test.YtcmffifehpbjnaaPageK
namespace Go.Proofs.Ytcmffifehpbjnaa
open Go.RowKit Go.Maps
set_option maxRecDepth 100000
set_option linter.unusedSimpArgs false
set_option linter.unusedVariables false
def okAt (n : Nat) (l : List Int) (j : Nat) : Prop := 2 ≤ l.getD j 0 ∧ l.getD j 0 < (n : Int) ∧ (0 < j → l.getD (j - 1) 0 < l.getD j 0)
instance (n : Nat) (l : List Int) (j : Nat) : Decidable (okAt n l j) := by unfold okAt; infer_instance
def keepsB (n : Nat) (l : List Int) : Bool := decide (∀ j, j < l.length → okAt n l j)
/-- the pages from id on that are none of ids -/
def othP : List Int → Nat → Nat → List Int
  | _, _, 0 => []
  | [], id, k + 1 => (id : Int) :: othP [] (id + 1) k
  | x :: r, id, k + 1 => if x = (id : Int) then othP r (id + 1) k else (id : Int) :: othP (x :: r) (id + 1) k
theorem othP_num : ∀ (k : Nat) (ids : List Int) (id : Nat), 2 ≤ id → id + k ≤ 1000001 → ∀ x ∈ othP ids id k, 2 ≤ x ∧ x ≤ 1000000 := by
  intro k
  induction k with
  | zero => intro ids id _ _ x hx; cases ids <;> simp [othP] at hx
  | succ k ih =>
    intro ids id h1 h2 x hx
    cases ids with
    | nil =>
      simp only [othP, List.mem_cons] at hx
      rcases hx with rfl | hx
      · omega
      · exact ih _ _ (by omega) (by omega) x hx
    | cons y r =>
      simp only [othP] at hx
      split at hx
      · exact ih _ _ (by omega) (by omega) x hx
      · rcases List.mem_cons.1 hx with rfl | hx
        · omega
        · exact ih _ _ (by omega) (by omega) x hx
theorem othP_length : ∀ (k : Nat) (ids : List Int) (id : Nat), (othP ids id k).length ≤ k := by
  intro k
  induction k with
  | zero => intro ids id; cases ids <;> simp [othP]
  | succ k ih =>
    intro ids id
    cases ids with
    | nil => simp only [othP, List.length_cons]; have := ih [] (id + 1); omega
    | cons y r =>
      simp only [othP]
      split
      · have := ih r (id + 1); omega
      · simp only [List.length_cons]; have := ih (y :: r) (id + 1); omega
/-- a number of a row, where the row lies -/
theorem lies_z {w : World} {B : Nat} {A : Option Addr} {l : List Int} (h : Lies w B A (cellsZ l)) (i : Nat) (hi : i < l.length) : ∃ b o, A = some ⟨b, o, none⟩ ∧ ∀ j, j < l.length → w.cell? ⟨b, o + j, none⟩ = some (.int .i64 (l.getD j 0)) := by
  rcases h with h | ⟨b, o, rfl, h1, h2⟩
  · have : l = [] := by simpa [cellsZ] using h
    subst this
    simp at hi
  · refine ⟨b, o, rfl, fun j hj => ?_⟩
    refine h2 j _ ?_
    simp [cellsZ, hj, List.getD]
section
variable {B g fb put : Nat} {X : Nat → Prop} {w0 W : World} {S : Dv} {m : Mt} {dead : Bool} {v : Value}
set_option maxHeartbeats 4000000 in
theorem keeps_any (h : FBox W fb g m v put dead) (hd : At B X w0 g S W) (n : Nat) (hn : S.len nmP / 8 = n) (ids : List Int) (A : Option Addr) (c : Nat) (D : Nat) (hl : Lies W D A (cellsZ ids)) (h64 : In64 ids) (hm : ids.length ≤ maxLen) :
    Calls Try.prog 35 #[ptr fb, .slice A ids.length c] W fun e w' => e = .returned (.bool (keepsB n ids)) ∧ W = w' := by
  have hs : S.len nmP ≤ 9000000000000000000 := by have := len_small hd; omega
  have HH := fun (id : Int) => has_any h hd n id hn hs
  have HAS := Lib.hid HH
  have HL := Lib.hid hl
  have H64 := Lib.hid h64
  unfold maxLen at hm
  clear h hd hn hs hl HH h64
  go_enter Try.func35, Try.ntmps35
  go_wp2_with fail
  go_loopw [9] (fun vi wr => ∃ i : Nat, vi = .int .i64 (i : Int) ∧ i ≤ ids.length ∧ (∀ j, j < i → okAt n ids j) ∧ W = wr) (fun vi _ => ids.length - (intOf vi).toNat)
  case atStart => exact ⟨0, rfl, Nat.zero_le _, fun j hj => absurd hj (Nat.not_lt_zero j), rfl⟩
  case round =>
    obtain ⟨i, rfl, hi, hok, rfl⟩ := hrel
    have OK := Lib.hid hok
    clear hok
    by_cases hlt : i < ids.length
    · have hi1 : (i : Int) < (ids.length : Int) := by omega
      obtain ⟨b, o, rfl, hc⟩ := lies_z HL.out i hlt
      have hci := hc i hlt
      obtain ⟨x, hx⟩ : ∃ x, x = ids.getD i 0 := ⟨_, rfl⟩
      rw [← hx] at hci
      have HX := Lib.hid hx
      have hbad : ¬ okAt n ids i → keepsB n ids = false := fun h => decide_eq_false (fun hh => h (hh i hlt))
      have HB := Lib.hid hbad
      clear hx hbad
      by_cases hp : 2 ≤ x ∧ x < (n : Int)
      · have hdec : decide (2 ≤ x ∧ x < (n : Int)) = true := decide_eq_true hp
        have HP := Lib.hid hp
        have hat := HAS.out x
        rw [hdec] at hat
        have HAT := Lib.hid hat
        clear hdec hp hat
        by_cases h0 : i = 0
        · subst h0
          have hok1 : okAt n ids 0 := ⟨by rw [← HX.out]; exact HP.out.1, by rw [← HX.out]; exact HP.out.2, fun h => absurd h (Nat.lt_irrefl 0)⟩
          have OK1 := Lib.hid hok1
          rw [Nat.add_zero] at hci
          clear hc hok1
          go_wp2_with (go_at_call 43; go_must (refine HAT.out.mono ?_); rintro e w1 ⟨rfl, rfl⟩)
          go_roundw
          case rel => exact ⟨1, by go_num, by omega, fun j hj => (by omega : j = 0) ▸ OK1.out, by first | rfl | trivial⟩
          case measure => simp [intOf]; omega
        · have hcp := hc (i - 1) (by omega)
          obtain ⟨p, hp⟩ : ∃ p, p = ids.getD (i - 1) 0 := ⟨_, rfl⟩
          rw [← hp] at hcp
          have HPP := Lib.hid hp
          obtain ⟨q, hq⟩ : ∃ q, i = q + 1 := ⟨i - 1, by omega⟩
          subst hq
          have hw1 : IntKind.i64.wrap (((q + 1 : Nat) : Int) - 1) = (q : Int) := by
            rw [show (((q + 1 : Nat) : Int) - 1) = (q : Int) by omega]
            exact IntWalk.i64_in _ ⟨by omega, by omega⟩
          have hq0 : (0 : Int) < ((q + 1 : Nat) : Int) := by omega
          have hql : (q : Int) < (ids.length : Int) := by omega
          have hql2 : q < ids.length := by omega
          rw [show q + 1 - 1 = q by omega] at hcp HPP
          clear hc hp
          by_cases hle : x ≤ p
          · have hk : keepsB n ids = false := HB.out (fun hh => by
              have h3 := hh.2.2 (by omega)
              rw [show q + 1 - 1 = q by omega, ← HPP.out, ← HX.out] at h3
              omega)
            have HK := Lib.hid hk
            clear hk
            go_wp2_with (go_at_call 43; go_must (refine HAT.out.mono ?_); rintro e w1 ⟨rfl, rfl⟩)
            go_ret
            rw [HK.out]
            exact ⟨rfl, rfl⟩
          · have hok1 : okAt n ids (q + 1) := ⟨by rw [← HX.out]; exact HP.out.1, by rw [← HX.out]; exact HP.out.2, fun _ => by rw [show q + 1 - 1 = q by omega, ← HPP.out, ← HX.out]; omega⟩
            have OK1 := Lib.hid hok1
            clear hok1
            go_wp2_with (go_at_call 43; go_must (refine HAT.out.mono ?_); rintro e w1 ⟨rfl, rfl⟩)
            go_roundw
            case rel => exact ⟨q + 1 + 1, by go_num, by omega, fun j hj => by
                                                                by_cases hjq : j = q + 1
                                                                · subst hjq; exact OK1.out
                                                                · exact OK.out j (by omega), by first | rfl | trivial⟩
            case measure => simp [intOf]; omega
      · have hdec : decide (2 ≤ x ∧ x < (n : Int)) = false := decide_eq_false hp
        have hat := HAS.out x
        rw [hdec] at hat
        have HAT := Lib.hid hat
        have hk : keepsB n ids = false := HB.out (fun hh => hp (by rw [HX.out]; exact ⟨hh.1, hh.2.1⟩))
        have HK := Lib.hid hk
        clear hdec hp hat hk hc
        go_wp2_with (go_at_call 43; go_must (refine HAT.out.mono ?_); rintro e w1 ⟨rfl, rfl⟩)
        go_ret
        rw [HK.out]
        exact ⟨rfl, rfl⟩
    · have hin : i = ids.length := by omega
      have hk : keepsB n ids = true := decide_eq_true (fun j hj => OK.out j (by omega))
      have HK := Lib.hid hk
      subst hin
      clear hk
      go_wp2_with fail
      go_ret
      rw [HK.out]
      exact ⟨rfl, rfl⟩
def OthAt (ids : List Int) (n D : Nat) (W : World) (v0 v5 v6 : Value) (wr : World) : Prop :=
  ∃ (id : Nat) (r : List Int) (A : Option Addr) (c : Nat) (L : List Int), v0 = .slice A r.length c ∧ v6 = .int .i64 (id : Int) ∧ 2 ≤ id ∧ id ≤ max n 2 ∧ r.length ≤ c ∧ c ≤ maxLen ∧ Lies wr D A (cellsZ r) ∧ wr.ownsRow W.heap.size 3 1 v5 L.length (cellsZ L) ∧ Below W.heap.size W wr ∧ L ++ othP r id (n - id) = othP ids 2 (n - 2) ∧ L.length + (n - id) ≤ n
theorem cellsZ_one (l : List Int) : ∀ u ∈ cellsZ l, u.oneCell' = true := fun u hu => by
  obtain ⟨c, _, rfl⟩ := List.mem_map.1 hu
  rfl
theorem cellsZ_length (l : List Int) : (cellsZ l).length = l.length * 1 := by simp [cellsZ]
theorem othP_drop {x : Int} {r : List Int} {id k : Nat} (h : x = (id : Int)) : othP (x :: r) id (k + 1) = othP r (id + 1) k := by simp only [othP]; rw [if_pos h]
theorem othP_take {r : List Int} {id k : Nat} (h : ∀ x r', r = x :: r' → x ≠ (id : Int)) : othP r id (k + 1) = (id : Int) :: othP r (id + 1) k := by
  cases r with
  | nil => rfl
  | cons x r' => simp only [othP]; rw [if_neg (h x r' rfl)]
theorem int_info9 : (Try.prog.info? 3).map (fun i => (i.zero, i.size, i.bytes)) = some (some (.int .i64 0), 1, 8) := by kernel_rfl
set_option maxHeartbeats 4000000 in
theorem others_any (ids : List Int) (A : Option Addr) (c : Nat) (n D : Nat) (hl : Lies W D A (cellsZ ids)) (hD : D ≤ W.heap.size) (hc1 : ids.length ≤ c) (hc2 : c ≤ maxLen) (hn : n ≤ 1000000) (h64 : In64 ids) :
    Calls Try.prog 42 #[.slice A ids.length c, .int .i64 (n : Int)] W fun e w' => ∃ v, e = .returned v ∧ w'.ownsRow W.heap.size 3 1 v (othP ids 2 (n - 2)).length (cellsZ (othP ids 2 (n - 2))) ∧ Below W.heap.size W w' := by
  have HL := Lib.hid hl
  have HD := Lib.hid hD
  have HC := Lib.hid hc1
  clear hl hD h64 hc1
  obtain ⟨i0, hI, hz0, hz1, hz2⟩ := info_parts int_info9
  have HI := Lib.hid hI
  have H0 := Lib.hid hz0
  have H1 := Lib.hid hz1
  have H2 := Lib.hid hz2
  clear hI hz0 hz1 hz2
  go_enter Try.func42, Try.ntmps42
  go_wp2_with fail
  go_loopw [0, 5, 6] (fun v0 v5 v6 wr => OthAt ids n D W v0 v5 v6 wr) (fun _ _ v6 _ => n - (intOf v6).toNat)
  case atStart => exact ⟨2, ids, A, c, [], rfl, rfl, Nat.le_refl _, by omega, HC.out, hc2, HL.out, World.ownsRow_nil _ _ _ _, Below.refl _ _, rfl, by simp⟩
  case round =>
    obtain ⟨id, r, A', c', L, rfl, rfl, hid, hidn, hc1', hc2', hl, hown, hb, heq, hlen⟩ := hrel
    have LR := Lib.hid hl
    have OW := Lib.hid hown
    have BW := Lib.hid hb
    have EQ := Lib.hid heq
    have HC1 := Lib.hid hc1'
    clear hl hown hb heq hc1'
    by_cases hlt : id < n
    · have hi1 : (id : Int) < (n : Int) := by omega
      have hwi : IntKind.i64.wrap ((id : Int) + 1) = (id : Int) + 1 := IntWalk.i64_in _ ⟨by omega, by omega⟩
      obtain ⟨k, hk⟩ : ∃ k, n - id = k + 1 := ⟨n - id - 1, by omega⟩
      have hk2 : n - (id + 1) = k := by omega
      by_cases hx : ∃ x r', r = x :: r' ∧ x = (id : Int)
      · obtain ⟨x, r', rfl, rfl⟩ := hx
        obtain ⟨b, o, rfl, hc⟩ := lies_z LR.out 0 (by simp)
        have hc0 := hc 0 (by simp)
        rw [Nat.add_zero] at hc0
        simp only [List.getD_cons_zero] at hc0
        have hq : L ++ othP r' (id + 1) k = othP ids 2 (n - 2) := by rw [← EQ.out, hk, othP_drop rfl]
        have HQ := Lib.hid hq
        have hlr : Lies wr D (if c' = 1 then some ⟨b, o, none⟩ else some ⟨b, o + 1, none⟩) (cellsZ r') := by
          rcases LR.out with h | ⟨b', o', e, h1, h2⟩
          · simp [cellsZ] at h
          · by_cases hc1 : c' = 1
            · left
              have := HC1.out
              simp at this
              have : r' = [] := List.eq_nil_of_length_eq_zero (by omega)
              simp [this, cellsZ]
            · rw [if_neg hc1]
              injection e with e
              injection e with e1 e2
              subst e1 e2
              refine .inr ⟨b, o + 1, rfl, h1, fun j u hu => ?_⟩
              have := h2 (j + 1) u (by simpa [cellsZ] using hu)
              rw [show o + 1 + j = o + (j + 1) by omega]
              exact this
        have HLR := Lib.hid hlr
        have hlr1 : (r'.length : Int) + 1 > 0 := by omega
        have hl1 : ((id : Int) :: r').length = r'.length + 1 := by simp
        have hcc : r'.length + 1 ≤ c' := by have := HC1.out; simpa using this
        have hcc2 : ((1 : Int)) ≤ (c' : Int) := by omega
        clear hq hc hlr
        go_wp2_with fail
        go_roundw
        case rel => exact ⟨id + 1, r', _, c' - 1, L, rfl, by go_num, by omega, by omega, by omega, by omega, HLR.out, OW.out, BW.out, by rw [hk2]; exact HQ.out, by omega⟩
        case measure => simp [intOf]; omega
      · have hq : L ++ [(id : Int)] ++ othP r (id + 1) k = othP ids 2 (n - 2) := by
          rw [← EQ.out, hk, othP_take (fun x r' h1 h2 => hx ⟨x, r', h1, h2⟩)]
          simp
        have HQ := Lib.hid hq
        have hbase : W.heap.size ≤ (wr.alloc (.cells #[.int .i64 (id : Int)] 3)).heap.size := by have := BW.out.size; simp; omega
        have HBS := Lib.hid hbase
        have h8 : (L.length + 1) * 8 ≤ 140737488355328 := by omega
        have h63 : L.length + 1 ≤ maxLen := by unfold maxLen; omega
        have H8 := Lib.hid h8
        have H63 := Lib.hid h63
        have hone : ∀ u ∈ [Value.int .i64 (id : Int)], u.oneCell' = true := by simp [Value.oneCell']
        have HON := Lib.hid hone
        have hcl : cellsZ (L ++ [(id : Int)]) = cellsZ L ++ [Value.int .i64 (id : Int)] := by simp [cellsZ]
        have HCL := Lib.hid hcl
        have HX := Lib.hid hx
        clear hq hbase h8 h63 hone hcl hx
        match r, HC1, LR, HQ, HX with
        | [], HC1, LR, HQ, HX =>
          go_wp2_with (at_builtin; refine wpList_append_cells rfl _ _ 22 rfl W.heap.size 3 i0 (.int .i64 0) 1 8 Try.underlying22 HI.out H0.out H1.out H2.out rfl (by omega) _ L.length (cellsZ L) rfl (OW.out.alloc _) (wr.heap.size + 1) _ 1 1 [.int .i64 (id : Int)] rfl (Lies.lit wr 3 [.int .i64 (id : Int)]) rfl HON.out H63.out H8.out HBS.out ?_; intro v2 w2 ho2 hb2; have O2 := Lib.hid ho2; have B2 := Lib.hid ((BW.out.alloc BW.out.size _).trans hb2); have LR2 := Lib.hid ((Lies.empty w2 D A')); clear ho2 hb2)
          go_roundw
          case rel => exact ⟨id + 1, [], A', c', L ++ [(id : Int)], rfl, by go_num, by omega, by omega, HC1.out, by omega, LR2.out, by rw [HCL.out, List.length_append]; exact O2.out, B2.out, by rw [hk2]; exact HQ.out, by simp; omega⟩
          case measure => simp [intOf]; omega
        | x :: r', HC1, LR, HQ, HX =>
          obtain ⟨b, o, rfl, hc⟩ := lies_z LR.out 0 (by simp)
          have hc0 := hc 0 (by simp)
          rw [Nat.add_zero] at hc0
          simp only [List.getD_cons_zero] at hc0
          have hne : (x == (id : Int)) = false := beq_false_of_ne (fun e => HX.out ⟨x, r', rfl, e⟩)
          have hlr1 : (r'.length : Int) + 1 > 0 := by omega
          have hl1 : (x :: r').length = r'.length + 1 := by simp
          clear hc
          go_wp2_with (at_builtin; refine wpList_append_cells rfl _ _ 22 rfl W.heap.size 3 i0 (.int .i64 0) 1 8 Try.underlying22 HI.out H0.out H1.out H2.out rfl (by omega) _ L.length (cellsZ L) rfl (OW.out.alloc _) (wr.heap.size + 1) _ 1 1 [.int .i64 (id : Int)] rfl (Lies.lit wr 3 [.int .i64 (id : Int)]) rfl HON.out H63.out H8.out HBS.out ?_; intro v2 w2 ho2 hb2; have O2 := Lib.hid ho2; have B2 := Lib.hid ((BW.out.alloc BW.out.size _).trans hb2); have LR2 := Lib.hid (LR.out.below (((Below.refl _ wr).alloc (Nat.le_trans HD.out BW.out.size) _).trans (hb2.mono HD.out))); clear ho2 hb2)
          go_roundw
          case rel => exact ⟨id + 1, x :: r', _, c', L ++ [(id : Int)], rfl, by go_num, by omega, by omega, HC1.out, by omega, LR2.out, by rw [HCL.out, List.length_append]; exact O2.out, B2.out, by rw [hk2]; exact HQ.out, by simp; omega⟩
          case measure => simp [intOf]; omega
    · have hz : n - id = 0 := by omega
      have hL : L = othP ids 2 (n - 2) := by
        have := EQ.out
        rw [hz] at this
        cases r <;> simpa [othP] using this
      have HLL := Lib.hid hL
      clear hL
      go_wp2_with fail
      go_ret
      rw [← HLL.out]
      exact ⟨_, rfl, OW.out, BW.out⟩
end
end Go.Proofs.Ytcmffifehpbjnaa
