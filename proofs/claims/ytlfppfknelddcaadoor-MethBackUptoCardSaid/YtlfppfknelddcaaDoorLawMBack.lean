/- Methods, plainly: what is told of the octets that parts have. No walk. The law on methods that are read as they were told: its walk. -/
import Derived.Test.YtlfppfknelddcaaDoorMethY
import Derived.Test.YtlfppfknelddcaaDoorTablK
namespace Go.Proofs.YtlfppfknelddcaaDoor
section
open Go.RowKit
set_option maxRecDepth 100000
set_option linter.unusedSimpArgs false
set_option linter.unusedVariables false

theorem ztk (n v : Nat) (r : List UInt8) : tk n (be n v ++ r) = be n v := by
  rw [tk_yes (by simp [be_length])]
  rw [List.take_append_of_le_length (by rw [be_length]; exact Nat.le_refl _), List.take_of_length_le (by rw [be_length]; exact Nat.le_refl _)]
theorem zrst (n v : Nat) (r : List UInt8) : rst n (be n v ++ r) = r := by
  rw [rst_yes (by simp [be_length])]
  rw [List.drop_append_of_le_length (by rw [be_length]; exact Nat.le_refl _), List.drop_of_length_le (by rw [be_length]; exact Nat.le_refl _)]
  rfl
theorem zshort (n v : Nat) (r : List UInt8) : short n (be n v ++ r) = false := short_no (by simp [be_length])
theorem ztxt (n : Nat) (t r : List UInt8) (h : t.length < 256 ^ n) : txt n (be n t.length ++ (t ++ r)) = t ∧ txtRest n (be n t.length ++ (t ++ r)) = r ∧ txtShort n (be n t.length ++ (t ++ r)) = false := by
  unfold txt txtRest txtShort
  rw [ztk, zrst, zshort, nat_be, Nat.mod_eq_of_lt h, tk_yes (by simp), rst_yes (by simp), short_no (by simp)]
  exact ⟨List.take_left, List.drop_left, rfl⟩
theorem bit_here (j r : Nat) (b : Bool) (h : 2 ^ (j + 1) ∣ r) : ((if b then 2 ^ j else 0) + r).testBit j = b ∧ ∀ i, j < i → ((if b then 2 ^ j else 0) + r).testBit i = r.testBit i := by
  obtain ⟨q, rfl⟩ := h
  have hb : (if b then 2 ^ j else 0) < 2 ^ (j + 1) := by
    have : 2 ^ j < 2 ^ (j + 1) := Nat.pow_lt_pow_right (by omega) (by omega)
    have : 0 < 2 ^ (j + 1) := Nat.pow_pos (by omega)
    split <;> omega
  refine ⟨?_, fun i hi => ?_⟩
  · rw [Nat.add_comm, Nat.testBit_two_pow_mul_add q hb, if_pos (by omega)]
    cases b with
    | true => simp [Nat.testBit_two_pow_self]
    | false => simp
  · rw [Nat.add_comm, Nat.testBit_two_pow_mul_add q hb, if_neg (by omega)]
    have := Nat.testBit_two_pow_mul_add q (b := 0) (i := j + 1) (Nat.pow_pos (by omega)) i
    rw [Nat.add_zero, if_neg (by omega)] at this
    exact this.symm
/-- an octet that is being read holds the flags that are left of it -/
def flagsH (k fl : Nat) (ls : List UInt8) (f : List Bool) : Prop := k % 8 ≠ 0 → ∀ i, k % 8 ≤ i → i < 8 → fl.testBit i = (octF ls (k % 8) f).testBit i
theorem flagsH_zero (fl : Nat) (ls : List UInt8) (f : List Bool) : flagsH 0 fl ls f := fun h => absurd rfl h
theorem flag_read {k fl : Nat} {ls : List UInt8} {f : List Bool} {v : Nat} (hj : k % 8 < 8) (hv : ∀ i, k % 8 ≤ i → i < 8 → v.testBit i = (octF (102 :: ls) (k % 8) f).testBit i) : v.testBit (k % 8) = f.headD false ∧ flagsH (k + 1) v ls f.tail := by
  have ho : octF (102 :: ls) (k % 8) f = (if f.headD false then 2 ^ (k % 8) else 0) + octF ls (k % 8 + 1) f.tail := by
    conv => lhs; unfold octF
    rw [if_pos ⟨rfl, hj⟩]
  have hd := octF_dvd ls (k % 8 + 1) f.tail
  obtain ⟨h1, h2⟩ := bit_here (k % 8) _ (f.headD false) hd
  refine ⟨by rw [hv _ (Nat.le_refl _) hj, ho, h1], fun hk i hi hi8 => ?_⟩
  have e : (k + 1) % 8 = k % 8 + 1 := by omega
  rw [e] at hi ⊢
  rw [hv i (by omega) hi8, ho, h2 i (by omega)]
theorem nat_oct (v : Nat) (h : v < 256) : nat [UInt8.ofNat v] = v := by
  simp [nat]
  omega
theorem pr0_back : ∀ (ls : List UInt8) (k fl : Nat) (p : Parts) (y : List UInt8), (∀ ch ∈ ls, okL ch) → Asked ls p → badP ls p = false → (∀ x ∈ p.s, x.length < 4294967296) → ls.count 116 ≤ 1 → flagsH k fl ls p.f →
    pr0 ls k fl (pw ls k p ++ y) = some (⟨p.n, p.s, p.f, if 116 ∈ ls then p.t else []⟩, y) := by
  intro ls
  induction ls with
  | nil =>
    intro k fl p y _ ha _ _ _ _
    have h1 : p.n = [] := List.eq_nil_of_length_eq_zero ha.n
    have h2 : p.s = [] := List.eq_nil_of_length_eq_zero ha.s
    have h3 : p.f = [] := List.eq_nil_of_length_eq_zero ha.f
    rw [h1, h2, h3]
    rfl
  | cons ch ls ih =>
    intro k fl p y hl ha hb hs hc hf
    have hl2 : ∀ c ∈ ls, okL c := fun c h => hl c (by simp [h])
    have hc2 : ls.count 116 ≤ 1 := by
      rw [List.count_cons] at hc
      omega
    obtain ⟨an, asx, af⟩ := ha
    rcases letter_cases ch with e | e | e | e | ⟨h1, h2, h3, h4⟩
    · subst e
      have hsl : p.s.length = cS ls + 1 := by rw [asx]; unfold cS; simp; omega
      obtain ⟨x, xs, hx⟩ : ∃ x xs, p.s = x :: xs := by
        cases h : p.s with
        | nil => rw [h] at hsl; simp at hsl
        | cons x xs => exact ⟨x, xs, rfl⟩
      have ha2 : Asked ls { p with s := xs } := ⟨by simpa [cN] using an, by rw [hx] at hsl; simpa using hsl, by simpa [cF] using af⟩
      simp only [badP, if_true, hx, List.headD_cons, List.tail_cons, Bool.or_eq_false_iff, decide_eq_false_iff_not] at hb
      obtain ⟨hb1, hb2⟩ := hb
      have r := ih 0 fl { p with s := xs } y hl2 ha2 hb2 (fun z hz => hs z (by rw [hx]; simp [hz])) hc2 (flagsH_zero _ _ _)
      obtain ⟨t1, t2, t3⟩ := ztxt 1 x (pw ls 0 { p with s := xs } ++ y) (by omega)
      simp only [pw, pr0, if_true, hx, List.headD_cons, List.tail_cons, List.append_assoc]
      rw [t1, t2, t3, r]
      simp [addP, Parts.app]
    · subst e
      have hsl : p.s.length = cS ls + 1 := by rw [asx]; unfold cS; simp; omega
      obtain ⟨x, xs, hx⟩ : ∃ x xs, p.s = x :: xs := by
        cases h : p.s with
        | nil => rw [h] at hsl; simp at hsl
        | cons x xs => exact ⟨x, xs, rfl⟩
      have ha2 : Asked ls { p with s := xs } := ⟨by simpa [cN] using an, by rw [hx] at hsl; simpa using hsl, by simpa [cF] using af⟩
      simp only [badP, if_true, hx, List.headD_cons, List.tail_cons, show ¬ ((108 : UInt8) = 115) by decide, if_false] at hb
      have r := ih 0 fl { p with s := xs } y hl2 ha2 hb (fun z hz => hs z (by rw [hx]; simp [hz])) hc2 (flagsH_zero _ _ _)
      have hx4 := hs x (by rw [hx]; simp)
      obtain ⟨t1, t2, t3⟩ := ztxt 4 x (pw ls 0 { p with s := xs } ++ y) hx4
      simp only [pw, pr0, if_true, hx, List.headD_cons, List.tail_cons, List.append_assoc, show ¬ ((108 : UInt8) = 115) by decide, if_false]
      rw [t1, t2, t3, r]
      simp [addP, Parts.app]
    · subst e
      have hsl : p.f.length = cF ls + 1 := by rw [af]; unfold cF; simp
      obtain ⟨x, xs, hx⟩ : ∃ x xs, p.f = x :: xs := by
        cases h : p.f with
        | nil => rw [h] at hsl; simp at hsl
        | cons x xs => exact ⟨x, xs, rfl⟩
      have ha2 : Asked ls { p with f := xs } := ⟨by simpa [cN] using an, by simpa [cS] using asx, by rw [hx] at hsl; simpa using hsl⟩
      simp only [badP, if_true, hx, List.tail_cons, show ¬ ((102 : UInt8) = 115) by decide, show ¬ ((102 : UInt8) = 108) by decide, if_false] at hb
      by_cases hk : k % 8 = 0
      · obtain ⟨v, hv⟩ : ∃ v, v = octF (102 :: ls) 0 p.f := ⟨_, rfl⟩
        have hv2 : v < 256 := by rw [hv]; exact octF_lt _ _
        obtain ⟨g1, g2⟩ := flag_read (k := k) (fl := fl) (ls := ls) (f := p.f) (v := v) (by omega) (fun i _ _ => by rw [hk, hv])
        rw [hk, hx] at g1
        rw [hx] at g2
        have r := ih (k + 1) v { p with f := xs } y hl2 ha2 hb hs hc2 g2
        have q : tk 1 ([UInt8.ofNat v] ++ (pw ls (k + 1) { p with f := xs } ++ y)) = [UInt8.ofNat v] := rfl
        have q2 : rst 1 ([UInt8.ofNat v] ++ (pw ls (k + 1) { p with f := xs } ++ y)) = pw ls (k + 1) { p with f := xs } ++ y := by simp [rst]
        have q3 : short 1 ([UInt8.ofNat v] ++ (pw ls (k + 1) { p with f := xs } ++ y)) = false := short_no (by simp)
        simp only [pw, pr0, if_true, show ¬ ((102 : UInt8) = 115) by decide, show ¬ ((102 : UInt8) = 108) by decide, if_false, hk, ← hv, hx, List.tail_cons, List.append_assoc]
        rw [hx] at hv
        rw [← hv, q, q2, q3, nat_oct v hv2, r, g1]
        simp [addP, Parts.app, hx]
      · obtain ⟨g1, g2⟩ := flag_read (k := k) (fl := fl) (ls := ls) (f := p.f) (v := fl) (by omega) (hf hk)
        rw [hx] at g1 g2
        have r := ih (k + 1) fl { p with f := xs } y hl2 ha2 hb hs hc2 g2
        simp only [pw, pr0, if_true, show ¬ ((102 : UInt8) = 115) by decide, show ¬ ((102 : UInt8) = 108) by decide, if_false, hk, hx, List.tail_cons, List.nil_append]
        rw [r, g1]
        simp [addP, Parts.app, hx]
    · subst e
      have ha2 : Asked ls p := ⟨by simpa [cN] using an, by simpa [cS] using asx, by simpa [cF] using af⟩
      simp only [badP, if_true, show ¬ ((116 : UInt8) = 115) by decide, show ¬ ((116 : UInt8) = 108) by decide, show ¬ ((116 : UInt8) = 102) by decide, if_false, Bool.or_eq_false_iff, Bool.not_eq_false'] at hb
      obtain ⟨hb1, hb2⟩ := hb
      have h0 : (116 : UInt8) ∉ ls := by
        intro h
        have := List.count_pos_iff.2 h
        rw [List.count_cons_self] at hc
        omega
      have r := ih 0 fl p y hl2 ha2 hb2 hs hc2 (flagsH_zero _ _ _)
      rw [if_neg h0] at r
      obtain ⟨t1, t2, t3⟩ := ztxt 4 (appB [] p.t) (pw ls 0 p ++ y) (by have := appB_len p.t; omega)
      simp only [pw, pr0, if_true, show ¬ ((116 : UInt8) = 115) by decide, show ¬ ((116 : UInt8) = 108) by decide, show ¬ ((116 : UInt8) = 102) by decide, if_false, List.append_assoc]
      rw [t1, t2, t3, parse_app p.t hb1, r]
      simp [addP, Parts.app]
    · have hsl : p.n.length = cN ls + 1 := by rw [an]; unfold cN; rw [List.countP_cons]; simp [h1, h2, h3, h4]
      obtain ⟨x, xs, hx⟩ : ∃ x xs, p.n = x :: xs := by
        cases h : p.n with
        | nil => rw [h] at hsl; simp at hsl
        | cons x xs => exact ⟨x, xs, rfl⟩
      have ha2 : Asked ls { p with n := xs } := ⟨by rw [hx] at hsl; simpa using hsl, by rw [asx]; unfold cS; simp [h1, h2], by rw [af]; unfold cF; simp [h3]⟩
      simp only [badP, h1, h2, h3, h4, if_false, hx, List.headD_cons, List.tail_cons, Bool.or_eq_false_iff, decide_eq_false_iff_not] at hb
      obtain ⟨hb1, hb2⟩ := hb
      have r := ih 0 fl { p with n := xs } y hl2 ha2 hb2 hs hc2 (flagsH_zero _ _ _)
      simp only [pw, pr0, h1, h2, h3, h4, if_false, hx, List.headD_cons, List.tail_cons, List.append_assoc]
      rw [ztk, zrst, zshort, nat_be, Nat.mod_eq_of_lt (by omega), r]
      simp [addP, Parts.app, Ne.symm h4]
/-! ### of a whole method -/
theorem take_two (a b : Nat) (r : List UInt8) : (be 2 a ++ be 2 b ++ r).take 2 = be 2 a ∧ ((be 2 a ++ be 2 b ++ r).drop 2).take 2 = be 2 b ∧ (be 2 a ++ be 2 b ++ r).drop 4 = r := by
  have ha := be_length 2 a
  have hb := be_length 2 b
  match h : be 2 a, ha with
  | [x, y], _ =>
    match h2 : be 2 b, hb with
    | [z, u], _ => exact ⟨rfl, rfl, rfl⟩
section
variable {c i : Int} {L : List UInt8} {p : Parts}
theorem made_oct (hf : formB c i = some L) : octM c i p = be 2 c.toNat ++ be 2 i.toNat ++ pw L 0 p := by
  unfold octM
  rw [hf]
theorem parse_as (hf : formB c i = some L) (hi : FormIs c i L) (r : List UInt8) : parseM (be 2 c.toNat ++ be 2 i.toNat ++ r) = match pr0 L 0 0 r with
    | some (p, []) => .ok c.toNat i.toNat p
    | _ => .syn := by
  have hc0 := hi.c0
  have hc1 := hi.c1
  have hi0 := hi.i0
  have hi1 := hi.i1
  obtain ⟨h1, h2, h3⟩ := take_two c.toNat i.toNat r
  have e1 : nat (be 2 c.toNat) = c.toNat := by rw [nat_be, Nat.mod_eq_of_lt]; have : 256 ^ 2 = 65536 := by decide
                                               omega
  have e2 : nat (be 2 i.toNat) = i.toNat := by rw [nat_be, Nat.mod_eq_of_lt]; have : 256 ^ 2 = 65536 := by decide
                                               omega
  have e3 : formB ((c.toNat : Nat) : Int) ((i.toNat : Nat) : Int) = some L := by
    rw [Int.toNat_of_nonneg hc0, Int.toNat_of_nonneg hi0]
    exact hf
  unfold parseM
  rw [if_neg (by simp [be_length]; omega), h1, h2, h3, e1, e2, e3]
  rfl
theorem made_read (hf : formB c i = some L) (hi : FormIs c i L) (hm : MadeOf L p) (ht : (116 : UInt8) ∉ L → p.t = []) (y : List UInt8) : pr0 L 0 0 (pw L 0 p ++ y) = some (p, y) := by
  rw [pr0_back L 0 0 p y hi.good hm.asked hm.good (fun x hx => by have := hm.s255 x hx; omega) hi.once (flagsH_zero _ _ _)]
  by_cases h : (116 : UInt8) ∈ L
  · rw [if_pos h]
  · rw [if_neg h, ← ht h]
theorem made_ok (hf : formB c i = some L) (hm : MadeOf L p) (ht : (116 : UInt8) ∉ L → p.t = []) : okM c i p = true := by
  unfold okM
  rw [hf]
  show okP L p = true
  unfold okP askB
  rw [hm.good, hm.asked.n, hm.asked.s, hm.asked.f]
  by_cases h : (116 : UInt8) ∈ L
  · have := List.count_pos_iff.2 h
    simp [this]
  · simp [ht h]
theorem made_back (hf : formB c i = some L) (hi : FormIs c i L) (hm : MadeOf L p) (ht : (116 : UInt8) ∉ L → p.t = []) : parseM (octM c i p) = .ok c.toNat i.toNat p := by
  rw [made_oct hf, parse_as hf hi]
  have h := made_read hf hi hm ht []
  rw [List.append_nil] at h
  rw [h]
theorem made_more (hf : formB c i = some L) (hi : FormIs c i L) (hm : MadeOf L p) (ht : (116 : UInt8) ∉ L → p.t = []) (v : UInt8) : parseM (octM c i p ++ [v]) = .syn := by
  rw [made_oct hf, List.append_assoc, parse_as hf hi, made_read hf hi hm ht [v]]
theorem made_less (hf : formB c i = some L) (hi : FormIs c i L) (hm : MadeOf L p) (ht : (116 : UInt8) ∉ L → p.t = []) : parseM ((octM c i p).take ((octM c i p).length - 1)) = .syn := by
  rw [made_oct hf]
  obtain ⟨W, hW⟩ : ∃ W, W = pw L 0 p := ⟨_, rfl⟩
  rw [← hW]
  rcases List.eq_nil_or_concat W with h | ⟨W', v, h⟩
  · rw [h]
    unfold parseM
    rw [if_pos (by simp [be_length])]
  · have e : (be 2 c.toNat ++ be 2 i.toNat ++ W).take ((be 2 c.toNat ++ be 2 i.toNat ++ W).length - 1) = be 2 c.toNat ++ be 2 i.toNat ++ W' := by
      rw [h, List.concat_eq_append, ← List.append_assoc, List.length_append, List.length_singleton, Nat.add_sub_cancel, List.take_left]
    rw [e, parse_as hf hi]
    have hr := made_read hf hi hm ht []
    rw [List.append_nil, ← hW, h, List.concat_eq_append] at hr
    cases hq : pr0 L 0 0 W' with
    | none => rfl
    | some x =>
      obtain ⟨q, r⟩ := x
      cases r with
      | cons a b => rfl
      | nil =>
        exfalso
        have := pr0_more L 0 0 W' [v] q [] hq
        rw [hr] at this
        simp at this
end
end
section
open Go.RowKit
set_option maxRecDepth 100000
set_option linter.unusedSimpArgs false
set_option linter.unusedVariables false

theorem bslat {w : World} {b e : Nat} {n : Nat} {v : Value} {xs : List Value} (h : w.ownsRow b e 1 v n xs) : SlAt w w.heap.size v n xs := by
  obtain ⟨A, c, rfl, h1, h2⟩ := own_form h
  exact ⟨A, c, rfl, h1, h2, Lies.own h (Nat.le_refl _)⟩
theorem be_two_octets (v : Nat) (h : v < 256) : be 2 v = [0, UInt8.ofNat v] := by
  have e1 : nat ([0, UInt8.ofNat v] : List UInt8) = v := by simp [nat]; omega
  have := be_nat ([0, UInt8.ofNat v] : List UInt8)
  rw [e1] at this
  exact this
theorem moct_len {c i : Int} {L : List UInt8} {p : Parts} (hf : formB c i = some L) : 4 ≤ (octM c i p).length := by
  rw [made_oct hf]
  simp [be_length]
  omega
/-- the octets of class and number -/
theorem moct_ids {c i : Int} {L : List UInt8} {p : Parts} (hf : formB c i = some L) (hi : FormIs c i L) : (octM c i p)[1]? = some (UInt8.ofNat c.toNat) ∧ (octM c i p)[3]? = some (UInt8.ofNat i.toNat) := by
  have h1 := hi.c1
  have h0 := hi.c0
  have h2 := hi.i1
  have h3 := hi.i0
  rw [made_oct hf, be_two_octets _ (by omega), be_two_octets _ (by omega)]
  exact ⟨rfl, rfl⟩
theorem mparse_at (A : Option Addr) (cap n : Nat) (b : List UInt8) (B : Nat) (w : World) (hn : n = b.length) (hl : Lies w B A (B8 b)) (hB : B ≤ w.heap.size) (hs : b.length ≤ 140737488355328) :
    Calls Tryd.prog 8 #[.slice A n cap] w (MIs (parseM b) w) := by
  subst hn
  exact mparse_any A cap b B w hl hB hs
theorem pw_len : ∀ (ls : List UInt8) (k : Nat) (p : Parts), (∀ x ∈ p.s, x.length ≤ 255) → (pw ls k p).length ≤ ls.length * 2004 := by
  intro ls
  induction ls with
  | nil => intro k p _; simp [pw]
  | cons ch ls ih =>
    intro k p hs
    have hd : (p.s.headD []).length ≤ 255 := by
      cases h : p.s with
      | nil => simp
      | cons x xs => exact hs x (by rw [h]; simp)
    have ht : ∀ x ∈ p.s.tail, x.length ≤ 255 := fun x hx => hs x (List.mem_of_mem_tail hx)
    have ha := appB_len p.t
    have hw := wd_le ch
    have i1 := ih 0 { p with s := p.s.tail } ht
    have i2 := ih (k + 1) { p with f := p.f.tail } hs
    have i3 := ih 0 p hs
    have i4 := ih 0 { p with n := p.n.tail } hs
    rw [List.length_cons, Nat.succ_mul]
    unfold pw
    split
    · simp only [List.length_append, be_length]; omega
    split
    · simp only [List.length_append, be_length]; omega
    split
    · rw [List.length_append]
      split <;> simp <;> omega
    split
    · simp only [List.length_append, be_length]; omega
    · simp only [List.length_append, be_length]; omega
set_option maxHeartbeats 8000000 in
theorem mback_late (x f : Int) (ln : List Nat) (ls : List (List UInt8)) (t : List Fld) (AN AS AT : Option Addr) (cN_ cS_ cT_ dT : Nat) (w : World)
    (hnc : ln.length ≤ cN_) (hnm : cN_ ≤ maxLen) (hln : Lies w w.heap.size AN (cellsN ln)) (hn64 : ∀ v ∈ ln, v < 18446744073709551616) (hsc : ls.length ≤ cS_) (hsm : cS_ ≤ maxLen) (hls : Lies w w.heap.size AS (cellsS ls))
    (ht : TabH Raw dT w w.heap.size t AT cT_) (h30 : ls.length ≤ 30) (hsmall : smallB 12 t = true) (hx : formedB 8 t = true → (rowsD 8 t).length ≤ 70368744177664) :
    Calls Tryd.prog 5 #[.int .i64 x, .slice AN ln.length cN_, .slice AS ls.length cS_, .int .i64 f, .slice AT t.length cT_] w fun e w' => e = .returned (.bool true) ∧ Below w.heap.size w w' := by
  have htt := small_held 12 dT t AT cT_ hsmall ht
  have HT0 : ∀ w', Below w.heap.size w w' → Calls Tryd.prog 36 #[.slice AT t.length cT_] w' fun e w'' => e = .returned (.bool (okB t)) ∧ Below w'.heap.size w' w'' := fun w' hb => tableok_any t AT cT_ dT w.heap.size w' (TabH.below htt hb) hb.size hx
  have hmade := made_any x f ln ls AN AS AT cN_ cS_ cT_ t dT (okB t) w hln hnc hnm hn64 hls hsc hsm htt rfl HT0
  have HM := Lib.hid hmade
  have HTT := Lib.hid htt
  have HSM := Lib.hid (small_any 12 t AT cT_ dT w.heap.size 1 w (by omega) (by omega) ht)
  have h30i : ¬ (30 : Int) < (ls.length : Int) := by omega
  clear hmade HT0 htt hln hls hn64 ht hx
  go_enter Tryd.func5, Tryd.ntmps5
  go_wp2_with fail
  refine HSM.out.mono ?_
  rintro e w0 ⟨rfl, rfl⟩
  rw [hsmall]
  go_wp2_with fail
  refine HM.out.mono ?_
  rintro e w1 ⟨c, i, L, p, g, vN, vS, vF, vT, hrow, rfl, hmo, hgg, hma, hts⟩
  have hfo : formB c i = some L := by unfold formB; exact formF_some rows_apart hrow rfl rfl
  have hfi := form_is hfo
  have htb : TbAt w1 w1.heap.size vT p.t := by
    rcases hts with ⟨h1, h2⟩ | ⟨h1, _, _, h2⟩
    · rw [h1, h2]; exact TbAt.nil _ _
    · rw [h1, h2]; exact ⟨AT, cT_, dT, rfl, TabH.more hma.bel.size _ _ _ _ (TabH.below HTT.out hma.bel)⟩
  have hpt : (116 : UInt8) ∉ L → p.t = [] := by
    intro h
    rcases hts with ⟨h1, _⟩ | ⟨_, h2, _, _⟩
    · exact h1
    · exact absurd h2 h
  have hP1 : PartsAt w1 w1.heap.size p vN vS vF vT := ⟨bslat hma.n, bslat hma.s, bslat hma.f, htb⟩
  obtain ⟨An, kn, rfl, _, _⟩ := own_form hma.n
  obtain ⟨As, ks, rfl, _, _⟩ := own_form hma.s
  obtain ⟨Af, kf, rfl, _, _⟩ := own_form hma.f
  obtain ⟨At, kt, dt, rfl, _⟩ := htb
  obtain ⟨gm, hgm⟩ : ∃ gm, gm = w1.heap.size := ⟨_, rfl⟩
  obtain ⟨w2, hw2⟩ : ∃ w2, w2 = w1.alloc (.cells #[.int .i64 c, .int .i64 i, .slice An p.n.length kn, .slice As p.s.length ks, .slice Af p.f.length kf, .slice At p.t.length kt] 32) := ⟨_, rfl⟩
  have hb2 : Below w1.heap.size w1 w2 := by rw [hw2]; exact (Below.refl _ _).alloc (Nat.le_refl _) _
  have M2 : Hid (Whole w2 gm 32 #[.int .i64 c, .int .i64 i, .slice An p.n.length kn, .slice As p.s.length ks, .slice Af p.f.length kf, .slice At p.t.length kt]) := Lib.hid (by rw [hw2, hgm]; exact Whole.new _ _ _)
  have P2 := Lib.hid (hP1.below hb2)
  have hs2 : w2.heap.size = w1.heap.size + 1 := by rw [hw2]; simp
  have B2 := Lib.hid (hma.bel.trans (hb2.mono hma.bel.size))
  have k0 : w2.cell? ⟨gm, 0, none⟩ = some (.int .i64 c) := M2.out.cell 0
  have k1 : w2.cell? ⟨gm, 1, none⟩ = some (.int .i64 i) := M2.out.cell 1
  have k2 : w2.cell? ⟨gm, 2, none⟩ = some (.slice An p.n.length kn) := M2.out.cell 2
  have k3 : w2.cell? ⟨gm, 3, none⟩ = some (.slice As p.s.length ks) := M2.out.cell 3
  have k4 : w2.cell? ⟨gm, 4, none⟩ = some (.slice Af p.f.length kf) := M2.out.cell 4
  have k5 : w2.cell? ⟨gm, 5, none⟩ = some (.slice At p.t.length kt) := M2.out.cell 5
  obtain ⟨Y, hY⟩ : ∃ Y, Y = octM c i p := ⟨_, rfl⟩
  have hYa : appM [] c i p = Y := by unfold appM; rw [made_ok hfo hmo hpt, if_pos rfl, List.nil_append, hY]
  have hYl : 4 ≤ Y.length := by rw [hY]; exact moct_len hfo
  have hYm0 : Y.length ≤ 100000 := by
    have h1 := pw_len L 0 p hmo.s255
    have h2 := hfi.len
    rw [hY, made_oct hfo]
    simp only [List.length_append, be_length]
    omega
  have hYmax : Y.length ≤ 140737488355328 := by omega
  obtain ⟨hY1, hY3⟩ := moct_ids (p := p) hfo hfi
  rw [← hY] at hY1 hY3
  have hYp : parseM Y = .ok c.toNat i.toNat p := by rw [hY]; exact made_back hfo hfi hmo hpt
  have hYm : parseM (Y ++ [0]) = .syn := by rw [hY]; exact made_more hfo hfi hmo hpt 0
  have hYs : parseM (Y.take (Y.length - 1)) = .syn := by rw [hY]; exact made_less hfo hfi hmo hpt
  have hc0 := hfi.c0
  have hc1 := hfi.c1
  have hi0 := hfi.i0
  have hi1 := hfi.i1
  obtain ⟨cn, rfl⟩ : ∃ cn : Nat, c = (cn : Int) := ⟨c.toNat, by omega⟩
  obtain ⟨im, rfl⟩ : ∃ im : Nat, i = (im : Int) := ⟨i.toNat, by omega⟩
  rw [Int.toNat_natCast] at hY1 hYp
  rw [Int.toNat_natCast] at hY3 hYp
  have HY1 := Lib.hid hY1
  have HY3 := Lib.hid hY3
  have HYP := Lib.hid hYp
  have HYM := Lib.hid hYm
  have HYS := Lib.hid hYs
  have HYA := Lib.hid hYa
  have HOK := Lib.hid (made_ok hfo hmo hpt)
  have HFI := Lib.hid hmo.fine
  have HGM := Lib.hid hgm
  have HW2 := Lib.hid hw2
  have HS2 := Lib.hid hs2
  rw [hw2, hgm] at k0 k1 k2 k3 k4 k5
  clear hP1 hb2 hw2 hs2 hgm hY hYa hY1 hY3 hYp hYm hYs hfo hfi hmo hma hts hpt hrow
  go_wp2_with fail
  rw [← HW2.out, ← HGM.out]
  clear k0 k1 k2 k3 k4 k5
  refine (mappend_any none 0 [] w1.heap.size cn im p _ _ _ _ w2 (Lies.empty _ _ _) (by rw [HS2.out]; omega) P2.out HFI.out (wf64 (by omega) (by omega)) (wf64 (by omega) (by omega)) (by simp)).mono ?_
  rw [HYA.out, HOK.out]
  rintro e w3 ⟨v3, rfl, ho3, hb3⟩
  obtain ⟨A3, k3', rfl, hk3, hm3⟩ := own_form ho3
  obtain ⟨g3, rfl, hg3, hg3', _⟩ := own_head ho3 (by omega)
  have L3 := Lib.hid (Lies.own ho3 (Nat.le_refl _))
  have M3 := Lib.hid (M2.out.below hb3 M2.out.lt)
  have P3 := Lib.hid (P2.out.below (hb3.mono (by rw [HS2.out]; omega)))
  have B3 := Lib.hid (B2.out.trans (hb3.mono B2.out.size))
  have z3 := hb3.size
  clear ho3 hb3
  go_wp2_with fail
  refine (mparse_any (some ⟨g3, 0, none⟩) k3' Y w3.heap.size w3 L3.out (Nat.le_refl _) hYmax).mono ?_
  rw [HYP.out]
  rintro e w4 ⟨hb4, uN, uS, uF, uT, rfl, hp4⟩
  obtain ⟨Bn, kn2, rfl, _, _⟩ : ∃ A k, uN = .slice A p.n.length k ∧ True ∧ True := by obtain ⟨A, k, h, _⟩ := hp4.n; exact ⟨A, k, h, trivial, trivial⟩
  obtain ⟨Bs, ks2, rfl, _, _⟩ : ∃ A k, uS = .slice A p.s.length k ∧ True ∧ True := by obtain ⟨A, k, h, _⟩ := hp4.s; exact ⟨A, k, h, trivial, trivial⟩
  obtain ⟨Bf, kf2, rfl, _, _⟩ : ∃ A k, uF = .slice A p.f.length k ∧ True ∧ True := by obtain ⟨A, k, h, _⟩ := hp4.f; exact ⟨A, k, h, trivial, trivial⟩
  obtain ⟨Bt, kt2, rfl, _, _⟩ : ∃ A k, uT = .slice A p.t.length k ∧ True ∧ True := by obtain ⟨A, k, d, h, _⟩ := hp4.t; exact ⟨A, k, h, trivial, trivial⟩
  have z4 := hb4.size
  obtain ⟨w5, hw5⟩ : ∃ w5, w5 = w4.alloc (.cells #[.int .i64 (cn : Int), .int .i64 (im : Int), .slice Bn p.n.length kn2, .slice Bs p.s.length ks2, .slice Bf p.f.length kf2, .slice Bt p.t.length kt2] 32) := ⟨_, rfl⟩
  have hb5 : Below w4.heap.size w4 w5 := by rw [hw5]; exact (Below.refl _ _).alloc (Nat.le_refl _) _
  have hb35 := hb4.trans (hb5.mono z4)
  have hs5 : w5.heap.size = w4.heap.size + 1 := by rw [hw5]; simp
  have Q5 : Hid (Whole w5 w4.heap.size 32 #[.int .i64 (cn : Int), .int .i64 (im : Int), .slice Bn p.n.length kn2, .slice Bs p.s.length ks2, .slice Bf p.f.length kf2, .slice Bt p.t.length kt2]) := Lib.hid (by rw [hw5]; exact Whole.new _ _ _)
  have M5 := Lib.hid (M3.out.below hb35 M3.out.lt)
  have P5 := Lib.hid ((P3.out.below (hb35.mono (by have := HS2.out; omega))))
  have O5 := Lib.hid (hp4.below hb5)
  have L5 := Lib.hid (L3.out.below hb35)
  have B5 := Lib.hid (B3.out.trans (hb35.mono B3.out.size))
  have S5 := Lib.hid hs5
  have HW5 := Lib.hid hw5
  have cz : ∀ wx, Below w5.heap.size w5 wx → (wx.cell? ⟨gm, 0, none⟩ = some (.int .i64 (cn : Int)) ∧ wx.cell? ⟨gm, 1, none⟩ = some (.int .i64 (im : Int)) ∧ wx.cell? ⟨gm, 2, none⟩ = some (.slice An p.n.length kn) ∧ wx.cell? ⟨gm, 3, none⟩ = some (.slice As p.s.length ks) ∧ wx.cell? ⟨gm, 4, none⟩ = some (.slice Af p.f.length kf) ∧ wx.cell? ⟨gm, 5, none⟩ = some (.slice At p.t.length kt) ∧ wx.cell? ⟨w4.heap.size, 0, none⟩ = some (.int .i64 (cn : Int)) ∧ wx.cell? ⟨w4.heap.size, 1, none⟩ = some (.int .i64 (im : Int)) ∧ wx.cell? ⟨w4.heap.size, 2, none⟩ = some (.slice Bn p.n.length kn2) ∧ wx.cell? ⟨w4.heap.size, 3, none⟩ = some (.slice Bs p.s.length ks2) ∧ wx.cell? ⟨w4.heap.size, 4, none⟩ = some (.slice Bf p.f.length kf2) ∧ wx.cell? ⟨w4.heap.size, 5, none⟩ = some (.slice Bt p.t.length kt2) ∧ wx.cell? ⟨g3, 1, none⟩ = some (.int .u8 (cn : Int)) ∧ wx.cell? ⟨g3, 3, none⟩ = some (.int .u8 (im : Int))) := fun wx hx => by
    have hm := M5.out.below hx M5.out.lt
    have hq := Q5.out.below hx Q5.out.lt
    have hl := (L5.out.below (hx.mono (by have := S5.out; omega)))
    have hcell : ∀ j o, Y[j]? = some o → wx.cell? ⟨g3, j, none⟩ = some (.int .u8 (o.toNat : Int)) := by
      intro j o ho
      rcases hl.octets with h | ⟨b, o', e, _, hc⟩
      · rw [h] at ho; simp at ho
      · injection e with e
        injection e with e1 e2 e3
        subst e1 e2
        have hj := (List.getElem?_eq_some_iff.1 ho).1
        have := hc j hj
        rw [Nat.zero_add] at this
        rw [this, (List.getElem?_eq_some_iff.1 ho).2]
    have v1 : (UInt8.ofNat cn).toNat = cn := by rw [UInt8.toNat_ofNat']; omega
    have v3 : (UInt8.ofNat im).toNat = im := by rw [UInt8.toNat_ofNat']; omega
    have h1 := hcell 1 _ HY1.out
    have h3 := hcell 3 _ HY3.out
    rw [v1] at h1
    rw [v3] at h3
    exact ⟨hm.cell 0, hm.cell 1, hm.cell 2, hm.cell 3, hm.cell 4, hm.cell 5, hq.cell 0, hq.cell 1, hq.cell 2, hq.cell 3, hq.cell 4, hq.cell 5, h1, h3⟩
  have CZ := Lib.hid cz
  have DR : Hid (Below w5.heap.size w5 w5.drew) := Lib.hid (Below.refl _ _).drew
  have CD := Lib.hid (cz _ DR.out)
  have j1 : (1 : Int) < (Y.length : Int) := by omega
  have j3 : (3 : Int) < (Y.length : Int) := by omega
  have j4 : decide ((Y.length : Int) < 4) = false := decide_eq_false (by omega)
  have n1 : IntKind.i64.wrap (cn : Int) = (cn : Int) := IntWalk.i64_in _ (by omega)
  have n3 : IntKind.i64.wrap (im : Int) = (im : Int) := IntWalk.i64_in _ (by omega)
  clear hp4 hb4 hb5 hb35 hs5 hw5 cz
  go_upto_region 6 with fail
  rw [← HW5.out]
  go_region_held3 (fun wx => wx.cell? ⟨gm, 0, none⟩ = some (.int .i64 (cn : Int)) ∧ wx.cell? ⟨gm, 1, none⟩ = some (.int .i64 (im : Int)) ∧ wx.cell? ⟨gm, 2, none⟩ = some (.slice An p.n.length kn) ∧ wx.cell? ⟨gm, 3, none⟩ = some (.slice As p.s.length ks) ∧ wx.cell? ⟨gm, 4, none⟩ = some (.slice Af p.f.length kf) ∧ wx.cell? ⟨gm, 5, none⟩ = some (.slice At p.t.length kt) ∧ wx.cell? ⟨w4.heap.size, 0, none⟩ = some (.int .i64 (cn : Int)) ∧ wx.cell? ⟨w4.heap.size, 1, none⟩ = some (.int .i64 (im : Int)) ∧ wx.cell? ⟨w4.heap.size, 2, none⟩ = some (.slice Bn p.n.length kn2) ∧ wx.cell? ⟨w4.heap.size, 3, none⟩ = some (.slice Bs p.s.length ks2) ∧ wx.cell? ⟨w4.heap.size, 4, none⟩ = some (.slice Bf p.f.length kf2) ∧ wx.cell? ⟨w4.heap.size, 5, none⟩ = some (.slice Bt p.t.length kt2) ∧ wx.cell? ⟨g3, 1, none⟩ = some (.int .u8 (cn : Int)) ∧ wx.cell? ⟨g3, 3, none⟩ = some (.int .u8 (im : Int)))
    (first | exact CD.out | exact C8)
    ((go_at_call 14; refine (same_meth cn im p _ _ _ _ _ _ _ _ w1.heap.size w4.heap.size _ (P5.out.below (DR.out.mono (by have := S5.out; have := HS2.out; omega))) (O5.out.below (DR.out.mono (by have := S5.out; omega))) (by show w1.heap.size ≤ w5.heap.size; have := S5.out; have := HS2.out; omega) (by show w4.heap.size ≤ w5.heap.size; have := S5.out; omega)).mono ?_; rintro e w8 ⟨rfl, hb8⟩; have B8' := Lib.hid (DR.out.trans hb8); have C8 := CZ.out w8 (DR.out.trans hb8); clear hb8))
  have hz8 := B8'.out.size
  have B88 := Lib.hid (B5.out.trans (B8'.out.mono B5.out.size))
  have L8 := Lib.hid (L5.out.below (B8'.out.mono (by have := S5.out; omega)))
  obtain ⟨i0, hi, hy0, hy1, hy2⟩ := info_parts u8_info
  have HI := Lib.hid hi
  have G0 := Lib.hid hy0
  have G1 := Lib.hid hy1
  have G2 := Lib.hid hy2
  have HOR : Hid ((w8.alloc (.cells #[] 5)).ownsRow w8.heap.size 5 1 (.slice (some ⟨w8.heap.size, 0, none⟩) 0 0) 0 []) := Lib.hid (World.ownsRow_made w8 #[] 0 (Nat.le_refl _) (Nat.zero_le _) rfl)
  have LY : Hid (Lies (w8.alloc (.cells #[] 5)) w3.heap.size (some ⟨g3, 0, none⟩) (B8 Y)) := Lib.hid (L8.out.below ((Below.refl _ w8).alloc (by have := S5.out; omega) _))
  have BA8 : Hid (Below w8.heap.size w8 (w8.alloc (.cells #[] 5))) := Lib.hid ((Below.refl _ _).alloc (Nat.le_refl _) _)
  have ZA : Hid (w8.heap.size ≤ (w8.alloc (.cells #[] 5)).heap.size) := Lib.hid (by simp)
  have hsq1 : 0 + Y.length ≤ 140737488355328 := by omega
  have hsq2 : Y.length + 1 ≤ 140737488355328 := by omega
  clear hi hy0 hy1 hy2 j4 n1 n3 C8
  go_wp2_with (first
    | (at_builtin; refine wpList_append_cells rfl _ _ 24 rfl w8.heap.size 5 i0 (.int .u8 0) 1 1 Tryd.underlying24 HI.out G0.out G1.out G2.out rfl (by omega) _ 0 [] rfl HOR.out w3.heap.size (some ⟨g3, 0, none⟩) Y.length k3' (B8 Y) rfl LY.out (B8_len1 Y) (B8_one Y) (room63 hsq1) (room1 hsq1) ZA.out ?_; intro v7 w7 hown7 hb7; rw [Nat.zero_add, List.nil_append] at hown7; have HO7 := Lib.hid hown7; have B7 := Lib.hid (BA8.out.trans hb7); clear hown7 hb7)
    | (at_builtin; refine wpList_append_cells rfl _ _ 24 rfl w8.heap.size 5 i0 (.int .u8 0) 1 1 Tryd.underlying24 HI.out G0.out G1.out G2.out rfl (by omega) _ Y.length (B8 Y) rfl (HO7.out.alloc _) (w7.heap.size + 1) (some ⟨w7.heap.size, 0, none⟩) 1 1 [.int .u8 0] rfl (Lies.one w7 5 _) rfl (by simp [Value.oneCell']) (room63 hsq2) (room1 hsq2) (by have := B7.out.size; simp; omega) ?_; intro v9 w9 hown9 hb9; rw [show B8 Y ++ [Value.int .u8 0] = B8 (Y ++ [0]) from by rw [B8_append]; rfl] at hown9; obtain ⟨A9, k9, rfl, hk9, hm9⟩ := own_form hown9; have L9 := Lib.hid (Lies.own hown9 (Nat.le_refl _)); have B9 := Lib.hid ((B7.out.alloc B7.out.size _).trans hb9); clear hown9 hb9))
  refine (mparse_at A9 k9 (Y.length + 1) (Y ++ [0]) w9.heap.size w9 (by simp) L9.out (Nat.le_refl _) (by simp; omega)).mono ?_
  rw [HYM.out]
  rintro e w10 ⟨hb10, rfl⟩
  have z9 := B9.out.size
  have z10 := hb10.size
  obtain ⟨w11, hw11⟩ : ∃ w11, w11 = w10.alloc (.cells #[.int .i64 0, .int .i64 0, .slice none 0 0, .slice none 0 0, .slice none 0 0, .slice none 0 0] 32) := ⟨_, rfl⟩
  have hb11 : Below w10.heap.size w10 w11 := by rw [hw11]; exact (Below.refl _ _).alloc (Nat.le_refl _) _
  have hb811 : Below w8.heap.size w8 w11 := B9.out.trans ((hb10.trans (hb11.mono z10)).mono z9)
  have L11 := Lib.hid ((L8.out.below (hb811.mono (by have := S5.out; omega))).take (Y.length - 1))
  have B11 := Lib.hid (B88.out.trans (hb811.mono B88.out.size))
  have z11 := hb811.size
  have HW11 := Lib.hid hw11
  have t0 : IntKind.i64.wrap ((Y.length : Int) - 1) = (Y.length : Int) - 1 := IntWalk.i64_in _ (by omega)
  have t1 : ((Y.length : Int) - 1).toNat = Y.length - 1 := by omega
  have t2 : (0 : Int) ≤ (Y.length : Int) - 1 := by omega
  have t3 : (Y.length : Int) - 1 ≤ (k3' : Int) := by omega
  have LT11 : Hid (Lies w11 w3.heap.size (some ⟨g3, 0, none⟩) (B8 (Y.take (Y.length - 1)))) := Lib.hid (by
    have h := L11.out
    rw [B8, ← List.map_take] at h
    exact h)
  clear hb10 hb11 hb811 hw11
  unfold zeroM
  go_wp2_with fail
  rw [← HW11.out]
  refine (mparse_at (some ⟨g3, 0, none⟩) k3' (Y.length - 1) (Y.take (Y.length - 1)) w3.heap.size w11 (by rw [List.length_take]; omega) LT11.out (by have := S5.out; omega) (by rw [List.length_take]; omega)).mono ?_
  rw [HYS.out]
  rintro e w12 ⟨hb12, rfl⟩
  have B12 := Lib.hid (B11.out.trans (hb12.mono B11.out.size))
  have hz12 := B12.out.size
  have DA : Hid (∀ o : Obj, Below w.heap.size w (w12.alloc o)) := Lib.hid (fun o => B12.out.alloc B12.out.size o)
  clear hb12 t0 t1 t2 t3
  unfold zeroM
  go_wp2_with fail
  refine (awake4_any _).mono ?_
  rintro e w13 ⟨rfl, hb13⟩
  have C13 := Lib.hid ((DA.out _).trans (hb13.mono (DA.out _).size))
  clear hb13
  go_wp2_with fail
  go_ret
  exact ⟨rfl, C13.out⟩
set_option maxHeartbeats 1000000 in
theorem mback_early (x f : Int) (ln : List Nat) (ls : List (List UInt8)) (t : List Fld) (AN AS AT : Option Addr) (cN_ cS_ cT_ dT : Nat) (w : World) (ht : TabH Raw dT w w.heap.size t AT cT_) (h : 30 < ls.length ∨ (ls.length ≤ 30 ∧ smallB 12 t = false)) :
    Calls Tryd.prog 5 #[.int .i64 x, .slice AN ln.length cN_, .slice AS ls.length cS_, .int .i64 f, .slice AT t.length cT_] w fun e w' => e = .returned (.bool true) ∧ Below w.heap.size w w' := by
  have HSM := Lib.hid (small_any 12 t AT cT_ dT w.heap.size 1 w (by omega) (by omega) ht)
  rcases h with h | ⟨h, hs⟩
  · have hi : (30 : Int) < (ls.length : Int) := by omega
    go_enter Tryd.func5, Tryd.ntmps5
    go_wp2_with fail
    refine (awake4_any _).mono ?_
    rintro e w1 ⟨rfl, hb1⟩
    have B1 := Lib.hid hb1
    clear hb1
    go_wp2_with fail
    go_ret
    exact ⟨rfl, B1.out⟩
  · have hi : ¬ (30 : Int) < (ls.length : Int) := by omega
    go_enter Tryd.func5, Tryd.ntmps5
    go_wp2_with fail
    refine HSM.out.mono ?_
    rintro e w0 ⟨rfl, rfl⟩
    rw [hs]
    go_wp2_with fail
    refine (awake4_any _).mono ?_
    rintro e w1 ⟨rfl, hb1⟩
    have B1 := Lib.hid hb1
    clear hb1
    go_wp2_with fail
    go_ret
    exact ⟨rfl, B1.out⟩
theorem mback_all (x f : Int) (ln : List Nat) (ls : List (List UInt8)) (t : List Fld) (AN AS AT : Option Addr) (cN_ cS_ cT_ dT bulk : Nat) (w : World)
    (hnc : ln.length ≤ cN_) (hnm : cN_ ≤ maxLen) (hln : Lies w w.heap.size AN (cellsN ln)) (hn64 : ∀ v ∈ ln, v < 18446744073709551616) (hsc : ls.length ≤ cS_) (hsm : cS_ ≤ maxLen) (hls : Lies w w.heap.size AS (cellsS ls))
    (ht : TabH Raw dT w w.heap.size t AT cT_) (hb : ∀ k, (rowsD k t).length ≤ 2 * bulk) (hk : bulk ≤ 1048576) :
    Calls Tryd.prog 5 #[.int .i64 x, .slice AN ln.length cN_, .slice AS ls.length cS_, .int .i64 f, .slice AT t.length cT_] w fun e w' => e = .returned (.bool true) ∧ Below w.heap.size w w' := by
  by_cases h30 : 30 < ls.length
  · exact mback_early x f ln ls t AN AS AT cN_ cS_ cT_ dT w ht (.inl h30)
  · cases h2 : smallB 12 t with
    | false => exact mback_early x f ln ls t AN AS AT cN_ cS_ cT_ dT w ht (.inr ⟨by omega, h2⟩)
    | true => exact mback_late x f ln ls t AN AS AT cN_ cS_ cT_ dT w hnc hnm hln hn64 hsc hsm hls ht (by omega) h2 (fun _ => by have := hb 8; omega)
end
end Go.Proofs.YtlfppfknelddcaaDoor
