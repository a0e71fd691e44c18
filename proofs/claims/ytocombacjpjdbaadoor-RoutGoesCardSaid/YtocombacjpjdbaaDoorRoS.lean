/- Layer 16, plain: exchanges and bindings as rows that rise. -/
import Derived.Test.YtocombacjpjdbaaDoorRis
import Derived.Test.YtocombacjpjdbaaDoorTopcS
namespace Go.Proofs.YtocombacjpjdbaaDoor
set_option maxRecDepth 100000
set_option linter.unusedSimpArgs false
set_option linter.unusedVariables false

structure Xc where
  name : List UInt8
  kind : Int
  lasts : Bool
deriving DecidableEq
structure Bnd where
  e : List UInt8
  q : List UInt8
  k : List UInt8
deriving DecidableEq
def ltB (a b : Bnd) : Bool := ltS a.e b.e || (decide (a.e = b.e) && (ltS a.q b.q || (decide (a.q = b.q) && ltS a.k b.k)))
theorem ltB_iff (a b : Bnd) : ltB a b = true ↔ ltS a.e b.e = true ∨ (a.e = b.e ∧ (ltS a.q b.q = true ∨ (a.q = b.q ∧ ltS a.k b.k = true))) := by
  simp [ltB]
theorem linB : LinO ltB where
  irr a := by simp [ltB, linS.irr]
  tr {a b c} h1 h2 := by
    rw [ltB_iff] at *
    rcases h1 with h1 | ⟨e1, h1⟩
    · rcases h2 with h2 | ⟨e2, h2⟩
      · exact .inl (linS.tr h1 h2)
      · exact .inl (e2 ▸ h1)
    · rcases h2 with h2 | ⟨e2, h2⟩
      · exact .inl (e1 ▸ h2)
      · refine .inr ⟨e1.trans e2, ?_⟩
        rcases h1 with h1 | ⟨f1, h1⟩
        · rcases h2 with h2 | ⟨f2, h2⟩
          · exact .inl (linS.tr h1 h2)
          · exact .inl (f2 ▸ h1)
        · rcases h2 with h2 | ⟨f2, h2⟩
          · exact .inl (f1 ▸ h2)
          · exact .inr ⟨f1.trans f2, linS.tr h1 h2⟩
  tot {a b} h1 h2 := by
    have n1 : ¬ ltB a b = true := by rw [h1]; simp
    have n2 : ¬ ltB b a = true := by rw [h2]; simp
    rw [ltB_iff] at n1 n2
    have e1 : a.e = b.e := by
      refine linS.tot ?_ ?_
      · cases e : ltS a.e b.e
        · rfl
        · exact absurd (.inl e) n1
      · cases e : ltS b.e a.e
        · rfl
        · exact absurd (.inl e) n2
    have e2 : a.q = b.q := by
      refine linS.tot ?_ ?_
      · cases e : ltS a.q b.q
        · rfl
        · exact absurd (.inr ⟨e1, .inl e⟩) n1
      · cases e : ltS b.q a.q
        · rfl
        · exact absurd (.inr ⟨e1.symm, .inl e⟩) n2
    have e3 : a.k = b.k := by
      refine linS.tot ?_ ?_
      · cases e : ltS a.k b.k
        · rfl
        · exact absurd (.inr ⟨e1, .inr ⟨e2, e⟩⟩) n1
      · cases e : ltS b.k a.k
        · rfl
        · exact absurd (.inr ⟨e1.symm, .inr ⟨e2.symm, e⟩⟩) n2
    cases a
    cases b
    simp_all
/-- the exchange of a name -/
def fndX : List Xc → List UInt8 → Option Xc
  | [], _ => none
  | x :: X, n => if x.name = n then some x else fndX X n
theorem fndX_name : ∀ {X : List Xc} {n : List UInt8} {x : Xc}, fndX X n = some x → x.name = n ∧ x ∈ X
  | [], _, _, h => by cases h
  | y :: X, n, x, h => by
    rw [fndX] at h
    split at h
    · rename_i e
      cases h
      exact ⟨e, by simp⟩
    · exact ⟨(fndX_name h).1, by simp [(fndX_name h).2]⟩
theorem fndX_none : ∀ {X : List Xc} {n : List UInt8}, (∀ x ∈ X, x.name ≠ n) → fndX X n = none
  | [], _, _ => rfl
  | y :: X, n, h => by
    rw [fndX, if_neg (h y (by simp)), fndX_none (fun x hx => h x (by simp [hx]))]
def RisX (X : List Xc) : Prop := Ris ltS (X.map (·.name))
theorem fndX_mem {X : List Xc} (h : RisX X) {x : Xc} (hx : x ∈ X) : fndX X x.name = some x := by
  induction X with
  | nil => cases hx
  | cons y X ih =>
    obtain ⟨h1, h2⟩ := List.pairwise_cons.1 h
    rw [fndX]
    rcases List.mem_cons.1 hx with rfl | hx
    · rw [if_pos rfl]
    · rw [if_neg (linS.ne (h1 x.name (List.mem_map.2 ⟨x, hx, rfl⟩)))]
      exact ih h2 hx
def addX (x : Xc) : List Xc → List Xc
  | [] => [x]
  | y :: X => if ltS y.name x.name = true then y :: addX x X else x :: y :: X
theorem mem_addX (x z : Xc) : ∀ X : List Xc, z ∈ addX x X ↔ z = x ∨ z ∈ X
  | [] => by simp [addX]
  | y :: X => by
    rw [addX]
    split
    · simp only [List.mem_cons, mem_addX x z X]
      constructor
      · rintro (h | h | h) <;> simp [h]
      · rintro (h | h | h) <;> simp [h]
    · simp
theorem addX_length (x : Xc) : ∀ X : List Xc, (addX x X).length = X.length + 1
  | [] => rfl
  | y :: X => by
    rw [addX]
    split
    · simp [addX_length x X]
    · simp
theorem RisX.add {x : Xc} : ∀ {X : List Xc}, RisX X → fndX X x.name = none → RisX (addX x X)
  | [], _, _ => by simp [addX, RisX, Ris]
  | y :: X, h, hn => by
    obtain ⟨h1, h2⟩ := List.pairwise_cons.1 h
    rw [fndX] at hn
    split at hn
    · cases hn
    · rename_i hne
      rw [addX]
      split
      · rename_i hlt
        refine List.pairwise_cons.2 ⟨fun z hz => ?_, RisX.add h2 hn⟩
        obtain ⟨u, hu, rfl⟩ := List.mem_map.1 hz
        rcases (mem_addX x u X).1 hu with rfl | hu
        · exact hlt
        · exact h1 u.name (List.mem_map.2 ⟨u, hu, rfl⟩)
      · rename_i hlt
        have hgt : ltS x.name y.name = true := linS.gt (by simpa using hlt) hne
        refine List.pairwise_cons.2 ⟨fun z hz => ?_, h⟩
        obtain ⟨u, hu, rfl⟩ := List.mem_map.1 hz
        rcases List.mem_cons.1 hu with rfl | hu
        · exact hgt
        · exact linS.tr hgt (h1 u.name (List.mem_map.2 ⟨u, hu, rfl⟩))
theorem fndX_add {x : Xc} : ∀ {X : List Xc}, fndX X x.name = none → ∀ n, fndX (addX x X) n = if n = x.name then some x else fndX X n
  | [], _, n => by
    simp only [addX, fndX]
    by_cases e : x.name = n
    · simp [e]
    · rw [if_neg e, if_neg (fun h => e h.symm)]
  | y :: X, hn, n => by
    rw [fndX] at hn
    split at hn
    · cases hn
    · rename_i hne
      rw [addX]
      split
      · rw [fndX, fndX, fndX_add hn n]
        by_cases e : y.name = n
        · rw [if_pos e, if_neg (fun h => hne (e.trans h)), if_pos e]
        · rw [if_neg e, if_neg e]
      · rw [fndX]
        by_cases e : x.name = n
        · rw [if_pos e, if_pos e.symm]
        · rw [if_neg e, if_neg (fun h => e h.symm)]
def dropX (n : List UInt8) (X : List Xc) : List Xc := X.filter fun x => decide (x.name ≠ n)
theorem RisX.drop {X : List Xc} (h : RisX X) (n : List UInt8) : RisX (dropX n X) := by
  unfold RisX dropX at *
  exact List.Pairwise.sublist (List.Sublist.map _ List.filter_sublist) h
theorem fndX_drop (n m : List UInt8) : ∀ X : List Xc, fndX (dropX n X) m = if m = n then none else fndX X m
  | [] => by simp [dropX, fndX]
  | y :: X => by
    have ih := fndX_drop n m X
    unfold dropX at *
    rw [List.filter_cons]
    by_cases e : y.name = n
    · simp only [e, ne_eq, not_true_eq_false, decide_false, Bool.false_eq_true, if_false]
      rw [ih, fndX]
      by_cases e2 : m = n
      · rw [if_pos e2, if_pos e2]
      · rw [if_neg e2, if_neg e2, if_neg (by rw [e]; exact fun h => e2 h.symm)]
    · simp only [e, ne_eq, not_false_eq_true, decide_true, if_true]
      rw [fndX, fndX, ih]
      by_cases e2 : y.name = m
      · rw [if_pos e2, if_pos e2, if_neg (fun h => e (e2.trans h))]
      · rw [if_neg e2, if_neg e2]

structure Rt where
  X : List Xc
  B : List Bnd
structure Rt.Ok (S : Rt) : Prop where
  rx : RisX S.X
  rb : Ris ltB S.B
  sx : ∀ x ∈ S.X, x.name.length ≤ 1000000
  kx : ∀ x ∈ S.X, 1 ≤ x.kind ∧ x.kind ≤ 3
  sb : ∀ b ∈ S.B, b.e.length ≤ 1000000 ∧ b.q.length ≤ 1000000 ∧ b.k.length ≤ 1000000
  fx : S.X.length ≤ 1000
  fb : S.B.length ≤ 1000
/-- each binding's exchange is there, and has a name -/
def Rt.Fit (S : Rt) : Prop := ∀ b ∈ S.B, b.e ≠ [] ∧ (fndX S.X b.e).isSome = true
def Rt.adds (S : Rt) (x : Xc) : Bool := decide (1 ≤ x.kind) && decide (x.kind ≤ 3) && (fndX S.X x.name).isNone
def Rt.add (S : Rt) (x : Xc) : Rt := if S.adds x = true then ⟨addX x S.X, S.B⟩ else S
def Rt.binds (S : Rt) (b : Bnd) : Bool := (fndX S.X b.e).isSome && !decide (b.e = []) && !decide (b ∈ S.B)
def Rt.bind (S : Rt) (b : Bnd) : Rt := if S.binds b = true then ⟨S.X, insR ltB b S.B⟩ else S
def Rt.unbind (S : Rt) (b : Bnd) : Rt := ⟨S.X, S.B.filter fun x => decide (x ≠ b)⟩
def Rt.take (S : Rt) (p : Bnd → Bool) : Rt := ⟨S.X, S.B.filter fun x => !p x⟩
def Rt.drop (S : Rt) (n : List UInt8) : Rt := ⟨dropX n S.X, S.B.filter fun x => !decide (x.e = n)⟩
def leadP (kind : Int) (bound key : List UInt8) : Bool := if kind = 1 then decide (bound = key) else if kind = 3 then mtT bound key else true
def Rt.sel (S : Rt) (x : Xc) (key : List UInt8) (b : Bnd) : Bool := decide (b.e = x.name) && leadP x.kind b.k key
def Rt.route (S : Rt) (n key : List UInt8) : List (List UInt8) :=
  match fndX S.X n with
  | none => []
  | some x => if n = [] then [key] else srtR ltS ((S.B.filter (S.sel x key)).map (·.q))
theorem Rt.Ok.add {S : Rt} (h : S.Ok) {x : Xc} (hx : x.name.length ≤ 1000000) (hf : S.X.length < 1000) : (S.add x).Ok := by
  unfold Rt.add
  split
  · rename_i ha
    simp only [Rt.adds, Bool.and_eq_true, decide_eq_true_eq, Option.isNone_iff_eq_none] at ha
    obtain ⟨⟨h1, h2⟩, h3⟩ := ha
    refine ⟨h.rx.add h3, h.rb, fun y hy => ?_, fun y hy => ?_, h.sb, by simp only [addX_length]; omega, h.fb⟩
    · rcases (mem_addX x y _).1 hy with rfl | hy
      · exact hx
      · exact h.sx y hy
    · rcases (mem_addX x y _).1 hy with rfl | hy
      · exact ⟨h1, h2⟩
      · exact h.kx y hy
  · exact h
theorem Rt.Ok.bind {S : Rt} (h : S.Ok) {b : Bnd} (h1 : b.e.length ≤ 1000000) (h2 : b.q.length ≤ 1000000) (h3 : b.k.length ≤ 1000000) (hf : S.B.length < 1000) : (S.bind b).Ok := by
  unfold Rt.bind
  split
  · rename_i ha
    simp only [Rt.binds, Bool.and_eq_true, Bool.not_eq_true', decide_eq_false_iff_not] at ha
    obtain ⟨⟨k1, k2⟩, k3⟩ := ha
    refine ⟨h.rx, h.rb.ins linB b, h.sx, h.kx, fun y hy => ?_, h.fx, Nat.le_trans (insR_length _ _ _) (by omega)⟩
    rcases (mem_insR linB b y _).1 hy with rfl | hy
    · exact ⟨h1, h2, h3⟩
    · exact h.sb y hy
  · exact h
theorem Rt.Ok.less {S : Rt} (h : S.Ok) (p : Bnd → Bool) : (⟨S.X, S.B.filter p⟩ : Rt).Ok :=
  ⟨h.rx, h.rb.filter p, h.sx, h.kx, fun b hb => h.sb b (List.mem_filter.1 hb).1, h.fx, Nat.le_trans (List.length_filter_le _ _) h.fb⟩
theorem Rt.Ok.unbind {S : Rt} (h : S.Ok) (b : Bnd) : (S.unbind b).Ok := h.less _
theorem Rt.Ok.take {S : Rt} (h : S.Ok) (p : Bnd → Bool) : (S.take p).Ok := h.less _
theorem Rt.Ok.drop {S : Rt} (h : S.Ok) (n : List UInt8) : (S.drop n).Ok := by
  exact ⟨h.rx.drop n, h.rb.filter _, fun x hx => h.sx x (List.mem_filter.1 hx).1, fun x hx => h.kx x (List.mem_filter.1 hx).1, fun b hb => h.sb b (List.mem_filter.1 hb).1, Nat.le_trans (List.length_filter_le _ _) h.fx, Nat.le_trans (List.length_filter_le _ _) h.fb⟩
theorem Rt.Ok.dropX {S : Rt} (h : S.Ok) (n : List UInt8) : (⟨dropX n S.X, S.B⟩ : Rt).Ok :=
  ⟨h.rx.drop n, h.rb, fun x hx => h.sx x (List.mem_filter.1 hx).1, fun x hx => h.kx x (List.mem_filter.1 hx).1, h.sb, Nat.le_trans (List.length_filter_le _ _) h.fx, h.fb⟩
theorem Rt.Fit.add {S : Rt} (h : S.Fit) (x : Xc) : (S.add x).Fit := by
  unfold Rt.add
  split
  · rename_i ha
    simp only [Rt.adds, Bool.and_eq_true, decide_eq_true_eq, Option.isNone_iff_eq_none] at ha
    intro b hb
    refine ⟨(h b hb).1, ?_⟩
    show (fndX (addX x S.X) b.e).isSome = true
    rw [fndX_add ha.2]
    split
    · rfl
    · exact (h b hb).2
  · exact h
theorem Rt.Fit.bind {S : Rt} (h : S.Fit) (b : Bnd) : (S.bind b).Fit := by
  unfold Rt.bind
  split
  · rename_i ha
    simp only [Rt.binds, Bool.and_eq_true, Bool.not_eq_true', decide_eq_false_iff_not] at ha
    intro y hy
    rcases (mem_insR linB b y _).1 hy with rfl | hy
    · exact ⟨ha.1.2, ha.1.1⟩
    · exact h y hy
  · exact h
theorem Rt.Fit.less {S : Rt} (h : S.Fit) (p : Bnd → Bool) : (⟨S.X, S.B.filter p⟩ : Rt).Fit := fun b hb => h b (List.mem_filter.1 hb).1
theorem Rt.Fit.drop {S : Rt} (h : S.Fit) (n : List UInt8) : (S.drop n).Fit := by
  intro b hb
  obtain ⟨b1, b2⟩ := List.mem_filter.1 hb
  refine ⟨(h b b1).1, ?_⟩
  show (fndX (Go.Proofs.YtocombacjpjdbaaDoor.dropX n S.X) b.e).isSome = true
  rw [fndX_drop, if_neg (by simpa using b2)]
  exact (h b b1).2
theorem Rt.X_bind (S : Rt) (b : Bnd) : (S.bind b).X = S.X := by unfold Rt.bind; split <;> rfl
theorem Rt.B_add (S : Rt) (x : Xc) : (S.add x).B = S.B := by unfold Rt.add; split <;> rfl
theorem Rt.route_ris (S : Rt) (n key : List UInt8) : Ris ltS (S.route n key) := by
  unfold Rt.route
  split
  · exact List.Pairwise.nil
  · split
    · simp [Ris]
    · exact ris_srtR linS _
theorem Rt.mem_route (S : Rt) {n key : List UInt8} {x : Xc} (hx : fndX S.X n = some x) (hn : n ≠ []) (q : List UInt8) : q ∈ S.route n key ↔ ∃ b ∈ S.B, b.e = n ∧ leadP x.kind b.k key = true ∧ b.q = q := by
  unfold Rt.route
  rw [hx]
  simp only [if_neg hn]
  rw [mem_srtR linS]
  have e := (fndX_name hx).1
  constructor
  · intro h
    obtain ⟨b, hb, rfl⟩ := List.mem_map.1 h
    obtain ⟨h1, h2⟩ := List.mem_filter.1 hb
    simp only [Rt.sel, Bool.and_eq_true, decide_eq_true_eq, e] at h2
    exact ⟨b, h1, h2.1, h2.2, rfl⟩
  · rintro ⟨b, h1, h2, h3, rfl⟩
    refine List.mem_map.2 ⟨b, List.mem_filter.2 ⟨h1, ?_⟩, rfl⟩
    simp only [Rt.sel, Bool.and_eq_true, decide_eq_true_eq, e]
    exact ⟨h2, h3⟩
/-- the broker's own exchanges -/
def nDirect : List UInt8 := [97, 109, 113, 46, 100, 105, 114, 101, 99, 116]
def nFanout : List UInt8 := [97, 109, 113, 46, 102, 97, 110, 111, 117, 116]
def nTopic : List UInt8 := [97, 109, 113, 46, 116, 111, 112, 105, 99]
def rt0 : Rt := ⟨[⟨[], 1, true⟩, ⟨nDirect, 1, true⟩, ⟨nFanout, 2, true⟩, ⟨nTopic, 3, true⟩], []⟩
theorem rt0_ok : rt0.Ok where
  rx := by
    have h1 : ltS [] nDirect = true := by decide
    have h2 : ltS [] nFanout = true := by decide
    have h3 : ltS [] nTopic = true := by decide
    have h4 : ltS nDirect nFanout = true := by decide
    have h5 : ltS nDirect nTopic = true := by decide
    have h6 : ltS nFanout nTopic = true := by decide
    simp [RisX, Ris, rt0, h1, h2, h3, h4, h5, h6]
  rb := List.Pairwise.nil
  sx x hx := by simp [rt0] at hx; rcases hx with rfl | rfl | rfl | rfl <;> simp [nDirect, nFanout, nTopic]
  kx x hx := by simp [rt0] at hx; rcases hx with rfl | rfl | rfl | rfl <;> simp
  sb b hb := by cases hb
  fx := by simp [rt0]
  fb := by simp [rt0]
end Go.Proofs.YtocombacjpjdbaaDoor
