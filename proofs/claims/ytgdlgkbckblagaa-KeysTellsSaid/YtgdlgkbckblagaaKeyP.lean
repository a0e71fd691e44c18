/- Contracts of package keys: a key is read. -/
import Derived.Test.YtgdlgkbckblagaaKeyT
import Derived.Test.YtgdlgkbckblagaaOctsLf
namespace Go.Proofs.Ytgdlgkbckblagaa
open Go.RowKit
set_option maxRecDepth 100000
set_option linter.unusedSimpArgs false
set_option linter.unusedVariables false

/-- a text that is read, if it is there to be read -/
def rdT (a : Bool) (l : List UInt8) : List UInt8 := if a then txt 1 l else []
def rdR (a : Bool) (l : List UInt8) : List UInt8 := if a then txtRest 1 l else l
def rdS (a : Bool) (l : List UInt8) : Bool := a && txtShort 1 l
/-- what is read of octets behind the kind, whose parts are told -/
structure Rd where
  A : List UInt8
  B : List UInt8
  C : List UInt8
  id : Nat
  rest : List UInt8
  bad : Bool
def rdK (a b i : Bool) (l : List UInt8) : Rd :=
  ⟨rdT a l, rdT b (rdR a l), rdT b (rdR b (rdR a l)), if i then nat (tk 8 (rdR b (rdR b (rdR a l)))) else 0, if i then rst 8 (rdR b (rdR b (rdR a l))) else rdR b (rdR b (rdR a l)),
    rdS a l || rdS b (rdR a l) || rdS b (rdR b (rdR a l)) || (i && short 8 (rdR b (rdR b (rdR a l))))⟩
def rdOk (l : List UInt8) (a b i : Bool) (R : Rd) : Bool := !(short 1 l || R.bad) && R.rest.isEmpty && fitsB R.A R.B R.C R.id a b b i
/-- the key that octets are, or none -/
def keyOf (l : List UInt8) : Option (Int × List UInt8 × List UInt8 × List UInt8 × Nat) :=
  if pkOk (nat (tk 1 l)) && rdOk l (pkA (nat (tk 1 l))) (pkB (nat (tk 1 l))) (pkI (nat (tk 1 l))) (rdK (pkA (nat (tk 1 l))) (pkB (nat (tk 1 l))) (pkI (nat (tk 1 l))) (rst 1 l))
  then some ((nat (tk 1 l) : Int), (rdK (pkA (nat (tk 1 l))) (pkB (nat (tk 1 l))) (pkI (nat (tk 1 l))) (rst 1 l)).A, (rdK (pkA (nat (tk 1 l))) (pkB (nat (tk 1 l))) (pkI (nat (tk 1 l))) (rst 1 l)).B, (rdK (pkA (nat (tk 1 l))) (pkB (nat (tk 1 l))) (pkI (nat (tk 1 l))) (rst 1 l)).C, (rdK (pkA (nat (tk 1 l))) (pkB (nat (tk 1 l))) (pkI (nat (tk 1 l))) (rst 1 l)).id)
  else none
def tellsP (r : Option (Int × List UInt8 × List UInt8 × List UInt8 × Nat)) (w : World) (e : Ending) (w' : World) : Prop :=
  (match r with
    | some (k, A, B, C, id) => e = .returned (.tuple #[kyV k A B C id, .bool true])
    | none => e = .returned (.tuple #[kyV 0 [] [] [] 0, .bool false])) ∧ Below w.heap.size w w'

def kyC (k : Int) (A B C : List UInt8) (id : Nat) : Array Value := #[.int .i64 k, .string ⟨A.toArray⟩, .string ⟨B.toArray⟩, .string ⟨C.toArray⟩, .int .u64 id]
/-- keys.Parse under way: the result's box, the key's, the parts', and what is left -/
structure KP (w W : World) (kb pb g : Nat) (k : Int) (A B C : List UInt8) (id : Nat) (a b i : Bool) (l : List UInt8) (bad : Bool) : Prop where
  z : Whole W w.heap.size 28 (kyC 0 [] [] [] 0)
  k : Whole W kb 28 (kyC k A B C id)
  p : Whole W pb 48 #[.bool a, .bool b, .bool b, .bool i]
  i : InAt W g l bad
  h1 : w.heap.size < g
  h2 : g < kb
  h3 : kb < pb
  bel : Below w.heap.size w W
section
variable {w W W' : World} {kb pb g : Nat} {k : Int} {A B C : List UInt8} {id : Nat} {a b i : Bool} {l : List UInt8} {bad : Bool}
theorem KP.read (h : KP w W kb pb g k A B C id a b i l bad) {l' : List UInt8} {bad' : Bool} (hi : InAt W' g l' bad') (hg : W.grownBy W' (some g)) : KP w W' kb pb g k A B C id a b i l' bad' :=
  ⟨h.z.grown hg (fun e => by injection e with e; have := h.h1; omega), h.k.grown hg (fun e => by injection e with e; have := h.h2; omega), h.p.grown hg (fun e => by injection e with e; have := h.h2; have := h.h3; omega), hi, h.h1, h.h2, h.h3,
    h.bel.trans (below_only hg (Nat.le_of_lt h.h1) h.bel.size)⟩
theorem KP.below (h : KP w W kb pb g k A B C id a b i l bad) (hb : Below W.heap.size W W') : KP w W' kb pb g k A B C id a b i l bad :=
  ⟨h.z.below hb h.z.lt, h.k.below hb h.k.lt, h.p.below hb h.p.lt, h.i.below hb h.i.lt, h.h1, h.h2, h.h3, h.bel.trans (hb.mono h.bel.size)⟩
theorem Whole.aside {W : World} {g : Nat} {t : TypeId} {cs : Array Value} (h : Whole W g t cs) {c : Nat} (hc : g ≠ c) (j : Nat) (u : Value) : Whole (W.setCell ⟨c, j, none⟩ u) g t cs :=
  (Below.heap_setCell W ⟨c, j, none⟩ u g hc).trans h
theorem InAt.aside {W : World} {g : Nat} {l : List UInt8} {bad : Bool} (h : InAt W g l bad) {c : Nat} (hc : g < c) (j : Nat) (u : Value) : InAt (W.setCell ⟨c, j, none⟩ u) g l bad :=
  h.below (B := c) ((Below.refl _ W).setCell (p := ⟨c, j, none⟩) (Nat.le_refl _) u) hc
theorem KP.set (h : KP w W kb pb g k A B C id a b i l bad) (j : Nat) (u : Value) {A' B' C' : List UInt8} {id' : Nat} (e : (kyC k A B C id).setIfInBounds j u = kyC k A' B' C' id') : KP w (W.setCell ⟨kb, j, none⟩ u) kb pb g k A' B' C' id' a b i l bad := by
  have h1 := h.h1
  have h2 := h.h2
  have h3 := h.h3
  exact ⟨h.z.aside (by omega) _ _, by rw [← e]; exact h.k.put j u, h.p.aside (by omega) _ _, h.i.aside h2 _ _, h1, h2, h3, h.bel.setCell (p := ⟨kb, j, none⟩) (by show w.heap.size ≤ kb; omega) u⟩
theorem kyC_cells {g : Nat} (h : Whole W g 28 (kyC k A B C id)) : W.cell? ⟨g, 0, none⟩ = some (.int .i64 k) ∧ W.cell? ⟨g, 1, none⟩ = some (.string ⟨A.toArray⟩) ∧ W.cell? ⟨g, 2, none⟩ = some (.string ⟨B.toArray⟩) ∧ W.cell? ⟨g, 3, none⟩ = some (.string ⟨C.toArray⟩) ∧ W.cell? ⟨g, 4, none⟩ = some (.int .u64 id) := five12 h
end
theorem zero_put {W : World} {g : Nat} {t : TypeId} {cs : Array Value} {u0 u1 u2 u3 u4 : Value} (h : Whole W g t cs) (hs : cs.size = 5 := by rfl) : Whole (((((W.setCell ⟨g, 0, none⟩ u0).setCell ⟨g, 1, none⟩ u1).setCell ⟨g, 2, none⟩ u2).setCell ⟨g, 3, none⟩ u3).setCell ⟨g, 4, none⟩ u4) g t #[u0, u1, u2, u3, u4] := by
  have h2 := Whole.put (Whole.put (Whole.put (Whole.put (Whole.put h 0 u0) 1 u1) 2 u2) 3 u3) 4 u4
  obtain ⟨l⟩ := cs
  rcases l with _ | ⟨a, _ | ⟨b, _ | ⟨c, _ | ⟨d, _ | ⟨e, _ | ⟨x, l⟩⟩⟩⟩⟩⟩ <;> simp at hs
  exact h2
theorem below_put12 {B : Nat} {a w : World} {g : Nat} (h : Below B a w) (hg : B ≤ g) (u0 u1 u2 u3 u4 : Value) :
    Below B a (((((w.setCell ⟨g, 0, none⟩ u0).setCell ⟨g, 1, none⟩ u1).setCell ⟨g, 2, none⟩ u2).setCell ⟨g, 3, none⟩ u3).setCell ⟨g, 4, none⟩ u4) :=
  ((((h.setCell (p := ⟨g, 0, none⟩) hg u0).setCell (p := ⟨g, 1, none⟩) hg u1).setCell (p := ⟨g, 2, none⟩) hg u2).setCell (p := ⟨g, 3, none⟩) hg u3).setCell (p := ⟨g, 4, none⟩) hg u4
theorem pk_ways (k : Int) (h : pkOk k = true) : (pkA k = true ∧ pkB k = false ∧ pkI k = false) ∨ (pkA k = true ∧ pkB k = true ∧ pkI k = false) ∨ (pkA k = false ∧ pkB k = false ∧ pkI k = true) ∨ (pkA k = true ∧ pkB k = false ∧ pkI k = true) := by
  rcases pk_cases k with rfl | rfl | rfl | rfl | rfl | ⟨_, _, _, _, _, e1, _⟩
  · exact .inl ⟨rfl, rfl, rfl⟩
  · exact .inl ⟨rfl, rfl, rfl⟩
  · exact .inr (.inl ⟨rfl, rfl, rfl⟩)
  · exact .inr (.inr (.inl ⟨rfl, rfl, rfl⟩))
  · exact .inr (.inr (.inr ⟨rfl, rfl, rfl⟩))
  · rw [e1] at h; cases h
theorem load_key (w : World) (g : Nat) (cs : Array Value) (hg : Whole w g 28 cs) (hs : cs.size = 5) : (loadVar 28 ⟨g, 0, none⟩).run Try.prog w = .ok (.agg cs) w :=
  run_loadVar_row (P := Try.prog) w g _ _ cs (0, 0) _ hg Try.underlying28 rfl (by rw [hs]; kernel_rfl)
theorem parse_end {w : World} {b : Nat} {cs : Array Value} (hg : Whole w b 28 cs) (hs : cs.size = 5) (tmps : Array Value) (ds) (c : Bool) (h6 : tmps.getD 2 undef = .pointer (some ⟨b, 0, none⟩)) (h7 : tmps.getD 3 undef = .bool c)
    (R : Ending → World → Prop) (hR : R (.returned (.tuple #[.agg cs, .bool c])) w) (hd : ds = []) : bodyPost Try.prog Try.f12 R .ret { tmps := tmps, defers := ds } w := by
  refine bodyPost_ret (v := .tuple #[.agg cs, .bool c]) ?_ hd hR
  rw [results_cell_tmp (p := 2) (u := 3) (ty := 28) rfl]
  rw [h6, h7]
  simp [asAddr, load_key w b cs hg hs, Result.andThen]
theorem keyOf_rd {s : List UInt8} {k : Nat} {a b i : Bool} {R : Rd} (hk : nat (tk 1 s) = k) (ho : pkOk k = true) (ha : pkA k = a) (hb : pkB k = b) (hi : pkI k = i) (hR : rdK a b i (rst 1 s) = R) :
    keyOf s = if rdOk s a b i R then some ((k : Int), R.A, R.B, R.C, R.id) else none := by
  subst hk ha hb hi hR
  unfold keyOf
  rw [ho, Bool.true_and]
theorem keyOf_no {s : List UInt8} (h : pkOk (nat (tk 1 s)) = false) : keyOf s = none := by
  unfold keyOf
  rw [h, Bool.false_and, if_neg (by decide)]
theorem nat8 (l : List UInt8) (n : Nat) (h : n ≤ 8) : nat (tk n l) < 18446744073709551616 := by
  have h3 := nat_lt (tk n l)
  have h4 := tk_le n l
  have h5 : 256 ^ (tk n l).length ≤ 256 ^ 8 := Nat.pow_le_pow_right (by omega) (by omega)
  have h6 : (256 : Nat) ^ 8 = 18446744073709551616 := by decide
  omega
theorem nat1 (l : List UInt8) : nat (tk 1 l) < 256 := by
  have h3 := nat_lt (tk 1 l)
  have h4 := tk_le 1 l
  have h5 : 256 ^ (tk 1 l).length ≤ 256 ^ 1 := Nat.pow_le_pow_right (by omega) (by omega)
  omega
theorem kfrom_any (A : Option Addr) (c n : Nat) (l : List UInt8) (B : Nat) (w : World) (hn : n = l.length) (hl : Lies w B A (B8 l)) (hB : B ≤ w.heap.size) (hs : l.length ≤ 140737488355328) :
    Calls Try.prog 27 #[.slice A n c] w fun e w' => ∃ g, w.heap.size ≤ g ∧ e = .returned (.pointer (some ⟨g, 0, none⟩)) ∧ InAt w' g l false ∧ Below w.heap.size w w' := by
  subst hn
  exact from_any A c l B w hl hB hs
theorem kin8 (g : Nat) (l : List UInt8) (bad : Bool) (w : World) (h : InAt w g l bad) :
    Calls Try.prog 28 #[.pointer (some ⟨g, 0, none⟩), .int .i64 8] w (ReadInt g l 8 bad w) := by
  have h := in_int g 8 l bad w h
  rwa [show wid 8 = 8 from rfl] at h
theorem kin1 (g : Nat) (l : List UInt8) (bad : Bool) (w : World) (h : InAt w g l bad) :
    Calls Try.prog 28 #[.pointer (some ⟨g, 0, none⟩), .int .i64 1] w (ReadInt g l 1 bad w) := by
  have h := in_int g 1 l bad w h
  rwa [show wid 1 = 1 from rfl] at h
set_option maxHeartbeats 4000000 in
theorem kparse_any (s : List UInt8) (w : World) (hs : s.length ≤ 140737488355328) :
    Calls Try.prog 12 #[.string ⟨s.toArray⟩] w (tellsP (keyOf s) w) := by
  obtain ⟨W1, hW1⟩ : ∃ W, W = w.alloc (.cells (kyC 0 [] [] [] 0) 28) := ⟨_, rfl⟩
  have Z1 : Hid (Whole W1 w.heap.size 28 (kyC 0 [] [] [] 0)) := Lib.hid (by rw [hW1]; exact Whole.new _ _ _)
  have B1 : Hid (Below w.heap.size w W1) := Lib.hid (by rw [hW1]; exact (Below.refl _ _).alloc (Nat.le_refl _) _)
  have y1 : W1.heap.size = w.heap.size + 1 := by rw [hW1]; simp
  have HW1 := Lib.hid hW1
  have cv := Lib.run_convert_string_bytes (P := Try.prog) W1 9 23 5 ⟨s.toArray⟩ Try.underlying9 Try.underlying23 Try.underlying5
  have LS := Lib.hid (bytes_lie W1 5 s)
  have BS := bytes_below W1 5 ⟨s.toArray⟩
  have Z2 := Lib.hid (Z1.out.below BS Z1.out.lt)
  have B2 := Lib.hid (B1.out.trans (BS.mono B1.out.size))
  have y2 : (Lib.bytesWorld W1 5 ⟨s.toArray⟩).heap.size = W1.heap.size + 1 := Lib.bytesWorld_size _ _ _
  have SZ := key_size s
  generalize Lib.bytesWorld W1 5 ⟨s.toArray⟩ = w2 at *
  generalize grownCap W1 (ByteArray.size ⟨s.toArray⟩) 0 5 = c2 at *
  have Y1 := Lib.hid y1
  have Y2 := Lib.hid y2
  clear BS y1 y2
  rw [hW1] at cv
  unfold kyC at cv
  rw [show ((0 : Nat) : Int) = 0 from rfl] at cv
  clear hW1
  go_enter Try.func12, Try.ntmps12
  go_wp2_with fail
  rw [← Y1.out]
  refine (kfrom_any (some ⟨W1.heap.size, 0, none⟩) c2 _ s (W1.heap.size + 1) _ rfl LS.out (by rw [Y2.out]; exact Nat.le_refl _) hs).mono ?_
  rintro e w3 ⟨g, hg0, rfl, hi, hb⟩
  have Z3 := Lib.hid (Z2.out.below hb Z2.out.lt)
  have B3 := Lib.hid (B2.out.trans (hb.mono B2.out.size))
  have hg1 : w.heap.size < g := by have := Y1.out; have := Y2.out; omega
  have I3 := Lib.hid hi
  clear hb hi cv
  go_wp2_with fail
  refine (kin1 g s false _ I3.out).mono ?_
  rintro e w4 ⟨rfl, hi, hg⟩
  obtain ⟨kn, hkn⟩ : ∃ k, k = nat (tk 1 s) := ⟨_, rfl⟩
  obtain ⟨L0, hL0⟩ : ∃ L, L = rst 1 s := ⟨_, rfl⟩
  obtain ⟨b0, hb0⟩ : ∃ x, x = (false || short 1 s) := ⟨_, rfl⟩
  have r0 : L0.length ≤ 140737488355328 := by have := rst_sub 1 s; rw [hL0]; omega
  have kl : kn < 256 := by rw [hkn]; exact nat1 s
  have kw : IntKind.i64.wrap (kn : Int) = (kn : Int) := IntWalk.i64_in _ (by omega)
  rw [← hL0, ← hb0] at hi
  rw [← hkn]
  have Z4 := Lib.hid (Z3.out.grown hg (fun e => by injection e with e; omega))
  have B4 := Lib.hid (B3.out.trans (below_only hg (Nat.le_of_lt hg1) B3.out.size))
  have I4 := Lib.hid hi
  have g4 : g < w4.heap.size := hi.lt
  have HKN := Lib.hid hkn
  have HL0 := Lib.hid hL0
  have Hb0 := Lib.hid hb0
  clear hi hg hkn hL0 hb0 hg0
  have hpa := fun w => parts_any (kn : Int) w
  obtain ⟨a, ha⟩ : ∃ a, a = pkA (kn : Int) := ⟨_, rfl⟩
  obtain ⟨b, hb⟩ : ∃ b, b = pkB (kn : Int) := ⟨_, rfl⟩
  obtain ⟨i, hi⟩ : ∃ i, i = pkI (kn : Int) := ⟨_, rfl⟩
  obtain ⟨o, ho⟩ : ∃ o, o = pkOk (kn : Int) := ⟨_, rfl⟩
  rw [← ha, ← hb, ← hi, ← ho] at hpa
  have HPA := Lib.hid hpa
  have habi : o = true → (a = true ∧ b = false ∧ i = false) ∨ (a = true ∧ b = true ∧ i = false) ∨ (a = false ∧ b = false ∧ i = true) ∨ (a = true ∧ b = false ∧ i = true) := by
    intro h
    rw [ho] at h
    rw [ha, hb, hi]
    exact pk_ways _ h
  have HABI := Lib.hid habi
  have HA := Lib.hid ha.symm
  have HB := Lib.hid hb.symm
  have HI := Lib.hid hi.symm
  have HO := Lib.hid ho.symm
  clear hpa habi ha hb hi ho
  obtain ⟨W5, hW5⟩ : ∃ W, W = w4.alloc (.cells (kyC (kn : Int) [] [] [] 0) 28) := ⟨_, rfl⟩
  have k5 : Whole W5 w4.heap.size 28 (kyC (kn : Int) [] [] [] 0) := by rw [hW5]; exact Whole.new _ _ _
  have B5 : Hid (Below w.heap.size w W5) := Lib.hid (by rw [hW5]; exact B4.out.alloc B4.out.size _)
  have Z5 : Hid (Whole W5 w.heap.size 28 (kyC 0 [] [] [] 0)) := Lib.hid (by rw [hW5]; exact Z4.out.alloc _)
  have I5 : Hid (InAt W5 g L0 b0) := Lib.hid (by rw [hW5]; exact I4.out.below (B := w4.heap.size) ((Below.refl _ _).alloc (Nat.le_refl _) _) g4)
  have y5 : W5.heap.size = w4.heap.size + 1 := by rw [hW5]; simp
  have Y5 := Lib.hid y5
  have q0 := (kyC_cells k5).1
  rw [hW5] at q0
  unfold kyC at q0
  rw [show ((0 : Nat) : Int) = 0 from rfl] at q0
  have K5 := Lib.hid k5
  have HW5 := Lib.hid hW5
  clear k5 hW5 y5
  go_wp2_with fail
  have e5 := HW5.out
  unfold kyC at e5
  rw [show ((0 : Nat) : Int) = 0 from rfl] at e5
  rw [← e5]
  clear e5
  refine (HPA.out _).mono ?_
  rintro e w6 ⟨rfl, hb6⟩
  unfold prV
  have Z6 := Lib.hid (Z5.out.below hb6 Z5.out.lt)
  have K6 := Lib.hid (K5.out.below hb6 K5.out.lt)
  have I6 := Lib.hid (I5.out.below hb6 I5.out.lt)
  have B6 := Lib.hid (B5.out.trans (hb6.mono B5.out.size))
  have z6 := hb6.size
  have KK : KP w (w6.alloc (.cells #[.bool a, .bool b, .bool b, .bool i] 48)) w4.heap.size w6.heap.size g (kn : Int) [] [] [] 0 a b i L0 b0 :=
    ⟨Z6.out.alloc _, K6.out.alloc _, Whole.new _ _ _, I6.out.below (B := w6.heap.size) ((Below.refl _ _).alloc (Nat.le_refl _) _) I6.out.lt, hg1, g4, by have := Y5.out; omega, B6.out.alloc B6.out.size _⟩
  have K0 := Lib.hid KK
  clear KK hb6
  obtain ⟨c0, c1, c2, c3, c4⟩ := kyC_cells K0.out.k
  obtain ⟨p0, p1, p2, p3⟩ := four12 K0.out.p
  have fr := K0.out.k.frozen
  cases o with
  | false =>
    have Z := K0.out.z
    have BZ := Lib.hid K0.out.bel
    have fz := Z.frozen
    obtain ⟨z0, z1, z2, z3, z4⟩ := kyC_cells Z
    have HZ := Lib.hid Z
    clear Z
    go_wp2_with fail
    refine parse_end (zero_put HZ.out) rfl _ _ false rfl rfl _ ?_ rfl
    unfold tellsP
    rw [keyOf_no (by rw [← HKN.out]; exact HO.out)]
    exact ⟨rfl, below_put12 BZ.out (Nat.le_refl _) _ _ _ _ _⟩
  | true =>
    rcases HABI.out rfl with ⟨rfl, rfl, rfl⟩ | ⟨rfl, rfl, rfl⟩ | ⟨rfl, rfl, rfl⟩ | ⟨rfl, rfl, rfl⟩
    · go_wp2_with fail
      refine (in_short g L0 b0 _ K0.out.i).mono ?_
      rintro e w1 ⟨rfl, hi, hg⟩
      obtain ⟨T1, hT1⟩ : ∃ T, T = txt 1 L0 := ⟨_, rfl⟩
      obtain ⟨L1, hL1⟩ : ∃ L, L = txtRest 1 L0 := ⟨_, rfl⟩
      obtain ⟨b1, hb1⟩ : ∃ x, x = (b0 || txtShort 1 L0) := ⟨_, rfl⟩
      have s1 : T1.length ≤ 140737488355328 := by have := txt_sub 1 L0; rw [hT1]; omega
      have r1 : L1.length ≤ 140737488355328 := by have := txtRest_sub 1 L0; rw [hL1]; omega
      rw [← hL1, ← hb1] at hi
      rw [← hT1]
      have K := K0.out.read hi hg
      clear hi hg
      clear c0 c1 c2 c3 c4 p0 p1 p2 p3 fr
      have c1 := (kyC_cells K.k).2.1
      have fr := K.k.frozen
      have K1 := Lib.hid (K.set 1 (.string ⟨T1.toArray⟩) (A' := T1) (B' := []) (C' := []) (id' := 0) rfl)
      clear K
      have HT1 := Lib.hid hT1
      have HL1 := Lib.hid hL1
      have Hb1 := Lib.hid hb1
      clear hT1 hL1 hb1
      have cx := c1
      have fx := fr
      clear c1 fr
      obtain ⟨c0, c1, c2, c3, c4⟩ := kyC_cells K1.out.k
      obtain ⟨p0, p1, p2, p3⟩ := four12 K1.out.p
      have fr := K1.out.k.frozen
      have FIN : Hid (keyOf s = if (!b1 && L1.isEmpty && fitsB T1 [] [] 0 true false false false) then some ((kn : Int), T1, [], [], 0) else none) := Lib.hid (by
        rw [keyOf_rd (k := kn) HKN.out.symm HO.out HA.out HB.out HI.out rfl]
        rw [Hb1.out, HT1.out, HL1.out, HL0.out, Hb0.out]
        unfold rdOk rdK rdT rdR rdS
        simp [Bool.or_assoc])
      have done : ∀ (r : Bool), (!b1 && L1.isEmpty && fitsB T1 [] [] 0 true false false false) = r → keyOf s = if r then some ((kn : Int), T1, [], [], 0) else none := by
        intro r hr
        rw [FIN.out, hr]
      have DONE := Lib.hid done
      clear done FIN
      go_wp2_with fail
      refine (in_ok g L1 b1 _ K1.out.i).mono ?_
      rintro e w8 ⟨rfl, rfl⟩
      cases b1 with
      | true =>
        have Z := K1.out.z
        have BZ := Lib.hid K1.out.bel
        have fz := Z.frozen
        obtain ⟨z0, z1, z2, z3, z4⟩ := kyC_cells Z
        have HZ := Lib.hid Z
        clear Z
        go_wp2_with fail
        refine parse_end (zero_put HZ.out) rfl _ _ false rfl rfl _ ?_ rfl
        unfold tellsP
        rw [DONE.out false rfl, if_neg (by decide)]
        exact ⟨rfl, below_put12 BZ.out (Nat.le_refl _) _ _ _ _ _⟩
      | false =>
        go_wp2_with fail
        refine (in_left g L1 false _ K1.out.i).mono ?_
        rintro e w9 ⟨rfl, rfl⟩
        rcases L1 with _ | ⟨y, L1⟩
        · have ff := fun w => fits_any (kn : Int) T1 [] [] 0 true false false false w (room63 s1) (Nat.zero_le _) (Nat.zero_le _)
          obtain ⟨f, hf⟩ : ∃ f, f = fitsB T1 [] [] 0 true false false false := ⟨_, rfl⟩
          rw [← hf] at ff
          have FF := Lib.hid ff
          have hdo := DONE.out f (by rw [hf]; simp)
          have HDO := Lib.hid hdo
          clear ff hf hdo DONE
          go_wp2_with fail
          refine (FF.out _).mono ?_
          rintro e w10 ⟨rfl, hb10⟩
          have K10 := Lib.hid (K1.out.below hb10)
          clear c0 c1 c2 c3 c4 p0 p1 p2 p3 fr
          have Z := K10.out.z
          have BZ := Lib.hid K10.out.bel
          have fz := Z.frozen
          obtain ⟨z0, z1, z2, z3, z4⟩ := kyC_cells Z
          have HZ := Lib.hid Z
          clear Z hb10
          obtain ⟨c0, c1, c2, c3, c4⟩ := kyC_cells K10.out.k
          cases f with
          | false =>
            go_wp2_with fail
            refine parse_end (zero_put HZ.out) rfl _ _ false rfl rfl _ ?_ rfl
            unfold tellsP
            rw [HDO.out, if_neg (by decide)]
            exact ⟨rfl, below_put12 BZ.out (Nat.le_refl _) _ _ _ _ _⟩
          | true =>
            go_wp2_with fail
            refine parse_end (zero_put HZ.out) rfl _ _ true rfl rfl _ ?_ rfl
            unfold tellsP
            rw [HDO.out, if_pos (by first | trivial | rfl)]
            exact ⟨rfl, below_put12 BZ.out (Nat.le_refl _) _ _ _ _ _⟩
        · have Z := K1.out.z
          have BZ := Lib.hid K1.out.bel
          have fz := Z.frozen
          obtain ⟨z0, z1, z2, z3, z4⟩ := kyC_cells Z
          have HZ := Lib.hid Z
          clear Z
          go_wp2_with fail
          refine parse_end (zero_put HZ.out) rfl _ _ false rfl rfl _ ?_ rfl
          unfold tellsP
          rw [DONE.out false (by simp), if_neg (by decide)]
          exact ⟨rfl, below_put12 BZ.out (Nat.le_refl _) _ _ _ _ _⟩
    · go_wp2_with fail
      refine (in_short g L0 b0 _ K0.out.i).mono ?_
      rintro e w1 ⟨rfl, hi, hg⟩
      obtain ⟨T1, hT1⟩ : ∃ T, T = txt 1 L0 := ⟨_, rfl⟩
      obtain ⟨L1, hL1⟩ : ∃ L, L = txtRest 1 L0 := ⟨_, rfl⟩
      obtain ⟨b1, hb1⟩ : ∃ x, x = (b0 || txtShort 1 L0) := ⟨_, rfl⟩
      have s1 : T1.length ≤ 140737488355328 := by have := txt_sub 1 L0; rw [hT1]; omega
      have r1 : L1.length ≤ 140737488355328 := by have := txtRest_sub 1 L0; rw [hL1]; omega
      rw [← hL1, ← hb1] at hi
      rw [← hT1]
      have K := K0.out.read hi hg
      clear hi hg
      clear c0 c1 c2 c3 c4 p0 p1 p2 p3 fr
      have c1 := (kyC_cells K.k).2.1
      have fr := K.k.frozen
      have K1 := Lib.hid (K.set 1 (.string ⟨T1.toArray⟩) (A' := T1) (B' := []) (C' := []) (id' := 0) rfl)
      clear K
      have HT1 := Lib.hid hT1
      have HL1 := Lib.hid hL1
      have Hb1 := Lib.hid hb1
      clear hT1 hL1 hb1
      have cx := c1
      have fx := fr
      clear c1 fr
      obtain ⟨c0, c1, c2, c3, c4⟩ := kyC_cells K1.out.k
      obtain ⟨p0, p1, p2, p3⟩ := four12 K1.out.p
      have fr := K1.out.k.frozen
      go_wp2_with fail
      refine (in_short g L1 b1 _ K1.out.i).mono ?_
      rintro e w2 ⟨rfl, hi, hg⟩
      obtain ⟨T2, hT2⟩ : ∃ T, T = txt 1 L1 := ⟨_, rfl⟩
      obtain ⟨L2, hL2⟩ : ∃ L, L = txtRest 1 L1 := ⟨_, rfl⟩
      obtain ⟨b2, hb2⟩ : ∃ x, x = (b1 || txtShort 1 L1) := ⟨_, rfl⟩
      have s2 : T2.length ≤ 140737488355328 := by have := txt_sub 1 L1; rw [hT2]; omega
      have r2 : L2.length ≤ 140737488355328 := by have := txtRest_sub 1 L1; rw [hL2]; omega
      rw [← hL2, ← hb2] at hi
      rw [← hT2]
      have K := K1.out.read hi hg
      clear hi hg
      clear c0 c1 c2 c3 c4 p0 p1 p2 p3 fr
      have c2 := (kyC_cells K.k).2.2.1
      have fr := K.k.frozen
      have K2 := Lib.hid (K.set 2 (.string ⟨T2.toArray⟩) (A' := T1) (B' := T2) (C' := []) (id' := 0) rfl)
      clear K
      have HT2 := Lib.hid hT2
      have HL2 := Lib.hid hL2
      have Hb2 := Lib.hid hb2
      clear hT2 hL2 hb2
      have cx := c2
      have fx := fr
      clear c2 fr
      obtain ⟨c0, c1, c2, c3, c4⟩ := kyC_cells K2.out.k
      obtain ⟨p0, p1, p2, p3⟩ := four12 K2.out.p
      have fr := K2.out.k.frozen
      go_wp2_with fail
      refine (in_short g L2 b2 _ K2.out.i).mono ?_
      rintro e w3 ⟨rfl, hi, hg⟩
      obtain ⟨T3, hT3⟩ : ∃ T, T = txt 1 L2 := ⟨_, rfl⟩
      obtain ⟨L3, hL3⟩ : ∃ L, L = txtRest 1 L2 := ⟨_, rfl⟩
      obtain ⟨b3, hb3⟩ : ∃ x, x = (b2 || txtShort 1 L2) := ⟨_, rfl⟩
      have s3 : T3.length ≤ 140737488355328 := by have := txt_sub 1 L2; rw [hT3]; omega
      have r3 : L3.length ≤ 140737488355328 := by have := txtRest_sub 1 L2; rw [hL3]; omega
      rw [← hL3, ← hb3] at hi
      rw [← hT3]
      have K := K2.out.read hi hg
      clear hi hg
      clear c0 c1 c2 c3 c4 p0 p1 p2 p3 fr
      have c3 := (kyC_cells K.k).2.2.2.1
      have fr := K.k.frozen
      have K3 := Lib.hid (K.set 3 (.string ⟨T3.toArray⟩) (A' := T1) (B' := T2) (C' := T3) (id' := 0) rfl)
      clear K
      have HT3 := Lib.hid hT3
      have HL3 := Lib.hid hL3
      have Hb3 := Lib.hid hb3
      clear hT3 hL3 hb3
      have cx := c3
      have fx := fr
      clear c3 fr
      obtain ⟨c0, c1, c2, c3, c4⟩ := kyC_cells K3.out.k
      obtain ⟨p0, p1, p2, p3⟩ := four12 K3.out.p
      have fr := K3.out.k.frozen
      have FIN : Hid (keyOf s = if (!b3 && L3.isEmpty && fitsB T1 T2 T3 0 true true true false) then some ((kn : Int), T1, T2, T3, 0) else none) := Lib.hid (by
        rw [keyOf_rd (k := kn) HKN.out.symm HO.out HA.out HB.out HI.out rfl]
        rw [Hb3.out, HT3.out, HL3.out, Hb2.out, HT2.out, HL2.out, Hb1.out, HT1.out, HL1.out, HL0.out, Hb0.out]
        unfold rdOk rdK rdT rdR rdS
        simp [Bool.or_assoc])
      have done : ∀ (r : Bool), (!b3 && L3.isEmpty && fitsB T1 T2 T3 0 true true true false) = r → keyOf s = if r then some ((kn : Int), T1, T2, T3, 0) else none := by
        intro r hr
        rw [FIN.out, hr]
      have DONE := Lib.hid done
      clear done FIN
      go_wp2_with fail
      refine (in_ok g L3 b3 _ K3.out.i).mono ?_
      rintro e w8 ⟨rfl, rfl⟩
      cases b3 with
      | true =>
        have Z := K3.out.z
        have BZ := Lib.hid K3.out.bel
        have fz := Z.frozen
        obtain ⟨z0, z1, z2, z3, z4⟩ := kyC_cells Z
        have HZ := Lib.hid Z
        clear Z
        go_wp2_with fail
        refine parse_end (zero_put HZ.out) rfl _ _ false rfl rfl _ ?_ rfl
        unfold tellsP
        rw [DONE.out false rfl, if_neg (by decide)]
        exact ⟨rfl, below_put12 BZ.out (Nat.le_refl _) _ _ _ _ _⟩
      | false =>
        go_wp2_with fail
        refine (in_left g L3 false _ K3.out.i).mono ?_
        rintro e w9 ⟨rfl, rfl⟩
        rcases L3 with _ | ⟨y, L3⟩
        · have ff := fun w => fits_any (kn : Int) T1 T2 T3 0 true true true false w (room63 s1) (room63 s2) (room63 s3)
          obtain ⟨f, hf⟩ : ∃ f, f = fitsB T1 T2 T3 0 true true true false := ⟨_, rfl⟩
          rw [← hf] at ff
          have FF := Lib.hid ff
          have hdo := DONE.out f (by rw [hf]; simp)
          have HDO := Lib.hid hdo
          clear ff hf hdo DONE
          go_wp2_with fail
          refine (FF.out _).mono ?_
          rintro e w10 ⟨rfl, hb10⟩
          have K10 := Lib.hid (K3.out.below hb10)
          clear c0 c1 c2 c3 c4 p0 p1 p2 p3 fr
          have Z := K10.out.z
          have BZ := Lib.hid K10.out.bel
          have fz := Z.frozen
          obtain ⟨z0, z1, z2, z3, z4⟩ := kyC_cells Z
          have HZ := Lib.hid Z
          clear Z hb10
          obtain ⟨c0, c1, c2, c3, c4⟩ := kyC_cells K10.out.k
          cases f with
          | false =>
            go_wp2_with fail
            refine parse_end (zero_put HZ.out) rfl _ _ false rfl rfl _ ?_ rfl
            unfold tellsP
            rw [HDO.out, if_neg (by decide)]
            exact ⟨rfl, below_put12 BZ.out (Nat.le_refl _) _ _ _ _ _⟩
          | true =>
            go_wp2_with fail
            refine parse_end (zero_put HZ.out) rfl _ _ true rfl rfl _ ?_ rfl
            unfold tellsP
            rw [HDO.out, if_pos (by first | trivial | rfl)]
            exact ⟨rfl, below_put12 BZ.out (Nat.le_refl _) _ _ _ _ _⟩
        · have Z := K3.out.z
          have BZ := Lib.hid K3.out.bel
          have fz := Z.frozen
          obtain ⟨z0, z1, z2, z3, z4⟩ := kyC_cells Z
          have HZ := Lib.hid Z
          clear Z
          go_wp2_with fail
          refine parse_end (zero_put HZ.out) rfl _ _ false rfl rfl _ ?_ rfl
          unfold tellsP
          rw [DONE.out false (by simp), if_neg (by decide)]
          exact ⟨rfl, below_put12 BZ.out (Nat.le_refl _) _ _ _ _ _⟩
    · go_wp2_with fail
      refine (kin8 g L0 b0 _ K0.out.i).mono ?_
      rintro e w1 ⟨rfl, hi, hg⟩
      obtain ⟨T1, hT1⟩ : ∃ T, T = nat (tk 8 L0) := ⟨_, rfl⟩
      obtain ⟨L1, hL1⟩ : ∃ L, L = rst 8 L0 := ⟨_, rfl⟩
      obtain ⟨b1, hb1⟩ : ∃ x, x = (b0 || short 8 L0) := ⟨_, rfl⟩
      have r1 : L1.length ≤ 140737488355328 := by have := rst_sub 8 L0; rw [hL1]; omega
      rw [← hL1, ← hb1] at hi
      rw [← hT1]
      have K := K0.out.read hi hg
      clear hi hg
      clear c0 c1 c2 c3 c4 p0 p1 p2 p3 fr
      have c4 := (kyC_cells K.k).2.2.2.2
      have fr := K.k.frozen
      have K1 := Lib.hid (K.set 4 (.int .u64 (T1 : Int)) (A' := []) (B' := []) (C' := []) (id' := T1) rfl)
      clear K
      have HT1 := Lib.hid hT1
      have HL1 := Lib.hid hL1
      have Hb1 := Lib.hid hb1
      clear hT1 hL1 hb1
      have cx := c4
      have fx := fr
      clear c4 fr
      obtain ⟨c0, c1, c2, c3, c4⟩ := kyC_cells K1.out.k
      obtain ⟨p0, p1, p2, p3⟩ := four12 K1.out.p
      have fr := K1.out.k.frozen
      have FIN : Hid (keyOf s = if (!b1 && L1.isEmpty && fitsB [] [] [] T1 false false false true) then some ((kn : Int), [], [], [], T1) else none) := Lib.hid (by
        rw [keyOf_rd (k := kn) HKN.out.symm HO.out HA.out HB.out HI.out rfl]
        rw [Hb1.out, HT1.out, HL1.out, HL0.out, Hb0.out]
        unfold rdOk rdK rdT rdR rdS
        simp [Bool.or_assoc])
      have done : ∀ (r : Bool), (!b1 && L1.isEmpty && fitsB [] [] [] T1 false false false true) = r → keyOf s = if r then some ((kn : Int), [], [], [], T1) else none := by
        intro r hr
        rw [FIN.out, hr]
      have DONE := Lib.hid done
      clear done FIN
      go_wp2_with fail
      refine (in_ok g L1 b1 _ K1.out.i).mono ?_
      rintro e w8 ⟨rfl, rfl⟩
      cases b1 with
      | true =>
        have Z := K1.out.z
        have BZ := Lib.hid K1.out.bel
        have fz := Z.frozen
        obtain ⟨z0, z1, z2, z3, z4⟩ := kyC_cells Z
        have HZ := Lib.hid Z
        clear Z
        go_wp2_with fail
        refine parse_end (zero_put HZ.out) rfl _ _ false rfl rfl _ ?_ rfl
        unfold tellsP
        rw [DONE.out false rfl, if_neg (by decide)]
        exact ⟨rfl, below_put12 BZ.out (Nat.le_refl _) _ _ _ _ _⟩
      | false =>
        go_wp2_with fail
        refine (in_left g L1 false _ K1.out.i).mono ?_
        rintro e w9 ⟨rfl, rfl⟩
        rcases L1 with _ | ⟨y, L1⟩
        · have ff := fun w => fits_any (kn : Int) [] [] [] T1 false false false true w (Nat.zero_le _) (Nat.zero_le _) (Nat.zero_le _)
          obtain ⟨f, hf⟩ : ∃ f, f = fitsB [] [] [] T1 false false false true := ⟨_, rfl⟩
          rw [← hf] at ff
          have FF := Lib.hid ff
          have hdo := DONE.out f (by rw [hf]; simp)
          have HDO := Lib.hid hdo
          clear ff hf hdo DONE
          go_wp2_with fail
          refine (FF.out _).mono ?_
          rintro e w10 ⟨rfl, hb10⟩
          have K10 := Lib.hid (K1.out.below hb10)
          clear c0 c1 c2 c3 c4 p0 p1 p2 p3 fr
          have Z := K10.out.z
          have BZ := Lib.hid K10.out.bel
          have fz := Z.frozen
          obtain ⟨z0, z1, z2, z3, z4⟩ := kyC_cells Z
          have HZ := Lib.hid Z
          clear Z hb10
          obtain ⟨c0, c1, c2, c3, c4⟩ := kyC_cells K10.out.k
          cases f with
          | false =>
            go_wp2_with fail
            refine parse_end (zero_put HZ.out) rfl _ _ false rfl rfl _ ?_ rfl
            unfold tellsP
            rw [HDO.out, if_neg (by decide)]
            exact ⟨rfl, below_put12 BZ.out (Nat.le_refl _) _ _ _ _ _⟩
          | true =>
            go_wp2_with fail
            refine parse_end (zero_put HZ.out) rfl _ _ true rfl rfl _ ?_ rfl
            unfold tellsP
            rw [HDO.out, if_pos (by first | trivial | rfl)]
            exact ⟨rfl, below_put12 BZ.out (Nat.le_refl _) _ _ _ _ _⟩
        · have Z := K1.out.z
          have BZ := Lib.hid K1.out.bel
          have fz := Z.frozen
          obtain ⟨z0, z1, z2, z3, z4⟩ := kyC_cells Z
          have HZ := Lib.hid Z
          clear Z
          go_wp2_with fail
          refine parse_end (zero_put HZ.out) rfl _ _ false rfl rfl _ ?_ rfl
          unfold tellsP
          rw [DONE.out false (by simp), if_neg (by decide)]
          exact ⟨rfl, below_put12 BZ.out (Nat.le_refl _) _ _ _ _ _⟩
    · go_wp2_with fail
      refine (in_short g L0 b0 _ K0.out.i).mono ?_
      rintro e w1 ⟨rfl, hi, hg⟩
      obtain ⟨T1, hT1⟩ : ∃ T, T = txt 1 L0 := ⟨_, rfl⟩
      obtain ⟨L1, hL1⟩ : ∃ L, L = txtRest 1 L0 := ⟨_, rfl⟩
      obtain ⟨b1, hb1⟩ : ∃ x, x = (b0 || txtShort 1 L0) := ⟨_, rfl⟩
      have s1 : T1.length ≤ 140737488355328 := by have := txt_sub 1 L0; rw [hT1]; omega
      have r1 : L1.length ≤ 140737488355328 := by have := txtRest_sub 1 L0; rw [hL1]; omega
      rw [← hL1, ← hb1] at hi
      rw [← hT1]
      have K := K0.out.read hi hg
      clear hi hg
      clear c0 c1 c2 c3 c4 p0 p1 p2 p3 fr
      have c1 := (kyC_cells K.k).2.1
      have fr := K.k.frozen
      have K1 := Lib.hid (K.set 1 (.string ⟨T1.toArray⟩) (A' := T1) (B' := []) (C' := []) (id' := 0) rfl)
      clear K
      have HT1 := Lib.hid hT1
      have HL1 := Lib.hid hL1
      have Hb1 := Lib.hid hb1
      clear hT1 hL1 hb1
      have cx := c1
      have fx := fr
      clear c1 fr
      obtain ⟨c0, c1, c2, c3, c4⟩ := kyC_cells K1.out.k
      obtain ⟨p0, p1, p2, p3⟩ := four12 K1.out.p
      have fr := K1.out.k.frozen
      go_wp2_with fail
      refine (kin8 g L1 b1 _ K1.out.i).mono ?_
      rintro e w2 ⟨rfl, hi, hg⟩
      obtain ⟨T2, hT2⟩ : ∃ T, T = nat (tk 8 L1) := ⟨_, rfl⟩
      obtain ⟨L2, hL2⟩ : ∃ L, L = rst 8 L1 := ⟨_, rfl⟩
      obtain ⟨b2, hb2⟩ : ∃ x, x = (b1 || short 8 L1) := ⟨_, rfl⟩
      have r2 : L2.length ≤ 140737488355328 := by have := rst_sub 8 L1; rw [hL2]; omega
      rw [← hL2, ← hb2] at hi
      rw [← hT2]
      have K := K1.out.read hi hg
      clear hi hg
      clear c0 c1 c2 c3 c4 p0 p1 p2 p3 fr
      have c4 := (kyC_cells K.k).2.2.2.2
      have fr := K.k.frozen
      have K2 := Lib.hid (K.set 4 (.int .u64 (T2 : Int)) (A' := T1) (B' := []) (C' := []) (id' := T2) rfl)
      clear K
      have HT2 := Lib.hid hT2
      have HL2 := Lib.hid hL2
      have Hb2 := Lib.hid hb2
      clear hT2 hL2 hb2
      have cx := c4
      have fx := fr
      clear c4 fr
      obtain ⟨c0, c1, c2, c3, c4⟩ := kyC_cells K2.out.k
      obtain ⟨p0, p1, p2, p3⟩ := four12 K2.out.p
      have fr := K2.out.k.frozen
      have FIN : Hid (keyOf s = if (!b2 && L2.isEmpty && fitsB T1 [] [] T2 true false false true) then some ((kn : Int), T1, [], [], T2) else none) := Lib.hid (by
        rw [keyOf_rd (k := kn) HKN.out.symm HO.out HA.out HB.out HI.out rfl]
        rw [Hb2.out, HT2.out, HL2.out, Hb1.out, HT1.out, HL1.out, HL0.out, Hb0.out]
        unfold rdOk rdK rdT rdR rdS
        simp [Bool.or_assoc])
      have done : ∀ (r : Bool), (!b2 && L2.isEmpty && fitsB T1 [] [] T2 true false false true) = r → keyOf s = if r then some ((kn : Int), T1, [], [], T2) else none := by
        intro r hr
        rw [FIN.out, hr]
      have DONE := Lib.hid done
      clear done FIN
      go_wp2_with fail
      refine (in_ok g L2 b2 _ K2.out.i).mono ?_
      rintro e w8 ⟨rfl, rfl⟩
      cases b2 with
      | true =>
        have Z := K2.out.z
        have BZ := Lib.hid K2.out.bel
        have fz := Z.frozen
        obtain ⟨z0, z1, z2, z3, z4⟩ := kyC_cells Z
        have HZ := Lib.hid Z
        clear Z
        go_wp2_with fail
        refine parse_end (zero_put HZ.out) rfl _ _ false rfl rfl _ ?_ rfl
        unfold tellsP
        rw [DONE.out false rfl, if_neg (by decide)]
        exact ⟨rfl, below_put12 BZ.out (Nat.le_refl _) _ _ _ _ _⟩
      | false =>
        go_wp2_with fail
        refine (in_left g L2 false _ K2.out.i).mono ?_
        rintro e w9 ⟨rfl, rfl⟩
        rcases L2 with _ | ⟨y, L2⟩
        · have ff := fun w => fits_any (kn : Int) T1 [] [] T2 true false false true w (room63 s1) (Nat.zero_le _) (Nat.zero_le _)
          obtain ⟨f, hf⟩ : ∃ f, f = fitsB T1 [] [] T2 true false false true := ⟨_, rfl⟩
          rw [← hf] at ff
          have FF := Lib.hid ff
          have hdo := DONE.out f (by rw [hf]; simp)
          have HDO := Lib.hid hdo
          clear ff hf hdo DONE
          go_wp2_with fail
          refine (FF.out _).mono ?_
          rintro e w10 ⟨rfl, hb10⟩
          have K10 := Lib.hid (K2.out.below hb10)
          clear c0 c1 c2 c3 c4 p0 p1 p2 p3 fr
          have Z := K10.out.z
          have BZ := Lib.hid K10.out.bel
          have fz := Z.frozen
          obtain ⟨z0, z1, z2, z3, z4⟩ := kyC_cells Z
          have HZ := Lib.hid Z
          clear Z hb10
          obtain ⟨c0, c1, c2, c3, c4⟩ := kyC_cells K10.out.k
          cases f with
          | false =>
            go_wp2_with fail
            refine parse_end (zero_put HZ.out) rfl _ _ false rfl rfl _ ?_ rfl
            unfold tellsP
            rw [HDO.out, if_neg (by decide)]
            exact ⟨rfl, below_put12 BZ.out (Nat.le_refl _) _ _ _ _ _⟩
          | true =>
            go_wp2_with fail
            refine parse_end (zero_put HZ.out) rfl _ _ true rfl rfl _ ?_ rfl
            unfold tellsP
            rw [HDO.out, if_pos (by first | trivial | rfl)]
            exact ⟨rfl, below_put12 BZ.out (Nat.le_refl _) _ _ _ _ _⟩
        · have Z := K2.out.z
          have BZ := Lib.hid K2.out.bel
          have fz := Z.frozen
          obtain ⟨z0, z1, z2, z3, z4⟩ := kyC_cells Z
          have HZ := Lib.hid Z
          clear Z
          go_wp2_with fail
          refine parse_end (zero_put HZ.out) rfl _ _ false rfl rfl _ ?_ rfl
          unfold tellsP
          rw [DONE.out false (by simp), if_neg (by decide)]
          exact ⟨rfl, below_put12 BZ.out (Nat.le_refl _) _ _ _ _ _⟩
end Go.Proofs.Ytgdlgkbckblagaa
