/- Layer 7: a device in memory. -/
import Derived.Test.YtcmffifehpbjnaaSectM
import Derived.Test.YtcmffifehpbjnaaSectP
import Derived.Test.YtcmffifehpbjnaaWords
import Derived.Laws.Rows
import Derived.Test.YtcmffifehpbjnaaChecked
namespace Go.Proofs.Ytcmffifehpbjnaa
open Go.RowKit Go.Maps
set_option maxRecDepth 100000
set_option linter.unusedSimpArgs false
set_option linter.unusedVariables false

def Dv.used (S : Dv) : Nat := tot (fun F => F.l.length) S.fs
def Dv.la (S : Dv) (x : Nm × Nat) : Option (Sec × Bool) := (fnd S.fs x.1).bind fun F => F.l[x.2]?.bind (·.la)
def Dv.fr (S : Dv) (x : Nm × Nat) : Option Sec := (fnd S.fs x.1).bind fun F => F.l[x.2]?.bind (·.fr)
/-- the places of a device -/
def Dv.places (S : Dv) : List (Nm × Nat) := S.fs.flatMap fun p => (List.range p.2.l.length).map fun k => (p.1, k)
theorem places_length (S : Dv) : S.places.length = S.used := by
  simp [Dv.places, Dv.used, tot, List.length_flatMap]
theorem places_mem {S : Dv} {x : Nm × Nat} {F : Fil} (h : fnd S.fs x.1 = some F) (hk : x.2 < F.l.length) : x ∈ S.places := by
  unfold Dv.places
  refine List.mem_flatMap.2 ⟨_, fnd_mem h, List.mem_map.2 ⟨x.2, List.mem_range.2 hk, rfl⟩⟩
theorem la_place {S : Dv} {x : Nm × Nat} (h : (S.la x).isSome = true) : x ∈ S.places := by
  unfold Dv.la at h
  cases hf : fnd S.fs x.1 with
  | none => simp [hf] at h
  | some F =>
    refine places_mem hf ?_
    rw [hf] at h
    cases hg : F.l[x.2]? with
    | none => simp [hg] at h
    | some s => exact (List.getElem?_eq_some_iff.1 hg).1
theorem fr_place {S : Dv} {x : Nm × Nat} (h : (S.fr x).isSome = true) : x ∈ S.places := by
  unfold Dv.fr at h
  cases hf : fnd S.fs x.1 with
  | none => simp [hf] at h
  | some F =>
    refine places_mem hf ?_
    rw [hf] at h
    cases hg : F.l[x.2]? with
    | none => simp [hg] at h
    | some s => exact (List.getElem?_eq_some_iff.1 hg).1

/-! ### keys and values -/
def nmV (nm : Nm) : Value := .string ⟨nm.toArray⟩
def nmOk (nm : Nm) : Prop := nm.length ≤ maxLen
def nmL (nm : Nm) : Lit := .string nm
def plV (x : Nm × Nat) : Value := .agg #[.string ⟨x.1.toArray⟩, .int .i64 (x.2 : Int)]
def plOk (x : Nm × Nat) : Prop := x.1.length ≤ 20 ∧ x.2 ≤ 1000000
def plL (x : Nm × Nat) : Lit := .string (keyBytes [.string x.1, .int .i64 (x.2 : Int)])
theorem wf_small {n : Nat} (h : n ≤ 1000000) : (Lit.int .i64 (n : Int)).wf = true := by
  exact WalkArith.wf_i64 (by omega)
theorem lit_str (n : Nat) (l : List UInt8) (h : l.length ≤ maxLen) : Try.prog.keyLits (n + 1) 9 [.string ⟨l.toArray⟩] = some [.string l] := by
  unfold Program.keyLits
  rw [Try.underlying9]
  show (if (⟨l.toArray⟩ : ByteArray).size ≤ maxLen then some [Lit.string (⟨l.toArray⟩ : ByteArray).data.toList] else none) = _
  rw [if_pos (by simpa [ByteArray.size] using h)]
theorem lit_int (n : Nat) (a : Int) (h : (Lit.int .i64 a).wf = true) : Try.prog.keyLits (n + 1) 3 [.int .i64 a] = some [.int .i64 a] := by
  unfold Program.keyLits
  rw [Try.underlying3]
  show (if IntKind.i64 = IntKind.i64 ∧ (Lit.int .i64 a).wf = true then some [Lit.int .i64 a] else none) = _
  rw [if_pos ⟨rfl, h⟩]
theorem nm_kind : KeyKind Try.prog 9 nmV nmOk nmL where
  law := string_keyed Try.underlying9
  read x hx := by
    have := WideMaps.keyOf_string_mk (s := ⟨x.toArray⟩) Try.underlying9 (by simpa [ByteArray.size, nmOk] using hx)
    simpa [nmV, nmL] using this
  inj x y h := by
    simp [nmV] at h
    exact h
theorem pl_kind : KeyKind Try.prog 86 plV plOk plL where
  law := Keyed.of_law (deep_law_laid (m := 2) (by kernel_rfl) (by omega) (of_decide_eq_true (by kernel_rfl)) (by kernel_rfl) (by rw [Try.underlying86]))
  read x hx := by
    have k1 : Try.prog.keyType 86 = true := by kernel_rfl
    have k2 : (plV x).formed Try.prog 86 = true := by
      have : Try.prog.cellsOf 86 = 2 := by kernel_rfl
      simp [plV, Value.formed, Try.underlying86, this]
    obtain ⟨n, hn⟩ : ∃ n, Try.prog.types.size + 1 = n + 2 := ⟨Try.prog.types.size - 1, by
      have : (decide (2 ≤ Try.prog.types.size)) = true := by kernel_rfl
      have := of_decide_eq_true this
      omega⟩
    have c2 : Try.prog.cellsOf 86 = 2 := by kernel_rfl
    have c1 : Try.prog.cellsOf 3 = 1 := by kernel_rfl
    have c0 : Try.prog.cellsOf 9 = 1 := by kernel_rfl
    have hs : x.1.length ≤ maxLen := by have := hx.1; unfold maxLen; omega
    have hw := wf_small hx.2
    unfold keyOf
    rw [Try.underlying86, hn]
    simp only [k1, k2, Bool.and_self, if_true]
    have e1 := lit_str n x.1 hs
    have e2 := lit_int n (x.2 : Int) hw
    have e3 : Try.prog.keyLits (n + 2) 86 [.string ⟨x.1.toArray⟩, .int .i64 (x.2 : Int)] = some [.string x.1, .int .i64 (x.2 : Int)] := by
      unfold Program.keyLits
      rw [Try.underlying86]
      simp [c0, c1, c2, e1, e2]
    show (Option.map _ (Try.prog.keyLits (n + 2) 86 [.string ⟨x.1.toArray⟩, .int .i64 (x.2 : Int)])) = _
    rw [e3]
    rfl
  inj x y h := by
    simp [plV] at h
    exact Prod.ext h.1 (by have := h.2; omega)
def frV (s : Sec) : Value := .agg (B8 s.1).toArray
def laV (x : Sec × Bool) : Value := .agg (B8 x.1.1 ++ [Value.bool x.2]).toArray
def flV (n : Nat) (v : Value) : Value := .agg #[.int .i64 (n : Int), v]
def I64 (l : List Nat) : List Value := l.map fun k : Nat => Value.int .i64 (k : Int)

/-! ### the predicate -/
structure DevAt (K : Nat → Prop) (w : World) (g : Nat) (S : Dv) (b1 b2 b3 : Nat) (sv : Nm → Value) : Prop where
  cells : w.heap[g]? = some (.cells #[.int .i64 (S.most : Int), .int .i64 (S.used : Int), .map (some b1), .map (some b2), .map (some b3), .int .i64 S.left] 75 (0, 0))
  files : MapF Try.prog 9 nmOk nmL w b1 (fun nm => (fnd S.fs nm).map fun F => flV F.l.length (sv nm))
  lasts : MapF Try.prog 86 plOk plL w b2 (fun x => (S.la x).map laV)
  fresh : MapF Try.prog 86 plOk plL w b3 (fun x => (S.fr x).map frV)
  own : K g ∧ K b1 ∧ K b2 ∧ K b3
  apart : b1 ≠ b2 ∧ b1 ≠ b3 ∧ b2 ≠ b3
  rows : ∀ nm F, fnd S.fs nm = some F → w.ownsRow 0 3 1 (sv nm) F.wr.length (I64 F.wr) ∧ ∀ i, (sv nm).ownBlock = some i → K i
  alone : ∀ nm nm' F F', nm ≠ nm' → fnd S.fs nm = some F → fnd S.fs nm' = some F' → ∀ i, (sv nm).ownBlock = some i → (sv nm').ownBlock ≠ some i
/-- what holds of a device besides -/
structure Ok (S : Dv) : Prop where
  rising : Rising S.fs
  names : ∀ nm F, fnd S.fs nm = some F → 1 ≤ nm.length ∧ nm.length ≤ 20
  few : S.fs.length ≤ 1000000
  room : S.used ≤ S.most
  most : S.most ≤ 100000
  left : -9223372036854775808 ≤ S.left ∧ S.left < 9223372036854775808
  once : ∀ nm F, fnd S.fs nm = some F → F.wr.Nodup ∧ ∀ k, k ∈ F.wr ↔ ∃ s, F.l[k]? = some s ∧ s.fr.isSome = true
  full : ∀ nm F, fnd S.fs nm = some F → ∀ s ∈ F.l, s.fr.isSome = true ∨ s.la.isSome = true
def Dev (K : Nat → Prop) (w : World) (g : Nat) (S : Dv) : Prop := Ok S ∧ ∃ b1 b2 b3 sv, DevAt K w g S b1 b2 b3 sv

/-- w' is w but for the blocks of K and new ones -/
structure Turn (K : Nat → Prop) (w w' : World) : Prop where
  os : w'.os = w.os
  tape : w'.tape = w.tape
  output : w'.output = w.output
  size : w.heap.size ≤ w'.heap.size
  block : ∀ i, i < w.heap.size → ¬ K i → w'.heap[i]? = w.heap[i]?
/-- K, and what is new since w -/
def More (K : Nat → Prop) (w : World) : Nat → Prop := fun i => K i ∨ w.heap.size ≤ i
theorem Turn.refl (K : Nat → Prop) (w : World) : Turn K w w := ⟨rfl, rfl, rfl, Nat.le_refl _, fun _ _ _ => rfl⟩
theorem Turn.trans {K : Nat → Prop} {a b c : World} (h : Turn K a b) (k : Turn (More K a) b c) : Turn K a c :=
  ⟨k.os.trans h.os, k.tape.trans h.tape, k.output.trans h.output, Nat.le_trans h.size k.size, fun i hi hn =>
    (k.block i (Nat.lt_of_lt_of_le hi h.size) (fun e => by rcases e with e | e; exact hn e; omega)).trans (h.block i hi hn)⟩
theorem Turn.mono {K K' : Nat → Prop} {a b : World} (h : Turn K a b) (hk : ∀ i, i < a.heap.size → K i → K' i) : Turn K' a b :=
  ⟨h.os, h.tape, h.output, h.size, fun i hi hn => h.block i hi (fun e => hn (hk i hi e))⟩
theorem Turn.below {K : Nat → Prop} {B : Nat} {a b : World} (h : Turn K a b) (hB : B ≤ a.heap.size) (hk : ∀ i, K i → B ≤ i) : Below B a b :=
  ⟨h.os, h.tape, h.output, h.size, fun i hi => h.block i (by omega) (fun e => by have := hk i e; omega)⟩
theorem Turn.of_below {K : Nat → Prop} {a b : World} (h : Below a.heap.size a b) : Turn K a b := ⟨h.os, h.tape, h.output, h.size, fun i hi _ => h.block i hi⟩
theorem Turn.of_grown {K : Nat → Prop} {a b : World} {i : Nat} (h : a.grownBy b (some i)) (hk : K i) : Turn K a b :=
  ⟨h.os, h.tape, h.output, h.size, fun j hj hn => h.block j hj (fun e => by cases e; exact hn hk)⟩
theorem More.mono {K K' : Nat → Prop} {w : World} (h : ∀ i, K i → K' i) : ∀ i, More K w i → More K' w i := fun i e => e.imp (h i) id

theorem sv_row {w : World} {v : Value} {n : Nat} {xs : List Value} (h : w.ownsRow 0 3 1 v n xs) {i : Nat} (hi : v.ownBlock = some i) : ∃ cur, w.heap[i]? = some (.cells cur 3 (0, 0)) := by
  rcases h.2 with ⟨rfl, _⟩ | ⟨g, cap, cur, rfl, _, hg, _⟩
  · cases hi
  · cases hi
    exact ⟨cur, hg⟩
theorem row_block {w w' : World} {v : Value} {n : Nat} {xs : List Value} (h : w.ownsRow 0 3 1 v n xs) (hb : ∀ i, v.ownBlock = some i → w'.heap[i]? = w.heap[i]?) : w'.ownsRow 0 3 1 v n xs := by
  obtain ⟨h1, h2⟩ := h
  refine ⟨h1, h2.imp id ?_⟩
  rintro ⟨g, cap, cur, rfl, h3, h4, h5⟩
  exact ⟨g, cap, cur, rfl, h3, (hb g rfl).trans h4, h5⟩
section
variable {K : Nat → Prop} {w w' : World} {g : Nat} {S : Dv} {b1 b2 b3 : Nat} {sv : Nm → Value}
theorem DevAt.glt (h : DevAt K w g S b1 b2 b3 sv) : g < w.heap.size := (Array.getElem?_eq_some_iff.1 h.cells).1
/-- nothing of the device has turned -/
theorem DevAt.kept (h : DevAt K w g S b1 b2 b3 sv) (hb : ∀ i, i < w.heap.size → K i → w'.heap[i]? = w.heap[i]?) : DevAt K w' g S b1 b2 b3 sv where
  cells := (hb g h.glt h.own.1).trans h.cells
  files := h.files.block (hb _ h.files.lt h.own.2.1)
  lasts := h.lasts.block (hb _ h.lasts.lt h.own.2.2.1)
  fresh := h.fresh.block (hb _ h.fresh.lt h.own.2.2.2)
  own := h.own
  apart := h.apart
  rows nm F hf := by
    obtain ⟨r1, r2⟩ := h.rows nm F hf
    refine ⟨row_block r1 (fun i hi => ?_), r2⟩
    obtain ⟨cur, hc⟩ := sv_row r1 hi
    exact hb i (Array.getElem?_eq_some_iff.1 hc).1 (r2 i hi)
  alone := h.alone
theorem DevAt.mono {K' : Nat → Prop} (h : DevAt K w g S b1 b2 b3 sv) (hk : ∀ i, i < w.heap.size → K i → K' i) : DevAt K' w g S b1 b2 b3 sv where
  cells := h.cells
  files := h.files
  lasts := h.lasts
  fresh := h.fresh
  own := ⟨hk _ h.glt h.own.1, hk _ h.files.lt h.own.2.1, hk _ h.lasts.lt h.own.2.2.1, hk _ h.fresh.lt h.own.2.2.2⟩
  apart := h.apart
  rows nm F hf := by
    obtain ⟨r1, r2⟩ := h.rows nm F hf
    refine ⟨r1, fun i hi => ?_⟩
    obtain ⟨cur, hc⟩ := sv_row r1 hi
    exact hk i (Array.getElem?_eq_some_iff.1 hc).1 (r2 i hi)
  alone := h.alone
theorem Dev.kept (h : Dev K w g S) (hb : ∀ i, i < w.heap.size → K i → w'.heap[i]? = w.heap[i]?) : Dev K w' g S := by
  obtain ⟨h0, b1, b2, b3, sv, h1⟩ := h
  exact ⟨h0, b1, b2, b3, sv, h1.kept hb⟩
theorem Dev.mono {K' : Nat → Prop} (h : Dev K w g S) (hk : ∀ i, i < w.heap.size → K i → K' i) : Dev K' w g S := by
  obtain ⟨h0, b1, b2, b3, sv, h1⟩ := h
  exact ⟨h0, b1, b2, b3, sv, h1.mono hk⟩
theorem Dev.below (h : Dev K w g S) (hb : Below w.heap.size w w') : Dev K w' g S := h.kept fun i hi _ => hb.block i hi
theorem DevAt.below (h : DevAt K w g S b1 b2 b3 sv) (hb : Below w.heap.size w w') : DevAt K w' g S b1 b2 b3 sv := h.kept fun i hi _ => hb.block i hi
theorem DevAt.alloc (h : DevAt K w g S b1 b2 b3 sv) (o : Obj) : DevAt K (w.alloc o) g S b1 b2 b3 sv := h.below ((Below.refl _ w).alloc (Nat.le_refl _) o)
theorem DevAt.cell (h : DevAt K w g S b1 b2 b3 sv) : w.cell? ⟨g, 0, none⟩ = some (.int .i64 (S.most : Int)) ∧ w.cell? ⟨g, 1, none⟩ = some (.int .i64 (S.used : Int)) ∧ w.cell? ⟨g, 2, none⟩ = some (.map (some b1)) ∧
    w.cell? ⟨g, 3, none⟩ = some (.map (some b2)) ∧ w.cell? ⟨g, 4, none⟩ = some (.map (some b3)) ∧ w.cell? ⟨g, 5, none⟩ = some (.int .i64 S.left) := by
  have h1 := h.cells
  refine ⟨?_, ?_, ?_, ?_, ?_, ?_⟩ <;> simp [World.cell?, h1]
theorem DevAt.frozen (h : DevAt K w g S b1 b2 b3 sv) (i : Nat) : w.frozen? ⟨g, i, none⟩ = false := by
  have h1 := h.cells
  simp [World.frozen?, h1]
end
end Go.Proofs.Ytcmffifehpbjnaa
