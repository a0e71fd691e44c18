/- Layer 10: rows of a node as they lie in memory. -/
import Derived.Test.YtdjkkppefgppmaaNodeS
import Derived.Test.YtdjkkppefgppmaaOctsR
import Derived.OwnWalk
namespace Go.Proofs.Ytdjkkppefgppmaa
open Go.RowKit
set_option maxRecDepth 100000

def cellsRw (r : Rw) : List Value := [.string ⟨r.key.toArray⟩, .string ⟨r.val.toArray⟩, .int .i64 r.page]
def cellsRws (l : List Rw) : List Value := l.flatMap cellsRw
def rwV (r : Rw) : Value := .agg #[.string ⟨r.key.toArray⟩, .string ⟨r.val.toArray⟩, .int .i64 r.page]
def ndV (leaf : Bool) (A : Option Addr) (n c : Nat) : Value := .agg #[.bool leaf, .slice A n c]
/-- texts that are not longer than the model bears, and few rows -/
def Few (l : List Rw) : Prop := l.length ≤ 1000000 ∧ ∀ r ∈ l, r.key.length ≤ 1000000 ∧ r.val.length ≤ 1000000
def RowsAt (w : World) (B : Nat) (l : List Rw) (A : Option Addr) (c : Nat) : Prop := l.length ≤ c ∧ c ≤ maxLen ∧ Lies w B A (cellsRws l)

theorem RowsAt.below {w w' : World} {B : Nat} {l : List Rw} {A : Option Addr} {c : Nat} (h : RowsAt w B l A c) (hb : Below B w w') : RowsAt w' B l A c := ⟨h.1, h.2.1, h.2.2.below hb⟩
theorem RowsAt.more {w : World} {B B' : Nat} {l : List Rw} {A : Option Addr} {c : Nat} (h : RowsAt w B l A c) (hB : B ≤ B') : RowsAt w B' l A c := ⟨h.1, h.2.1, h.2.2.more hB⟩
theorem Few.at {l : List Rw} (h : Few l) (i : Nat) (hi : i < l.length) : l[i].key.length ≤ 1000000 ∧ l[i].val.length ≤ 1000000 := h.2 _ (List.getElem_mem hi)
theorem Few.take {l : List Rw} (h : Few l) (i : Nat) : Few (l.take i) := ⟨by rw [List.length_take]; have := h.1; omega, fun r hr => h.2 r (List.mem_of_mem_take hr)⟩
theorem cellsRws_length (l : List Rw) : (cellsRws l).length = l.length * 3 := by
  induction l with
  | nil => rfl
  | cons f l ih =>
    have e : cellsRws (f :: l) = cellsRw f ++ cellsRws l := rfl
    rw [e, List.length_append, ih, List.length_cons, show (cellsRw f).length = 3 from rfl]
    omega
theorem cellsRws_append (l m : List Rw) : cellsRws (l ++ m) = cellsRws l ++ cellsRws m := by simp [cellsRws]
theorem cellsRws_one (l : List Rw) : ∀ u ∈ cellsRws l, u.oneCell' = true := by
  intro u hu
  simp only [cellsRws, List.mem_flatMap] at hu
  obtain ⟨f, _, hf⟩ := hu
  simp only [cellsRw, List.mem_cons, List.not_mem_nil, or_false] at hf
  rcases hf with rfl | rfl | rfl <;> rfl
theorem cellsRws_at : ∀ (l : List Rw) (i : Nat) (hi : i < l.length) (j : Nat) (u : Value), (cellsRw l[i])[j]? = some u → (cellsRws l)[i * 3 + j]? = some u := by
  intro l
  induction l with
  | nil => intro i hi; simp at hi
  | cons f l ih =>
    intro i hi j u hu
    have e : cellsRws (f :: l) = cellsRw f ++ cellsRws l := rfl
    rw [e]
    cases i with
    | zero =>
      have hu' : (cellsRw f)[j]? = some u := hu
      rw [Nat.zero_mul, Nat.zero_add, List.getElem?_append_left (List.getElem?_eq_some_iff.1 hu').1]
      exact hu'
    | succ i =>
      rw [List.getElem?_append_right (by rw [show (cellsRw f).length = 3 from rfl]; omega), show (cellsRw f).length = 3 from rfl, show (i + 1) * 3 + j - 3 = i * 3 + j by omega]
      exact ih i (by simpa using hi) j u hu
/-- the cells of one row -/
theorem lies_rw {w : World} {B : Nat} {A : Option Addr} {l : List Rw} (h : Lies w B A (cellsRws l)) (i : Nat) (hi : i < l.length) :
    ∃ b o, A = some ⟨b, o, none⟩ ∧ b < B ∧ w.cell? ⟨b, o + i * 3, none⟩ = some (.string ⟨l[i].key.toArray⟩) ∧ w.cell? ⟨b, o + i * 3 + 1, none⟩ = some (.string ⟨l[i].val.toArray⟩) ∧ w.cell? ⟨b, o + i * 3 + 2, none⟩ = some (.int .i64 l[i].page) := by
  rcases h with h | ⟨b, o, e, hb, hc⟩
  · have hl := cellsRws_length l
    rw [h] at hl
    simp at hl
    omega
  · exact ⟨b, o, e, hb, hc _ _ (cellsRws_at l i hi 0 _ rfl), by rw [Nat.add_assoc]; exact hc _ _ (cellsRws_at l i hi 1 _ rfl), by rw [Nat.add_assoc]; exact hc _ _ (cellsRws_at l i hi 2 _ rfl)⟩
theorem size_arr (l : List UInt8) : (⟨l.toArray⟩ : ByteArray).size = l.length := by simp [ByteArray.size]
theorem own_less {w : World} {base base' : Nat} {e : TypeId} {size : Nat} {v : Value} {n : Nat} {xs : List Value} (h : w.ownsRow base e size v n xs) (hb : base' ≤ base) : w.ownsRow base' e size v n xs := by
  refine ⟨h.1, ?_⟩
  rcases h.2 with h | ⟨b, cap, cur, hv, hb', rest⟩
  · exact .inl h
  · exact .inr ⟨b, cap, cur, hv, Nat.le_trans hb hb', rest⟩
theorem own_lies {w : World} {base : Nat} {e : TypeId} {size n c : Nat} {D : Nat} {A : Option Addr} {xs : List Value} (h : w.ownsRow base e size (.slice A n c) n xs) (hD : w.heap.size ≤ D) : Lies w D A xs := by
  rcases h.2 with ⟨hv, hn⟩ | ⟨g, cap, cur, hv, _, hg, _⟩
  · left
    apply List.eq_nil_of_length_eq_zero
    rw [h.1, hn, Nat.zero_mul]
  · have hA : A = some ⟨g, 0, none⟩ := by injection hv
    subst hA
    refine .inr ⟨g, 0, rfl, ?_, fun j u hu => ?_⟩
    · have := (Array.getElem?_eq_some_iff.1 hg).1
      exact Nat.lt_of_lt_of_le this hD
    · have := h.cells (g := g) rfl j u hu
      have hadd : (⟨g, 0, none⟩ : Addr).add j = ⟨g, j, none⟩ := by unfold Addr.add; split <;> simp_all
      rw [hadd] at this
      simpa using this
theorem own_rows {w : World} {base : Nat} {e : TypeId} {c : Nat} {A : Option Addr} {l : List Rw} (h : w.ownsRow base e 3 (.slice A l.length c) l.length (cellsRws l)) : RowsAt w w.heap.size l A c := by
  obtain ⟨A', c', hv, h1, h2⟩ := own_form h
  injection hv with e1 e2 e3
  subst e1 e3
  exact ⟨h1, h2, own_lies h (Nat.le_refl _)⟩
theorem txt1_le (b : List UInt8) : (txt 1 b).length ≤ 255 := by
  have h1 := nat_lt (tk 1 b)
  have h2 := tk_le 1 b
  have h3 : nat (tk 1 b) < 256 := Nat.lt_of_lt_of_le h1 (Nat.pow_le_pow_right (by omega) h2)
  have h4 := tk_le (nat (tk 1 b)) (rst 1 b)
  unfold txt
  omega
theorem rowP_le (leaf : Bool) (b : List UInt8) : (rowP leaf b).key.length ≤ 255 ∧ (rowP leaf b).val.length ≤ 255 := by
  cases leaf
  · exact ⟨txt1_le b, by simp [rowP]⟩
  · exact ⟨txt1_le b, txt1_le _⟩
end Go.Proofs.Ytdjkkppefgppmaa
