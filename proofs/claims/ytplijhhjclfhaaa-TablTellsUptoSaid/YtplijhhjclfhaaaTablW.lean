/- Tables as plain data: two behind each other; what is formed, field by field. -/
import Derived.Test.YtplijhhjclfhaaaTablV
namespace Go.Proofs.Ytplijhhjclfhaaa
open Go.RowKit

theorem list_complete2 (strict : Bool) (sub : List UInt8 → Option (List Fld)) (k : Nat) (hs : ∀ t, formedB k t = true → (rowsD k t).length < 256 ^ 4 → sub (rowsD k t) = some t) :
    ∀ (l : List Fld) (n : Nat), (∀ f ∈ l, mayB f = true ∧ (f.kind = 70 → formedB k f.t = true)) → (l.flatMap (rowOf (rowsD k))).length < 256 ^ 4 → (l.flatMap (rowOf (rowsD k))).length ≤ n → parseL (rowP strict sub) n (l.flatMap (rowOf (rowsD k))) = some l := by
  intro l
  induction l with
  | nil => intro n _ _ _; cases n <;> simp [parseL]
  | cons f l ih =>
    intro n hf hl hn
    obtain ⟨h1, h2⟩ := hf f (by simp)
    have hlen := rowOf_length (rowsD k) f
    rw [List.flatMap_cons] at hl hn ⊢
    rw [List.length_append] at hl hn
    have hpos : 2 ≤ (rowOf (rowsD k) f).length := by rw [hlen]; unfold sizeN; omega
    have hrow := row_complete strict sub k f (l.flatMap (rowOf (rowsD k))) h1
      (fun hk => by rw [hlen] at hl; unfold sizeN sizeK at hl; simp [hk] at hl; omega)
      (fun hk => by
        rw [hlen, if_pos hk] at hl
        have hlt : (rowsD k f.t).length < 256 ^ 4 := by omega
        exact ⟨hlt, hs _ (h2 hk) hlt⟩)
    cases hb : rowOf (rowsD k) f ++ l.flatMap (rowOf (rowsD k)) with
    | nil =>
      have h0 : (rowOf (rowsD k) f).length + (l.flatMap (rowOf (rowsD k))).length = 0 := by rw [← List.length_append, hb]; rfl
      omega
    | cons c b =>
      cases n with
      | zero => omega
      | succ n =>
        unfold parseL
        rw [hb] at hrow
        simp only [hrow]
        rw [ih n (fun g hg => hf g (by simp [hg])) (by omega) (by omega)]
        rfl
theorem formed_each {k : Nat} {l : List Fld} (h : formedB (k + 1) l = true) : ∀ f ∈ l, mayB f = true ∧ (f.kind = 70 → formedB k f.t = true) := by
  intro f hf
  obtain ⟨i, hi, rfl⟩ := List.getElem_of_mem hf
  exact allB_at l [] h i hi
theorem rows_join (k : Nat) (l m : List Fld) : rowsD (k + 1) (l ++ m) = rowsD (k + 1) l ++ rowsD (k + 1) m := by simp [rowsD]
theorem parse_join (l m : List Fld) (hl : okB l = true) (hm : okB m = true) : parseB (rowsD 8 l ++ rowsD 8 m) = if okB (l ++ m) then some (l ++ m) else none := by
  obtain ⟨f1, n1⟩ := okB_parts hl
  obtain ⟨f2, n2⟩ := okB_parts hm
  have hlen : (rowsD 8 (l ++ m)).length ≤ 4000 := by
    have h := rows_join 7 l m
    rw [h, List.length_append]
    exact Nat.add_le_add n1 n2
  have h4 : 256 ^ 4 = 4294967296 := by decide
  have hc : codeP 8 (rowsD 8 (l ++ m)) = some (l ++ m) :=
    list_complete2 false (codeP 7) 7 (code_complete 7) (l ++ m) _ (fun f hf => by
      rcases List.mem_append.1 hf with h | h
      · exact formed_each f1 f h
      · exact formed_each f2 f h) (by show (rowsD 8 (l ++ m)).length < _; omega) (Nat.le_refl _)
  rw [← rows_join 7]
  unfold parseB parsed
  rw [hc]
  cases hok : okB (l ++ m) with
  | true => rw [if_pos (okB_parts hok).2]; simp [hok]
  | false => simp [hok]
end Go.Proofs.Ytplijhhjclfhaaa
