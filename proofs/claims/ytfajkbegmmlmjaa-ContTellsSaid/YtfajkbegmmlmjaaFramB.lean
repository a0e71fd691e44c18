/- Contracts of layer 3: what Parse tells, case by case. -/
import Derived.Test.YtfajkbegmmlmjaaFramA
namespace Go.Proofs.Ytfajkbegmmlmjaa
open Go.RowKit
set_option maxRecDepth 100000

theorem fparse_more (A : Option Addr) (c n : Nat) (b : List UInt8) (B : Nat) (w : World) (hn : n = b.length) (hl : Lies w B A (B8 b)) (hB : B ≤ w.heap.size) (hm : b.length ≤ c) (hc : c ≤ maxLen) (h : frameP b = .more) :
    Calls Try.prog 16 #[.slice A n c] w fun e w' => e = .returned (.tuple #[.agg #[.int .i64 0, .int .i64 0, .slice none 0 0], .int .i64 0, .int .i64 2]) ∧ Below w.heap.size w w' := by
  subst hn
  refine (fparse_any A c b B w hl hB hm hc).mono ?_
  rw [h]
  rintro e w' ⟨h1, h2⟩
  exact ⟨h2, h1⟩
theorem fparse_bad (A : Option Addr) (c n : Nat) (b : List UInt8) (B : Nat) (w : World) (hn : n = b.length) (hl : Lies w B A (B8 b)) (hB : B ≤ w.heap.size) (hm : b.length ≤ c) (hc : c ≤ maxLen) (h : frameP b = .bad) :
    Calls Try.prog 16 #[.slice A n c] w fun e w' => e = .returned (.tuple #[.agg #[.int .i64 0, .int .i64 0, .slice none 0 0], .int .i64 0, .int .i64 3]) ∧ Below w.heap.size w w' := by
  subst hn
  refine (fparse_any A c b B w hl hB hm hc).mono ?_
  rw [h]
  rintro e w' ⟨h1, h2⟩
  exact ⟨h2, h1⟩
theorem fparse_ok (A : Option Addr) (c n : Nat) (b : List UInt8) (B : Nat) (w : World) (k ch : Nat) (t : List UInt8) (m : Nat) (hn : n = b.length) (hl : Lies w B A (B8 b)) (hB : B ≤ w.heap.size) (hm : b.length ≤ c) (hc : c ≤ maxLen) (h : frameP b = .ok k ch t) (ht : m = t.length) :
    Calls Try.prog 16 #[.slice A n c] w fun e w' => ∃ A1 c1, e = .returned (.tuple #[.agg #[.int .i64 k, .int .i64 ch, .slice A1 m c1], .int .i64 (m + 8), .int .i64 0]) ∧ m ≤ c1 ∧ c1 ≤ maxLen ∧ Lies w' w'.heap.size A1 (B8 t) ∧ Below w.heap.size w w' := by
  subst hn ht
  refine (fparse_any A c b B w hl hB hm hc).mono ?_
  rw [h]
  rintro e w' ⟨h1, A1, c1, h2, h3, h4, h5, _⟩
  exact ⟨A1, c1, h2, h3, h4, h5, h1⟩
theorem fparse_own (A : Option Addr) (c n : Nat) (b : List UInt8) (B : Nat) (w : World) (k ch : Nat) (t : List UInt8) (m : Nat) (hn : n = b.length) (hl : Lies w B A (B8 b)) (hB : B ≤ w.heap.size) (hm : b.length ≤ c) (hc : c ≤ maxLen) (h : frameP b = .ok k ch t) (ht : m = t.length) :
    Calls Try.prog 16 #[.slice A n c] w fun e w' => ∃ A1 c1, e = .returned (.tuple #[.agg #[.int .i64 k, .int .i64 ch, .slice A1 m c1], .int .i64 (m + 8), .int .i64 0]) ∧ m ≤ c1 ∧ c1 ≤ maxLen ∧ w'.ownsRow w.heap.size 5 1 (.slice A1 m c1) m (B8 t) ∧ Below w.heap.size w w' := by
  subst hn ht
  refine (fparse_any A c b B w hl hB hm hc).mono ?_
  rw [h]
  rintro e w' ⟨h1, A1, c1, h2, h3, h4, _, h5⟩
  exact ⟨A1, c1, h2, h3, h4, h5, h1⟩
end Go.Proofs.Ytfajkbegmmlmjaa
