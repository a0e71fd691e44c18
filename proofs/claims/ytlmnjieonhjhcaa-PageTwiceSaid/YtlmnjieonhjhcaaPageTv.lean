/- Layer 9: two files over the same pages, one of them told what is kept. -/
import Derived.Test.YtlmnjieonhjhcaaPageTs
import Derived.Test.YtlmnjieonhjhcaaPageZ
namespace Go.Proofs.Ytlmnjieonhjhcaa
open Go.RowKit Go.Maps
set_option maxRecDepth 100000
set_option linter.unusedSimpArgs false
set_option linter.unusedVariables false
section
variable {B g fb g2 gb : Nat} {Y : Nat → Prop} {w0 wr w : World} {a0 a1 : Option Mt} {D : List (List UInt8)} {m : Mt} {L Lg : List Int}
/-- the second file, opened behind the first one's last world; the first one stands in all worlds from then on -/
structure Two9 (g2 gb : Nat) (wr : World) (a0 a1 : Option Mt) (D : List (List UInt8)) (m : Mt) (Lg : List Int) (FF : World → Prop) (w : World) : Prop where
  g : PAt wr.heap.size g2 gb 3000 none9 wr a0 a1 D m Lg 0 w
  f : ∀ w', Below wr.heap.size wr w' → FF w'
variable {FF : World → Prop}
theorem Two9.below (h : Two9 g2 gb wr a0 a1 D m Lg FF w) {w' : World} (hb : Below w.heap.size w w') : Two9 g2 gb wr a0 a1 D m Lg FF w' := ⟨h.g.below hb, h.f⟩
theorem Two9.bel (h : Two9 g2 gb wr a0 a1 D m Lg FF w) : Below wr.heap.size wr w := h.g.bel
theorem Two9.ff (h : Two9 g2 gb wr a0 a1 D m Lg FF w) : FF w := h.f w h.bel
theorem t_meta (h : Two9 g2 gb wr a0 a1 D m Lg (fun w => PAt B g fb 3000 Y w0 a0 a1 D m L 0 w) w) (p : Nat) (hp : p = gb ∨ p = fb) :
    Calls Try.prog 16 #[ptr p] w fun e w' => e = .returned (.agg #[.int .u64 (m.gen : Int), .int .i64 (m.root : Int), .int .i64 (m.count : Int), .int .u64 (m.mark : Int)]) ∧ Below w.heap.size w w' := by
  rcases hp with rfl | rfl
  · exact p_meta h.g
  · exact p_meta h.ff
theorem t_len (h : Two9 g2 gb wr a0 a1 D m Lg (fun w => PAt B g fb 3000 Y w0 a0 a1 D m L 0 w) w) (p : Nat) (hp : p = gb ∨ p = fb) :
    Calls Try.prog 17 #[ptr p] w fun e w' => e = .returned (.int .i64 ((D.length + 2 : Nat) : Int)) ∧ w = w' := by
  rcases hp with rfl | rfl
  · exact p_len h.g
  · exact p_len h.ff
theorem t_free0 (h : Two9 g2 gb wr a0 a1 D m [] FF w) : Calls Try.prog 18 #[ptr gb] w fun e w' => ∃ (A : Option Addr) (c : Nat), e = .returned (.slice A 0 c) ∧ Below w.heap.size w w' := by
  refine (p_free h.g (by simp)).mono ?_
  rintro e w' ⟨v, rfl, ho, hb⟩
  obtain ⟨A, c, rfl, _, _⟩ := own_form ho
  exact ⟨A, c, rfl, hb⟩
theorem t_keep (h : Two9 g2 gb wr a0 a1 D m [] FF w) (ids : List Int) (A : Option Addr) (c : Nat) (hl : Lies w w.heap.size A (cellsZ ids)) (hc1 : ids.length ≤ c) (hc2 : c ≤ maxLen) (h64 : In64 ids) (hk : keepsB (D.length + 2) ids = true) (hL : L = othP ids 2 D.length) :
    Calls Try.prog 19 #[ptr gb, .slice A ids.length c] w fun e w' => e = .returned (.int .i64 0) ∧ Two9 g2 gb wr a0 a1 D m L FF w' := by
  subst hL
  refine (p_keep h.g ids A c hl hc1 hc2 h64 hk).mono ?_
  rintro e w' ⟨r1, r2, r3⟩
  exact ⟨r1, ⟨r2, h.f⟩⟩
theorem t_free (h : Two9 g2 gb wr a0 a1 D m L (fun w => PAt B g fb 3000 Y w0 a0 a1 D m L 0 w) w) (hL : L.length ≤ 1000000) (p : Nat) (hp : p = gb ∨ p = fb) :
    Calls Try.prog 18 #[ptr p] w fun e w' => ∃ (A : Option Addr) (c : Nat), e = .returned (.slice A L.length c) ∧ LiesP w' (fun _ => True) A (cellsZ L) ∧ Below w.heap.size w w' := by
  have key : ∀ {v : Value} {e : Ending} {w' : World}, e = .returned v ∧ w'.ownsRow w.heap.size 3 1 v (L.drop 0).length (cellsZ (L.drop 0)) ∧ Below w.heap.size w w' → ∃ (A : Option Addr) (c : Nat), e = .returned (.slice A L.length c) ∧ LiesP w' (fun _ => True) A (cellsZ L) ∧ Below w.heap.size w w' := by
    rintro v e w' ⟨rfl, ho, hb⟩
    rw [List.drop_zero] at ho
    obtain ⟨A, c, rfl, _, _⟩ := own_form ho
    exact ⟨A, c, rfl, LiesP.own ho (fun _ _ => trivial), hb⟩
  rcases hp with rfl | rfl
  · exact (p_free h.g hL).mono fun e w' ⟨v, hv⟩ => key hv
  · exact (p_free h.ff hL).mono fun e w' ⟨v, hv⟩ => key hv
theorem t_read (h : Two9 g2 gb wr a0 a1 D m L (fun w => PAt B g fb 3000 Y w0 a0 a1 D m L 0 w) w) (p : Nat) (hp : p = gb ∨ p = fb) (id : Int) (k : Nat) (b : List UInt8) (hid : id = ((k + 2 : Nat) : Int)) (hk : D[k]? = some b) (hb : b.length ≤ 512) :
    Calls Try.prog 21 #[ptr p, .int .i64 id] w fun e w' => ∃ (A : Option Addr) (c : Nat), e = .returned (.tuple #[.slice A 512 c, .int .i64 0]) ∧ LiesP w' (fun _ => True) A (B8 (pad b)) ∧ Below w.heap.size w w' := by
  subst hid
  have key : ∀ {v : Value} {e : Ending} {w' : World}, e = .returned (.tuple #[v, .int .i64 0]) ∧ w'.ownsRow w.heap.size 5 1 v 512 (B8 (pad b)) ∧ Below w.heap.size w w' → ∃ (A : Option Addr) (c : Nat), e = .returned (.tuple #[.slice A 512 c, .int .i64 0]) ∧ LiesP w' (fun _ => True) A (B8 (pad b)) ∧ Below w.heap.size w w' := by
    rintro v e w' ⟨rfl, ho, hb⟩
    obtain ⟨A, c, rfl, _, _⟩ := own_form ho
    exact ⟨A, c, rfl, LiesP.own ho (fun _ _ => trivial), hb⟩
  rcases hp with rfl | rfl
  · exact (p_read h.g k b hk hb).mono fun e w' ⟨v, hv⟩ => key hv
  · exact (p_read h.ff k b hk hb).mono fun e w' ⟨v, hv⟩ => key hv
end
theorem conv_of9 {w : World} {P : Nat → Prop} {A : Option Addr} {l : List UInt8} {N : Nat} (h : LiesP w P A (B8 l)) (hl : l.length = N) (c : Nat) : (convert 31 9 (.slice A N c)).run Try.prog w = .ok (.string ⟨l.toArray⟩) w := by
  subst hl
  exact run_octets_string (P := Try.prog) 31 9 5 Try.underlying31 Try.underlying5 Try.underlying9 h.lies c
end Go.Proofs.Ytlmnjieonhjhcaa
