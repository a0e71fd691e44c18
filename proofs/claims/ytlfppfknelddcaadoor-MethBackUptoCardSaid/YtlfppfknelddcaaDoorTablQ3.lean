/- Contracts of package tabl: a row that is read, all kinds together. -/
import Derived.Test.YtlfppfknelddcaaDoorTablQ2
import Derived.Maps.AppendAt
namespace Go.Proofs.YtlfppfknelddcaaDoor
open Go.RowKit
set_option maxRecDepth 100000

theorem parseRow_any (g k : Nat) (l : List UInt8) (deep : Int) (w : World) (HPS : ParsesOf 82 k) (hd1 : 1 ≤ deep) (hdk : deep + k = 8) (h : InAt w g l false) (hs : l.length ≤ 1048576) :
    Calls Tryd.prog 92 #[.pointer (some ⟨g, 0, none⟩), .int .i64 deep] w (RowIs (rowP false (codeP k) l) k g w) := by
  cases hsh : txtShort 1 l with
  | true => exact parse_short g k l deep w h (txt_short_rest hsh) (by omega)
  | false =>
    cases hr : txtRest 1 l with
    | nil => exact parse_short g k l deep w h hr (by omega)
    | cons c r =>
      rcases kind_cases c with hc | hc | hc | hc | hc | hc | hc
      · exact parse_t g k c (txt 1 l) l r deep w _ h (Lib.hid hsh) (Lib.hid hr) (Lib.hid rfl) hs (Lib.hid hc) (Lib.hid (by unfold rowP; rw [hsh, hr]; simp [hc]))
      · exact parse_I g k c (txt 1 l) l r deep w _ h (Lib.hid hsh) (Lib.hid hr) (Lib.hid rfl) hs (Lib.hid hc) (Lib.hid (by unfold rowP; rw [hsh, hr]; simp [hc]))
      · exact parse_l g k c (txt 1 l) l r deep w _ h (Lib.hid hsh) (Lib.hid hr) (Lib.hid rfl) hs (Lib.hid hc) (Lib.hid (by unfold rowP; rw [hsh, hr]; simp [hc]))
      · exact parse_S g k c (txt 1 l) l r deep w _ h (Lib.hid hsh) (Lib.hid hr) (Lib.hid rfl) hs (Lib.hid hc) (Lib.hid (by unfold rowP; rw [hsh, hr]; simp [hc]))
      · exact parse_F g k c (txt 1 l) l r deep w _ h (Lib.hid hsh) (Lib.hid hr) (Lib.hid rfl) hs (Lib.hid hc) hd1 (by omega) hdk (Lib.hid HPS) (Lib.hid (by unfold rowP; rw [hsh, hr]; subst hc; rfl))
      · exact parse_V g k c (txt 1 l) l r deep w _ h (Lib.hid hsh) (Lib.hid hr) (Lib.hid rfl) hs (Lib.hid hc) (Lib.hid (by unfold rowP; rw [hsh, hr]; simp [hc]))
      · obtain ⟨a1, a2, a3, a4, a5, a6⟩ := hc
        exact parse_other g k c (txt 1 l) l r deep w _ h (Lib.hid hsh) (Lib.hid hr) (Lib.hid rfl) hs (Lib.hid ⟨a1, a2, a3, a4, a5, a6⟩) (Lib.hid (by unfold rowP; rw [hsh, hr]; simp [a1, a2, a3, a4, a5, a6]))

/-! ### append of cells that lie, with all that is known of the blocks -/
section
variable {P : Program} {w : World}
theorem wpList_append_at {ops : Array Oper} {rest : List Oper} {o : Oper} {a : Act} {Q : Exit → Act → World → Prop} (hgd : o.guard = none) (s x : Operand) (t : TypeId)
    (ho : o.op = .call { callee := .builtin .append, args := #[s, x], argTypes := #[t, t] })
    (base : Nat) (e : TypeId) (i : TypeInfo) (z : Value) (size bytes : Nat) (ht : P.underlying t = some (.slice e)) (hi : P.info? e = some i) (hz : i.zero = some z)
    (hsize : i.size = size) (hby : i.bytes = bytes) (hzs : z.cells.size = size) (hsz : 0 < size)
    (v : Value) (n : Nat) (xs : List Value) (hs : a.eval s = v) (hown : w.ownsRow base e size v n xs)
    (B : Nat) (ad : Addr) (m c : Nat) (ys : List Value) (hx : a.eval x = .slice (some ad) m c) (hl : Lies w B (some ad) ys) (hm : ys.length = m * size) (hone : ∀ u ∈ ys, u.oneCell' = true)
    (h63 : n + m ≤ maxLen) (hbytes : (n + m) * bytes ≤ 140737488355328) (hbase : base ≤ w.heap.size)
    (h : ∀ v' w', w'.ownsRow base e size v' (n + m) (xs ++ ys) → w.grownBy w' v.ownBlock → (v'.ownBlock = v.ownBlock ∨ v'.ownBlock = some w.heap.size) → wpList P ops Q rest (a.put o.dst v') w') : wpList P ops Q (o :: rest) a w := by
  refine wpList_plain hgd fun K hK => ?_
  have hc : ∀ j u, ys[j]? = some u → w.cell? (ad.add j) = some u := by
    intro j u hu
    rcases hl with rfl | ⟨b, o, e, _, hc⟩
    · simp at hu
    · injection e with e
      subst e
      have hadd : (⟨b, o, none⟩ : Addr).add j = ⟨b, o + j, none⟩ := by unfold Addr.add; split <;> simp_all
      rw [hadd]
      exact hc j u hu
  obtain ⟨v', w', hrun, h2, h3, _, h5⟩ := run_append_own_at (P := P) w base t o.type e i z size bytes ht hi hz hsize hby hzs hsz v n xs hown ad m c ys hm hc hone h63 hbytes hbase
  unfold Oper.wp execOp
  simp only [ho, resolve, invoke, builtin, Sem.run_bind, Sem.run_pure, Result.andThen_ok, List.map_toArray, List.map_cons, List.map_nil, hs, hx, hrun]
  exact hK _ _ (h v' w' h2 h3 h5)
end

theorem own_ne {w : World} {base g : Nat} {e : TypeId} {size n : Nat} {v : Value} {xs : List Value} (h : w.ownsRow base e size v n xs) (hg : g < base) : v.ownBlock = none ∨ v.ownBlock ≠ some g := by
  right
  intro hv
  have := (h.lt g hv).1
  omega
/-- the fields that were read so far, in blocks behind g other than that of their row -/
def Fields (k g : Nat) (w : World) (v : Value) (l : List Fld) : Prop :=
  ∃ xs, w.ownsRow (g + 1) 50 5 v l.length xs ∧ DescL Held (TabS Held k w (fun b => g + 1 ≤ b ∧ b < w.heap.size ∧ some b ≠ v.ownBlock)) l xs
theorem Fields.start (k g : Nat) (w : World) : Fields k g w (.slice none 0 0) [] := ⟨[], World.ownsRow_nil _ _ _ _, rfl⟩
theorem Fields.done {k g lo : Nat} {w : World} {A : Option Addr} {n c : Nat} {l : List Fld} (h : Fields k g w (.slice A n c) l) (hn : n = l.length) (hg : lo ≤ g + 1) : TabNew (k + 1) w lo l A c := by
  obtain ⟨xs, h1, h2⟩ := h
  subst hn
  exact TabS.own h1 rfl (h2.imp (fun t A c ht => TabS.weak (fun b hb => ⟨Nat.le_trans hg hb.1, hb.2.1⟩) k t A c ht)) (fun b h3 h4 => ⟨Nat.le_trans hg h3, h4⟩)
theorem Fields.form {k g : Nat} {w : World} {v : Value} {l : List Fld} (h : Fields k g w v l) : ∃ A c, v = .slice A l.length c := by
  obtain ⟨xs, h1, _⟩ := h
  obtain ⟨A, c, e, _⟩ := own_form h1
  exact ⟨A, c, e⟩
/-- one field more -/
theorem Fields.snoc {k g : Nat} {wr w1 wa w2 : World} {v v' : Value} {l : List Fld} {f : Fld} {A : Option Addr} {c : Nat} {xs : List Value} (hown : wr.ownsRow (g + 1) 50 5 v l.length xs)
    (hd : DescL Held (TabS Held k wr (fun b => g + 1 ≤ b ∧ b < wr.heap.size ∧ some b ≠ v.ownBlock)) l xs)
    (h1 : wr.grownBy w1 (some g)) (hf : Held f) (ht : TabNew k w1 wr.heap.size f.t A c) (hg : g + 1 ≤ wr.heap.size)
    (ha : Below w1.heap.size w1 wa) (hown2 : w2.ownsRow (g + 1) 50 5 v' (l.length + 1) (xs ++ cellsF (.slice A f.t.length c) f)) (h2 : wa.grownBy w2 v.ownBlock) (hv : v'.ownBlock = v.ownBlock ∨ v'.ownBlock = some wa.heap.size) :
    Fields k g w2 v' (l ++ [f]) := by
  refine ⟨_, by rw [List.length_append]; exact hown2, ?_⟩
  have s1 := h1.size
  have s2 := ha.size
  have s3 := h2.size
  have hlt : ∀ q, v.ownBlock = some q → q < wr.heap.size := fun q hq => (hown.lt q hq).2
  apply DescL.snoc _ f A c hf
  · have h3 := TabS.keep (w' := w2) (fun b o hb => by
      have hb1 : w2.heap[b]? = wa.heap[b]? := h2.block b (by omega) (fun e => by have := hlt b e.symm; omega)
      have hb2 : wa.heap[b]? = w1.heap[b]? := ha.block b hb.2
      exact World.cell?_of_block (a := ⟨b, o, none⟩) (hb1.trans hb2)) k f.t A c ht
    refine TabS.weak (fun b hb => ⟨by omega, by omega, fun e => ?_⟩) k f.t A c h3
    rcases hv with hv | hv
    · rw [hv] at e
      have := hlt b e.symm
      omega
    · rw [hv] at e
      injection e with e
      omega
  · refine hd.imp (fun t A' c' hq => ?_)
    have h3 := TabS.keep (w' := w2) (fun b o hb => by
      have hb1 : w2.heap[b]? = wa.heap[b]? := h2.block b (by omega) hb.2.2
      have hb2 : wa.heap[b]? = w1.heap[b]? := ha.block b (by omega)
      have hb3 : w1.heap[b]? = wr.heap[b]? := h1.block b hb.2.1 (fun e => by injection e; omega)
      exact World.cell?_of_block (a := ⟨b, o, none⟩) ((hb1.trans hb2).trans hb3)) k t A' c' hq
    refine TabS.weak (fun b hb => ⟨hb.1, by omega, fun e => ?_⟩) k t A' c' h3
    rcases hv with hv | hv
    · rw [hv] at e
      exact hb.2.2 e
    · rw [hv] at e
      injection e with e
      omega
/-- how many octets an In has left, as its cells say -/
def leftOf (g : Nat) (w : World) : Nat := match w.cell? ⟨g, 0, none⟩ with | some (.slice _ n _) => n | _ => 0
theorem leftOf_is {w : World} {g : Nat} {l : List UInt8} {bad : Bool} (h : InAt w g l bad) : leftOf g w = l.length := by
  obtain ⟨A, c, hw, _⟩ := h
  have c0 : w.cell? ⟨g, 0, none⟩ = some (.slice A l.length c) := hw.cell 0
  unfold leftOf
  rw [c0]
theorem field_info : (Tryd.prog.info? 50).map (fun i => (i.zero, i.size, i.bytes)) = some (some (.agg #[.string ⟨#[]⟩, .int .u8 0, .int .i64 0, .string ⟨#[]⟩, .slice none 0 0]), 5, 72) := by kernel_rfl
end Go.Proofs.YtlfppfknelddcaaDoor
