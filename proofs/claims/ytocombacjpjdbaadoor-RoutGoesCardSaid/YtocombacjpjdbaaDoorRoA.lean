/- Layer 16: a Rout in memory; Get, Add, Bind, Unbind, leads. -/
import Derived.Test.YtocombacjpjdbaaDoorRoS
import Derived.Test.YtocombacjpjdbaaDoorSectM
import Derived.Test.YtocombacjpjdbaaDoorTopcM
import Derived.Test.YtocombacjpjdbaaDoorWords
import Derived.Deep.RegionHeld3
namespace Go.Proofs.YtocombacjpjdbaaDoor
open Go.RowKit Go.Maps
set_option maxRecDepth 100000
set_option linter.unusedSimpArgs false
set_option linter.unusedVariables false

/-! ### keys and values -/
def rsV (x : List UInt8) : Value := .string ⟨x.toArray⟩
def rsOk (x : List UInt8) : Prop := x.length ≤ 1000000
def rsL (x : List UInt8) : Lit := .string x
theorem lit_rs (n : Nat) (l : List UInt8) (h : l.length ≤ 1000000) : Tryd.prog.keyLits (n + 1) 9 [.string ⟨l.toArray⟩] = some [.string l] := by
  unfold Program.keyLits
  rw [Tryd.underlying9]
  show (if (⟨l.toArray⟩ : ByteArray).size ≤ maxLen then some [Lit.string (⟨l.toArray⟩ : ByteArray).data.toList] else none) = _
  rw [if_pos (by simp [ByteArray.size, maxLen]; omega)]
theorem rs_kind : KeyKind Tryd.prog 9 rsV rsOk rsL where
  law := string_keyed Tryd.underlying9
  read x hx := by
    have := WideMaps.keyOf_string_mk (s := ⟨x.toArray⟩) Tryd.underlying9 (by unfold rsOk at hx; simp [ByteArray.size, maxLen]; omega)
    simpa [rsV, rsL] using this
  inj x y h := by
    simp [rsV] at h
    exact h
def bdC (b : Bnd) : List Value := [.string ⟨b.e.toArray⟩, .string ⟨b.q.toArray⟩, .string ⟨b.k.toArray⟩]
def bdV (b : Bnd) : Value := .agg #[.string ⟨b.e.toArray⟩, .string ⟨b.q.toArray⟩, .string ⟨b.k.toArray⟩]
def bdOk (b : Bnd) : Prop := b.e.length ≤ 1000000 ∧ b.q.length ≤ 1000000 ∧ b.k.length ≤ 1000000
def bdL (b : Bnd) : Lit := .string (keyBytes [.string b.e, .string b.q, .string b.k])
theorem bd_kind : KeyKind Tryd.prog 33 bdV bdOk bdL where
  law := Keyed.of_law (deep_law_laid (m := 3) (by kernel_rfl) (by omega) (of_decide_eq_true (by kernel_rfl)) (by kernel_rfl) (by rw [Tryd.underlying33]))
  read x hx := by
    have k1 : Tryd.prog.keyType 33 = true := by kernel_rfl
    have c3 : Tryd.prog.cellsOf 33 = 3 := by kernel_rfl
    have k2 : (bdV x).formed Tryd.prog 33 = true := by
      simp [bdV, Value.formed, Tryd.underlying33, c3]
    obtain ⟨n, hn⟩ : ∃ n, Tryd.prog.types.size + 1 = n + 2 := ⟨Tryd.prog.types.size - 1, by
      have : (decide (2 ≤ Tryd.prog.types.size)) = true := by kernel_rfl
      have := of_decide_eq_true this
      omega⟩
    have c0 : Tryd.prog.cellsOf 9 = 1 := by kernel_rfl
    obtain ⟨h1, h2, h3⟩ := hx
    have e1 := lit_rs n x.e h1
    have e2 := lit_rs n x.q h2
    have e3 := lit_rs n x.k h3
    have e4 : Tryd.prog.keyLits (n + 2) 33 [.string ⟨x.e.toArray⟩, .string ⟨x.q.toArray⟩, .string ⟨x.k.toArray⟩] = some [.string x.e, .string x.q, .string x.k] := by
      unfold Program.keyLits
      rw [Tryd.underlying33]
      simp [c0, c3, e1, e2, e3]
    unfold keyOf
    rw [Tryd.underlying33, hn]
    simp only [k1, k2, Bool.and_self, if_true]
    show (Option.map _ (Tryd.prog.keyLits (n + 2) 33 [.string ⟨x.e.toArray⟩, .string ⟨x.q.toArray⟩, .string ⟨x.k.toArray⟩])) = _
    rw [e4]
    rfl
  inj x y h := by
    cases x
    cases y
    simp [bdV] at h
    simp [h]
def xcV (x : Xc) : Value := .agg #[.string ⟨x.name.toArray⟩, .int .i64 x.kind, .bool x.lasts]
def zxV : Value := .agg #[.string ⟨#[]⟩, .int .i64 0, .bool false]
def fX (X : List Xc) : List UInt8 → Option Value := fun n => (fndX X n).map xcV
def fB (B : List Bnd) : Bnd → Option Value := fun b => if b ∈ B then some (.agg #[]) else none
theorem zero_xc (w : World) : (zeroValue 26).run Tryd.prog w = .ok zxV w := by
  rw [Tryd.zeroValue26]
  rfl
theorem zero_unit (w : World) : (zeroValue 51).run Tryd.prog w = .ok (.agg #[]) w := by
  rw [Tryd.zeroValue51]
theorem wp_renR {P : Program} {c : Code} {Q : Exit → Act → World → Prop} {a : Act} {W : World} (I : World → Prop) (hI : I W) (k : ∀ W', I W' → Code.wp P c Q a W') : Code.wp P c Q a W := k W hI
abbrev ptrR (g : Nat) : Value := .pointer (some ⟨g, 0, none⟩)
/-- a Rout: its box, its two maps -/
structure RoAt (w : World) (g bx bb : Nat) (S : Rt) : Prop where
  ok : S.Ok
  box : Whole w g 46 #[.map (some bx), .map (some bb)]
  ex : MapF Tryd.prog 9 rsOk rsL w bx (fX S.X)
  bd : MapF Tryd.prog 33 bdOk bdL w bb (fB S.B)
  ne : bx ≠ bb
section
variable {w w' : World} {g bx bb : Nat} {S : Rt}
theorem RoAt.gx (h : RoAt w g bx bb S) : g ≠ bx := by
  obtain ⟨D, ⟨es, clock, h1, _⟩, _⟩ := h.ex
  rintro rfl
  have := h.box.symm.trans h1
  cases this
theorem RoAt.gb (h : RoAt w g bx bb S) : g ≠ bb := by
  obtain ⟨D, ⟨es, clock, h1, _⟩, _⟩ := h.bd
  rintro rfl
  have := h.box.symm.trans h1
  cases this
theorem RoAt.lts (h : RoAt w g bx bb S) : g < w.heap.size ∧ bx < w.heap.size ∧ bb < w.heap.size := ⟨h.box.lt, h.ex.lt, h.bd.lt⟩
theorem RoAt.kept (h : RoAt w g bx bb S) (hk : ∀ i, i = g ∨ i = bx ∨ i = bb → w'.heap[i]? = w.heap[i]?) : RoAt w' g bx bb S :=
  ⟨h.ok, (hk g (.inl rfl)).trans h.box, h.ex.block (hk bx (.inr (.inl rfl))), h.bd.block (hk bb (.inr (.inr rfl))), h.ne⟩
theorem RoAt.below (h : RoAt w g bx bb S) (hb : Below w.heap.size w w') : RoAt w' g bx bb S := by
  obtain ⟨l1, l2, l3⟩ := h.lts
  exact h.kept fun i hi => hb.block i (by rcases hi with rfl | rfl | rfl <;> assumption)
theorem RoAt.grown (h : RoAt w g bx bb S) {row : Option Nat} (hg : w.grownBy w' row) (hr : row ≠ some g ∧ row ≠ some bx ∧ row ≠ some bb) : RoAt w' g bx bb S := by
  obtain ⟨l1, l2, l3⟩ := h.lts
  refine h.kept fun i hi => hg.block i (by rcases hi with rfl | rfl | rfl <;> assumption) ?_
  rcases hi with rfl | rfl | rfl
  · exact fun e => hr.1 e.symm
  · exact fun e => hr.2.1 e.symm
  · exact fun e => hr.2.2 e.symm
theorem RoAt.cell (h : RoAt w g bx bb S) : w.cell? ⟨g, 0, none⟩ = some (.map (some bx)) ∧ w.cell? ⟨g, 1, none⟩ = some (.map (some bb)) := ⟨(h.box.cell 0).trans rfl, (h.box.cell 1).trans rfl⟩
theorem RoAt.look (h : RoAt w g bx bb S) {n : List UInt8} (hn : n.length ≤ 1000000) : (Instr.lookup 43 (.map (some bx)) (.string ⟨n.toArray⟩) true).run Tryd.prog w = .ok (.tuple #[((fndX S.X n).map xcV).getD zxV, .bool (fndX S.X n).isSome]) w := by
  have h1 := MapF.look h.ex rs_kind Tryd.underlying43 (zero_xc w) (x := n) hn
  unfold fX at h1
  rw [Option.isSome_map] at h1
  exact h1
theorem RoAt.lookB (h : RoAt w g bx bb S) {b : Bnd} (hb : bdOk b) : (Instr.lookup 44 (.map (some bb)) (bdV b) true).run Tryd.prog w = .ok (.tuple #[.agg #[], .bool (decide (b ∈ S.B))]) w := by
  have h1 := MapF.look h.bd bd_kind Tryd.underlying44 (zero_unit w) (x := b) hb
  unfold fB at h1
  by_cases e : b ∈ S.B
  · simp only [e, if_true, Option.getD_some, Option.isSome_some] at h1
    simpa [e] using h1
  · simp only [e, if_false, Option.getD_none, Option.isSome_none] at h1
    simpa [e] using h1
/-- the exchange is put -/
theorem RoAt.putX (h : RoAt w g bx bb S) {x : Xc} (hn : fndX S.X x.name = none) (hx : x.name.length ≤ 1000000) (hk : 1 ≤ x.kind ∧ x.kind ≤ 3) (hf : S.X.length < 1000) :
    ∃ w', (Instr.mapUpdate 43 (.map (some bx)) (.string ⟨x.name.toArray⟩) (xcV x)).run Tryd.prog w = .ok () w' ∧ RoAt w' g bx bb (S.add x) ∧ w.mapTurned w' bx := by
  obtain ⟨w', h1, h2, h3⟩ := MapF.put h.ex rs_kind Tryd.underlying43 (x := x.name) hx (xcV x) (fun D hD hkk => by
    refine Nat.lt_of_le_of_lt (size_bound rs_kind hD (S.X.map (·.name)) (fun l hl => ?_)) (by simp [maxLen]; omega)
    obtain ⟨y, _, e, hs⟩ := hkk l hl
    unfold fX at hs
    rw [Option.isSome_map] at hs
    obtain ⟨u, hu⟩ := Option.isSome_iff_exists.1 hs
    exact ⟨y, List.mem_map.2 ⟨u, (fndX_name hu).2, (fndX_name hu).1⟩, e⟩)
  have ha : S.adds x = true := by simp [Rt.adds, hk.1, hk.2, hn]
  have e : S.add x = ⟨addX x S.X, S.B⟩ := by unfold Rt.add; rw [if_pos ha]
  have hok := h.ok.add hx hf
  have hne := h.ne
  have hgx := h.gx
  rw [e] at hok ⊢
  refine ⟨w', h1, ⟨hok, (h3.grown.block g h.box.lt (fun e => hgx (Option.some.inj e))).trans h.box, h2.same (fun n => ?_), h.bd.block (h3.grown.block bb h.bd.lt (fun e => hne (Option.some.inj e).symm)), hne⟩, h3⟩
  show fX (addX x S.X) n = upd (fX S.X) x.name (some (xcV x)) n
  unfold fX
  rw [fndX_add hn n]
  by_cases e : n = x.name
  · subst e
    rw [upd_self, if_pos rfl]
    rfl
  · rw [upd_other _ _ _ _ e, if_neg e]
theorem RoAt.putB (h : RoAt w g bx bb S) {b : Bnd} (hb : bdOk b) (ha : S.binds b = true) (hf : S.B.length < 1000) :
    ∃ w', (Instr.mapUpdate 44 (.map (some bb)) (bdV b) (.agg #[])).run Tryd.prog w = .ok () w' ∧ RoAt w' g bx bb (S.bind b) ∧ w.mapTurned w' bb := by
  obtain ⟨w', h1, h2, h3⟩ := MapF.put h.bd bd_kind Tryd.underlying44 (x := b) hb (.agg #[]) (fun D hD hkk => by
    refine Nat.lt_of_le_of_lt (size_bound bd_kind hD S.B (fun l hl => ?_)) (by simp [maxLen]; omega)
    obtain ⟨y, _, e, hs⟩ := hkk l hl
    unfold fB at hs
    split at hs
    · exact ⟨y, by assumption, e⟩
    · cases hs)
  have e : S.bind b = ⟨S.X, insR ltB b S.B⟩ := by unfold Rt.bind; rw [if_pos ha]
  have hok := h.ok.bind hb.1 hb.2.1 hb.2.2 hf
  have hne := h.ne
  have hgb := h.gb
  rw [e] at hok ⊢
  refine ⟨w', h1, ⟨hok, (h3.grown.block g h.box.lt (fun e => hgb (Option.some.inj e))).trans h.box, h.ex.block (h3.grown.block bx h.ex.lt (fun e => hne (Option.some.inj e))), h2.same (fun n => ?_), hne⟩, h3⟩
  show fB (insR ltB b S.B) n = upd (fB S.B) b (some (.agg #[])) n
  unfold fB
  by_cases e : n = b
  · subst e
    rw [upd_self, if_pos ((mem_insR linB n n _).2 (.inl rfl))]
  · rw [upd_other _ _ _ _ e]
    by_cases e2 : n ∈ S.B
    · rw [if_pos e2, if_pos ((mem_insR linB b n _).2 (.inr e2))]
    · rw [if_neg e2, if_neg (fun h => by rcases (mem_insR linB b n _).1 h with h | h; exact e h; exact e2 h)]
theorem RoAt.delB (h : RoAt w g bx bb S) {b : Bnd} (hb : bdOk b) (ty : TypeId) :
    ∃ w', (Builtin.delete_ #[44, 33] ty #[.map (some bb), bdV b]).run Tryd.prog w = .ok (.tuple #[]) w' ∧ RoAt w' g bx bb (S.unbind b) ∧ w.mapTurned w' bb := by
  obtain ⟨w', h1, h2, h3⟩ := MapF.del h.bd bd_kind Tryd.underlying44 (x := b) hb ty
  have hne := h.ne
  have hgb := h.gb
  refine ⟨w', h1, ⟨h.ok.unbind b, (h3.grown.block g h.box.lt (fun e => hgb (Option.some.inj e))).trans h.box, h.ex.block (h3.grown.block bx h.ex.lt (fun e => hne (Option.some.inj e))), h2.same (fun n => ?_), hne⟩, h3⟩
  show fB (S.B.filter fun x => decide (x ≠ b)) n = upd (fB S.B) b none n
  unfold fB
  by_cases e : n = b
  · subst e
    rw [upd_self, if_neg (by simp)]
  · rw [upd_other _ _ _ _ e]
    by_cases e2 : n ∈ S.B
    · rw [if_pos e2, if_pos (List.mem_filter.2 ⟨e2, by simpa using e⟩)]
    · rw [if_neg e2, if_neg (fun h => e2 (List.mem_filter.1 h).1)]
theorem leads_any (k : Int) (b key : List UInt8) (w : World) (hb : b.length ≤ 1000000) (hk : key.length ≤ 1000000) :
    Calls Tryd.prog 19 #[.int .i64 k, .string ⟨b.toArray⟩, .string ⟨key.toArray⟩] w fun e w' => e = .returned (.bool (leadP k b key)) ∧ Below w.heap.size w w' := by
  unfold leadP
  by_cases h1 : k = 1
  · subst h1
    go_enter Tryd.func19, Tryd.ntmps19
    go_wp2_with fail
    go_ret
    refine ⟨?_, Below.refl _ _⟩
    have : (b == key) = decide (b = key) := by by_cases e : b = key <;> simp [e]
    simpa using this
  · by_cases h3 : k = 3
    · subst h3
      have HM := Lib.hid (fun w' => match_any b key w' hb hk)
      go_enter Tryd.func19, Tryd.ntmps19
      go_wp2_with (go_at_call 12; go_must (refine (HM.out _).mono ?_); rintro e w2 ⟨rfl, hb2⟩; have B2 := Lib.hid hb2; clear hb2)
      go_ret
      exact ⟨rfl, B2.out⟩
    · have e1 : (k == 1) = false := beq_false_of_ne h1
      have e3 : (k == 3) = false := beq_false_of_ne h3
      rw [if_neg h1, if_neg h3]
      clear h1 h3
      go_enter Tryd.func19, Tryd.ntmps19
      go_wp2_with fail
      go_ret
      exact ⟨rfl, Below.refl _ _⟩
theorem load_xc (w : World) (g : Nat) (cs : Array Value) (hg : Whole w g 26 cs) (hs : cs.size = 3) : (loadVar 26 ⟨g, 0, none⟩).run Tryd.prog w = .ok (.agg cs) w := 
  run_loadVar_row (P := Tryd.prog) w g _ _ cs (0, 0) _ hg Tryd.underlying26 rfl (by rw [hs]; kernel_rfl)
theorem get_end {w : World} {b : Nat} {cs : Array Value} {q : Bool} (hg : Whole w b 26 cs) (hs : cs.size = 3) (tmps : Array Value) (ds) (h4 : tmps.getD 4 undef = ptrR b) (h5 : tmps.getD 5 undef = .bool q)
    (R : Ending → World → Prop) (hR : R (.returned (.tuple #[.agg cs, .bool q])) w) (hd : ds = []) : bodyPost Tryd.prog Tryd.f8 R .ret { tmps := tmps, defers := ds } w := by
  refine bodyPost_ret (v := .tuple #[.agg cs, .bool q]) ?_ hd hR
  have hres : Tryd.f8.results = #[.cell 4 26, .tmp 5] := rfl
  have h4' : tmps[4]?.getD undef = ptrR b := by simpa using h4
  have h5' : tmps[5]?.getD undef = .bool q := by simpa using h5
  simp only [results, hres]
  simp [Sem.run_bind, Result.andThen, h4', h5', asAddr, load_xc w b cs hg hs]
set_option maxHeartbeats 2000000 in
theorem r_get (h : RoAt w g bx bb S) {n : List UInt8} (hn : n.length ≤ 1000000) :
    Calls Tryd.prog 8 #[ptrR g, .string ⟨n.toArray⟩] w fun e w' => e = .returned (.tuple #[((fndX S.X n).map xcV).getD zxV, .bool (fndX S.X n).isSome]) ∧ Below w.heap.size w w' := by
  obtain ⟨c0, c1⟩ := h.cell
  obtain ⟨l1, l2, l3⟩ := h.lts
  have H := Lib.hid h
  obtain ⟨v, hv⟩ : ∃ v, v = ((fndX S.X n).map xcV).getD zxV := ⟨_, rfl⟩
  obtain ⟨N, K, L, rfl⟩ : ∃ N K L, v = .agg #[.string N, .int .i64 K, .bool L] := by
    rw [hv]
    cases fndX S.X n with
    | none => exact ⟨_, _, _, rfl⟩
    | some x => exact ⟨_, _, _, rfl⟩
  obtain ⟨q, hq⟩ : ∃ q, q = (fndX S.X n).isSome := ⟨_, rfl⟩
  have hl : ∀ w', Below w.heap.size w w' → (Instr.lookup 43 (.map (some bx)) (.string ⟨n.toArray⟩) true).run Tryd.prog w' = .ok (.tuple #[.agg #[.string N, .int .i64 K, .bool L], .bool q]) w' := by
    intro w' hb
    rw [hv, hq]
    exact (H.out.below hb).look hn
  have HL := Lib.hid hl
  rw [← hv, ← hq]
  clear hv hq h hl
  go_enter Tryd.func8, Tryd.ntmps8
  have hl1 := fun o => HL.out (w.alloc o) ((Below.refl _ _).alloc (Nat.le_refl _) _)
  have hl2 := fun o => HL.out (w.alloc o).drew (((Below.refl _ _).alloc (Nat.le_refl _) _).drew)
  go_wp2
  refine get_end (b := w.heap.size) (cs := #[.string N, .int .i64 K, .bool L]) (q := q) ?_ rfl _ _ rfl rfl _ ?_ rfl
  · exact Whole.alloc (Whole.new w _ _) _
  · exact ⟨rfl, ((Below.refl _ _).alloc (Nat.le_refl _) _).alloc (Nat.le_trans (Nat.le_refl _) (by simp)) _⟩
/-- a new block, and what lies in it -/
theorem new_block (w : World) (t : TypeId) (cs : Array Value) : Below w.heap.size w (w.alloc (.cells cs t)) ∧ Whole (w.alloc (.cells cs t)) w.heap.size t cs := ⟨(Below.refl _ _).alloc (Nat.le_refl _) _, Whole.new _ _ _⟩
set_option maxHeartbeats 4000000 in
theorem r_add (h : RoAt w g bx bb S) {x : Xc} (hx : x.name.length ≤ 1000000) (hf : S.X.length < 1000) :
    Calls Tryd.prog 11 #[ptrR g, .agg #[.string ⟨x.name.toArray⟩, .int .i64 x.kind, .bool x.lasts]] w fun e w' => e = .returned (.bool (S.adds x)) ∧ RoAt w' g bx bb (S.add x) ∧ w.grownBy w' (some bx) := by
  obtain ⟨c0, c1⟩ := h.cell
  obtain ⟨l1, l2, l3⟩ := h.lts
  have H := Lib.hid h
  have NO : S.adds x = false → ∀ w', Below w.heap.size w w' → RoAt w' g bx bb (S.add x) ∧ w.grownBy w' (some bx) := by
    intro ha w' hb
    have e : S.add x = S := by unfold Rt.add; rw [ha]; simp
    rw [e]
    exact ⟨H.out.below hb, only_below hb _⟩
  have HNO := Lib.hid NO
  clear NO
  by_cases h1 : 1 ≤ x.kind
  · by_cases h3 : x.kind ≤ 3
    · have e1 : ¬ x.kind < 1 := by omega
      have e2 : ¬ 3 < x.kind := by omega
      by_cases hn : fndX S.X x.name = none
      · have ha : S.adds x = true := by simp [Rt.adds, h1, h3, hn]
        rw [ha]
        have hl : ∀ w', Below w.heap.size w w' → (Instr.lookup 43 (.map (some bx)) (.string ⟨x.name.toArray⟩) true).run Tryd.prog w' = .ok (.tuple #[.agg #[.string ⟨#[]⟩, .int .i64 0, .bool false], .bool false]) w' := by
          intro w' hb
          have := (H.out.below hb).look hx
          rw [hn] at this
          exact this
        have HL := Lib.hid hl
        have H3 := Lib.hid (And.intro h1 h3)
        have HN := Lib.hid hn
        have HX := Lib.hid hx
        have HF := Lib.hid hf
        clear h hl ha h1 h3 hn hx hf HNO
        go_enter Tryd.func11, Tryd.ntmps11
        have hl1 := fun o => HL.out (w.alloc o).drew (((Below.refl _ _).alloc (Nat.le_refl _) _).drew)
        have hl2 := fun o o2 => HL.out ((w.alloc o).alloc o2).drew ((((Below.refl _ _).alloc (Nat.le_refl _) _).alloc (Nat.le_trans (Nat.le_refl _) (by simp)) o2).drew)
        go_upto_region 3 with fail
        go_region
        go_upto_region 6 with fail
        obtain ⟨hB, hhB⟩ : ∃ hB, hB = w.heap.size := ⟨_, rfl⟩
        rw [← hhB]
        refine wp_renR (fun W' => Below hB w W' ∧ Whole W' hB 26 #[.string ⟨x.name.toArray⟩, .int .i64 x.kind, .bool x.lasts]) ⟨?_, ?_⟩ ?_
        · rw [hhB]; exact (((Below.refl _ _).alloc (Nat.le_refl _) _).alloc (by simp) _).drew
        · rw [hhB]; exact Whole.alloc (Whole.new w _ _) _
        rintro W6 ⟨hb6, hz6⟩
        have hR6 := (H.out.below (by rw [← hhB]; exact hb6)).below (Below.refl _ W6).drew
        obtain ⟨W7, hput, hR7, ht7⟩ := hR6.putX HN.out HX.out H3.out HF.out
        obtain ⟨d0, d1⟩ := hR6.cell
        have z0 : W6.drew.cell? ⟨hB, 0, none⟩ = some (.string ⟨x.name.toArray⟩) := (Whole.cell hz6 0).trans rfl
        have z1 : W6.drew.cell? ⟨hB, 1, none⟩ = some (.int .i64 x.kind) := (Whole.cell hz6 1).trans rfl
        have z2 : W6.drew.cell? ⟨hB, 2, none⟩ = some (.bool x.lasts) := (Whole.cell hz6 2).trans rfl
        unfold xcV at hput
        have hlt := Whole.lt hz6
        have R7 := Lib.hid hR7
        have T7 := Lib.hid (show w.grownBy W7 (some bx) from only_trans (only_below (by rw [← hhB]; exact hb6.drew) _) ht7.grown)
        clear hR6 hR7 ht7 hb6 hz6 hhB hl1 hl2 c0 c1 l1 l2 l3 HL
        go_region
        go_wp2_with fail
        go_ret
        exact ⟨rfl, R7.out, T7.out⟩
      · obtain ⟨y, hy⟩ := Option.ne_none_iff_exists'.1 hn
        have ha : S.adds x = false := by simp [Rt.adds, hy]
        have NO := Lib.hid (HNO.out ha)
        rw [ha]
        have hl : ∀ w', Below w.heap.size w w' → (Instr.lookup 43 (.map (some bx)) (.string ⟨x.name.toArray⟩) true).run Tryd.prog w' = .ok (.tuple #[.agg #[.string ⟨y.name.toArray⟩, .int .i64 y.kind, .bool y.lasts], .bool true]) w' := by
          intro w' hb
          have := (H.out.below hb).look hx
          rw [hy] at this
          exact this
        have HL := Lib.hid hl
        clear h hl ha h1 h3 hn hx hf HNO hy
        go_enter Tryd.func11, Tryd.ntmps11
        have hl1 := fun o => HL.out (w.alloc o).drew (((Below.refl _ _).alloc (Nat.le_refl _) _).drew)
        have hl2 := fun o o2 => HL.out ((w.alloc o).alloc o2).drew ((((Below.refl _ _).alloc (Nat.le_refl _) _).alloc (Nat.le_trans (Nat.le_refl _) (by simp)) o2).drew)
        go_upto_region 3 with fail
        go_region
        go_wp2_with fail
        go_ret
        refine ⟨rfl, NO.out _ ?_⟩
        exact (((Below.refl _ _).alloc (Nat.le_refl _) _).alloc (by simp) _).drew
    · have e1 : ¬ x.kind < 1 := by omega
      have e2 : 3 < x.kind := by omega
      have ha : S.adds x = false := by simp [Rt.adds, h3]
      have NO := Lib.hid (HNO.out ha)
      rw [ha]
      clear h ha h1 h3 hx hf HNO
      go_enter Tryd.func11, Tryd.ntmps11
      go_wp2_with fail
      go_ret
      exact ⟨rfl, NO.out _ ((Below.refl _ _).alloc (Nat.le_refl _) _)⟩
  · have e1 : x.kind < 1 := by omega
    have ha : S.adds x = false := by simp [Rt.adds, h1]
    have NO := Lib.hid (HNO.out ha)
    rw [ha]
    clear h ha h1 hx hf HNO
    go_enter Tryd.func11, Tryd.ntmps11
    go_wp2_with fail
    go_ret
    exact ⟨rfl, NO.out _ ((Below.refl _ _).alloc (Nat.le_refl _) _)⟩
set_option maxHeartbeats 4000000 in
theorem r_bind (h : RoAt w g bx bb S) {b : Bnd} (hb : bdOk b) (hf : S.B.length < 1000) :
    Calls Tryd.prog 10 #[ptrR g, .agg #[.string ⟨b.e.toArray⟩, .string ⟨b.q.toArray⟩, .string ⟨b.k.toArray⟩]] w fun e w' => e = .returned (.bool (S.binds b)) ∧ RoAt w' g bx bb (S.bind b) ∧ w.grownBy w' (some bb) := by
  obtain ⟨c0, c1⟩ := h.cell
  obtain ⟨l1, l2, l3⟩ := h.lts
  have H := Lib.hid h
  have NO : S.binds b = false → ∀ w', Below w.heap.size w w' → RoAt w' g bx bb (S.bind b) ∧ w.grownBy w' (some bb) := by
    intro ha w' hb
    have e : S.bind b = S := by unfold Rt.bind; rw [ha]; simp
    rw [e]
    exact ⟨H.out.below hb, only_below hb _⟩
  have HNO := Lib.hid NO
  clear NO
  obtain ⟨v, hv⟩ : ∃ v, v = ((fndX S.X b.e).map xcV).getD zxV := ⟨_, rfl⟩
  obtain ⟨N, K, L, rfl⟩ : ∃ N K L, v = .agg #[.string N, .int .i64 K, .bool L] := by
    rw [hv]
    cases fndX S.X b.e with
    | none => exact ⟨_, _, _, rfl⟩
    | some x => exact ⟨_, _, _, rfl⟩
  have hl : ∀ w', Below w.heap.size w w' → (Instr.lookup 43 (.map (some bx)) (.string ⟨b.e.toArray⟩) true).run Tryd.prog w' = .ok (.tuple #[.agg #[.string N, .int .i64 K, .bool L], .bool (fndX S.X b.e).isSome]) w' := by
    intro w' hb'
    rw [hv]
    exact (H.out.below hb').look hb.1
  cases hq : (fndX S.X b.e).isSome
  · have ha : S.binds b = false := by simp [Rt.binds, hq]
    have NO := Lib.hid (HNO.out ha)
    rw [ha]
    rw [hq] at hl
    have HL := Lib.hid hl
    clear h hl ha hb hf HNO hv hq
    go_enter Tryd.func10, Tryd.ntmps10
    have hl1 := fun o => HL.out (w.alloc o).drew (((Below.refl _ _).alloc (Nat.le_refl _) _).drew)
    have hl2 := fun o o2 => HL.out ((w.alloc o).alloc o2).drew ((((Below.refl _ _).alloc (Nat.le_refl _) _).alloc (Nat.le_trans (Nat.le_refl _) (by simp)) o2).drew)
    go_upto_region 1 with fail
    go_region
    go_wp2_with fail
    go_ret
    exact ⟨rfl, NO.out _ (((Below.refl _ _).alloc (Nat.le_refl _) _).alloc (by simp) _).drew⟩
  · rw [hq] at hl
    by_cases he : b.e = []
    · have ha : S.binds b = false := by simp [Rt.binds, he]
      have NO := Lib.hid (HNO.out ha)
      rw [ha]
      have HL := Lib.hid hl
      have e0 : b.e.isEmpty = true := by simp [he]
      clear h hl ha hb hf HNO hv hq
      rw [he] at *
      go_enter Tryd.func10, Tryd.ntmps10
      have hl1 := fun o => HL.out (w.alloc o).drew (((Below.refl _ _).alloc (Nat.le_refl _) _).drew)
      have hl2 := fun o o2 => HL.out ((w.alloc o).alloc o2).drew ((((Below.refl _ _).alloc (Nat.le_refl _) _).alloc (Nat.le_trans (Nat.le_refl _) (by simp)) o2).drew)
      go_upto_region 1 with fail
      go_region
      go_wp2_with fail
      go_ret
      exact ⟨rfl, NO.out _ (((Below.refl _ _).alloc (Nat.le_refl _) _).alloc (by simp) _).drew⟩
    · have e0 : b.e.isEmpty = false := by simpa using he
      obtain ⟨Be, hBe⟩ : ∃ Be, Be = b.e := ⟨_, rfl⟩
      obtain ⟨Bq, hBq⟩ : ∃ Bq, Bq = b.q := ⟨_, rfl⟩
      obtain ⟨Bk, hBk⟩ : ∃ Bk, Bk = b.k := ⟨_, rfl⟩
      rw [← hBe] at hl e0 ⊢
      rw [← hBq, ← hBk]
      have HL := Lib.hid hl
      have HB := Lib.hid hb
      have HF := Lib.hid hf
      have HQ := Lib.hid hq
      have HE := Lib.hid (And.intro hBe (And.intro hBq hBk))
      have HE2 := Lib.hid he
      clear h hl hb hf hv hq hBe hBq hBk he
      go_enter Tryd.func10, Tryd.ntmps10
      have hl1 := fun o => HL.out (w.alloc o).drew (((Below.refl _ _).alloc (Nat.le_refl _) _).drew)
      have hl2 := fun o o2 => HL.out ((w.alloc o).alloc o2).drew ((((Below.refl _ _).alloc (Nat.le_refl _) _).alloc (Nat.le_trans (Nat.le_refl _) (by simp)) o2).drew)
      have e1 : (⟨Be.toArray⟩ : ByteArray).toList.isEmpty = false := by simpa using e0
      go_upto_region 1 with fail
      go_region
      go_upto_region 4 with fail
      obtain ⟨hB, hhB⟩ : ∃ hB, hB = w.heap.size := ⟨_, rfl⟩
      rw [← hhB]
      refine wp_renR (fun W' => Below hB w W' ∧ Whole W' hB 33 #[.string ⟨Be.toArray⟩, .string ⟨Bq.toArray⟩, .string ⟨Bk.toArray⟩]) ⟨?_, ?_⟩ ?_
      · rw [hhB]; exact (((Below.refl _ _).alloc (Nat.le_refl _) _).alloc (by simp) _).drew
      · rw [hhB]; exact Whole.alloc (Whole.new w _ _) _
      rintro W4 ⟨hb4, hz4⟩
      have B4 := Lib.hid hb4
      have Z4 := Lib.hid hz4
      have HHB := Lib.hid hhB
      have hlt : hB < W4.heap.size := Whole.lt hz4
      clear hb4 hz4 hhB hl1 hl2 c0 c1 l1 l2 l3 HL e1
      have R5 := Lib.hid ((H.out.below (by rw [← HHB.out]; exact B4.out)).below (Below.refl _ W4).drew)
      obtain ⟨d0, d1⟩ := R5.out.cell
      have z0 : W4.drew.cell? ⟨hB, 0, none⟩ = some (.string ⟨Be.toArray⟩) := (Whole.cell Z4.out 0).trans rfl
      have z1 : W4.drew.cell? ⟨hB, 1, none⟩ = some (.string ⟨Bq.toArray⟩) := (Whole.cell Z4.out 1).trans rfl
      have z2 : W4.drew.cell? ⟨hB, 2, none⟩ = some (.string ⟨Bk.toArray⟩) := (Whole.cell Z4.out 2).trans rfl
      have hbd : bdV b = .agg #[.string ⟨Be.toArray⟩, .string ⟨Bq.toArray⟩, .string ⟨Bk.toArray⟩] := by
        rw [HE.out.1, HE.out.2.1, HE.out.2.2]; rfl
      have hq1 := R5.out.lookB HB.out
      have R4 := Lib.hid (H.out.below (by rw [← HHB.out]; exact B4.out))
      have hq2 := fun o => (R4.out.below (w' := (W4.alloc o).drew) (((Below.refl _ _).alloc (Nat.le_refl _) o).drew)).lookB HB.out
      have y0 : W4.cell? ⟨hB, 0, none⟩ = some (.string ⟨Be.toArray⟩) := z0
      have y1 : W4.cell? ⟨hB, 1, none⟩ = some (.string ⟨Bq.toArray⟩) := z1
      have y2 : W4.cell? ⟨hB, 2, none⟩ = some (.string ⟨Bk.toArray⟩) := z2
      obtain ⟨x0, x1⟩ := R4.out.cell
      have hgl := R4.out.lts.1
      simp only [hbd] at hq1 hq2
      have HBD := Lib.hid hbd
      clear hbd
      by_cases hm : b ∈ S.B
      · have ha : S.binds b = false := by simp [Rt.binds, hm]
        have NO := Lib.hid (HNO.out ha)
        have HA := Lib.hid ha
        simp only [hm, decide_true] at hq1 hq2
        clear hm ha HNO
        go_region
        go_wp2_with fail
        go_ret
        refine ⟨by rw [HA.out]; rfl, NO.out _ ?_⟩
        have hB4 := B4.out
        rw [HHB.out] at hB4
        have := hB4.size
        first
          | exact (hB4.alloc (by omega) _).drew
          | exact hB4.drew.alloc (by simp; omega) _
      · have ha : S.binds b = true := by simp [Rt.binds, hm, HQ.out, HE2.out]
        simp only [hm, decide_false] at hq1 hq2
        have HA := Lib.hid ha
        clear hm ha HNO
        go_region
        go_upto_region 7 with fail
        refine wp_renR (fun W' => Below hB w W' ∧ Whole W' hB 33 #[.string ⟨Be.toArray⟩, .string ⟨Bq.toArray⟩, .string ⟨Bk.toArray⟩]) ⟨?_, ?_⟩ ?_
        · have := B4.out.size
          first
            | exact (B4.out.alloc (by omega) _).drew
            | exact B4.out.drew.alloc (by simp; omega) _
        · exact Whole.alloc (w := W4) Z4.out _
        rintro W6 ⟨hb6, hz6⟩
        have hR6 := (H.out.below (by rw [← HHB.out]; exact hb6)).below (Below.refl _ W6).drew
        obtain ⟨W7, hput, hR7, ht7⟩ := hR6.putB HB.out HA.out HF.out
        clear hq1 hq2 d0 d1 z0 z1 z2 hlt y0 y1 y2 x0 x1 hgl
        obtain ⟨d0, d1⟩ := hR6.cell
        have z0 : W6.drew.cell? ⟨hB, 0, none⟩ = some (.string ⟨Be.toArray⟩) := (Whole.cell hz6 0).trans rfl
        have z1 : W6.drew.cell? ⟨hB, 1, none⟩ = some (.string ⟨Bq.toArray⟩) := (Whole.cell hz6 1).trans rfl
        have z2 : W6.drew.cell? ⟨hB, 2, none⟩ = some (.string ⟨Bk.toArray⟩) := (Whole.cell hz6 2).trans rfl
        have hlt := Whole.lt hz6
        rw [HBD.out] at hput
        have R7 := Lib.hid hR7
        have T7 := Lib.hid (show w.grownBy W7 (some bb) from only_trans (only_below (by rw [← HHB.out]; exact hb6.drew) _) ht7.grown)
        clear hR6 hR7 ht7 hb6 hz6
        go_region
        go_wp2_with fail
        go_ret
        exact ⟨by rw [HA.out]; rfl, R7.out, T7.out⟩
end
end Go.Proofs.YtocombacjpjdbaaDoor
