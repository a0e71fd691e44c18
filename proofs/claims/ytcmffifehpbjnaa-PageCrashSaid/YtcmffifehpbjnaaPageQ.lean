/- Layer 9: Keep and Put, within a law's walk. -/
import Derived.Test.YtcmffifehpbjnaaPageM
import Derived.Maps.AppendAt
namespace Go.Proofs.Ytcmffifehpbjnaa
open Go.RowKit Go.Maps
set_option maxRecDepth 100000
set_option linter.unusedSimpArgs false
set_option linter.unusedVariables false
/-- append of what lies somewhere: the row stays in its block, or is in a new one -/
theorem wpList_append_at {P : Program} {w : World} {ops : Array Oper} {rest : List Oper} {o : Oper} {a : Act} {Q : Exit → Act → World → Prop} (hgd : o.guard = none) (s x : Operand) (t : TypeId)
    (ho : o.op = .call { callee := .builtin .append, args := #[s, x], argTypes := #[t, t] })
    (base : Nat) (e : TypeId) (i : TypeInfo) (z : Value) (size bytes : Nat) (ht : P.underlying t = some (.slice e)) (hi : P.info? e = some i) (hz : i.zero = some z)
    (hsize : i.size = size) (hby : i.bytes = bytes) (hzs : z.cells.size = size) (hsz : 0 < size)
    (v : Value) (n : Nat) (xs : List Value) (hs : a.eval s = v) (hown : w.ownsRow base e size v n xs)
    (ad : Addr) (m c : Nat) (ys : List Value) (hx : a.eval x = .slice (some ad) m c) (hl : ∀ j u, ys[j]? = some u → w.cell? (ad.add j) = some u) (hm : ys.length = m * size) (hone : ∀ u ∈ ys, u.oneCell' = true)
    (h63 : n + m ≤ maxLen) (hbytes : (n + m) * bytes ≤ 140737488355328) (hbase : base ≤ w.heap.size)
    (h : ∀ v' w', w'.ownsRow base e size v' (n + m) (xs ++ ys) → w.grownBy w' v.ownBlock → (v'.ownBlock = v.ownBlock ∨ v'.ownBlock = some w.heap.size) → wpList P ops Q rest (a.put o.dst v') w') : wpList P ops Q (o :: rest) a w := by
  refine wpList_plain hgd fun K hK => ?_
  obtain ⟨v', w', hrun, h2, h3, _, h5⟩ := run_append_own_at (P := P) w base t o.type e i z size bytes ht hi hz hsize hby hzs hsz v n xs hown ad m c ys hm hl hone h63 hbytes hbase
  unfold Oper.wp execOp
  simp only [ho, resolve, invoke, builtin, Sem.run_bind, Sem.run_pure, Result.andThen_ok, List.map_toArray, List.map_cons, List.map_nil, hs, hx, hrun]
  exact hK _ _ (h v' w' h2 h3 h5)
theorem own_less9 {w : World} {base base' : Nat} {e : TypeId} {size : Nat} {v : Value} {n : Nat} {xs : List Value} (h : w.ownsRow base e size v n xs) (hb : base' ≤ base) : w.ownsRow base' e size v n xs :=
  ⟨h.1, h.2.imp id (fun ⟨g, cap, cur, e, h0, r⟩ => ⟨g, cap, cur, e, Nat.le_trans hb h0, r⟩)⟩
section
variable {B g fb put : Nat} {Y : Nat → Prop} {w0 W w' : World} {S S' : Dv} {m : Mt} {L : List Int} {dead : Bool}
/-- what came in, or is the law's own, stays -/
theorem FAt.lies (h : FAt B g fb Y w0 S m L put dead W) {m' : Mt} {L' : List Int} {put' : Nat} {dead' : Bool} (h' : FAt B g fb Y w0 S' m' L' put' dead' w') (hk : KeptX Y W w') {A : Option Addr} {xs : List Value} (hl : LiesP W (fun i => Y i ∨ i < B) A xs) : LiesP w' (fun i => Y i ∨ i < B) A xs :=
  hl.kept (fun i hi hy => by
    rcases hy with hy | hy
    · exact hk.1 i hy
    · rw [h'.dev.bel.block i hy, h.dev.bel.block i hy]) hk.2
def cell8 (g : Nat) (m : Mt) (v : Value) (put : Nat) (dead : Bool) : Array Value := #[ptr g, .int .u64 (m.gen : Int), .int .i64 (m.root : Int), .int .i64 (m.count : Int), .int .u64 (m.mark : Int), v, .int .i64 (put : Int), .bool dead]
set_option maxHeartbeats 4000000 in
theorem keep_any (h : FAt B g fb Y w0 S m L put dead W) (n : Nat) (hn : S.len nmP / 8 = n) (ids : List Int) (A : Option Addr) (c : Nat) (D : Nat) (hl : Lies W D A (cellsZ ids)) (hD : D ≤ W.heap.size) (hc1 : ids.length ≤ c) (hc2 : c ≤ maxLen) (h64 : In64 ids) :
    Calls Try.prog 19 #[ptr fb, .slice A ids.length c] W fun e w' => e = .returned (.int .i64 (if keepsB n ids = true then 0 else 1)) ∧ FAt B g fb Y w0 S m (if keepsB n ids = true then othP ids 2 (n - 2) else L) (if keepsB n ids = true then 0 else put) dead w' ∧ KeptX Y W w' := by
  obtain ⟨Z, hat, hdis, hZ, v, hbox, hown, hZv⟩ := h.at_
  have hs := len_small hat
  have hn6 : n ≤ 1000000 := by omega
  have hs9 : S.len nmP ≤ 9000000000000000000 := by omega
  have hkp := keeps_any hbox hat n hn ids A c D hl h64 (by omega)
  have hln := flen_any hbox hat n hn hs9
  have hot := others_any ids A c n D hl hD hc1 hc2 hn6 h64
  have HK := Lib.hid hkp
  have HLN := Lib.hid hln
  have HO := Lib.hid hot
  have H := Lib.hid h
  cases hkb : keepsB n ids with
  | false =>
    rw [hkb] at HK
    clear h hat hdis hZ hbox hown hZv hs hn hs9 hkp hln hot hl h64 hkb
    go_enter Try.func19, Try.ntmps19
    go_wp2_with (go_at_call 35; go_must (refine HK.out.mono ?_); rintro e w1 ⟨rfl, rfl⟩)
    go_ret
    exact ⟨rfl, H.out, KeptX.refl' _ _⟩
  | true =>
    rw [hkb] at HK
    have hlt := Whole.lt hbox
    have HAT := Lib.hid hat
    have HDI := Lib.hid hdis
    have HZF := Lib.hid hZ
    have HBX := Lib.hid hbox
    have hnum : ∀ x ∈ othP ids 2 (n - 2), 2 ≤ x ∧ x ≤ 1000000 := othP_num (n - 2) ids 2 (Nat.le_refl _) (by omega)
    have HNU := Lib.hid hnum
    obtain ⟨L', hL'⟩ : ∃ L', L' = othP ids 2 (n - 2) := ⟨_, rfl⟩
    rw [← hL'] at HO HNU
    have HL' := Lib.hid hL'
    clear h hat hdis hZ hown hZv hs hn hs9 hkp hln hot hl h64 hkb hbox hnum hL'
    go_enter Try.func19, Try.ntmps19
    go_wp2_with (first
      | (go_at_call 35; go_must (refine HK.out.mono ?_); rintro e w1 ⟨rfl, rfl⟩)
      | (go_at_call 17; go_must (refine HLN.out.mono ?_); rintro e w1 ⟨rfl, rfl⟩)
      | (go_at_call 42; go_must (refine HO.out.mono ?_); rintro e w2 ⟨v2, rfl, ho2, hb2⟩; obtain ⟨A2, k2, rfl, _, _⟩ := own_form ho2; have O2 := Lib.hid ho2; have B2 := Lib.hid hb2; have hbx2 : FBox w2 fb g m v put dead := (hb2.block fb hlt).trans HBX.out; have BX2 := Lib.hid hbx2; obtain ⟨c0, c1, c2, c3, c4, c5, c6, c7⟩ := hbx2.cells; have f5 := Whole.frozen hbx2 5; have f6 := Whole.frozen hbx2 6; clear ho2 hb2 hbx2))
    go_ret
    rw [← HL'.out]
    have hlt2 := B2.out.size
    have hv2 : ∀ i, (Value.slice A2 L'.length k2).ownBlock = some i → W.heap.size ≤ i ∧ i < w2.heap.size := fun i hi => O2.out.lt i hi
    have a2 : At B (fun i => Y i ∨ (Z i ∨ (W.heap.size ≤ i ∧ i < w2.heap.size))) w0 g S w2 := (HAT.out.fence B2.out).less (fun i hi => by
      rcases hi with hi | hi | hi
      · exact .inl (.inl hi)
      · exact .inl (.inr hi)
      · exact .inr hi)
    refine ⟨rfl, ⟨⟨_, (a2.cell fb 5 (.inr (.inl HZF.out)) _).cell fb 6 (.inr (.inl HZF.out)) _, ?_, .inl HZF.out, .slice A2 L'.length k2, Whole.put (Whole.put BX2.out 5 _) 6 _, ?_, fun i hi => .inr (hv2 i hi)⟩, H.out.lo, HNU.out, Nat.zero_le _⟩, ?_, ?_⟩
    · intro i hi hz
      rcases hz with hz | hz
      · exact HDI.out i hi hz
      · have := (HAT.out.xs i (.inl hi)).2
        omega
    · refine own_block (own_less9 O2.out (Nat.zero_le _)) (fun i hi => ?_)
      have := hv2 i hi
      rw [Below.heap_setCell _ ⟨fb, 6, none⟩ _ _ (by show i ≠ fb; omega), Below.heap_setCell _ ⟨fb, 5, none⟩ _ _ (by show i ≠ fb; omega)]
    · intro i hi
      have hne : i ≠ fb := fun e => HDI.out i hi (e ▸ HZF.out)
      rw [Below.heap_setCell _ ⟨fb, 6, none⟩ _ _ hne, Below.heap_setCell _ ⟨fb, 5, none⟩ _ _ hne]
      exact B2.out.block i (HAT.out.xs i (.inl hi)).2
    · simpa using hlt2
end
end Go.Proofs.Ytcmffifehpbjnaa
