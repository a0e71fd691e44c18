/- Layer 13: the document's own map: rows, rising; what its Do leaves. -/
import Derived.Test.YtflbjmpbkcjdhaaUnQ
import Derived.Test.YtflbjmpbkcjdhaaStep
import Derived.Deep.RegionHeld3
namespace Go.Proofs.Ytflbjmpbkcjdhaa
open Go.RowKit Go.Maps
set_option maxRecDepth 100000
set_option linter.unusedSimpArgs false
set_option linter.unusedVariables false

def cellsKv (p : KV) : List Value := [.string ⟨p.1.toArray⟩, .string ⟨p.2.toArray⟩]
def cellsKvs (L : List KV) : List Value := L.flatMap cellsKv
theorem cellsKvs_length (l : List KV) : (cellsKvs l).length = l.length * 2 := by
  induction l with
  | nil => rfl
  | cons f l ih =>
    have e : cellsKvs (f :: l) = cellsKv f ++ cellsKvs l := rfl
    rw [e, List.length_append, ih, List.length_cons, show (cellsKv f).length = 2 from rfl]
    omega
theorem cellsKvs_append (l m : List KV) : cellsKvs (l ++ m) = cellsKvs l ++ cellsKvs m := by simp [cellsKvs]
theorem cellsKvs_take (l : List KV) (k : Nat) : cellsKvs (l.take k) = (cellsKvs l).take (k * 2) := by
  have h : cellsKvs l = cellsKvs (l.take k) ++ cellsKvs (l.drop k) := by rw [← cellsKvs_append, List.take_append_drop]
  rcases Nat.lt_or_ge k l.length with hk | hk
  · rw [h, List.take_left' (by rw [cellsKvs_length, List.length_take]; omega)]
  · rw [List.take_of_length_le hk, List.take_of_length_le (by rw [cellsKvs_length]; omega)]
theorem cellsKvs_drop (l : List KV) (k : Nat) (hk : k ≤ l.length) : cellsKvs (l.drop k) = (cellsKvs l).drop (k * 2) := by
  have h : cellsKvs l = cellsKvs (l.take k) ++ cellsKvs (l.drop k) := by rw [← cellsKvs_append, List.take_append_drop]
  rw [h, List.drop_left' (by rw [cellsKvs_length, List.length_take]; omega)]
theorem cellsKv_one (r : KV) : ∀ u ∈ cellsKv r, u.oneCell' = true := by
  intro u hu
  simp only [cellsKv, List.mem_cons, List.not_mem_nil, or_false] at hu
  rcases hu with rfl | rfl <;> rfl
theorem cellsKvs_one (l : List KV) : ∀ u ∈ cellsKvs l, u.oneCell' = true := by
  intro u hu
  simp only [cellsKvs, List.mem_flatMap] at hu
  obtain ⟨f, _, hf⟩ := hu
  exact cellsKv_one f u hf
theorem cellsKvs_at : ∀ (l : List KV) (i : Nat) (hi : i < l.length) (j : Nat) (u : Value), (cellsKv l[i])[j]? = some u → (cellsKvs l)[i * 2 + j]? = some u := by
  intro l
  induction l with
  | nil => intro i hi; simp at hi
  | cons f l ih =>
    intro i hi j u hu
    have e : cellsKvs (f :: l) = cellsKv f ++ cellsKvs l := rfl
    rw [e]
    cases i with
    | zero =>
      have hu' : (cellsKv f)[j]? = some u := hu
      rw [Nat.zero_mul, Nat.zero_add, List.getElem?_append_left (List.getElem?_eq_some_iff.1 hu').1]
      exact hu'
    | succ i =>
      rw [List.getElem?_append_right (by rw [show (cellsKv f).length = 2 from rfl]; omega), show (cellsKv f).length = 2 from rfl, show (i + 1) * 2 + j - 2 = i * 2 + j by omega]
      exact ih i (by simpa using hi) j u hu
theorem lies_kv {w : World} {B : Nat} {A : Option Addr} {l : List KV} (h : Lies w B A (cellsKvs l)) (i : Nat) (hi : i < l.length) :
    ∃ b o, A = some ⟨b, o, none⟩ ∧ b < B ∧ w.cell? ⟨b, o + i * 2, none⟩ = some (.string ⟨l[i].1.toArray⟩) ∧ w.cell? ⟨b, o + i * 2 + 1, none⟩ = some (.string ⟨l[i].2.toArray⟩) := by
  rcases h with h | ⟨b, o, e, hb, hc⟩
  · have hl := cellsKvs_length l
    rw [h] at hl
    simp at hl
    omega
  · exact ⟨b, o, e, hb, hc _ _ (cellsKvs_at l i hi 0 _ rfl), by rw [Nat.add_assoc]; exact hc _ _ (cellsKvs_at l i hi 1 _ rfl)⟩
theorem lies_drop2 {w : World} {B : Nat} {A : Option Addr} {l : List KV} (h : Lies w B A (cellsKvs l)) (k cap : Nat) (hk : k ≤ l.length) (hc : l.length ≤ cap) : Lies w B (if cap = k then A else A.map (fun x => x.add (k * 2))) (cellsKvs (l.drop k)) := by
  rw [cellsKvs_drop l k hk]
  by_cases hck : cap = k
  · rw [if_pos hck]
    have : (cellsKvs l).drop (k * 2) = [] := List.drop_eq_nil_of_le (by rw [cellsKvs_length]; omega)
    rw [this]
    exact .inl rfl
  · rw [if_neg hck]
    have := h.drop (k * 2) (cap * 2) (by rw [cellsKvs_length]; omega) (by rw [cellsKvs_length]; omega)
    rwa [if_neg (by omega)] at this
theorem lies_drop_some {w : World} {B b o : Nat} {l : List KV} (h : Lies w B (some ⟨b, o, none⟩) (cellsKvs l)) (k : Nat) (hk : k ≤ l.length) : Lies w B (some ⟨b, o + k * 2, none⟩) (cellsKvs (l.drop k)) := by
  rw [cellsKvs_drop l k hk]
  rcases h with h | ⟨b1, o1, e, hb, hc⟩
  · rw [h]; simp only [List.drop_nil]; exact .inl rfl
  · injection e with e
    injection e with e1 e2
    subst e1 e2
    refine .inr ⟨b, o + k * 2, rfl, hb, fun j u hu => ?_⟩
    rw [Nat.add_assoc]
    exact hc (k * 2 + j) u (by rw [← hu, List.getElem?_drop])
theorem lies_drop_if {w : World} {B b o : Nat} {l : List KV} (h : Lies w B (some ⟨b, o, none⟩) (cellsKvs l)) (k cap : Nat) (hk : k ≤ l.length) (hc : l.length ≤ cap) : Lies w B (if cap = k then some ⟨b, o, none⟩ else some ⟨b, o + k * 2, none⟩) (cellsKvs (l.drop k)) := by
  by_cases e : cap = k
  · rw [if_pos e, List.drop_eq_nil_of_le (by omega)]
    exact .inl rfl
  · rw [if_neg e]
    exact lies_drop_some h k hk
theorem kv_info : (Try.prog.info? 51).map (fun i => (i.zero, i.size, i.bytes)) = some (some (.agg #[.string ⟨#[]⟩, .string ⟨#[]⟩]), 2, 32) := by kernel_rfl
/-- a Map that stands in block g -/
structure RMap (w : World) (g : Nat) (L : List KV) (A : Option Addr) (c : Nat) : Prop where
  box : Whole w g 47 #[.slice A L.length c]
  len : L.length ≤ c
  cap : c ≤ maxLen
  off : ∀ ad, A = some ad → ad.block ≠ g
  row : Lies w w.heap.size A (cellsKvs L)
theorem RMap.below {w w' : World} {g : Nat} {L : List KV} {A : Option Addr} {c : Nat} (h : RMap w g L A c) (hb : Below w.heap.size w w') : RMap w' g L A c :=
  ⟨h.box.below hb h.box.lt, h.len, h.cap, h.off, (h.row.below hb).more hb.size⟩
theorem RMap.store {w : World} {g : Nat} {L L' : List KV} {A A' : Option Addr} {c c' base n : Nat} {e : TypeId} (h : RMap w g L A c) (ho : w.ownsRow base e 2 (.slice A' n c') n (cellsKvs L')) (hn : n = L'.length) (hb : g < base) : RMap (w.setCell ⟨g, 0, none⟩ (.slice A' n c')) g L' A' c' := by
  subst hn
  obtain ⟨A2, c2, e2, h1, h2⟩ := own_form ho
  injection e2 with ea eb ec
  subst ea ec
  have off : ∀ ad, A' = some ad → ad.block ≠ g := by
    intro ad hA
    subst hA
    have := (ho.lt ad.block rfl).1
    omega
  refine ⟨h.box.put 0 _, h1, h2, off, ?_⟩
  have hs : (w.setCell ⟨g, 0, none⟩ (.slice A' L'.length c')).heap.size = w.heap.size := by simp
  rw [hs]
  rcases own_lies ho (Nat.le_refl _) with hl | ⟨b, o, rfl, hb, hc⟩
  · exact .inl hl
  · refine .inr ⟨b, o, rfl, hb, fun j u hu => ?_⟩
    rw [World.cell?_of_block (a := ⟨b, o + j, none⟩) (Below.heap_setCell w ⟨g, 0, none⟩ _ b (off _ rfl))]
    exact hc j u hu
/-- what stands while an op is done -/
structure KvE (N : Nat) (W : World) (g b' o' : Nat) (m : Om) (B : Nat) (LJ : List KV) (A : Option Addr) (c : Nat) : Prop where
  k0 : W.cell? ⟨b', o', none⟩ = some (.string ⟨m.o.key.toArray⟩)
  k1 : W.cell? ⟨b', o' + 1, none⟩ = some (.bool m.o.del)
  k2 : W.cell? ⟨b', o' + 2, none⟩ = some (.slice m.A m.o.val.length m.c)
  box : RMap W g LJ A c
  row : Lies W N A (cellsKvs LJ)
  val : Lies W B m.A (B8 m.o.val)
  hb : b' < N
  hg : g < N
  hB : B ≤ N
theorem KvE.below {N : Nat} {W W' : World} {g b' o' : Nat} {m : Om} {B : Nat} {LJ : List KV} {A : Option Addr} {c : Nat} (h : KvE N W g b' o' m B LJ A c) (hn : N ≤ W.heap.size) (hb : Below N W W') : KvE N W' g b' o' m B LJ A c where
  k0 := (hb.cell (p := ⟨b', o', none⟩) h.hb).trans h.k0
  k1 := (hb.cell (p := ⟨b', o' + 1, none⟩) h.hb).trans h.k1
  k2 := (hb.cell (p := ⟨b', o' + 2, none⟩) h.hb).trans h.k2
  box := ⟨h.box.box.below hb h.hg, h.box.len, h.box.cap, h.box.off, (h.row.below hb).more (Nat.le_trans hn hb.size)⟩
  row := h.row.below hb
  val := h.val.below (hb.mono h.hB)
  hb := h.hb
  hg := h.hg
  hB := h.hB
theorem less_bytes (a b : List UInt8) : Op.bytesLess a b = ltL a b := less_is a b
set_option maxHeartbeats 2000000 in
theorem rdo_any (l : List Om) (A0 : Option Addr) (n0 c0' B g : Nat) (L : List KV) (A : Option Addr) (c : Nat) (w : World) (hn : n0 = l.length) (ht : OpsAt w B l A0 c0') (hB : B ≤ g) (hm : RMap w g L A c) (hf : Few l) (hL : L.length ≤ 1000000) :
    Calls Try.prog 18 #[.pointer (some ⟨g, 0, none⟩), .slice A0 n0 c0'] w fun e w' => e = .returned (.tuple #[]) ∧ (∃ A c, RMap w' g (doAll L (pl l)) A c) ∧ w.grownBy w' (some g) := by
  subst hn
  obtain ⟨i0, hi, hz0, hz1, hz2⟩ := info_parts2 kv_info
  have HI := Lib.hid hi
  have H0 := Lib.hid hz0
  have H1 := Lib.hid hz1
  have H2 := Lib.hid hz2
  have HT := Lib.hid ht
  have HF := Lib.hid hf
  have HM := Lib.hid hm
  have hgw := hm.box.lt
  have hlc := ht.1
  have hcm := ht.2.1
  have hll := hf.1
  unfold maxLen at hcm
  have hpl := pl_length l
  have HPL := Lib.hid hpl
  clear ht hf hm hpl hi hz0 hz1 hz2
  go_enter Try.func18, Try.ntmps18
  go_wp2_with fail
  go_loopw [4] (fun i wr => ∃ (j : Nat) (A : Option Addr) (c : Nat), j ≤ l.length ∧ i = .int .i64 j ∧ RMap wr g (doAll L ((pl l).take j)) A c ∧ w.grownBy wr (some g)) (fun i _ => l.length - (intOf i).toNat)
  case atStart => exact ⟨0, A, c, Nat.zero_le _, rfl, HM.out, only_refl _ _⟩
  case round =>
    obtain ⟨j, A, c, hj, rfl, hM, hG⟩ := hrel
    have HMJ := Lib.hid hM
    have HG := Lib.hid hG
    have m0 : wr.cell? ⟨g, 0, none⟩ = some (.slice A (doAll L ((pl l).take j)).length c) := hM.box.cell 0
    have mf := hM.box.frozen 0
    have hz := hG.size
    clear hM hG HM
    by_cases hlt : j < l.length
    · have T := ops_grown HT.out HG.out (by omega) hB
      have vm := T.2.2.2 _ (List.getElem_mem hlt)
      obtain ⟨b', o', rfl, hb', c0, c1, c2⟩ := lies_om T.2.2.1 j hlt
      have hfew := HF.out.at j hlt
      have hpj := pl_at l j (by rw [HPL.out]; exact hlt)
      have hst := doAll_take L (pl l) j (by rw [HPL.out]; exact hlt)
      rw [hpj] at hst
      obtain ⟨m, hmm⟩ : ∃ m, m = l[j] := ⟨_, rfl⟩
      rw [← hmm] at c0 c1 c2 vm hfew hst
      obtain ⟨LJ, hLJ⟩ : ∃ X, X = doAll L ((pl l).take j) := ⟨_, rfl⟩
      have hlen : LJ.length ≤ 2000000 := by
        have := doAll_length L ((pl l).take j)
        rw [List.length_take] at this
        rw [hLJ]; omega
      rw [← hLJ] at HMJ hst m0
      have HST := Lib.hid hst
      have HV := Lib.hid vm
      have hnc := HMJ.out.len
      have hcx := HMJ.out.cap
      have hcm2 := hcx
      unfold maxLen at hcm2
      have lv := fun q => run_octets_string (P := Try.prog) 22 9 5 Try.underlying22 Try.underlying5 Try.underlying9 (show Lies (wr.drewN q) B m.A (B8 m.o.val) from vm.1) m.c
      clear hmm hpj hst hLJ T vm
      obtain ⟨WJ, rfl⟩ : ∃ W, W = wr := ⟨_, rfl⟩
      go_upto_block 2 with fail
      go_cut [5] (fun kv wx => ∃ (k q : Nat), k ≤ LJ.length ∧ kv = .int .i64 k ∧ wx = WJ.drewN q ∧ (∀ i (h : i < LJ.length), i < k → ltL LJ[i].1 m.o.key = true) ∧ ∀ h : k < LJ.length, ltL LJ[k].1 m.o.key = false)
      case first =>
        go_upto_region 4 with fail
        go_loopw [5] (fun kv wr => ∃ (k q : Nat), k ≤ LJ.length ∧ kv = .int .i64 k ∧ wr = WJ.drewN q ∧ ∀ i (h : i < LJ.length), i < k → ltL LJ[i].1 m.o.key = true) (fun kv _ => LJ.length - (intOf kv).toNat)
        case atStart => exact ⟨0, 0, Nat.zero_le _, rfl, rfl, fun i _ h => by omega⟩
        case round =>
          obtain ⟨k, q, hk, rfl, hq, hall⟩ := hrel
          have HQ := Lib.hid hq
          have HALL := Lib.hid hall
          have y0 : wr.cell? ⟨g, 0, none⟩ = some (.slice A LJ.length c) := by rw [hq]; exact m0
          have d0 : wr.cell? ⟨b', o' + j * 3, none⟩ = some (.string ⟨m.o.key.toArray⟩) := by rw [hq]; exact c0
          by_cases hkl : k < LJ.length
          · obtain ⟨bq, oq, rfl, hbq, e1, e2⟩ := lies_kv (show Lies wr WJ.heap.size A (cellsKvs LJ) by rw [hq]; exact HMJ.out.row) k hkl
            obtain ⟨p, hp⟩ : ∃ p, p = LJ[k] := ⟨_, rfl⟩
            rw [← hp] at e1 e2
            have HPK := Lib.hid hp
            have hk1 : (k : Int) < (LJ.length : Int) := by omega
            have lb := less_bytes p.1 m.o.key
            obtain ⟨ls, hls⟩ : ∃ b, b = ltL p.1 m.o.key := ⟨_, rfl⟩
            rw [← hls] at lb
            have HLS := Lib.hid hls
            clear hq hall hp hls
            cases ls with
            | true =>
              go_wp2_with fail
              go_quiet (fail)
              go_wp2_with fail
              go_roundw
              case rel => exact ⟨k + 1, q + nq, by omega, by go_num, by rw [HQ.out]; simp, fun i hi hik => by
                by_cases e : i = k
                · subst e; rw [← HPK.out]; exact HLS.out.symm
                · exact HALL.out i hi (by omega)⟩
              case measure => simp [intOf]; omega
            | false =>
              go_wp2_with fail
              go_quiet (fail)
              go_wp2_with fail
              go_meet
              exact ⟨k, q + nq, hk, rfl, by rw [HQ.out]; simp, HALL.out, fun _ => by rw [← HPK.out]; exact HLS.out.symm⟩
          · obtain rfl : k = LJ.length := by omega
            clear hq hall
            go_wp2_with fail
            go_quiet (fail)
            go_wp2_with fail
            go_meet
            exact ⟨_, q + nq, hk, rfl, by rw [HQ.out]; simp, HALL.out, fun h => by omega⟩
      case rest =>
        obtain ⟨k, q, hk, rfl, hq, hall, hnot⟩ := hcut
        obtain ⟨WX, hWX⟩ : ∃ W, W = wc := ⟨_, rfl⟩
        rw [← hWX] at hq
        rw [← hWX]
        clear hWX
        have bx : Below WJ.heap.size WJ WX := by rw [hq]; exact below_drewN (Below.refl _ _) _
        have R0 := Lib.hid (HMJ.out.below bx)
        have G0 := Lib.hid (only_trans HG.out (only_below bx (some g)))
        have DK : Hid (doAll L ((pl l).take (j + 1)) = LJ.take k ++ insK m.o ++ (if h : k < LJ.length then (if LJ[k].1 = m.o.key then LJ.drop (k + 1) else LJ.drop k) else [])) := Lib.hid (by rw [HST.out]; exact doK_at m.o LJ k hk hall hnot)
        have O0 : Hid (OpsAt WX B l (some ⟨b', o', none⟩) c0') := Lib.hid (ops_grown HT.out G0.out (by omega) hB)
        have x0 := (bx.cell (p := ⟨b', o' + j * 3, none⟩) (by show b' < WJ.heap.size; omega)).trans c0
        have x1 := (bx.cell (p := ⟨b', o' + j * 3 + 1, none⟩) (by show b' < WJ.heap.size; omega)).trans c1
        have x2 := (bx.cell (p := ⟨b', o' + j * 3 + 2, none⟩) (by show b' < WJ.heap.size; omega)).trans c2
        have xg : WX.cell? ⟨g, 0, none⟩ = some (.slice A LJ.length c) := R0.out.box.cell 0
        have hgx : g < WX.heap.size := R0.out.box.lt
        have hzx := G0.out.size
        have bl : b' < WX.heap.size := by have := bx.size; omega
        have E0 : Hid (KvE WX.heap.size WX g b' (o' + j * 3) m B LJ A c) := Lib.hid ⟨x0, x1, x2, R0.out, R0.out.row, HV.out.1.below (bx.mono (by omega)), bl, R0.out.box.lt, by omega⟩
        have HK := Lib.hid hk
        clear hall hnot hq bx c0 c1 c2 m0 mf lv
        obtain ⟨dl, hdl⟩ : ∃ dl, dl = m.o.del := ⟨_, rfl⟩
        rw [← hdl] at x1
        have HDL := Lib.hid hdl
        clear hdl
        cases dl with
        | true =>
          go_upto_region 6 with fail
          have OW : Hid ((WX.alloc (.cells #[] 51)).ownsRow WX.heap.size 51 2 (.slice (some ⟨WX.heap.size, 0, none⟩) 0 0) 0 []) := Lib.hid (World.ownsRow_made WX #[] 0 (Nat.le_refl _) (Nat.zero_le _) rfl)
          have BA : Hid (Below WX.heap.size WX (WX.alloc (.cells #[] 51))) := Lib.hid ((Below.refl _ _).alloc (Nat.le_refl _) _)
          have LT : Hid (Lies (WX.alloc (.cells #[] 51)) WX.heap.size A (cellsKvs (LJ.take k))) := Lib.hid (by rw [cellsKvs_take]; exact (E0.out.row.below BA.out).take _)
          have LN0 : Hid ((cellsKvs (LJ.take k)).length = k * 2) := Lib.hid (by rw [cellsKvs_length, List.length_take]; omega)
          have HS0 := Lib.hid BA.out.size
          have HR01 : Hid (0 + k ≤ maxLen) := Lib.hid (room63 (by omega))
          have HR02 : Hid ((0 + k) * 32 ≤ 140737488355328) := Lib.hid (by omega)
          have HR1 : Hid (k + 1 ≤ maxLen) := Lib.hid (room63 (by omega))
          have HR2 : Hid ((k + 1) * 32 ≤ 140737488355328) := Lib.hid (by omega)
          have hkc : (k : Int) ≤ (c : Int) := by have := E0.out.box.len; omega
          go_wp2_with (at_builtin; go_must (refine wpList_append_cells rfl _ _ 45 rfl WX.heap.size 51 i0 _ 2 32 Try.underlying45 HI.out H0.out H1.out H2.out rfl (by omega) (.slice (some ⟨WX.heap.size, 0, none⟩) 0 0) 0 [] rfl OW.out _ A k c (cellsKvs (LJ.take k)) rfl LT.out LN0.out (cellsKvs_one _) HR01.out HR02.out HS0.out ?_); intro v6 w6 o6 b6; rw [Nat.zero_add, List.nil_append] at o6; obtain ⟨A6, c6, rfl, hc6, hm6⟩ := own_form o6; have B6 := Lib.hid (BA.out.trans b6); have E6 := Lib.hid (E0.out.below (Nat.le_refl _) B6.out); have O6 := Lib.hid o6; clear o6 b6 x0 x1 x2; have x1 := E6.out.k1; rw [← HDL.out] at x1)
          obtain ⟨A9, hA9⟩ : ∃ A, A = A6 := ⟨_, rfl⟩
          obtain ⟨c9, hc9'⟩ : ∃ c, c = c6 := ⟨_, rfl⟩
          obtain ⟨w9, hw9⟩ : ∃ w, w = w6 := ⟨_, rfl⟩
          have HI0 : Hid (insK m.o = []) := Lib.hid (by unfold insK; rw [← HDL.out]; rfl)
          have O9 : Hid (w9.ownsRow WX.heap.size 51 2 (.slice A9 k c9) k (cellsKvs (LJ.take k ++ insK m.o))) := Lib.hid (by rw [HI0.out, List.append_nil, hA9, hc9', hw9]; exact O6.out)
          have HL9 : Hid (k = (LJ.take k ++ insK m.o).length) := Lib.hid (by rw [HI0.out, List.append_nil, List.length_take]; omega)
          have HK9 : Hid (k = (LJ.take k ++ insK m.o).length) := HL9
          have E9 : Hid (KvE WX.heap.size w9 g b' (o' + j * 3) m B LJ A c) := Lib.hid (by rw [hw9]; exact E6.out)
          have B9 : Hid (Below WX.heap.size WX w9) := Lib.hid (by rw [hw9]; exact B6.out)
          clear x1
          rw [← hA9, ← hc9', ← hw9]
          clear hA9 hc9' hw9 O6 E6 B6
          go_upto_region 9 with fail
          have xg9 : w9.cell? ⟨g, 0, none⟩ = some (.slice A LJ.length c) := E9.out.box.box.cell 0
          have k09 := E9.out.k0
          have hz9 := B9.out.size
          by_cases hkl : k < LJ.length
          · obtain ⟨bq, oq, rfl, hbq, e1, e2⟩ := lies_kv E9.out.row k hkl
            obtain ⟨p, hp⟩ : ∃ p, p = LJ[k] := ⟨_, rfl⟩
            have hd := DK.out
            rw [dif_pos hkl, ← hp] at hd
            rw [← hp] at e1 e2
            have hk1 : (k : Int) < (LJ.length : Int) := by omega
            by_cases heq : p.1 = m.o.key
            · have hbe : (p.1 == m.o.key) = true := by rw [heq]; exact beq_self_eq_true _
              have DQ : Hid (doAll L ((pl l).take (j + 1)) = LJ.take k ++ insK m.o ++ LJ.drop (k + 1)) := Lib.hid (by rw [hd, if_pos heq])
              have HEQ := Lib.hid heq
              clear hd hp heq
              go_wp2_with fail
              go_quiet (fail)
              go_upto_region 11 with fail
              obtain ⟨k', hk'⟩ : ∃ k' : Nat, k' = k + 1 := ⟨_, rfl⟩
              rw [show ((k : Int) + 1) = (k' : Int) by omega]
              rw [← hk'] at DQ
              have hkp : k' ≤ LJ.length := by omega
              clear hk'
              obtain ⟨W10, hW10⟩ : ∃ W, W = w9.drewN nq := ⟨_, rfl⟩
              have b10 : Below w9.heap.size w9 W10 := by rw [hW10]; exact below_drewN (Below.refl _ _) _
              rw [← hW10]
              have B10 := Lib.hid (B9.out.trans (b10.mono B9.out.size))
              have E10 := Lib.hid (E9.out.below B9.out.size (b10.mono B9.out.size))
              have O10 := Lib.hid (O9.out.kept (only_below b10 none) (Classical.em _))
              have LD := Lib.hid (lies_drop_if E10.out.row k' c hkp E10.out.box.len)
              have LDN : Hid ((cellsKvs (LJ.drop k')).length = (LJ.length - k') * 2) := Lib.hid (by rw [cellsKvs_length, List.length_drop])
              have HRA : Hid (k + (LJ.length - k') ≤ maxLen) := Lib.hid (room63 (by omega))
              have HRB : Hid ((k + (LJ.length - k')) * 32 ≤ 140737488355328) := Lib.hid (by omega)
              have HRC := Lib.hid B10.out.size
              have xg10 : W10.cell? ⟨g, 0, none⟩ = some (.slice _ LJ.length c) := E10.out.box.box.cell 0
              have hkl' : (k' : Int) ≤ (LJ.length : Int) := by omega
              clear hW10 b10 xg9 k09
              go_wp2_with (at_builtin; go_must (refine wpList_append_cells rfl _ _ 45 rfl WX.heap.size 51 i0 _ 2 32 Try.underlying45 HI.out H0.out H1.out H2.out rfl (by omega) (.slice A9 k c9) k _ rfl O10.out _ _ _ _ (cellsKvs (LJ.drop k')) rfl LD.out LDN.out (cellsKvs_one _) HRA.out HRB.out HRC.out ?_); intro v11 w11 o11 b11; obtain ⟨A11, c11, rfl, _, _⟩ := own_form o11; rw [← cellsKvs_append] at o11; have B11 := Lib.hid (B10.out.trans b11); have E11 := Lib.hid (E10.out.below B10.out.size b11); have O11 := Lib.hid o11; clear o11 b11 xg10; have xg11 : w11.cell? ⟨g, 0, none⟩ = some (.slice _ LJ.length c) := E11.out.box.box.cell 0; have xf11 := E11.out.box.box.frozen 0)
              have FIN := Lib.hid (E11.out.box.store O11.out (by rw [List.length_append, ← HL9.out, List.length_drop]) hgx)
              rw [← DQ.out] at FIN
              have GF := Lib.hid (only_set (only_trans G0.out (only_below B11.out (some g))) 0 (.slice A11 (k + (LJ.length - k')) c11))
              go_roundw
              case rel =>
                have f1 := FIN.out
                have f2 := GF.out
                first
                  | exact ⟨j + 1, _, _, by omega, by go_num, f1, f2⟩
                  | (rw [show k + (LJ.length - k) = LJ.length by omega] at f1 f2; exact ⟨j + 1, _, _, by omega, by go_num, f1, f2⟩)
              case measure => simp [intOf]; omega
            · have hbe : (p.1 == m.o.key) = false := by simpa using heq
              have DQ : Hid (doAll L ((pl l).take (j + 1)) = LJ.take k ++ insK m.o ++ LJ.drop k) := Lib.hid (by rw [hd, if_neg heq])
              clear hd hp heq
              go_wp2_with fail
              go_quiet (fail)
              go_upto_region 11 with fail
              obtain ⟨W10, hW10⟩ : ∃ W, W = w9.drewN nq := ⟨_, rfl⟩
              have b10 : Below w9.heap.size w9 W10 := by rw [hW10]; exact below_drewN (Below.refl _ _) _
              rw [← hW10]
              have B10 := Lib.hid (B9.out.trans (b10.mono B9.out.size))
              have E10 := Lib.hid (E9.out.below B9.out.size (b10.mono B9.out.size))
              have O10 := Lib.hid (O9.out.kept (only_below b10 none) (Classical.em _))
              have LD := Lib.hid (lies_drop_some E10.out.row k (by omega))
              have LDN : Hid ((cellsKvs (LJ.drop k)).length = (LJ.length - k) * 2) := Lib.hid (by rw [cellsKvs_length, List.length_drop])
              have HRA : Hid (k + (LJ.length - k) ≤ maxLen) := Lib.hid (room63 (by omega))
              have HRB : Hid ((k + (LJ.length - k)) * 32 ≤ 140737488355328) := Lib.hid (by omega)
              have HRC := Lib.hid B10.out.size
              have xg10 : W10.cell? ⟨g, 0, none⟩ = some (.slice _ LJ.length c) := E10.out.box.box.cell 0
              have hkl' : (k : Int) ≤ (LJ.length : Int) := by omega
              clear hW10 b10 xg9 k09
              go_wp2_with (at_builtin; go_must (refine wpList_append_cells rfl _ _ 45 rfl WX.heap.size 51 i0 _ 2 32 Try.underlying45 HI.out H0.out H1.out H2.out rfl (by omega) (.slice A9 k c9) k _ rfl O10.out _ _ _ _ (cellsKvs (LJ.drop k)) rfl LD.out LDN.out (cellsKvs_one _) HRA.out HRB.out HRC.out ?_); intro v11 w11 o11 b11; obtain ⟨A11, c11, rfl, _, _⟩ := own_form o11; rw [← cellsKvs_append] at o11; have B11 := Lib.hid (B10.out.trans b11); have E11 := Lib.hid (E10.out.below B10.out.size b11); have O11 := Lib.hid o11; clear o11 b11 xg10; have xg11 : w11.cell? ⟨g, 0, none⟩ = some (.slice _ LJ.length c) := E11.out.box.box.cell 0; have xf11 := E11.out.box.box.frozen 0)
              have FIN := Lib.hid (E11.out.box.store O11.out (by rw [List.length_append, ← HL9.out, List.length_drop]) hgx)
              rw [← DQ.out] at FIN
              have GF := Lib.hid (only_set (only_trans G0.out (only_below B11.out (some g))) 0 (.slice A11 (k + (LJ.length - k)) c11))
              go_roundw
              case rel =>
                have f1 := FIN.out
                have f2 := GF.out
                first
                  | exact ⟨j + 1, _, _, by omega, by go_num, f1, f2⟩
                  | (rw [show k + (LJ.length - k) = LJ.length by omega] at f1 f2; exact ⟨j + 1, _, _, by omega, by go_num, f1, f2⟩)
              case measure => simp [intOf]; omega
          · have hk1 : ¬ (k : Int) < (LJ.length : Int) := by omega
            have DQ : Hid (doAll L ((pl l).take (j + 1)) = LJ.take k ++ insK m.o ++ LJ.drop k) := Lib.hid (by rw [DK.out, dif_neg hkl, List.drop_of_length_le (show LJ.length ≤ k by omega)])
            go_wp2_with fail
            go_quiet (fail)
            go_upto_region 11 with fail
            obtain ⟨W10, hW10⟩ : ∃ W, W = w9.drewN nq := ⟨_, rfl⟩
            have b10 : Below w9.heap.size w9 W10 := by rw [hW10]; exact below_drewN (Below.refl _ _) _
            rw [← hW10]
            have B10 := Lib.hid (B9.out.trans (b10.mono B9.out.size))
            have E10 := Lib.hid (E9.out.below B9.out.size (b10.mono B9.out.size))
            have O10 := Lib.hid (O9.out.kept (only_below b10 none) (Classical.em _))
            have LD := Lib.hid (lies_drop2 E10.out.row k c (by omega) E10.out.box.len)
            have LDN : Hid ((cellsKvs (LJ.drop k)).length = (LJ.length - k) * 2) := Lib.hid (by rw [cellsKvs_length, List.length_drop])
            have HRA : Hid (k + (LJ.length - k) ≤ maxLen) := Lib.hid (room63 (by omega))
            have HRB : Hid ((k + (LJ.length - k)) * 32 ≤ 140737488355328) := Lib.hid (by omega)
            have HRC := Lib.hid B10.out.size
            have xg10 : W10.cell? ⟨g, 0, none⟩ = some (.slice _ LJ.length c) := E10.out.box.box.cell 0
            have hkl' : (k : Int) ≤ (LJ.length : Int) := by omega
            clear hW10 b10 xg9 k09
            go_wp2_with (at_builtin; go_must (refine wpList_append_cells rfl _ _ 45 rfl WX.heap.size 51 i0 _ 2 32 Try.underlying45 HI.out H0.out H1.out H2.out rfl (by omega) (.slice A9 k c9) k _ rfl O10.out _ _ _ _ (cellsKvs (LJ.drop k)) rfl LD.out LDN.out (cellsKvs_one _) HRA.out HRB.out HRC.out ?_); intro v11 w11 o11 b11; obtain ⟨A11, c11, rfl, _, _⟩ := own_form o11; rw [← cellsKvs_append] at o11; have B11 := Lib.hid (B10.out.trans b11); have E11 := Lib.hid (E10.out.below B10.out.size b11); have O11 := Lib.hid o11; clear o11 b11 xg10; have xg11 : w11.cell? ⟨g, 0, none⟩ = some (.slice _ LJ.length c) := E11.out.box.box.cell 0; have xf11 := E11.out.box.box.frozen 0)
            have FIN := Lib.hid (E11.out.box.store O11.out (by rw [List.length_append, ← HL9.out, List.length_drop]) hgx)
            rw [← DQ.out] at FIN
            have GF := Lib.hid (only_set (only_trans G0.out (only_below B11.out (some g))) 0 (.slice A11 (k + (LJ.length - k)) c11))
            go_roundw
            case rel =>
              have f1 := FIN.out
              have f2 := GF.out
              first
                | exact ⟨j + 1, _, _, by omega, by go_num, f1, f2⟩
                | (rw [show k + (LJ.length - k) = LJ.length by omega] at f1 f2; exact ⟨j + 1, _, _, by omega, by go_num, f1, f2⟩)
            case measure => simp [intOf]; omega
        | false =>
          go_upto_region 6 with fail
          have OW : Hid ((WX.alloc (.cells #[] 51)).ownsRow WX.heap.size 51 2 (.slice (some ⟨WX.heap.size, 0, none⟩) 0 0) 0 []) := Lib.hid (World.ownsRow_made WX #[] 0 (Nat.le_refl _) (Nat.zero_le _) rfl)
          have BA : Hid (Below WX.heap.size WX (WX.alloc (.cells #[] 51))) := Lib.hid ((Below.refl _ _).alloc (Nat.le_refl _) _)
          have LT : Hid (Lies (WX.alloc (.cells #[] 51)) WX.heap.size A (cellsKvs (LJ.take k))) := Lib.hid (by rw [cellsKvs_take]; exact (E0.out.row.below BA.out).take _)
          have LN0 : Hid ((cellsKvs (LJ.take k)).length = k * 2) := Lib.hid (by rw [cellsKvs_length, List.length_take]; omega)
          have HS0 := Lib.hid BA.out.size
          have HR01 : Hid (0 + k ≤ maxLen) := Lib.hid (room63 (by omega))
          have HR02 : Hid ((0 + k) * 32 ≤ 140737488355328) := Lib.hid (by omega)
          have HR1 : Hid (k + 1 ≤ maxLen) := Lib.hid (room63 (by omega))
          have HR2 : Hid ((k + 1) * 32 ≤ 140737488355328) := Lib.hid (by omega)
          have hkc : (k : Int) ≤ (c : Int) := by have := E0.out.box.len; omega
          go_wp2_with (at_builtin; go_must (refine wpList_append_cells rfl _ _ 45 rfl WX.heap.size 51 i0 _ 2 32 Try.underlying45 HI.out H0.out H1.out H2.out rfl (by omega) (.slice (some ⟨WX.heap.size, 0, none⟩) 0 0) 0 [] rfl OW.out _ A k c (cellsKvs (LJ.take k)) rfl LT.out LN0.out (cellsKvs_one _) HR01.out HR02.out HS0.out ?_); intro v6 w6 o6 b6; rw [Nat.zero_add, List.nil_append] at o6; obtain ⟨A6, c6, rfl, hc6, hm6⟩ := own_form o6; have B6 := Lib.hid (BA.out.trans b6); have E6 := Lib.hid (E0.out.below (Nat.le_refl _) B6.out); have O6 := Lib.hid o6; clear o6 b6 x0 x1 x2; have x1 := E6.out.k1; rw [← HDL.out] at x1)
          have EE : Hid (KvE WX.heap.size w6.drew g b' (o' + j * 3) m B LJ A c) := Lib.hid (E6.out.below B6.out.size (Below.refl _ _).drew)
          have y0 := EE.out.k0
          have y2 := EE.out.k2
          clear x1
          refine wp_region_held_drew (S := (fun w' => w'.cell? ⟨b', o' + j * 3, none⟩ = some (.string ⟨m.o.key.toArray⟩) ∧ w'.cell? ⟨b', o' + j * 3 + 2, none⟩ = some (.slice m.A m.o.val.length m.c) ∧ Lies w' B m.A (B8 m.o.val))) (by kernel_rfl) ⟨y0, y2, EE.out.val⟩ (fun hS0 => ?_)
          obtain ⟨WD, hWD⟩ : ∃ WD, WD = w6.drew := ⟨_, rfl⟩
          have BD : Hid (Below WX.heap.size WX WD) := Lib.hid (by rw [hWD]; exact B6.out.drew)
          have OD : Hid (WD.ownsRow WX.heap.size 51 2 (.slice A6 k c6) k (cellsKvs (LJ.take k))) := Lib.hid (by rw [hWD]; exact O6.out)
          have ee := EE.out
          rw [← hWD] at ee hS0 ⊢
          have ED := Lib.hid ee
          clear hWD ee y0 y2
          have y0 := ED.out.k0
          have y2 := ED.out.k2
          refine wpAnyH_take (i := 0) (oi := ⟨some 52, _, _, _, _, _⟩) (v := ?_) rfl (by kernel_rfl) (by kernel_rfl) (by kernel_rfl) (fun _ _ _ h => h) (Or.inl ⟨by rfl, ?_⟩) hS0 ?_
          rotate_left
          · (intro wS hSw; (try dsimp only at hSw); go_simp); all_goals (with_reducible rfl)
          try simp only [Act.put, List.setIfInBounds_toArray, List.set_cons_zero, List.set_cons_succ]
          refine wpAnyH_take (i := 1) (oi := ⟨some 53, _, _, _, _, _⟩) (v := ?_) rfl (by kernel_rfl) (by kernel_rfl) (by kernel_rfl) (fun _ _ _ h => h) (Or.inl ⟨by rfl, ?_⟩) hS0 ?_
          rotate_left
          · (intro wS hSw; (try dsimp only at hSw); go_simp); all_goals (with_reducible rfl)
          try simp only [Act.put, List.setIfInBounds_toArray, List.set_cons_zero, List.set_cons_succ]
          refine wpAnyH_take (i := 2) (oi := ⟨some 54, _, _, _, _, _⟩) (v := ?_) rfl (by kernel_rfl) (by kernel_rfl) (by kernel_rfl) (fun _ _ _ h => h) (Or.inl ⟨by rfl, ?_⟩) hS0 ?_
          rotate_left
          · (intro wS hSw; (try dsimp only at hSw); go_simp); all_goals (with_reducible rfl)
          try simp only [Act.put, List.setIfInBounds_toArray, List.set_cons_zero, List.set_cons_succ]
          refine wpAnyH_take (i := 3) (oi := ⟨some 55, _, _, _, _, _⟩) (v := ?_) rfl (by kernel_rfl) (by kernel_rfl) (by kernel_rfl) (fun _ _ _ h => h) (Or.inl ⟨by rfl, ?_⟩) hS0 ?_
          rotate_left
          · (intro wS hSw; (try dsimp only at hSw); go_simp); all_goals (with_reducible rfl)
          try simp only [Act.put, List.setIfInBounds_toArray, List.set_cons_zero, List.set_cons_succ]
          refine wpAnyH_take (i := 4) (oi := ⟨some 56, _, _, _, _, _⟩) (v := ?_) rfl (by kernel_rfl) (by kernel_rfl) (by kernel_rfl) (fun _ _ _ h => h) (Or.inl ⟨by rfl, ?_⟩) hS0 ?_
          rotate_left
          · (intro wS hSw; (try dsimp only at hSw); go_simp); all_goals (with_reducible rfl)
          try simp only [Act.put, List.setIfInBounds_toArray, List.set_cons_zero, List.set_cons_succ]
          refine wpAnyH_take (i := 5) (oi := ⟨some 57, _, _, _, _, _⟩) (v := ?_) rfl (by kernel_rfl) (by kernel_rfl) (by kernel_rfl) (fun _ _ _ h => h) (Or.inl ⟨by rfl, ?_⟩) hS0 ?_
          rotate_left
          · (intro wS hSw; (try dsimp only at hSw); go_simp); all_goals (with_reducible rfl)
          try simp only [Act.put, List.setIfInBounds_toArray, List.set_cons_zero, List.set_cons_succ]
          refine wpAnyH_take (i := 6) (oi := ⟨some 58, _, _, _, _, _⟩) (v := ?_) rfl (by kernel_rfl) (by kernel_rfl) (by kernel_rfl) (fun _ _ _ h => h) (Or.inl ⟨by rfl, ?_⟩) hS0 ?_
          rotate_left
          · (intro wS hSw; (try dsimp only at hSw); go_simp); all_goals (with_reducible rfl)
          try simp only [Act.put, List.setIfInBounds_toArray, List.set_cons_zero, List.set_cons_succ]
          refine wpAnyH_take (i := 7) (oi := ⟨some 59, _, _, _, _, _⟩) (v := ?_) rfl (by kernel_rfl) (by kernel_rfl) (by kernel_rfl) (fun _ _ _ h => h) (Or.inl ⟨by rfl, ?_⟩) hS0 ?_
          rotate_left
          · (intro wS hSw; (try dsimp only at hSw); go_simp); all_goals (with_reducible rfl)
          try simp only [Act.put, List.setIfInBounds_toArray, List.set_cons_zero, List.set_cons_succ]
          refine wpAnyH_take (i := 8) (oi := ⟨some 60, _, _, _, _, _⟩) (v := ?_) rfl (by kernel_rfl) (by kernel_rfl) (by kernel_rfl) (fun _ _ _ h => h) (Or.inl ⟨by rfl, ?_⟩) hS0 ?_
          rotate_left
          · (intro wS hSw; (try dsimp only at hSw); go_simp); all_goals (with_reducible rfl)
          try simp only [Act.put, List.setIfInBounds_toArray, List.set_cons_zero, List.set_cons_succ]
          refine wpAnyH_take (i := 9) (oi := ⟨some 61, _, _, _, _, _⟩) (v := ?_) rfl (by kernel_rfl) (by kernel_rfl) (by kernel_rfl) (fun _ _ _ h => h) (Or.inl ⟨by rfl, ?_⟩) hS0 ?_
          rotate_left
          · (intro wS hSw; (try dsimp only at hSw); go_simp); all_goals (with_reducible rfl)
          try simp only [Act.put, List.setIfInBounds_toArray, List.set_cons_zero, List.set_cons_succ]
          refine wpAnyH_take (i := 10) (oi := ⟨some 62, _, _, _, _, _⟩) (v := ?_) rfl (by kernel_rfl) (by kernel_rfl) (by kernel_rfl) (fun _ _ _ h => h) (Or.inl ⟨by rfl, ?_⟩) hS0 ?_
          rotate_left
          · (intro wS hSw; (try dsimp only at hSw); go_simp); all_goals (with_reducible rfl)
          try simp only [Act.put, List.setIfInBounds_toArray, List.set_cons_zero, List.set_cons_succ]
          refine wpAnyH_take (i := 11) (oi := ⟨some 63, _, _, _, _, _⟩) (v := ?_) rfl (by kernel_rfl) (by kernel_rfl) (by kernel_rfl) (fun _ _ _ h => h) (Or.inl ⟨by rfl, ?_⟩) hS0 ?_
          rotate_left
          · (intro wS hSw; (try dsimp only at hSw); obtain ⟨s0, s2, s3⟩ := hSw; have cvS := run_octets_string (P := Try.prog) 22 9 5 Try.underlying22 Try.underlying5 Try.underlying9 s3 m.c; go_simp); all_goals (with_reducible rfl)
          try simp only [Act.put, List.setIfInBounds_toArray, List.set_cons_zero, List.set_cons_succ]
          refine wpAnyH_take (i := 12) (oi := ⟨some 64, _, _, _, _, _⟩) (v := ?_) rfl (by kernel_rfl) (by kernel_rfl) (by kernel_rfl) (fun _ _ _ h => h) (Or.inl ⟨by rfl, ?_⟩) hS0 ?_
          rotate_left
          · (intro wS hSw; (try dsimp only at hSw); go_simp); all_goals (with_reducible rfl)
          try simp only [Act.put, List.setIfInBounds_toArray, List.set_cons_zero, List.set_cons_succ]
          refine wpAnyH_ready (rs := [13]) (by kernel_rfl) (by simp) ?_
          refine AllReadyH.cons (o := ⟨some 65, _, _, _, _, _⟩) rfl (fun K hK => ?_) AllReadyH.nil
          go_simp
          have BN := Lib.hid ((Below.refl WX.heap.size WD).alloc BD.out.size (.cells #[.string ⟨m.o.key.toArray⟩, .string ⟨m.o.val.toArray⟩] 51))
          have LN : Hid (Lies (WD.alloc (.cells #[.string ⟨m.o.key.toArray⟩, .string ⟨m.o.val.toArray⟩] 51)) (WD.heap.size + 1) (some ⟨WD.heap.size, 0, none⟩) (cellsKv (m.o.key, m.o.val))) := Lib.hid (Lies.lit WD 51 (cellsKv (m.o.key, m.o.val)))
          have ON := Lib.hid (OD.out.alloc (.cells #[.string ⟨m.o.key.toArray⟩, .string ⟨m.o.val.toArray⟩] 51))
          have EN := Lib.hid (ED.out.below BD.out.size BN.out)
          have SN := Lib.hid (Nat.le_trans BD.out.size BN.out.size)
          go_wp2_with fail
          refine hK.out _ _ ⟨EN.out.k0, EN.out.k2, EN.out.val⟩ (fun hS13 => ?_)
          clear hK K
          try simp only [Act.put, List.setIfInBounds_toArray, List.set_cons_zero, List.set_cons_succ]
          refine wpAnyH_ready (rs := [14]) (by kernel_rfl) (by simp) ?_
          refine AllReadyH.cons (o := ⟨some 66, _, _, _, _, _⟩) rfl (fun K hK => ?_) AllReadyH.nil
          refine step_append_cells rfl _ _ 45 rfl WX.heap.size 51 i0 _ 2 32 Try.underlying45 HI.out H0.out H1.out H2.out rfl (by omega) (.slice A6 k c6) k _ (by rfl) ON.out _ _ 1 1 (cellsKv (m.o.key, m.o.val)) (by rfl) LN.out rfl (cellsKv_one _) HR1.out HR2.out SN.out ?_
          intro v9 w9 o9 b9
          have b9' := BN.out.trans b9
          have E9 := Lib.hid (EN.out.below SN.out b9)
          have B9 := Lib.hid (BD.out.trans b9')
          have O9 : Hid (w9.ownsRow WX.heap.size 51 2 v9 (k + 1) (cellsKvs (LJ.take k ++ insK m.o))) := Lib.hid (by rw [cellsKvs_append, show insK m.o = [(m.o.key, m.o.val)] by unfold insK; rw [← HDL.out]; rfl]; simpa [cellsKvs] using o9)
          clear o9 b9 b9'
          refine hK.out _ _ ⟨E9.out.k0, E9.out.k2, E9.out.val⟩ (fun hS14 => ?_)
          clear hK K
          try simp only [Act.put, List.setIfInBounds_toArray, List.set_cons_zero, List.set_cons_succ]
          refine wpAnyH_take (i := 15) (oi := ⟨some 6, _, _, _, _, _⟩) (v := ?_) rfl (by kernel_rfl) (by kernel_rfl) (by kernel_rfl) (fun _ _ _ h => h) (Or.inl ⟨by rfl, ?_⟩) hS14 ?_
          rotate_left
          · (intro wS hSw; (try dsimp only at hSw); go_simp); all_goals (with_reducible rfl)
          try simp only [Act.put, List.setIfInBounds_toArray, List.set_cons_zero, List.set_cons_succ]
          refine wpAnyH_done (by kernel_rfl) ?_ _
          obtain ⟨n9, hn9⟩ : ∃ n, n = k + 1 := ⟨_, rfl⟩
          rw [← hn9] at O9
          obtain ⟨A9, c9, rfl, hc9, hm9⟩ := own_form O9.out
          have HL9 : Hid (n9 = (LJ.take k ++ insK m.o).length) := Lib.hid (by rw [hn9, List.length_append, List.length_take, show insK m.o = [(m.o.key, m.o.val)] by unfold insK; rw [← HDL.out]; rfl]; simp; omega)
          have hn9b : n9 ≤ 2000001 := by omega
          clear hn9
          go_upto_region 9 with fail
          have xg9 : w9.cell? ⟨g, 0, none⟩ = some (.slice A LJ.length c) := E9.out.box.box.cell 0
          have k09 := E9.out.k0
          have hz9 := B9.out.size
          by_cases hkl : k < LJ.length
          · obtain ⟨bq, oq, rfl, hbq, e1, e2⟩ := lies_kv E9.out.row k hkl
            obtain ⟨p, hp⟩ : ∃ p, p = LJ[k] := ⟨_, rfl⟩
            have hd := DK.out
            rw [dif_pos hkl, ← hp] at hd
            rw [← hp] at e1 e2
            have hk1 : (k : Int) < (LJ.length : Int) := by omega
            by_cases heq : p.1 = m.o.key
            · have hbe : (p.1 == m.o.key) = true := by rw [heq]; exact beq_self_eq_true _
              have DQ : Hid (doAll L ((pl l).take (j + 1)) = LJ.take k ++ insK m.o ++ LJ.drop (k + 1)) := Lib.hid (by rw [hd, if_pos heq])
              have HEQ := Lib.hid heq
              clear hd hp heq
              go_wp2_with fail
              go_quiet (fail)
              go_upto_region 11 with fail
              obtain ⟨k', hk'⟩ : ∃ k' : Nat, k' = k + 1 := ⟨_, rfl⟩
              rw [show ((k : Int) + 1) = (k' : Int) by omega]
              rw [← hk'] at DQ
              have hkp : k' ≤ LJ.length := by omega
              clear hk'
              obtain ⟨W10, hW10⟩ : ∃ W, W = w9.drewN nq := ⟨_, rfl⟩
              have b10 : Below w9.heap.size w9 W10 := by rw [hW10]; exact below_drewN (Below.refl _ _) _
              rw [← hW10]
              have B10 := Lib.hid (B9.out.trans (b10.mono B9.out.size))
              have E10 := Lib.hid (E9.out.below B9.out.size (b10.mono B9.out.size))
              have O10 := Lib.hid (O9.out.kept (only_below b10 none) (Classical.em _))
              have LD := Lib.hid (lies_drop_if E10.out.row k' c hkp E10.out.box.len)
              have LDN : Hid ((cellsKvs (LJ.drop k')).length = (LJ.length - k') * 2) := Lib.hid (by rw [cellsKvs_length, List.length_drop])
              have HRA : Hid (n9 + (LJ.length - k') ≤ maxLen) := Lib.hid (room63 (by omega))
              have HRB : Hid ((n9 + (LJ.length - k')) * 32 ≤ 140737488355328) := Lib.hid (by omega)
              have HRC := Lib.hid B10.out.size
              have xg10 : W10.cell? ⟨g, 0, none⟩ = some (.slice _ LJ.length c) := E10.out.box.box.cell 0
              have hkl' : (k' : Int) ≤ (LJ.length : Int) := by omega
              clear hW10 b10 xg9 k09
              go_wp2_with (at_builtin; go_must (refine wpList_append_cells rfl _ _ 45 rfl WX.heap.size 51 i0 _ 2 32 Try.underlying45 HI.out H0.out H1.out H2.out rfl (by omega) (.slice A9 n9 c9) n9 _ rfl O10.out _ _ _ _ (cellsKvs (LJ.drop k')) rfl LD.out LDN.out (cellsKvs_one _) HRA.out HRB.out HRC.out ?_); intro v11 w11 o11 b11; obtain ⟨A11, c11, rfl, _, _⟩ := own_form o11; rw [← cellsKvs_append] at o11; have B11 := Lib.hid (B10.out.trans b11); have E11 := Lib.hid (E10.out.below B10.out.size b11); have O11 := Lib.hid o11; clear o11 b11 xg10; have xg11 : w11.cell? ⟨g, 0, none⟩ = some (.slice _ LJ.length c) := E11.out.box.box.cell 0; have xf11 := E11.out.box.box.frozen 0)
              have FIN := Lib.hid (E11.out.box.store O11.out (by rw [List.length_append, ← HL9.out, List.length_drop]) hgx)
              rw [← DQ.out] at FIN
              have GF := Lib.hid (only_set (only_trans G0.out (only_below B11.out (some g))) 0 (.slice A11 (n9 + (LJ.length - k')) c11))
              go_roundw
              case rel =>
                have f1 := FIN.out
                have f2 := GF.out
                first
                  | exact ⟨j + 1, _, _, by omega, by go_num, f1, f2⟩
                  | (rw [show k + (LJ.length - k) = LJ.length by omega] at f1 f2; exact ⟨j + 1, _, _, by omega, by go_num, f1, f2⟩)
              case measure => simp [intOf]; omega
            · have hbe : (p.1 == m.o.key) = false := by simpa using heq
              have DQ : Hid (doAll L ((pl l).take (j + 1)) = LJ.take k ++ insK m.o ++ LJ.drop k) := Lib.hid (by rw [hd, if_neg heq])
              clear hd hp heq
              go_wp2_with fail
              go_quiet (fail)
              go_upto_region 11 with fail
              obtain ⟨W10, hW10⟩ : ∃ W, W = w9.drewN nq := ⟨_, rfl⟩
              have b10 : Below w9.heap.size w9 W10 := by rw [hW10]; exact below_drewN (Below.refl _ _) _
              rw [← hW10]
              have B10 := Lib.hid (B9.out.trans (b10.mono B9.out.size))
              have E10 := Lib.hid (E9.out.below B9.out.size (b10.mono B9.out.size))
              have O10 := Lib.hid (O9.out.kept (only_below b10 none) (Classical.em _))
              have LD := Lib.hid (lies_drop_some E10.out.row k (by omega))
              have LDN : Hid ((cellsKvs (LJ.drop k)).length = (LJ.length - k) * 2) := Lib.hid (by rw [cellsKvs_length, List.length_drop])
              have HRA : Hid (n9 + (LJ.length - k) ≤ maxLen) := Lib.hid (room63 (by omega))
              have HRB : Hid ((n9 + (LJ.length - k)) * 32 ≤ 140737488355328) := Lib.hid (by omega)
              have HRC := Lib.hid B10.out.size
              have xg10 : W10.cell? ⟨g, 0, none⟩ = some (.slice _ LJ.length c) := E10.out.box.box.cell 0
              have hkl' : (k : Int) ≤ (LJ.length : Int) := by omega
              clear hW10 b10 xg9 k09
              go_wp2_with (at_builtin; go_must (refine wpList_append_cells rfl _ _ 45 rfl WX.heap.size 51 i0 _ 2 32 Try.underlying45 HI.out H0.out H1.out H2.out rfl (by omega) (.slice A9 n9 c9) n9 _ rfl O10.out _ _ _ _ (cellsKvs (LJ.drop k)) rfl LD.out LDN.out (cellsKvs_one _) HRA.out HRB.out HRC.out ?_); intro v11 w11 o11 b11; obtain ⟨A11, c11, rfl, _, _⟩ := own_form o11; rw [← cellsKvs_append] at o11; have B11 := Lib.hid (B10.out.trans b11); have E11 := Lib.hid (E10.out.below B10.out.size b11); have O11 := Lib.hid o11; clear o11 b11 xg10; have xg11 : w11.cell? ⟨g, 0, none⟩ = some (.slice _ LJ.length c) := E11.out.box.box.cell 0; have xf11 := E11.out.box.box.frozen 0)
              have FIN := Lib.hid (E11.out.box.store O11.out (by rw [List.length_append, ← HL9.out, List.length_drop]) hgx)
              rw [← DQ.out] at FIN
              have GF := Lib.hid (only_set (only_trans G0.out (only_below B11.out (some g))) 0 (.slice A11 (n9 + (LJ.length - k)) c11))
              go_roundw
              case rel =>
                have f1 := FIN.out
                have f2 := GF.out
                first
                  | exact ⟨j + 1, _, _, by omega, by go_num, f1, f2⟩
                  | (rw [show k + (LJ.length - k) = LJ.length by omega] at f1 f2; exact ⟨j + 1, _, _, by omega, by go_num, f1, f2⟩)
              case measure => simp [intOf]; omega
          · have hk1 : ¬ (k : Int) < (LJ.length : Int) := by omega
            have DQ : Hid (doAll L ((pl l).take (j + 1)) = LJ.take k ++ insK m.o ++ LJ.drop k) := Lib.hid (by rw [DK.out, dif_neg hkl, List.drop_of_length_le (show LJ.length ≤ k by omega)])
            go_wp2_with fail
            go_quiet (fail)
            go_upto_region 11 with fail
            obtain ⟨W10, hW10⟩ : ∃ W, W = w9.drewN nq := ⟨_, rfl⟩
            have b10 : Below w9.heap.size w9 W10 := by rw [hW10]; exact below_drewN (Below.refl _ _) _
            rw [← hW10]
            have B10 := Lib.hid (B9.out.trans (b10.mono B9.out.size))
            have E10 := Lib.hid (E9.out.below B9.out.size (b10.mono B9.out.size))
            have O10 := Lib.hid (O9.out.kept (only_below b10 none) (Classical.em _))
            have LD := Lib.hid (lies_drop2 E10.out.row k c (by omega) E10.out.box.len)
            have LDN : Hid ((cellsKvs (LJ.drop k)).length = (LJ.length - k) * 2) := Lib.hid (by rw [cellsKvs_length, List.length_drop])
            have HRA : Hid (n9 + (LJ.length - k) ≤ maxLen) := Lib.hid (room63 (by omega))
            have HRB : Hid ((n9 + (LJ.length - k)) * 32 ≤ 140737488355328) := Lib.hid (by omega)
            have HRC := Lib.hid B10.out.size
            have xg10 : W10.cell? ⟨g, 0, none⟩ = some (.slice _ LJ.length c) := E10.out.box.box.cell 0
            have hkl' : (k : Int) ≤ (LJ.length : Int) := by omega
            clear hW10 b10 xg9 k09
            go_wp2_with (at_builtin; go_must (refine wpList_append_cells rfl _ _ 45 rfl WX.heap.size 51 i0 _ 2 32 Try.underlying45 HI.out H0.out H1.out H2.out rfl (by omega) (.slice A9 n9 c9) n9 _ rfl O10.out _ _ _ _ (cellsKvs (LJ.drop k)) rfl LD.out LDN.out (cellsKvs_one _) HRA.out HRB.out HRC.out ?_); intro v11 w11 o11 b11; obtain ⟨A11, c11, rfl, _, _⟩ := own_form o11; rw [← cellsKvs_append] at o11; have B11 := Lib.hid (B10.out.trans b11); have E11 := Lib.hid (E10.out.below B10.out.size b11); have O11 := Lib.hid o11; clear o11 b11 xg10; have xg11 : w11.cell? ⟨g, 0, none⟩ = some (.slice _ LJ.length c) := E11.out.box.box.cell 0; have xf11 := E11.out.box.box.frozen 0)
            have FIN := Lib.hid (E11.out.box.store O11.out (by rw [List.length_append, ← HL9.out, List.length_drop]) hgx)
            rw [← DQ.out] at FIN
            have GF := Lib.hid (only_set (only_trans G0.out (only_below B11.out (some g))) 0 (.slice A11 (n9 + (LJ.length - k)) c11))
            go_roundw
            case rel =>
              have f1 := FIN.out
              have f2 := GF.out
              first
                | exact ⟨j + 1, _, _, by omega, by go_num, f1, f2⟩
                | (rw [show k + (LJ.length - k) = LJ.length by omega] at f1 f2; exact ⟨j + 1, _, _, by omega, by go_num, f1, f2⟩)
            case measure => simp [intOf]; omega
    · obtain rfl : l.length = j := by omega
      have M7 : Hid (RMap wr g (doAll L (pl l)) A c) := Lib.hid (by
        have := HMJ.out
        rwa [← HPL.out, List.take_length] at this)
      go_wp2_with fail
      go_end0
      exact ⟨rfl, ⟨_, _, M7.out⟩, HG.out⟩
end Go.Proofs.Ytflbjmpbkcjdhaa
