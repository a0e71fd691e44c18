/- Layer 7: Names; a file's row is sorted. -/
import Derived.Test.YtcmffifehpbjnaaSectK
import Derived.Test.YtcmffifehpbjnaaSlit
import Derived.Shelf.Slices.In.SortNone
import Derived.Sort.OwnSortedInts
import Derived.Sort.KeysCollected
namespace Go.Proofs.Ytcmffifehpbjnaa
open Go.RowKit Go.Maps Go.Sort Go.Shelf
set_option maxRecDepth 100000
set_option linter.unusedSimpArgs false
set_option linter.unusedVariables false
theorem sorts_string (m : Nat) : AnyZ.SortsIn Try.prog sortedL_ren Fence.wide m :=
  ⟨fun blk off cap ss W hH hblk hsz => callsIn_wide.2 (AnyM.slices_Sort_string sortSL blk off cap ss W hH hblk hsz),
   fun p cap W => callsIn_wide.2 (AnyM.slices_Sort_string_none sortSL p cap W)⟩
theorem keys_call (mb : Option Nat) (W : World) : Calls Try.prog 57 #[.map mb] W fun e w' =>
    e = .returned (.func (.func 66) #[] #[ptr W.heap.size]) ∧ w' = W.alloc (.cells #[.map mb] 71) :=
  (callsIn_wide (n := 5)).1 (AnyZ.keys_in keysL Fence.wide 5 trivial rfl mb W)
set_option maxHeartbeats 1000000 in
theorem sorted_call (b nn : Nat) (D0 : DataW Value) (w : World) (hown : w.ownsMap Try.prog 9 rid b nn D0) (hmax : Maps.size D0 ≤ maxLen) (hbytes : Maps.size D0 * 16 ≤ 140737488355328) :
    Calls Try.prog 56 #[.func (.func 66) #[] #[ptr w.heap.size]] (w.alloc (.cells #[.map (some b)] 71)) fun e w' => ∃ (v : Value) (ss : List (List UInt8)), e = .returned v ∧ ss.Perm (strKeys D0) ∧
      w'.ownsRow (w.alloc (.cells #[.map (some b)] 71)).heap.size 9 1 v ss.length ((ss.mergeSort (fun x y => decide (x ≤ y))).map encStr) ∧ (v = .slice none 0 0 ↔ ss = []) ∧ Below (w.alloc (.cells #[.map (some b)] 71)).heap.size (w.alloc (.cells #[.map (some b)] 71)) w' := by
  have hbl := hown.lt
  have hseq : SeqGives Fence.wide 2 Try.prog 66 #[ptr w.heap.size] encStr (fun ss => ss.Perm (strKeys D0)) (Maps.size D0) (w.alloc (.cells #[.map (some b)] 71)) :=
    AnyZ.keys_gives (ρ := keysL_ren) { keysL with } Fence.wide _ trivial rfl (by omega) w.heap.size b nn D0 _ (by simp) (by simp) (by
      obtain ⟨es, clock, hb, Ft, hs, hD⟩ := hown
      exact ⟨es, clock, (Below.heap_alloc _ _ b hbl).trans hb, Ft, hs, hD⟩)
  exact (callsIn_wide (n := 5)).1 (AnyZ.sorted_in sortedL Fence.wide 5 trivial trivial trivial trivial rfl (by omega) (sorts_string _) (enters_of Try.func65 (by kernel_rfl) rfl) 66 #[ptr w.heap.size] trivial (enters_of Try.func66 (by kernel_rfl) rfl) _ _ hmax hbytes _ hseq)
section
variable {K : Nat → Prop} {w w' : World} {g : Nat} {b1 b2 b3 : Nat} {S : Dv} {sv : Nm → Value}
theorem names_sorted (hr : Rising S.fs) {D : DataW Value} {b n : Nat} (hown : w.ownsMap Try.prog 9 rid b n D) (f : Nm → Option Value) (hf : ∀ x, (f x).isSome = (fnd S.fs x).isSome)
    (h2 : ∀ x, nmOk x → Maps.has D (nmL x) = (f x).isSome) (h3 : ∀ l, Maps.has D l = true → ∃ x, nmOk x ∧ l = nmL x) (hnm : ∀ x F, fnd S.fs x = some F → nmOk x) {ss : List (List UInt8)} (hp : ss.Perm (strKeys D)) :
    ss.mergeSort (fun x y => decide (x ≤ y)) = S.fs.map (·.1) := by
  obtain ⟨es, rfl, hpw, hk⟩ := hown.entries nm_kind.law
  have hstr : ∀ p ∈ es, ∃ x, p.1 = .string x := by
    intro p hp'
    obtain ⟨x, _, e⟩ := h3 p.1 (by rw [Maps.has_eq]; exact List.any_eq_true.2 ⟨p, hp', WideAt.sameKey_self (hk p hp')⟩)
    exact ⟨x, e⟩
  have hnd : (S.fs.map (·.1)).Nodup := by
    rw [List.nodup_iff_pairwise_ne, List.pairwise_map]
    exact hr.imp (fun {a b} h => fun (e : a.1 = b.1) => nm_irrefl b.1 (by rw [e] at h; exact h))
  have hmem : ∀ x, x ∈ S.fs.map (·.1) ↔ Maps.has (.map es) (.string x) = true := by
    intro x
    constructor
    · intro hx
      obtain ⟨⟨a, F⟩, hp', rfl⟩ := List.mem_map.1 hx
      have hF := mem_fnd hr hp'
      have := h2 a (hnm a F hF)
      rw [hf, hF] at this
      exact this
    · intro hx
      obtain ⟨y, hy, e⟩ := h3 _ hx
      have e' : x = y := by injection e
      subst e'
      have := h2 x hy
      unfold nmL at this
      rw [hx, hf] at this
      obtain ⟨F, hF⟩ := Option.isSome_iff_exists.1 this.symm
      exact List.mem_map.2 ⟨_, fnd_mem hF, rfl⟩
  have hq := perm_strKeys hpw hstr hnd hmem
  rw [mergeSort_of_perm (hp.trans hq.symm)]
  refine List.mergeSort_of_pairwise ?_
  rw [List.pairwise_map]
  exact hr.imp (fun {a b} h => decide_eq_true (List.le_of_lt h))
set_option maxHeartbeats 4000000 in
theorem names_any (h : DevAt K w g S b1 b2 b3 sv) (hO : Ok S) :
    Calls Try.prog 44 #[ptr g] w fun e w' => ∃ v, e = .returned v ∧ w'.ownsRow (w.heap.size + 1) 9 1 v S.fs.length ((S.fs.map (·.1)).map encStr) ∧ Below w.heap.size w w' := by
  obtain ⟨c0, c1, c2, c3, c4, c5⟩ := h.cell
  obtain ⟨D, d1, d2, d3, d4⟩ := h.files
  have hsz : Maps.size D ≤ 1000000 := by
    have := size_bound nm_kind d1 (S.fs.map (·.1)) (fun l hl => by
      obtain ⟨x, hx, e⟩ := d3 l hl
      have h1 := (d2 x hx).1
      rw [← e, hl] at h1
      exact ⟨x, names_all x h1.symm, e⟩)
    have := hO.few
    simp at *
    omega
  have hs : ∀ ss : List (List UInt8), ss.Perm (strKeys D) → ss.mergeSort (fun x y => decide (x ≤ y)) = S.fs.map (·.1) := fun ss hp =>
    names_sorted hO.rising d1 (fun nm => (fnd S.fs nm).map fun F => flV F.l.length (sv nm)) (fun x => by simp) (fun x hx => (d2 x hx).1) d3 (fun x F hx => by have := (hO.names x F hx).2; unfold nmOk maxLen; omega) hp
  have HS := Lib.hid hs
  have hmax : Maps.size D ≤ maxLen := by unfold maxLen; omega
  have HD := Lib.hid d1
  have HM := Lib.hid hmax
  have HM2 : Hid (Maps.size D * 16 ≤ 140737488355328) := Lib.hid (by omega)
  clear h hO d1 d2 d3 d4 hsz hs hmax
  go_enter Try.func44, Try.ntmps44
  go_wp2_with (first
    | (go_at_call 57; go_must (refine (keys_call _ _).mono ?_); rintro e w' ⟨rfl, rfl⟩)
    | (go_at_call 56; go_must (refine (sorted_call b1 _ D w HD.out HM.out HM2.out).mono ?_); rintro e w' ⟨v, ss, rfl, hS, hrow, hnil, hb⟩; have HP := Lib.hid hS; have HR := Lib.hid hrow; have HB := Lib.hid hb; clear hS hrow hnil hb))
  go_ret
  refine ⟨v, rfl, ?_, ((Below.refl _ w).alloc (Nat.le_refl _) _).trans (HB.out.mono (by simp))⟩
  have h1 := HR.out
  rw [HS.out ss HP.out] at h1
  have hlen : ss.length = S.fs.length := by
    have := congrArg List.length (HS.out ss HP.out)
    simpa using this
  rw [hlen] at h1
  simpa using h1
/-- a file's row in its order -/
def sortN (ks : List Nat) : List Nat := ks.mergeSort (fun a b => decide (a ≤ b))
theorem sortN_perm (ks : List Nat) : (sortN ks).Perm ks := List.mergeSort_perm _ _
theorem sortN_length (ks : List Nat) : (sortN ks).length = ks.length := (sortN_perm ks).length_eq
theorem sortN_cast (ks : List Nat) : ((ks.map fun k : Nat => (k : Int)).mergeSort fun x y => decide (x ≤ y)) = (sortN ks).map fun k : Nat => (k : Int) := by
  unfold sortN
  rw [List.map_mergeSort]
  intro a _ b _
  simp
theorem I64_ints (ks : List Nat) : I64 ks = (ks.map fun k : Nat => (k : Int)).map (Value.int .i64) := by simp [I64]
theorem sort_any (v : Value) (ks : List Nat) (w : World) (h : w.ownsRow 0 3 1 v ks.length (I64 ks)) (hl : ks.length ≤ 1000000) :
    Calls Try.prog 45 #[v] w fun e w' => e = .returned (.tuple #[]) ∧ w'.ownsRow 0 3 1 v (sortN ks).length (I64 (sortN ks)) ∧ w.grownBy w' v.ownBlock := by
  obtain ⟨h1, h2⟩ := h
  rcases h2 with ⟨rfl, h0⟩ | ⟨gb, cap, cur, rfl, hb, hg, hn, hc, hs, ht⟩
  · have hk : ks = [] := List.eq_nil_of_length_eq_zero h0
    subst hk
    refine (Any.slices_Sort_int_none sortIL none 0 w).mono ?_
    rintro e w' ⟨rfl, rfl⟩
    have e : sortN [] = [] := List.eq_nil_of_length_eq_zero (sortN_length [])
    rw [e]
    exact ⟨rfl, World.ownsRow_nil _ _ _ _, ⟨rfl, rfl, rfl, Nat.le_refl _, fun _ _ _ => rfl⟩⟩
  · obtain ⟨zs, hzs⟩ : ∃ zs : List Int, zs = ks.map fun k : Nat => (k : Int) := ⟨_, rfl⟩
    have hzl : zs.length = ks.length := by rw [hzs]; simp
    have hH : Holds (Value.int .i64) w gb 0 zs.toArray := holds_of_blockI hg (by rw [hzl, hzs, ← I64_ints]; simpa using ht)
    have hc2 := Any.slices_Sort_int sortIL gb 0 cap zs w hH ((Array.getElem?_eq_some_iff.1 hg).1) (by omega)
    rw [hzl] at hc2
    refine hc2.mono ?_
    rintro e w' ⟨rfl, n, os, rfl⟩
    have hm : (zs.mergeSort fun x y => decide (x ≤ y)) = (sortN ks).map fun k : Nat => (k : Int) := by rw [hzs]; exact sortN_cast ks
    refine ⟨rfl, ?_, grownBy_sortedI _⟩
    rw [hm, I64_ints, sortN_length, ← hzl]
    exact ownsRow_sortedI (by rw [hzl]; simp [sortN_length]) hb hg (by rw [hzl]; exact hn) hc hs
end
end Go.Proofs.Ytcmffifehpbjnaa
