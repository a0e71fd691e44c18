/- Layer 8: Open. -/
import Derived.Test.YtmemdkgoeldemaaGreatDoorJourS
import Derived.Test.YtmemdkgoeldemaaGreatDoorJourX
namespace Go.Proofs.YtmemdkgoeldemaaGreatDoor
open Go.RowKit Go.Maps
set_option maxRecDepth 100000
set_option linter.unusedSimpArgs false
set_option linter.unusedVariables false
def lastSeq (l : List Bt) : Nat := match l.getLast? with | some y => y.seq | none => 0
theorem scF_files {S : Dv} {nm : Nm} {file : Int} : ∀ (n p : Nat) (l : List Bt), ∀ x ∈ scF S nm file n p l, x ∈ l ∨ x.file = file := by
  intro n
  induction n with
  | zero => intro p l x hx; exact .inl hx
  | succ n ih =>
    intro p l x hx
    unfold scF at hx
    split at hx
    · exact .inl hx
    · rename_i h
      have h1 : (whP S nm file p).1 = 0 := Classical.not_not.1 fun e => h (.inl e)
      rcases ih _ _ x hx with h2 | h2
      · rcases List.mem_append.1 h2 with h2 | h2
        · exact .inl h2
        · simp at h2
          subst h2
          exact .inr (whP_ok (Prod.ext h1 rfl)).2.2.1
      · exact .inr h2
theorem scN_files {S : Dv} : ∀ (ns : List Int) (l : List Bt), ∀ x ∈ scN S ns l, x ∈ l ∨ x.file ∈ ns := by
  intro ns
  induction ns with
  | nil => intro l x hx; exact .inl hx
  | cons n r ih =>
    intro l x hx
    rcases ih _ x hx with h | h
    · rcases scF_files _ _ _ x h with h | h
      · exact .inl h
      · exact .inr (by rw [h]; simp)
    · exact .inr (by simp [h])
theorem scN_length {S : Dv} (hO : Ok S) : ∀ (ns : List Int) (l : List Bt), (scN S ns l).length ≤ l.length + ns.length * 100001 := by
  intro ns
  induction ns with
  | nil => intro l; simp [scN]
  | cons n r ih =>
    intro l
    have h1 := ih (scF S (nmJ n) n (S.len (nmJ n) + 1) 0 l)
    have h2 := scF_length (S := S) (nm := nmJ n) (file := n) (S.len (nmJ n) + 1) 0 l
    have h3 := dv_len hO (nmJ n)
    have h4 : scN S (n :: r) l = scN S r (scF S (nmJ n) n (S.len (nmJ n) + 1) 0 l) := rfl
    rw [h4, List.length_cons]
    omega
/-- the state of Open ahead of the syncing -/
def OpAt (W : World) (g jb : Nat) (J : Jr) (A : Option Addr) (c : Nat) (ms : List Bm) (w : World) : Prop :=
  Below W.heap.size W w ∧ JAt w jb g J ∧ OwnBs w W.heap.size (.slice A ms.length c) ms
theorem OpAt.bms {W : World} {g jb : Nat} {J : Jr} {A : Option Addr} {c : Nat} {ms : List Bm} {w : World} (h : OpAt W g jb J A c ms w) (P : Nat → Prop) (hP : ∀ i, W.heap.size ≤ i → i < w.heap.size → i ≠ jb → P i) : BmsAt w P ms A c := by
  obtain ⟨h1, h2, h3⟩ := h
  obtain ⟨A', c', e, e1, e2⟩ := own_form h3.1
  injection e with _ _ e
  subst e
  refine ⟨e1, e2, LiesP.own h3.1 fun i hi => ?_, fun m hm => ?_⟩
  · have := h3.1.lt i hi
    exact hP i this.1 this.2 fun e => whole_apart h2 h3.1 (by decide) (by rw [← e]; exact hi.symm)
  · obtain ⟨a1, a2⟩ := (h3.2 m hm).1
    refine ⟨a1, fun i hi => hP i (a2 i hi) (a1.lt i hi).2 fun e => whole_apart h2 a1 (by decide) (by rw [← e]; exact hi.symm)⟩
section
variable {B g : Nat} {X : Nat → Prop} {w0 W : World} {S : Dv}
set_option maxHeartbeats 8000000 in
theorem open_any (h : At B X w0 g S W) (ns : List Int) (hns : S.fs.map (·.1) = ns.map nmJ) (hn : ∀ n ∈ ns, 1 ≤ n ∧ n < 100) :
    Calls Tryz.prog 11 #[ptr g] W fun e w' => ∃ (jb : Nat) (A : Option Addr) (c : Nat) (ms : List Bm) (X' : Nat → Prop), e = .returned (.tuple #[ptr jb, .slice A ms.length c]) ∧ ms.map (·.x) = scN S ns [] ∧ (∀ i, X i → X' i) ∧ X' jb ∧ ¬ X jb ∧ W.heap.size ≤ jb ∧
      At B X' w0 g (syA S 0 (scN S ns [])).2 w' ∧ JAt w' jb g ⟨lastSeq (scN S ns []), 0, (grN ns).toNat + 1, decide ((syA S 0 (scN S ns [])).1 ≠ 0)⟩ ∧ KeptX X W w' ∧ BmsAt w' (fun i => X' i ∧ W.heap.size ≤ i ∧ i ≠ jb) ms A c := by
  have hlenf : S.fs.length = ns.length := by have := congrArg List.length hns; simpa using this
  have hlen2 : ns.length ≤ 1000000 := by have := h.dev.1.few; omega
  have hsl := scN_length h.dev.1 ns []
  have HFI : Hid (∀ x ∈ scN S ns [], 1 ≤ x.file ∧ x.file < 100) := Lib.hid fun x hx => by
    rcases scN_files ns [] x hx with h | h
    · cases h
    · exact hn _ h
  have H := Lib.hid h
  have hsc := scan_any h ns hns hn
  obtain ⟨L, hL⟩ : ∃ L, L = scN S ns [] := ⟨_, rfl⟩
  rw [← hL] at hsc hsl HFI ⊢
  have HSC := Lib.hid hsc
  have hgr := fun (w : World) (hw : Below W.heap.size W w) => greatest_any (h.below hw).1 ns hns hn
  obtain ⟨gg1, gg2⟩ := grN_in hn ns.length
  rw [List.take_length] at gg1 gg2
  obtain ⟨G, hG⟩ : ∃ G : Nat, grN ns = (G : Int) := ⟨(grN ns).toNat, by omega⟩
  simp only [hG] at hgr gg1 gg2 ⊢
  have HGR := Lib.hid hgr
  rw [Int.toNat_natCast]
  have hwg : IntKind.i64.wrap ((G : Int) + 1) = (G : Int) + 1 := IntWalk.i64_in _ ⟨by omega, by omega⟩
  simp only [List.length_nil] at hsl
  have hLl : L.length ≤ 1000000000000 := by omega
  clear h hns hn hlenf hlen2 hsl hsc hL hgr hG
  go_enter Tryz.func11, Tryz.ntmps11
  go_upto_region 3 with (first
    | (go_at_call 19; go_must (refine HSC.out.mono ?_); rintro e w1 ⟨v, ms, rfl, hms, hown, hb1⟩; obtain ⟨A, c, rfl, _, _⟩ := own_form hown.1; have B1 := Lib.hid hb1; have O1 := Lib.hid hown; have MS := Lib.hid hms; clear hb1 hown hms)
    | (go_at_call 39; go_must (refine (HGR.out _ B1.out).mono ?_); rintro e w2 ⟨rfl, hb2⟩; have B2 := Lib.hid (B1.out.trans (hb2.mono B1.out.size)); have O2 := Lib.hid (O1.out.below hb2); clear hb2))
  refine wp_rename5 (fun W' => OpAt W g w2.heap.size ⟨0, 0, G + 1, false⟩ A c ms W') ⟨B2.out.alloc B2.out.size _, by have := Whole.new w2 87 #[ptr g, .int .u64 0, .int .i64 0, .int .i64 ((G : Int) + 1), .bool false]; exact this, O2.out.below ((Below.refl _ _).alloc (Nat.le_refl _) _)⟩ ?_
  rintro W3 hop
  have JB : Hid (W.heap.size ≤ w2.heap.size) := Lib.hid B2.out.size
  obtain ⟨jb, hjb⟩ : ∃ jb, jb = w2.heap.size := ⟨_, rfl⟩
  rw [← hjb] at hop JB ⊢
  have OP := Lib.hid hop
  have hml : ms.length = L.length := by have := congrArg List.length MS.out; simpa using this
  have HML := Lib.hid hml
  have hmb : ms.length ≤ 1000000000000 := by omega
  clear hop hjb hml
  obtain ⟨M, hM⟩ : ∃ M, M = ms.length := ⟨_, rfl⟩
  have HM := Lib.hid hM
  rw [← hM] at hmb ⊢
  clear hM
  go_upto_if 16 with fail
  go_cut [] (fun wx => OpAt W g jb ⟨lastSeq L, 0, G + 1, false⟩ A c ms wx)
  case first =>
    rcases Nat.eq_zero_or_pos M with h0 | h0
    · have hL0 : L = [] := List.eq_nil_of_length_eq_zero (by have := HML.out; have := HM.out; omega)
      have hz : ¬ (0 : Int) < (M : Int) := by omega
      clear h0 hmb
      go_wp2_with fail
      go_meet
      rw [hL0]
      exact OP.out
    · have hz : (0 : Int) < (M : Int) := by omega
      obtain ⟨n, hn⟩ : ∃ n, M = n + 1 := ⟨M - 1, by omega⟩
      have hn2 : n < ms.length := by have := HM.out; omega
      obtain ⟨b, o, rfl, hb, d0, _⟩ := lies_bm OP.out.2.2.lies n hn2
      have e1 : L[L.length - 1]? = some (ms[n]'hn2).x := by
        rw [show L.length - 1 = n by have := HML.out; have := HM.out; omega, ← MS.out, List.getElem?_map, List.getElem?_eq_getElem hn2]
        rfl
      have hls : lastSeq L = (ms[n]'hn2).x.seq := by
        unfold lastSeq
        rw [List.getLast?_eq_getElem?, e1]
      rw [← hls] at d0
      obtain ⟨c0, c1, c2, c3, c4⟩ := OP.out.2.1.cells
      have cf := Whole.frozen OP.out.2.1
      have hwn : IntKind.i64.wrap ((M : Int) - 1) = (n : Int) := by rw [show (M : Int) - 1 = (n : Int) by omega]; exact IntWalk.i64_in _ ⟨by omega, by omega⟩
      have hnl : (n : Int) < (M : Int) := by omega
      obtain ⟨Q, hQ⟩ : ∃ Q, Q = lastSeq L := ⟨_, rfl⟩
      rw [← hQ] at d0
      have HQ := Lib.hid hQ
      clear hls hn hmb h0 hQ e1
      go_wp2_with fail
      go_meet
      rw [← HQ.out]
      refine ⟨OP.out.1.setCell (p := ⟨jb, 1, none⟩) JB.out _, Whole.put OP.out.2.1 1 _, own_block OP.out.2.2.1 (fun i hi => Below.heap_setCell _ ⟨jb, 1, none⟩ _ _ (fun e => whole_apart OP.out.2.1 OP.out.2.2.1 (by decide) (by rw [← (show i = jb from e)]; exact hi.symm))), fun m hm => ⟨⟨own_block (OP.out.2.2.2 m hm).1.1 (fun i hi => Below.heap_setCell _ ⟨jb, 1, none⟩ _ _ (fun e => whole_apart OP.out.2.1 (OP.out.2.2.2 m hm).1.1 (by decide) (by rw [← (show i = jb from e)]; exact hi.symm))), (OP.out.2.2.2 m hm).1.2⟩, (OP.out.2.2.2 m hm).2⟩⟩
  case rest =>
    obtain ⟨W4, hW4⟩ : ∃ W4 : World, W4 = wc := ⟨_, rfl⟩
    subst hW4
    have OP4 := Lib.hid hcut
    have F4 := Lib.hid (H.out.fence hcut.1)
    obtain ⟨X', hX'⟩ : ∃ X' : Nat → Prop, X' = fun i => X i ∨ (W.heap.size ≤ i ∧ i < W4.heap.size) := ⟨_, rfl⟩
    rw [← hX'] at F4
    have HX := Lib.hid hX'
    have BM : Hid (BmsAt W4 X' ms A c) := Lib.hid (hcut.bms X' (fun i h1 h2 _ => by rw [hX']; exact .inr ⟨h1, h2⟩))
    have BP : Hid (BmsAt W4 (fun i => X' i ∧ W.heap.size ≤ i ∧ i ≠ jb) ms A c) := Lib.hid (hcut.bms _ (fun i h1 h2 h3 => ⟨by rw [hX']; exact .inr ⟨h1, h2⟩, h1, h3⟩))
    have hXj : X' jb := by rw [hX']; exact .inr ⟨JB.out, Whole.lt hcut.2.1⟩
    have hsa := syncAll_any F4.out ms A c BM.out (fun m hm => by have := HFI.out m.x (by rw [← MS.out]; exact List.mem_map_of_mem hm); exact this) (by rw [← HM.out]; exact hmb)
    rw [MS.out, ← HM.out] at hsa
    obtain ⟨e1, S2, hS2⟩ : ∃ e1 S2, syA S 0 L = (e1, S2) := ⟨_, _, rfl⟩
    simp only [hS2] at hsa
    have HSA := Lib.hid hsa
    have HS2 := Lib.hid hS2
    clear hcut hX' hsa hS2
    go_wp2_with (go_at_call 40; go_must (refine HSA.out.mono ?_); rintro e w5 ⟨rfl, h5, k5⟩; have A5 := Lib.hid h5; have K5 := Lib.hid k5; have J5 := Lib.hid (OP4.out.2.1.kept k5 hXj); obtain ⟨c0, c1, c2, c3, c4⟩ := J5.out.cells; have cf := Whole.frozen J5.out; clear h5 k5)
    go_ret2
    have kx : KeptX X W W4 := ⟨fun i hi => OP4.out.1.block i (H.out.xs i hi).2, OP4.out.1.size⟩
    have hnj : ¬ X jb := fun e => by have := (H.out.xs jb e).2; have := JB.out; omega
    have hXX : ∀ i, X i → X' i := fun i hi => by rw [HX.out]; exact .inl hi
    refine ⟨jb, A, c, ms, X', by rw [← HM.out]; rfl, MS.out, hXX, hXj, hnj, JB.out, ?_, ?_, ?_, ?_⟩
    · rw [HS2.out]; exact A5.out.cell jb 4 hXj _
    · rw [HS2.out]
      have := Whole.put J5.out 4 (.bool (e1 != 0))
      rw [show decide ((e1, S2).1 ≠ 0) = (e1 != 0) by simp [bne, BEq.beq]]
      exact this
    · exact kx.trans' ⟨fun i hi => (Below.heap_setCell _ ⟨jb, 4, none⟩ _ _ (fun e => hnj (by rw [← (show i = jb from e)]; exact hi))).trans (K5.out.1 i (hXX i hi)), by have := K5.out.2; simpa using this⟩
    · exact BP.out.kept (fun i _ hi => (Below.heap_setCell _ ⟨jb, 4, none⟩ _ _ (fun e => hi.2.2 e)).trans (K5.out.1 i hi.1)) (by have := K5.out.2; simpa using this)
end
end Go.Proofs.YtmemdkgoeldemaaGreatDoor
