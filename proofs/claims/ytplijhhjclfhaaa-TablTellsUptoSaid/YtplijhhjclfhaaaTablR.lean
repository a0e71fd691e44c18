/- Contracts of package tabl: Ok, and a table's octets. -/
import Derived.Test.YtplijhhjclfhaaaTablF
namespace Go.Proofs.Ytplijhhjclfhaaa
open Go.RowKit

theorem ok_any (l : List Fld) (A : Option Addr) (c d B : Nat) (w : World) (ht : TabAt d w B l A c) (hB : B ≤ w.heap.size) :
    Calls Try.prog 13 #[.slice A l.length c] w fun e w' => e = .returned (.bool (okB l)) ∧ Below w.heap.size w w' := by
  have HT := Lib.hid ht
  clear ht
  go_enter Try.func13, Try.ntmps13
  go_wp2_with fail
  refine (fit_any 8 l A c d B 2000 1 w (by omega) (by omega) (by omega) HT.out hB).mono ?_
  rintro e w1 ⟨rfl, hb⟩
  have HB := Lib.hid hb
  rw [fit_ok]
  clear hb
  go_wp2_with fail
  go_ret
  exact ⟨rfl, HB.out⟩

theorem own_base {w : World} {b b' : Nat} {e : TypeId} {size n : Nat} {v : Value} {xs : List Value} (h : w.ownsRow b e size v n xs) (hb : b' ≤ b) : w.ownsRow b' e size v n xs := by
  refine ⟨h.1, ?_⟩
  rcases h.2 with h | ⟨g, cap, cur, hv, hg, rest⟩
  · exact .inl h
  · exact .inr ⟨g, cap, cur, hv, Nat.le_trans hb hg, rest⟩

/-- the octets of a table that may be: what is asked of the walk of a field -/
def RowsOf (N : Nat) (k : Nat) : Prop := ∀ (l : List Fld) (A : Option Addr) (c d B : Nat) (w : World), formedB k l = true → TabAt d w B l A c → B ≤ w.heap.size → (rowsD k l).length ≤ 70368744177664 →
    Calls Try.prog N #[.slice A l.length c] w (NewOcts w.heap.size (rowsD k l) w)

theorem bsize (l : List UInt8) : (⟨l.toArray⟩ : ByteArray).size = l.length := rfl
theorem u64_wrap (n : Int) : IntKind.u64.wrap n = ((u64 n : Nat) : Int) := by
  unfold u64
  rw [Int.toNat_of_nonneg (Int.emod_nonneg _ (by decide))]
  simp [IntKind.wrap, IntKind.bits, IntKind.signed]

set_option maxHeartbeats 400000 in
set_option maxRecDepth 100000 in
theorem row_t (nm s : List UInt8) (n : Int) (t : List Fld) (A : Option Addr) (c : Nat) (w : World) (h1 : nm.length ≤ 255) (Z : List UInt8) (HZ : Hid (Z = be 1 nm.length ++ nm ++ [116] ++ be 1 (u64 n))) :
    Calls Try.prog 41 #[.agg #[.string ⟨nm.toArray⟩, .int .u8 116, .int .i64 n, .string ⟨s.toArray⟩, .slice A t.length c]] w (NewOcts w.heap.size Z w) := by
  obtain ⟨i0, hi, hz0, hz1, hz2⟩ := info_parts u8_info
  have HI := Lib.hid hi
  have H0 := Lib.hid hz0
  have H1 := Lib.hid hz1
  have H2 := Lib.hid hz2
  have hwn := Whole.new w 54 #[.string ⟨nm.toArray⟩, .int .u8 116, .int .i64 n, .string ⟨s.toArray⟩, .slice A t.length c]
  have hb0 : Below w.heap.size w (w.alloc (.cells #[.string ⟨nm.toArray⟩, .int .u8 116, .int .i64 n, .string ⟨s.toArray⟩, .slice A t.length c] 54)) := (Below.refl _ _).alloc (Nat.le_refl _) _
  have hb1 : Below (w.heap.size + 1) (w.alloc (.cells #[.string ⟨nm.toArray⟩, .int .u8 116, .int .i64 n, .string ⟨s.toArray⟩, .slice A t.length c] 54)) (w.alloc (.cells #[.string ⟨nm.toArray⟩, .int .u8 116, .int .i64 n, .string ⟨s.toArray⟩, .slice A t.length c] 54)) := Below.refl _ _
  have HW := Lib.hid hwn
  have HB := Lib.hid hb0
  have HBB := Lib.hid hb1
  clear hi hz0 hz1 hz2 hwn hb0 hb1
  go_enter Try.func41, Try.ntmps41
  go_wp2_with fail
  refine (short_any none 0 [] 0 ⟨nm.toArray⟩ _ (Lies.empty _ _ _) (Nat.zero_le _) (by simp) h1).mono ?_
  rintro e w1 ⟨v, rfl, hown, hbel⟩
  have hbel' : Below (w.heap.size + 1) _ w1 := hbel.mono (by simp)
  have hB1 := HB.out.trans (hbel'.mono (by omega))
  have hW1 := HW.out.below hbel' (by omega)
  have hown1 : w1.ownsRow (w.heap.size + 1) 5 1 v (be 1 nm.length ++ nm).length (B8 (be 1 nm.length ++ nm)) := by
    have h := own_base hown (b' := w.heap.size + 1) (by simp)
    rw [bsize, List.nil_append] at h
    exact h
  have hsz : w.heap.size + 1 ≤ w1.heap.size := by have := hbel'.size; simpa using this
  have hlen : (be 1 nm.length ++ nm).length ≤ 256 := by rw [List.length_append, be_length]; omega
  obtain ⟨R, hR⟩ : ∃ R, R = be 1 nm.length ++ nm := ⟨_, rfl⟩
  rw [← hR] at hown1 hlen
  have hones : ∀ u ∈ [Value.int .u8 116], u.oneCell' = true := by simp [Value.oneCell']
  have e0 : (w1.alloc (.cells #[.int .u8 116] 5)).heap.size = w1.heap.size + 1 := by simp
  have hbs : w.heap.size + 1 ≤ (w1.alloc (.cells #[.int .u8 116] 5)).heap.size := by rw [e0]; omega
  have hWa := hW1.alloc (.cells #[.int .u8 116] 5)
  have k1 : w1.cell? ⟨w.heap.size, 1, none⟩ = some (.int .u8 116) := hW1.cell 1
  have HO := Lib.hid hown1
  have HB1 := Lib.hid hB1
  have HW1 := Lib.hid hWa
  have HBS := Lib.hid hbs
  have HR := Lib.hid hR
  have HON := Lib.hid hones
  have hs' : R.length + 1 ≤ 140737488355328 := by omega
  clear hown hbel hbel' hB1 hW1 hown1 hWa hbs hR hones e0
  go_wp2_with (at_builtin; refine wpList_append_cells rfl _ _ 22 rfl (w.heap.size + 1) 5 i0 (.int .u8 0) 1 1 Try.underlying22 HI.out H0.out H1.out H2.out rfl (by omega) _ R.length _ rfl (HO.out.alloc _) _ _ 1 1 _ rfl (Lies.one w1 5 _) rfl HON.out (room63 hs') (room1 hs') HBS.out ?_; intro v2 w2 hown2 hbel2; have hW2 := HW1.out.below hbel2 (by omega); have j1 : w2.cell? ⟨w.heap.size, 1, none⟩ = some (.int .u8 116) := hW2.cell 1; have j2 : w2.cell? ⟨w.heap.size, 2, none⟩ = some (.int .i64 n) := hW2.cell 2; have j3 : w2.cell? ⟨w.heap.size, 3, none⟩ = some (.string ⟨s.toArray⟩) := hW2.cell 3; have j4 : w2.cell? ⟨w.heap.size, 4, none⟩ = some (.slice A t.length c) := hW2.cell 4; have HB2 := Lib.hid ((HB1.out.alloc (by omega) _).trans (hbel2.mono (Nat.le_succ _))); have hsz2 : w1.heap.size + 1 ≤ w2.heap.size := (by have := hbel2.size; simpa using this); have HO2 := Lib.hid hown2; clear hown2 hbel2 hW2)
  have e1 : B8 R ++ [.int .u8 116] = B8 (R ++ [116]) := by rw [B8_append]; rfl
  have hown2 := HO2.out
  rw [e1, show R.length + 1 = (R ++ [116]).length from by simp] at hown2
  obtain ⟨T, hT⟩ : ∃ T, T = R ++ [116] := ⟨_, rfl⟩
  have hTl : T.length ≤ 257 := by rw [hT, List.length_append]; simp; omega
  rw [← hT] at hown2
  obtain ⟨A2, c2, rfl, _, _⟩ := own_form hown2
  have L2 := Lib.hid (Lies.own hown2 (Nat.le_refl _))
  have HTT := Lib.hid hT
  clear hown2 hT e1
  rw [u64_wrap]
  refine (int_any A2 c2 T _ 1 (u64 n) _ L2.out (Nat.le_refl _) (by omega)).mono ?_
  rintro e w3 ⟨v3, rfl, hown3, hbel3⟩
  rw [show wid 1 = 1 from rfl] at hown3
  rw [HTT.out, HR.out, ← HZ.out] at hown3
  have D : Hid (NewOcts w.heap.size Z w (.returned v3) w3) := Lib.hid ⟨v3, rfl, own_base hown3 (by omega), HB2.out.trans (hbel3.mono (by omega))⟩
  clear hown3 hbel3
  go_wp2_with fail
  go_ret
  exact D.out
set_option maxHeartbeats 400000 in
set_option maxRecDepth 100000 in
theorem row_I (nm s : List UInt8) (n : Int) (t : List Fld) (A : Option Addr) (c : Nat) (w : World) (h1 : nm.length ≤ 255) (Z : List UInt8) (HZ : Hid (Z = be 1 nm.length ++ nm ++ [73] ++ be 4 (u64 n))) :
    Calls Try.prog 41 #[.agg #[.string ⟨nm.toArray⟩, .int .u8 73, .int .i64 n, .string ⟨s.toArray⟩, .slice A t.length c]] w (NewOcts w.heap.size Z w) := by
  obtain ⟨i0, hi, hz0, hz1, hz2⟩ := info_parts u8_info
  have HI := Lib.hid hi
  have H0 := Lib.hid hz0
  have H1 := Lib.hid hz1
  have H2 := Lib.hid hz2
  have hwn := Whole.new w 54 #[.string ⟨nm.toArray⟩, .int .u8 73, .int .i64 n, .string ⟨s.toArray⟩, .slice A t.length c]
  have hb0 : Below w.heap.size w (w.alloc (.cells #[.string ⟨nm.toArray⟩, .int .u8 73, .int .i64 n, .string ⟨s.toArray⟩, .slice A t.length c] 54)) := (Below.refl _ _).alloc (Nat.le_refl _) _
  have hb1 : Below (w.heap.size + 1) (w.alloc (.cells #[.string ⟨nm.toArray⟩, .int .u8 73, .int .i64 n, .string ⟨s.toArray⟩, .slice A t.length c] 54)) (w.alloc (.cells #[.string ⟨nm.toArray⟩, .int .u8 73, .int .i64 n, .string ⟨s.toArray⟩, .slice A t.length c] 54)) := Below.refl _ _
  have HW := Lib.hid hwn
  have HB := Lib.hid hb0
  have HBB := Lib.hid hb1
  clear hi hz0 hz1 hz2 hwn hb0 hb1
  go_enter Try.func41, Try.ntmps41
  go_wp2_with fail
  refine (short_any none 0 [] 0 ⟨nm.toArray⟩ _ (Lies.empty _ _ _) (Nat.zero_le _) (by simp) h1).mono ?_
  rintro e w1 ⟨v, rfl, hown, hbel⟩
  have hbel' : Below (w.heap.size + 1) _ w1 := hbel.mono (by simp)
  have hB1 := HB.out.trans (hbel'.mono (by omega))
  have hW1 := HW.out.below hbel' (by omega)
  have hown1 : w1.ownsRow (w.heap.size + 1) 5 1 v (be 1 nm.length ++ nm).length (B8 (be 1 nm.length ++ nm)) := by
    have h := own_base hown (b' := w.heap.size + 1) (by simp)
    rw [bsize, List.nil_append] at h
    exact h
  have hsz : w.heap.size + 1 ≤ w1.heap.size := by have := hbel'.size; simpa using this
  have hlen : (be 1 nm.length ++ nm).length ≤ 256 := by rw [List.length_append, be_length]; omega
  obtain ⟨R, hR⟩ : ∃ R, R = be 1 nm.length ++ nm := ⟨_, rfl⟩
  rw [← hR] at hown1 hlen
  have hones : ∀ u ∈ [Value.int .u8 73], u.oneCell' = true := by simp [Value.oneCell']
  have e0 : (w1.alloc (.cells #[.int .u8 73] 5)).heap.size = w1.heap.size + 1 := by simp
  have hbs : w.heap.size + 1 ≤ (w1.alloc (.cells #[.int .u8 73] 5)).heap.size := by rw [e0]; omega
  have hWa := hW1.alloc (.cells #[.int .u8 73] 5)
  have k1 : w1.cell? ⟨w.heap.size, 1, none⟩ = some (.int .u8 73) := hW1.cell 1
  have HO := Lib.hid hown1
  have HB1 := Lib.hid hB1
  have HW1 := Lib.hid hWa
  have HBS := Lib.hid hbs
  have HR := Lib.hid hR
  have HON := Lib.hid hones
  have hs' : R.length + 1 ≤ 140737488355328 := by omega
  clear hown hbel hbel' hB1 hW1 hown1 hWa hbs hR hones e0
  go_wp2_with (at_builtin; refine wpList_append_cells rfl _ _ 22 rfl (w.heap.size + 1) 5 i0 (.int .u8 0) 1 1 Try.underlying22 HI.out H0.out H1.out H2.out rfl (by omega) _ R.length _ rfl (HO.out.alloc _) _ _ 1 1 _ rfl (Lies.one w1 5 _) rfl HON.out (room63 hs') (room1 hs') HBS.out ?_; intro v2 w2 hown2 hbel2; have hW2 := HW1.out.below hbel2 (by omega); have j1 : w2.cell? ⟨w.heap.size, 1, none⟩ = some (.int .u8 73) := hW2.cell 1; have j2 : w2.cell? ⟨w.heap.size, 2, none⟩ = some (.int .i64 n) := hW2.cell 2; have j3 : w2.cell? ⟨w.heap.size, 3, none⟩ = some (.string ⟨s.toArray⟩) := hW2.cell 3; have j4 : w2.cell? ⟨w.heap.size, 4, none⟩ = some (.slice A t.length c) := hW2.cell 4; have HB2 := Lib.hid ((HB1.out.alloc (by omega) _).trans (hbel2.mono (Nat.le_succ _))); have hsz2 : w1.heap.size + 1 ≤ w2.heap.size := (by have := hbel2.size; simpa using this); have HO2 := Lib.hid hown2; clear hown2 hbel2 hW2)
  have e1 : B8 R ++ [.int .u8 73] = B8 (R ++ [73]) := by rw [B8_append]; rfl
  have hown2 := HO2.out
  rw [e1, show R.length + 1 = (R ++ [73]).length from by simp] at hown2
  obtain ⟨T, hT⟩ : ∃ T, T = R ++ [73] := ⟨_, rfl⟩
  have hTl : T.length ≤ 257 := by rw [hT, List.length_append]; simp; omega
  rw [← hT] at hown2
  obtain ⟨A2, c2, rfl, _, _⟩ := own_form hown2
  have L2 := Lib.hid (Lies.own hown2 (Nat.le_refl _))
  have HTT := Lib.hid hT
  clear hown2 hT e1
  rw [u64_wrap]
  refine (int_any A2 c2 T _ 4 (u64 n) _ L2.out (Nat.le_refl _) (by omega)).mono ?_
  rintro e w3 ⟨v3, rfl, hown3, hbel3⟩
  rw [show wid 4 = 4 from rfl] at hown3
  rw [HTT.out, HR.out, ← HZ.out] at hown3
  have D : Hid (NewOcts w.heap.size Z w (.returned v3) w3) := Lib.hid ⟨v3, rfl, own_base hown3 (by omega), HB2.out.trans (hbel3.mono (by omega))⟩
  clear hown3 hbel3
  go_wp2_with fail
  go_ret
  exact D.out
set_option maxHeartbeats 400000 in
set_option maxRecDepth 100000 in
theorem row_l (nm s : List UInt8) (n : Int) (t : List Fld) (A : Option Addr) (c : Nat) (w : World) (h1 : nm.length ≤ 255) (Z : List UInt8) (HZ : Hid (Z = be 1 nm.length ++ nm ++ [108] ++ be 8 (u64 n))) :
    Calls Try.prog 41 #[.agg #[.string ⟨nm.toArray⟩, .int .u8 108, .int .i64 n, .string ⟨s.toArray⟩, .slice A t.length c]] w (NewOcts w.heap.size Z w) := by
  obtain ⟨i0, hi, hz0, hz1, hz2⟩ := info_parts u8_info
  have HI := Lib.hid hi
  have H0 := Lib.hid hz0
  have H1 := Lib.hid hz1
  have H2 := Lib.hid hz2
  have hwn := Whole.new w 54 #[.string ⟨nm.toArray⟩, .int .u8 108, .int .i64 n, .string ⟨s.toArray⟩, .slice A t.length c]
  have hb0 : Below w.heap.size w (w.alloc (.cells #[.string ⟨nm.toArray⟩, .int .u8 108, .int .i64 n, .string ⟨s.toArray⟩, .slice A t.length c] 54)) := (Below.refl _ _).alloc (Nat.le_refl _) _
  have hb1 : Below (w.heap.size + 1) (w.alloc (.cells #[.string ⟨nm.toArray⟩, .int .u8 108, .int .i64 n, .string ⟨s.toArray⟩, .slice A t.length c] 54)) (w.alloc (.cells #[.string ⟨nm.toArray⟩, .int .u8 108, .int .i64 n, .string ⟨s.toArray⟩, .slice A t.length c] 54)) := Below.refl _ _
  have HW := Lib.hid hwn
  have HB := Lib.hid hb0
  have HBB := Lib.hid hb1
  clear hi hz0 hz1 hz2 hwn hb0 hb1
  go_enter Try.func41, Try.ntmps41
  go_wp2_with fail
  refine (short_any none 0 [] 0 ⟨nm.toArray⟩ _ (Lies.empty _ _ _) (Nat.zero_le _) (by simp) h1).mono ?_
  rintro e w1 ⟨v, rfl, hown, hbel⟩
  have hbel' : Below (w.heap.size + 1) _ w1 := hbel.mono (by simp)
  have hB1 := HB.out.trans (hbel'.mono (by omega))
  have hW1 := HW.out.below hbel' (by omega)
  have hown1 : w1.ownsRow (w.heap.size + 1) 5 1 v (be 1 nm.length ++ nm).length (B8 (be 1 nm.length ++ nm)) := by
    have h := own_base hown (b' := w.heap.size + 1) (by simp)
    rw [bsize, List.nil_append] at h
    exact h
  have hsz : w.heap.size + 1 ≤ w1.heap.size := by have := hbel'.size; simpa using this
  have hlen : (be 1 nm.length ++ nm).length ≤ 256 := by rw [List.length_append, be_length]; omega
  obtain ⟨R, hR⟩ : ∃ R, R = be 1 nm.length ++ nm := ⟨_, rfl⟩
  rw [← hR] at hown1 hlen
  have hones : ∀ u ∈ [Value.int .u8 108], u.oneCell' = true := by simp [Value.oneCell']
  have e0 : (w1.alloc (.cells #[.int .u8 108] 5)).heap.size = w1.heap.size + 1 := by simp
  have hbs : w.heap.size + 1 ≤ (w1.alloc (.cells #[.int .u8 108] 5)).heap.size := by rw [e0]; omega
  have hWa := hW1.alloc (.cells #[.int .u8 108] 5)
  have k1 : w1.cell? ⟨w.heap.size, 1, none⟩ = some (.int .u8 108) := hW1.cell 1
  have HO := Lib.hid hown1
  have HB1 := Lib.hid hB1
  have HW1 := Lib.hid hWa
  have HBS := Lib.hid hbs
  have HR := Lib.hid hR
  have HON := Lib.hid hones
  have hs' : R.length + 1 ≤ 140737488355328 := by omega
  clear hown hbel hbel' hB1 hW1 hown1 hWa hbs hR hones e0
  go_wp2_with (at_builtin; refine wpList_append_cells rfl _ _ 22 rfl (w.heap.size + 1) 5 i0 (.int .u8 0) 1 1 Try.underlying22 HI.out H0.out H1.out H2.out rfl (by omega) _ R.length _ rfl (HO.out.alloc _) _ _ 1 1 _ rfl (Lies.one w1 5 _) rfl HON.out (room63 hs') (room1 hs') HBS.out ?_; intro v2 w2 hown2 hbel2; have hW2 := HW1.out.below hbel2 (by omega); have j1 : w2.cell? ⟨w.heap.size, 1, none⟩ = some (.int .u8 108) := hW2.cell 1; have j2 : w2.cell? ⟨w.heap.size, 2, none⟩ = some (.int .i64 n) := hW2.cell 2; have j3 : w2.cell? ⟨w.heap.size, 3, none⟩ = some (.string ⟨s.toArray⟩) := hW2.cell 3; have j4 : w2.cell? ⟨w.heap.size, 4, none⟩ = some (.slice A t.length c) := hW2.cell 4; have HB2 := Lib.hid ((HB1.out.alloc (by omega) _).trans (hbel2.mono (Nat.le_succ _))); have hsz2 : w1.heap.size + 1 ≤ w2.heap.size := (by have := hbel2.size; simpa using this); have HO2 := Lib.hid hown2; clear hown2 hbel2 hW2)
  have e1 : B8 R ++ [.int .u8 108] = B8 (R ++ [108]) := by rw [B8_append]; rfl
  have hown2 := HO2.out
  rw [e1, show R.length + 1 = (R ++ [108]).length from by simp] at hown2
  obtain ⟨T, hT⟩ : ∃ T, T = R ++ [108] := ⟨_, rfl⟩
  have hTl : T.length ≤ 257 := by rw [hT, List.length_append]; simp; omega
  rw [← hT] at hown2
  obtain ⟨A2, c2, rfl, _, _⟩ := own_form hown2
  have L2 := Lib.hid (Lies.own hown2 (Nat.le_refl _))
  have HTT := Lib.hid hT
  clear hown2 hT e1
  rw [u64_wrap]
  refine (int_any A2 c2 T _ 8 (u64 n) _ L2.out (Nat.le_refl _) (by omega)).mono ?_
  rintro e w3 ⟨v3, rfl, hown3, hbel3⟩
  rw [show wid 8 = 8 from rfl] at hown3
  rw [HTT.out, HR.out, ← HZ.out] at hown3
  have D : Hid (NewOcts w.heap.size Z w (.returned v3) w3) := Lib.hid ⟨v3, rfl, own_base hown3 (by omega), HB2.out.trans (hbel3.mono (by omega))⟩
  clear hown3 hbel3
  go_wp2_with fail
  go_ret
  exact D.out
set_option maxHeartbeats 400000 in
set_option maxRecDepth 100000 in
theorem row_V (nm s : List UInt8) (n : Int) (t : List Fld) (A : Option Addr) (c : Nat) (w : World) (h1 : nm.length ≤ 255) (Z : List UInt8) (HZ : Hid (Z = be 1 nm.length ++ nm ++ [86] ++ [])) :
    Calls Try.prog 41 #[.agg #[.string ⟨nm.toArray⟩, .int .u8 86, .int .i64 n, .string ⟨s.toArray⟩, .slice A t.length c]] w (NewOcts w.heap.size Z w) := by
  obtain ⟨i0, hi, hz0, hz1, hz2⟩ := info_parts u8_info
  have HI := Lib.hid hi
  have H0 := Lib.hid hz0
  have H1 := Lib.hid hz1
  have H2 := Lib.hid hz2
  have hwn := Whole.new w 54 #[.string ⟨nm.toArray⟩, .int .u8 86, .int .i64 n, .string ⟨s.toArray⟩, .slice A t.length c]
  have hb0 : Below w.heap.size w (w.alloc (.cells #[.string ⟨nm.toArray⟩, .int .u8 86, .int .i64 n, .string ⟨s.toArray⟩, .slice A t.length c] 54)) := (Below.refl _ _).alloc (Nat.le_refl _) _
  have hb1 : Below (w.heap.size + 1) (w.alloc (.cells #[.string ⟨nm.toArray⟩, .int .u8 86, .int .i64 n, .string ⟨s.toArray⟩, .slice A t.length c] 54)) (w.alloc (.cells #[.string ⟨nm.toArray⟩, .int .u8 86, .int .i64 n, .string ⟨s.toArray⟩, .slice A t.length c] 54)) := Below.refl _ _
  have HW := Lib.hid hwn
  have HB := Lib.hid hb0
  have HBB := Lib.hid hb1
  clear hi hz0 hz1 hz2 hwn hb0 hb1
  go_enter Try.func41, Try.ntmps41
  go_wp2_with fail
  refine (short_any none 0 [] 0 ⟨nm.toArray⟩ _ (Lies.empty _ _ _) (Nat.zero_le _) (by simp) h1).mono ?_
  rintro e w1 ⟨v, rfl, hown, hbel⟩
  have hbel' : Below (w.heap.size + 1) _ w1 := hbel.mono (by simp)
  have hB1 := HB.out.trans (hbel'.mono (by omega))
  have hW1 := HW.out.below hbel' (by omega)
  have hown1 : w1.ownsRow (w.heap.size + 1) 5 1 v (be 1 nm.length ++ nm).length (B8 (be 1 nm.length ++ nm)) := by
    have h := own_base hown (b' := w.heap.size + 1) (by simp)
    rw [bsize, List.nil_append] at h
    exact h
  have hsz : w.heap.size + 1 ≤ w1.heap.size := by have := hbel'.size; simpa using this
  have hlen : (be 1 nm.length ++ nm).length ≤ 256 := by rw [List.length_append, be_length]; omega
  obtain ⟨R, hR⟩ : ∃ R, R = be 1 nm.length ++ nm := ⟨_, rfl⟩
  rw [← hR] at hown1 hlen
  have hones : ∀ u ∈ [Value.int .u8 86], u.oneCell' = true := by simp [Value.oneCell']
  have e0 : (w1.alloc (.cells #[.int .u8 86] 5)).heap.size = w1.heap.size + 1 := by simp
  have hbs : w.heap.size + 1 ≤ (w1.alloc (.cells #[.int .u8 86] 5)).heap.size := by rw [e0]; omega
  have hWa := hW1.alloc (.cells #[.int .u8 86] 5)
  have k1 : w1.cell? ⟨w.heap.size, 1, none⟩ = some (.int .u8 86) := hW1.cell 1
  have HO := Lib.hid hown1
  have HB1 := Lib.hid hB1
  have HW1 := Lib.hid hWa
  have HBS := Lib.hid hbs
  have HR := Lib.hid hR
  have HON := Lib.hid hones
  have hs' : R.length + 1 ≤ 140737488355328 := by omega
  clear hown hbel hbel' hB1 hW1 hown1 hWa hbs hR hones e0
  go_wp2_with (at_builtin; refine wpList_append_cells rfl _ _ 22 rfl (w.heap.size + 1) 5 i0 (.int .u8 0) 1 1 Try.underlying22 HI.out H0.out H1.out H2.out rfl (by omega) _ R.length _ rfl (HO.out.alloc _) _ _ 1 1 _ rfl (Lies.one w1 5 _) rfl HON.out (room63 hs') (room1 hs') HBS.out ?_; intro v2 w2 hown2 hbel2; have hW2 := HW1.out.below hbel2 (by omega); have j1 : w2.cell? ⟨w.heap.size, 1, none⟩ = some (.int .u8 86) := hW2.cell 1; have j2 : w2.cell? ⟨w.heap.size, 2, none⟩ = some (.int .i64 n) := hW2.cell 2; have j3 : w2.cell? ⟨w.heap.size, 3, none⟩ = some (.string ⟨s.toArray⟩) := hW2.cell 3; have j4 : w2.cell? ⟨w.heap.size, 4, none⟩ = some (.slice A t.length c) := hW2.cell 4; have HB2 := Lib.hid ((HB1.out.alloc (by omega) _).trans (hbel2.mono (Nat.le_succ _))); have hsz2 : w1.heap.size + 1 ≤ w2.heap.size := (by have := hbel2.size; simpa using this); have HO2 := Lib.hid hown2; clear hown2 hbel2 hW2)
  have hown2 := HO2.out
  have e1 : B8 R ++ [.int .u8 86] = B8 Z := by rw [HZ.out, ← HR.out, List.append_nil, B8_append]; rfl
  rw [e1, show R.length + 1 = Z.length from by rw [HZ.out, ← HR.out]; simp] at hown2
  have D : Hid (NewOcts w.heap.size Z w (.returned v2) w2) := Lib.hid ⟨v2, rfl, own_base hown2 (by omega), HB2.out⟩
  clear hown2 e1
  go_wp2_with fail
  go_ret
  exact D.out
set_option maxHeartbeats 400000 in
set_option maxRecDepth 100000 in
theorem row_S (nm s : List UInt8) (n : Int) (t : List Fld) (A : Option Addr) (c : Nat) (w : World) (h1 : nm.length ≤ 255) (hs : s.length ≤ 70368744177664) (Z : List UInt8) (HZ : Hid (Z = be 1 nm.length ++ nm ++ [83] ++ (be 4 s.length ++ s))) :
    Calls Try.prog 41 #[.agg #[.string ⟨nm.toArray⟩, .int .u8 83, .int .i64 n, .string ⟨s.toArray⟩, .slice A t.length c]] w (NewOcts w.heap.size Z w) := by
  obtain ⟨i0, hi, hz0, hz1, hz2⟩ := info_parts u8_info
  have HI := Lib.hid hi
  have H0 := Lib.hid hz0
  have H1 := Lib.hid hz1
  have H2 := Lib.hid hz2
  have hwn := Whole.new w 54 #[.string ⟨nm.toArray⟩, .int .u8 83, .int .i64 n, .string ⟨s.toArray⟩, .slice A t.length c]
  have hb0 : Below w.heap.size w (w.alloc (.cells #[.string ⟨nm.toArray⟩, .int .u8 83, .int .i64 n, .string ⟨s.toArray⟩, .slice A t.length c] 54)) := (Below.refl _ _).alloc (Nat.le_refl _) _
  have hb1 : Below (w.heap.size + 1) (w.alloc (.cells #[.string ⟨nm.toArray⟩, .int .u8 83, .int .i64 n, .string ⟨s.toArray⟩, .slice A t.length c] 54)) (w.alloc (.cells #[.string ⟨nm.toArray⟩, .int .u8 83, .int .i64 n, .string ⟨s.toArray⟩, .slice A t.length c] 54)) := Below.refl _ _
  have HW := Lib.hid hwn
  have HB := Lib.hid hb0
  have HBB := Lib.hid hb1
  clear hi hz0 hz1 hz2 hwn hb0 hb1
  go_enter Try.func41, Try.ntmps41
  go_wp2_with fail
  refine (short_any none 0 [] 0 ⟨nm.toArray⟩ _ (Lies.empty _ _ _) (Nat.zero_le _) (by simp) h1).mono ?_
  rintro e w1 ⟨v, rfl, hown, hbel⟩
  have hbel' : Below (w.heap.size + 1) _ w1 := hbel.mono (by simp)
  have hB1 := HB.out.trans (hbel'.mono (by omega))
  have hW1 := HW.out.below hbel' (by omega)
  have hown1 : w1.ownsRow (w.heap.size + 1) 5 1 v (be 1 nm.length ++ nm).length (B8 (be 1 nm.length ++ nm)) := by
    have h := own_base hown (b' := w.heap.size + 1) (by simp)
    rw [bsize, List.nil_append] at h
    exact h
  have hsz : w.heap.size + 1 ≤ w1.heap.size := by have := hbel'.size; simpa using this
  have hlen : (be 1 nm.length ++ nm).length ≤ 256 := by rw [List.length_append, be_length]; omega
  obtain ⟨R, hR⟩ : ∃ R, R = be 1 nm.length ++ nm := ⟨_, rfl⟩
  rw [← hR] at hown1 hlen
  have hones : ∀ u ∈ [Value.int .u8 83], u.oneCell' = true := by simp [Value.oneCell']
  have e0 : (w1.alloc (.cells #[.int .u8 83] 5)).heap.size = w1.heap.size + 1 := by simp
  have hbs : w.heap.size + 1 ≤ (w1.alloc (.cells #[.int .u8 83] 5)).heap.size := by rw [e0]; omega
  have hWa := hW1.alloc (.cells #[.int .u8 83] 5)
  have k1 : w1.cell? ⟨w.heap.size, 1, none⟩ = some (.int .u8 83) := hW1.cell 1
  have HO := Lib.hid hown1
  have HB1 := Lib.hid hB1
  have HW1 := Lib.hid hWa
  have HBS := Lib.hid hbs
  have HR := Lib.hid hR
  have HON := Lib.hid hones
  have hs' : R.length + 1 ≤ 140737488355328 := by omega
  clear hown hbel hbel' hB1 hW1 hown1 hWa hbs hR hones e0
  go_wp2_with (at_builtin; refine wpList_append_cells rfl _ _ 22 rfl (w.heap.size + 1) 5 i0 (.int .u8 0) 1 1 Try.underlying22 HI.out H0.out H1.out H2.out rfl (by omega) _ R.length _ rfl (HO.out.alloc _) _ _ 1 1 _ rfl (Lies.one w1 5 _) rfl HON.out (room63 hs') (room1 hs') HBS.out ?_; intro v2 w2 hown2 hbel2; have hW2 := HW1.out.below hbel2 (by omega); have j1 : w2.cell? ⟨w.heap.size, 1, none⟩ = some (.int .u8 83) := hW2.cell 1; have j2 : w2.cell? ⟨w.heap.size, 2, none⟩ = some (.int .i64 n) := hW2.cell 2; have j3 : w2.cell? ⟨w.heap.size, 3, none⟩ = some (.string ⟨s.toArray⟩) := hW2.cell 3; have j4 : w2.cell? ⟨w.heap.size, 4, none⟩ = some (.slice A t.length c) := hW2.cell 4; have HB2 := Lib.hid ((HB1.out.alloc (by omega) _).trans (hbel2.mono (Nat.le_succ _))); have hsz2 : w1.heap.size + 1 ≤ w2.heap.size := (by have := hbel2.size; simpa using this); have HO2 := Lib.hid hown2; clear hown2 hbel2 hW2; have cv := Lib.run_convert_string_bytes (P := Try.prog) w2 9 22 5 ⟨s.toArray⟩ Try.underlying9 Try.underlying22 Try.underlying5; have LS := Lib.hid (bytes_lie w2 5 s); have BS := Lib.hid (bytes_below w2 5 ⟨s.toArray⟩); have HSZ : Hid ((Lib.bytesWorld w2 5 ⟨s.toArray⟩).heap.size = w2.heap.size + 1) := Lib.hid (Lib.bytesWorld_size _ _ _); generalize Lib.bytesWorld w2 5 ⟨s.toArray⟩ = w3 at *; generalize grownCap w2 (ByteArray.size ⟨s.toArray⟩) 0 5 = c3 at *)
  have e1 : B8 R ++ [.int .u8 83] = B8 (R ++ [83]) := by rw [B8_append]; rfl
  have hown2 := HO2.out
  rw [e1, show R.length + 1 = (R ++ [83]).length from by simp] at hown2
  obtain ⟨T, hT⟩ : ∃ T, T = R ++ [83] := ⟨_, rfl⟩
  have hTl : T.length ≤ 257 := by rw [hT, List.length_append]; simp; omega
  rw [← hT] at hown2
  obtain ⟨A2, c2, rfl, _, _⟩ := own_form hown2
  have L2 := Lib.hid (Lies.own hown2 (Nat.le_refl _))
  have HTT := Lib.hid hT
  clear hown2 hT e1
  have HB3 := Lib.hid (HB2.out.trans (BS.out.mono (by omega)))
  have L3 := Lib.hid (L2.out.below BS.out)
  refine (long_any A2 c2 T (w2.heap.size + 1) (some ⟨w2.heap.size, 0, none⟩) c3 s _ (L3.out.more (by omega)) LS.out (by rw [HSZ.out]; omega) (by omega)).mono ?_
  rintro e w4 ⟨v4, rfl, hown4, hbel4⟩
  rw [HTT.out, HR.out, List.append_assoc (be 1 nm.length ++ nm ++ [83]), ← HZ.out] at hown4
  have D : Hid (NewOcts w.heap.size Z w (.returned v4) w4) := Lib.hid ⟨v4, rfl, own_base hown4 (by have := HB3.out.size; omega), HB3.out.trans (hbel4.mono HB3.out.size)⟩
  clear hown4 hbel4
  go_wp2_with fail
  go_ret
  exact D.out
set_option maxHeartbeats 400000 in
set_option maxRecDepth 100000 in
theorem row_F (nm s : List UInt8) (n : Int) (t : List Fld) (A : Option Addr) (c : Nat) (w : World) (h1 : nm.length ≤ 255) (k d B : Nat) (HI2 : Hid (RowsOf 25 k)) (hform : Hid (formedB k t = true)) (htab : Hid (TabAt d w B t A c)) (hB : B ≤ w.heap.size) (hx : Hid ((rowsD k t).length ≤ 70368744177664)) (Z : List UInt8) (HZ : Hid (Z = be 1 nm.length ++ nm ++ [70] ++ (be 4 (rowsD k t).length ++ rowsD k t))) :
    Calls Try.prog 41 #[.agg #[.string ⟨nm.toArray⟩, .int .u8 70, .int .i64 n, .string ⟨s.toArray⟩, .slice A t.length c]] w (NewOcts w.heap.size Z w) := by
  obtain ⟨i0, hi, hz0, hz1, hz2⟩ := info_parts u8_info
  have HI := Lib.hid hi
  have H0 := Lib.hid hz0
  have H1 := Lib.hid hz1
  have H2 := Lib.hid hz2
  have hwn := Whole.new w 54 #[.string ⟨nm.toArray⟩, .int .u8 70, .int .i64 n, .string ⟨s.toArray⟩, .slice A t.length c]
  have hb0 : Below w.heap.size w (w.alloc (.cells #[.string ⟨nm.toArray⟩, .int .u8 70, .int .i64 n, .string ⟨s.toArray⟩, .slice A t.length c] 54)) := (Below.refl _ _).alloc (Nat.le_refl _) _
  have hb1 : Below (w.heap.size + 1) (w.alloc (.cells #[.string ⟨nm.toArray⟩, .int .u8 70, .int .i64 n, .string ⟨s.toArray⟩, .slice A t.length c] 54)) (w.alloc (.cells #[.string ⟨nm.toArray⟩, .int .u8 70, .int .i64 n, .string ⟨s.toArray⟩, .slice A t.length c] 54)) := Below.refl _ _
  have HW := Lib.hid hwn
  have HB := Lib.hid hb0
  have HBB := Lib.hid hb1
  clear hi hz0 hz1 hz2 hwn hb0 hb1
  go_enter Try.func41, Try.ntmps41
  go_wp2_with fail
  refine (short_any none 0 [] 0 ⟨nm.toArray⟩ _ (Lies.empty _ _ _) (Nat.zero_le _) (by simp) h1).mono ?_
  rintro e w1 ⟨v, rfl, hown, hbel⟩
  have hbel' : Below (w.heap.size + 1) _ w1 := hbel.mono (by simp)
  have hB1 := HB.out.trans (hbel'.mono (by omega))
  have hW1 := HW.out.below hbel' (by omega)
  have hown1 : w1.ownsRow (w.heap.size + 1) 5 1 v (be 1 nm.length ++ nm).length (B8 (be 1 nm.length ++ nm)) := by
    have h := own_base hown (b' := w.heap.size + 1) (by simp)
    rw [bsize, List.nil_append] at h
    exact h
  have hsz : w.heap.size + 1 ≤ w1.heap.size := by have := hbel'.size; simpa using this
  have hlen : (be 1 nm.length ++ nm).length ≤ 256 := by rw [List.length_append, be_length]; omega
  obtain ⟨R, hR⟩ : ∃ R, R = be 1 nm.length ++ nm := ⟨_, rfl⟩
  rw [← hR] at hown1 hlen
  have hones : ∀ u ∈ [Value.int .u8 70], u.oneCell' = true := by simp [Value.oneCell']
  have e0 : (w1.alloc (.cells #[.int .u8 70] 5)).heap.size = w1.heap.size + 1 := by simp
  have hbs : w.heap.size + 1 ≤ (w1.alloc (.cells #[.int .u8 70] 5)).heap.size := by rw [e0]; omega
  have hWa := hW1.alloc (.cells #[.int .u8 70] 5)
  have k1 : w1.cell? ⟨w.heap.size, 1, none⟩ = some (.int .u8 70) := hW1.cell 1
  have HO := Lib.hid hown1
  have HB1 := Lib.hid hB1
  have HW1 := Lib.hid hWa
  have HBS := Lib.hid hbs
  have HR := Lib.hid hR
  have HON := Lib.hid hones
  have hs' : R.length + 1 ≤ 140737488355328 := by omega
  clear hown hbel hbel' hB1 hW1 hown1 hWa hbs hR hones e0
  go_wp2_with (at_builtin; refine wpList_append_cells rfl _ _ 22 rfl (w.heap.size + 1) 5 i0 (.int .u8 0) 1 1 Try.underlying22 HI.out H0.out H1.out H2.out rfl (by omega) _ R.length _ rfl (HO.out.alloc _) _ _ 1 1 _ rfl (Lies.one w1 5 _) rfl HON.out (room63 hs') (room1 hs') HBS.out ?_; intro v2 w2 hown2 hbel2; have hW2 := HW1.out.below hbel2 (by omega); have j1 : w2.cell? ⟨w.heap.size, 1, none⟩ = some (.int .u8 70) := hW2.cell 1; have j2 : w2.cell? ⟨w.heap.size, 2, none⟩ = some (.int .i64 n) := hW2.cell 2; have j3 : w2.cell? ⟨w.heap.size, 3, none⟩ = some (.string ⟨s.toArray⟩) := hW2.cell 3; have j4 : w2.cell? ⟨w.heap.size, 4, none⟩ = some (.slice A t.length c) := hW2.cell 4; have HB2 := Lib.hid ((HB1.out.alloc (by omega) _).trans (hbel2.mono (Nat.le_succ _))); have hsz2 : w1.heap.size + 1 ≤ w2.heap.size := (by have := hbel2.size; simpa using this); have HO2 := Lib.hid hown2; clear hown2 hbel2 hW2)
  have e1 : B8 R ++ [.int .u8 70] = B8 (R ++ [70]) := by rw [B8_append]; rfl
  have hown2 := HO2.out
  rw [e1, show R.length + 1 = (R ++ [70]).length from by simp] at hown2
  obtain ⟨T, hT⟩ : ∃ T, T = R ++ [70] := ⟨_, rfl⟩
  have hTl : T.length ≤ 257 := by rw [hT, List.length_append]; simp; omega
  rw [← hT] at hown2
  obtain ⟨A2, c2, rfl, _, _⟩ := own_form hown2
  have L2 := Lib.hid (Lies.own hown2 (Nat.le_refl _))
  have HTT := Lib.hid hT
  clear hown2 hT e1
  refine (HI2.out t A c d B _ hform.out (TabH.below htab.out (HB2.out.mono hB)) (by omega) hx.out).mono ?_
  rintro e w3 ⟨v3, rfl, hown3, hbel3⟩
  obtain ⟨X, hX⟩ : ∃ X, X = rowsD k t := ⟨_, rfl⟩
  have hxl := hx.out
  rw [← hX] at hown3 hxl
  obtain ⟨A3, c3, rfl, _, _⟩ := own_form hown3
  have L3 := Lib.hid (Lies.own hown3 (Nat.le_refl _))
  have L2' := Lib.hid ((L2.out.below hbel3).more hbel3.size)
  have HB3 := Lib.hid (HB2.out.trans (hbel3.mono (by omega)))
  have HX := Lib.hid hX
  have hsz3 := hbel3.size
  clear hown3 hbel3 hX
  go_wp2_with fail
  refine (long_any A2 c2 T w3.heap.size A3 c3 X _ L2'.out L3.out (Nat.le_refl _) (by omega)).mono ?_
  rintro e w4 ⟨v4, rfl, hown4, hbel4⟩
  rw [HTT.out, HR.out, List.append_assoc (be 1 nm.length ++ nm ++ [70]), HX.out, ← HZ.out] at hown4
  have D : Hid (NewOcts w.heap.size Z w (.returned v4) w4) := Lib.hid ⟨v4, rfl, own_base hown4 (by omega), HB3.out.trans (hbel4.mono (by omega))⟩
  clear hown4 hbel4
  go_wp2_with fail
  go_ret
  exact D.out
end Go.Proofs.Ytplijhhjclfhaaa
