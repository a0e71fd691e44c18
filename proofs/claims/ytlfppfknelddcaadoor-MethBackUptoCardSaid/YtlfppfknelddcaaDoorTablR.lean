/- Contracts of package tabl: Ok, and a table's octets. Contracts of package tabl: a table's octets. -/
import Derived.Test.YtlfppfknelddcaaDoorTablF
namespace Go.Proofs.YtlfppfknelddcaaDoor
section
open Go.RowKit
set_option maxRecDepth 100000

theorem ok_any (l : List Fld) (A : Option Addr) (c d B : Nat) (w : World) (ht : TabAt d w B l A c) (hB : B ≤ w.heap.size) :
    Calls Tryd.prog 77 #[.slice A l.length c] w fun e w' => e = .returned (.bool (okB l)) ∧ Below w.heap.size w w' := by
  have HT := Lib.hid ht
  clear ht
  go_enter Tryd.func77, Tryd.ntmps77
  go_wp2_with fail
  refine (fit_any 8 l A c d B 2000 1 w (by omega) (by omega) (by omega) HT.out hB).mono ?_
  rintro e w1 ⟨rfl, hb⟩
  have HB := Lib.hid hb
  rw [fit_ok]
  clear hb
  go_wp2_with fail
  go_ret
  exact ⟨rfl, HB.out⟩

theorem own_base {w : World} {b b' : Nat} {e : TypeId} {size n : Nat} {v : Value} {xs : List Value} (h : w.ownsRow b e size v n xs) (hb : b' ≤ b) : w.ownsRow b' e size v n xs := by
  refine ⟨h.1, ?_⟩
  rcases h.2 with h | ⟨g, cap, cur, hv, hg, rest⟩
  · exact .inl h
  · exact .inr ⟨g, cap, cur, hv, Nat.le_trans hb hg, rest⟩

/-- the octets of a table that may be: what is asked of the walk of a field -/
def RowsOf (N : Nat) (k : Nat) : Prop := ∀ (l : List Fld) (A : Option Addr) (c d B : Nat) (w : World), formedB k l = true → TabAt d w B l A c → B ≤ w.heap.size → (rowsD k l).length ≤ 70368744177664 →
    Calls Tryd.prog N #[.slice A l.length c] w (NewOcts w.heap.size (rowsD k l) w)

theorem bsize (l : List UInt8) : (⟨l.toArray⟩ : ByteArray).size = l.length := rfl
theorem u64_wrap (n : Int) : IntKind.u64.wrap n = ((u64 n : Nat) : Int) := by
  unfold u64
  rw [Int.toNat_of_nonneg (Int.emod_nonneg _ (by decide))]
  simp [IntKind.wrap, IntKind.bits, IntKind.signed]

set_option maxHeartbeats 400000 in
set_option maxRecDepth 100000 in
theorem row_t (nm s : List UInt8) (n : Int) (t : List Fld) (A : Option Addr) (c : Nat) (w : World) (h1 : nm.length ≤ 255) (Z : List UInt8) (HZ : Hid (Z = be 1 nm.length ++ nm ++ [116] ++ be 1 (u64 n))) :
    Calls Tryd.prog 88 #[.agg #[.string ⟨nm.toArray⟩, .int .u8 116, .int .i64 n, .string ⟨s.toArray⟩, .slice A t.length c]] w (NewOcts w.heap.size Z w) := by
  obtain ⟨i0, hi, hz0, hz1, hz2⟩ := info_parts u8_info
  have HI := Lib.hid hi
  have H0 := Lib.hid hz0
  have H1 := Lib.hid hz1
  have H2 := Lib.hid hz2
  have hwn := Whole.new w 50 #[.string ⟨nm.toArray⟩, .int .u8 116, .int .i64 n, .string ⟨s.toArray⟩, .slice A t.length c]
  have hb0 : Below w.heap.size w (w.alloc (.cells #[.string ⟨nm.toArray⟩, .int .u8 116, .int .i64 n, .string ⟨s.toArray⟩, .slice A t.length c] 50)) := (Below.refl _ _).alloc (Nat.le_refl _) _
  have hb1 : Below (w.heap.size + 1) (w.alloc (.cells #[.string ⟨nm.toArray⟩, .int .u8 116, .int .i64 n, .string ⟨s.toArray⟩, .slice A t.length c] 50)) (w.alloc (.cells #[.string ⟨nm.toArray⟩, .int .u8 116, .int .i64 n, .string ⟨s.toArray⟩, .slice A t.length c] 50)) := Below.refl _ _
  have HW := Lib.hid hwn
  have HB := Lib.hid hb0
  have HBB := Lib.hid hb1
  clear hi hz0 hz1 hz2 hwn hb0 hb1
  go_enter Tryd.func88, Tryd.ntmps88
  go_wp2_with fail
  refine (short_any none 0 [] 0 ⟨nm.toArray⟩ _ (Lies.empty _ _ _) (Nat.zero_le _) (by simp) h1).mono ?_
  rintro e w1 ⟨v, rfl, hown, hbel⟩
  have hbel' : Below (w.heap.size + 1) _ w1 := hbel.mono (by simp)
  have hB1 := HB.out.trans (hbel'.mono (by omega))
  have hW1 := HW.out.below hbel' (by omega)
  have hown1 : w1.ownsRow (w.heap.size + 1) 5 1 v (be 1 nm.length ++ nm).length (B8 (be 1 nm.length ++ nm)) := by
    have h := own_base hown (b' := w.heap.size + 1) (by simp)
    rw [bsize, List.nil_append] at h
    exact h
  have hsz : w.heap.size + 1 ≤ w1.heap.size := by have := hbel'.size; simpa using this
  have hlen : (be 1 nm.length ++ nm).length ≤ 256 := by rw [List.length_append, be_length]; omega
  obtain ⟨R, hR⟩ : ∃ R, R = be 1 nm.length ++ nm := ⟨_, rfl⟩
  rw [← hR] at hown1 hlen
  have hones : ∀ u ∈ [Value.int .u8 116], u.oneCell' = true := by simp [Value.oneCell']
  have e0 : (w1.alloc (.cells #[.int .u8 116] 5)).heap.size = w1.heap.size + 1 := by simp
  have hbs : w.heap.size + 1 ≤ (w1.alloc (.cells #[.int .u8 116] 5)).heap.size := by rw [e0]; omega
  have hWa := hW1.alloc (.cells #[.int .u8 116] 5)
  have k1 : w1.cell? ⟨w.heap.size, 1, none⟩ = some (.int .u8 116) := hW1.cell 1
  have HO := Lib.hid hown1
  have HB1 := Lib.hid hB1
  have HW1 := Lib.hid hWa
  have HBS := Lib.hid hbs
  have HR := Lib.hid hR
  have HON := Lib.hid hones
  have hs' : R.length + 1 ≤ 140737488355328 := by omega
  clear hown hbel hbel' hB1 hW1 hown1 hWa hbs hR hones e0
  go_wp2_with (at_builtin; refine wpList_append_cells rfl _ _ 24 rfl (w.heap.size + 1) 5 i0 (.int .u8 0) 1 1 Tryd.underlying24 HI.out H0.out H1.out H2.out rfl (by omega) _ R.length _ rfl (HO.out.alloc _) _ _ 1 1 _ rfl (Lies.one w1 5 _) rfl HON.out (room63 hs') (room1 hs') HBS.out ?_; intro v2 w2 hown2 hbel2; have hW2 := HW1.out.below hbel2 (by omega); have j1 : w2.cell? ⟨w.heap.size, 1, none⟩ = some (.int .u8 116) := hW2.cell 1; have j2 : w2.cell? ⟨w.heap.size, 2, none⟩ = some (.int .i64 n) := hW2.cell 2; have j3 : w2.cell? ⟨w.heap.size, 3, none⟩ = some (.string ⟨s.toArray⟩) := hW2.cell 3; have j4 : w2.cell? ⟨w.heap.size, 4, none⟩ = some (.slice A t.length c) := hW2.cell 4; have HB2 := Lib.hid ((HB1.out.alloc (by omega) _).trans (hbel2.mono (Nat.le_succ _))); have hsz2 : w1.heap.size + 1 ≤ w2.heap.size := (by have := hbel2.size; simpa using this); have HO2 := Lib.hid hown2; clear hown2 hbel2 hW2)
  have e1 : B8 R ++ [.int .u8 116] = B8 (R ++ [116]) := by rw [B8_append]; rfl
  have hown2 := HO2.out
  rw [e1, show R.length + 1 = (R ++ [116]).length from by simp] at hown2
  obtain ⟨T, hT⟩ : ∃ T, T = R ++ [116] := ⟨_, rfl⟩
  have hTl : T.length ≤ 257 := by rw [hT, List.length_append]; simp; omega
  rw [← hT] at hown2
  obtain ⟨A2, c2, rfl, _, _⟩ := own_form hown2
  have L2 := Lib.hid (Lies.own hown2 (Nat.le_refl _))
  have HTT := Lib.hid hT
  clear hown2 hT e1
  rw [u64_wrap]
  refine (int_any A2 c2 T _ 1 (u64 n) _ L2.out (Nat.le_refl _) (by omega)).mono ?_
  rintro e w3 ⟨v3, rfl, hown3, hbel3⟩
  rw [show wid 1 = 1 from rfl] at hown3
  rw [HTT.out, HR.out, ← HZ.out] at hown3
  have D : Hid (NewOcts w.heap.size Z w (.returned v3) w3) := Lib.hid ⟨v3, rfl, own_base hown3 (by omega), HB2.out.trans (hbel3.mono (by omega))⟩
  clear hown3 hbel3
  go_wp2_with fail
  go_ret
  exact D.out
set_option maxHeartbeats 400000 in
set_option maxRecDepth 100000 in
theorem row_I (nm s : List UInt8) (n : Int) (t : List Fld) (A : Option Addr) (c : Nat) (w : World) (h1 : nm.length ≤ 255) (Z : List UInt8) (HZ : Hid (Z = be 1 nm.length ++ nm ++ [73] ++ be 4 (u64 n))) :
    Calls Tryd.prog 88 #[.agg #[.string ⟨nm.toArray⟩, .int .u8 73, .int .i64 n, .string ⟨s.toArray⟩, .slice A t.length c]] w (NewOcts w.heap.size Z w) := by
  obtain ⟨i0, hi, hz0, hz1, hz2⟩ := info_parts u8_info
  have HI := Lib.hid hi
  have H0 := Lib.hid hz0
  have H1 := Lib.hid hz1
  have H2 := Lib.hid hz2
  have hwn := Whole.new w 50 #[.string ⟨nm.toArray⟩, .int .u8 73, .int .i64 n, .string ⟨s.toArray⟩, .slice A t.length c]
  have hb0 : Below w.heap.size w (w.alloc (.cells #[.string ⟨nm.toArray⟩, .int .u8 73, .int .i64 n, .string ⟨s.toArray⟩, .slice A t.length c] 50)) := (Below.refl _ _).alloc (Nat.le_refl _) _
  have hb1 : Below (w.heap.size + 1) (w.alloc (.cells #[.string ⟨nm.toArray⟩, .int .u8 73, .int .i64 n, .string ⟨s.toArray⟩, .slice A t.length c] 50)) (w.alloc (.cells #[.string ⟨nm.toArray⟩, .int .u8 73, .int .i64 n, .string ⟨s.toArray⟩, .slice A t.length c] 50)) := Below.refl _ _
  have HW := Lib.hid hwn
  have HB := Lib.hid hb0
  have HBB := Lib.hid hb1
  clear hi hz0 hz1 hz2 hwn hb0 hb1
  go_enter Tryd.func88, Tryd.ntmps88
  go_wp2_with fail
  refine (short_any none 0 [] 0 ⟨nm.toArray⟩ _ (Lies.empty _ _ _) (Nat.zero_le _) (by simp) h1).mono ?_
  rintro e w1 ⟨v, rfl, hown, hbel⟩
  have hbel' : Below (w.heap.size + 1) _ w1 := hbel.mono (by simp)
  have hB1 := HB.out.trans (hbel'.mono (by omega))
  have hW1 := HW.out.below hbel' (by omega)
  have hown1 : w1.ownsRow (w.heap.size + 1) 5 1 v (be 1 nm.length ++ nm).length (B8 (be 1 nm.length ++ nm)) := by
    have h := own_base hown (b' := w.heap.size + 1) (by simp)
    rw [bsize, List.nil_append] at h
    exact h
  have hsz : w.heap.size + 1 ≤ w1.heap.size := by have := hbel'.size; simpa using this
  have hlen : (be 1 nm.length ++ nm).length ≤ 256 := by rw [List.length_append, be_length]; omega
  obtain ⟨R, hR⟩ : ∃ R, R = be 1 nm.length ++ nm := ⟨_, rfl⟩
  rw [← hR] at hown1 hlen
  have hones : ∀ u ∈ [Value.int .u8 73], u.oneCell' = true := by simp [Value.oneCell']
  have e0 : (w1.alloc (.cells #[.int .u8 73] 5)).heap.size = w1.heap.size + 1 := by simp
  have hbs : w.heap.size + 1 ≤ (w1.alloc (.cells #[.int .u8 73] 5)).heap.size := by rw [e0]; omega
  have hWa := hW1.alloc (.cells #[.int .u8 73] 5)
  have k1 : w1.cell? ⟨w.heap.size, 1, none⟩ = some (.int .u8 73) := hW1.cell 1
  have HO := Lib.hid hown1
  have HB1 := Lib.hid hB1
  have HW1 := Lib.hid hWa
  have HBS := Lib.hid hbs
  have HR := Lib.hid hR
  have HON := Lib.hid hones
  have hs' : R.length + 1 ≤ 140737488355328 := by omega
  clear hown hbel hbel' hB1 hW1 hown1 hWa hbs hR hones e0
  go_wp2_with (at_builtin; refine wpList_append_cells rfl _ _ 24 rfl (w.heap.size + 1) 5 i0 (.int .u8 0) 1 1 Tryd.underlying24 HI.out H0.out H1.out H2.out rfl (by omega) _ R.length _ rfl (HO.out.alloc _) _ _ 1 1 _ rfl (Lies.one w1 5 _) rfl HON.out (room63 hs') (room1 hs') HBS.out ?_; intro v2 w2 hown2 hbel2; have hW2 := HW1.out.below hbel2 (by omega); have j1 : w2.cell? ⟨w.heap.size, 1, none⟩ = some (.int .u8 73) := hW2.cell 1; have j2 : w2.cell? ⟨w.heap.size, 2, none⟩ = some (.int .i64 n) := hW2.cell 2; have j3 : w2.cell? ⟨w.heap.size, 3, none⟩ = some (.string ⟨s.toArray⟩) := hW2.cell 3; have j4 : w2.cell? ⟨w.heap.size, 4, none⟩ = some (.slice A t.length c) := hW2.cell 4; have HB2 := Lib.hid ((HB1.out.alloc (by omega) _).trans (hbel2.mono (Nat.le_succ _))); have hsz2 : w1.heap.size + 1 ≤ w2.heap.size := (by have := hbel2.size; simpa using this); have HO2 := Lib.hid hown2; clear hown2 hbel2 hW2)
  have e1 : B8 R ++ [.int .u8 73] = B8 (R ++ [73]) := by rw [B8_append]; rfl
  have hown2 := HO2.out
  rw [e1, show R.length + 1 = (R ++ [73]).length from by simp] at hown2
  obtain ⟨T, hT⟩ : ∃ T, T = R ++ [73] := ⟨_, rfl⟩
  have hTl : T.length ≤ 257 := by rw [hT, List.length_append]; simp; omega
  rw [← hT] at hown2
  obtain ⟨A2, c2, rfl, _, _⟩ := own_form hown2
  have L2 := Lib.hid (Lies.own hown2 (Nat.le_refl _))
  have HTT := Lib.hid hT
  clear hown2 hT e1
  rw [u64_wrap]
  refine (int_any A2 c2 T _ 4 (u64 n) _ L2.out (Nat.le_refl _) (by omega)).mono ?_
  rintro e w3 ⟨v3, rfl, hown3, hbel3⟩
  rw [show wid 4 = 4 from rfl] at hown3
  rw [HTT.out, HR.out, ← HZ.out] at hown3
  have D : Hid (NewOcts w.heap.size Z w (.returned v3) w3) := Lib.hid ⟨v3, rfl, own_base hown3 (by omega), HB2.out.trans (hbel3.mono (by omega))⟩
  clear hown3 hbel3
  go_wp2_with fail
  go_ret
  exact D.out
set_option maxHeartbeats 400000 in
set_option maxRecDepth 100000 in
theorem row_l (nm s : List UInt8) (n : Int) (t : List Fld) (A : Option Addr) (c : Nat) (w : World) (h1 : nm.length ≤ 255) (Z : List UInt8) (HZ : Hid (Z = be 1 nm.length ++ nm ++ [108] ++ be 8 (u64 n))) :
    Calls Tryd.prog 88 #[.agg #[.string ⟨nm.toArray⟩, .int .u8 108, .int .i64 n, .string ⟨s.toArray⟩, .slice A t.length c]] w (NewOcts w.heap.size Z w) := by
  obtain ⟨i0, hi, hz0, hz1, hz2⟩ := info_parts u8_info
  have HI := Lib.hid hi
  have H0 := Lib.hid hz0
  have H1 := Lib.hid hz1
  have H2 := Lib.hid hz2
  have hwn := Whole.new w 50 #[.string ⟨nm.toArray⟩, .int .u8 108, .int .i64 n, .string ⟨s.toArray⟩, .slice A t.length c]
  have hb0 : Below w.heap.size w (w.alloc (.cells #[.string ⟨nm.toArray⟩, .int .u8 108, .int .i64 n, .string ⟨s.toArray⟩, .slice A t.length c] 50)) := (Below.refl _ _).alloc (Nat.le_refl _) _
  have hb1 : Below (w.heap.size + 1) (w.alloc (.cells #[.string ⟨nm.toArray⟩, .int .u8 108, .int .i64 n, .string ⟨s.toArray⟩, .slice A t.length c] 50)) (w.alloc (.cells #[.string ⟨nm.toArray⟩, .int .u8 108, .int .i64 n, .string ⟨s.toArray⟩, .slice A t.length c] 50)) := Below.refl _ _
  have HW := Lib.hid hwn
  have HB := Lib.hid hb0
  have HBB := Lib.hid hb1
  clear hi hz0 hz1 hz2 hwn hb0 hb1
  go_enter Tryd.func88, Tryd.ntmps88
  go_wp2_with fail
  refine (short_any none 0 [] 0 ⟨nm.toArray⟩ _ (Lies.empty _ _ _) (Nat.zero_le _) (by simp) h1).mono ?_
  rintro e w1 ⟨v, rfl, hown, hbel⟩
  have hbel' : Below (w.heap.size + 1) _ w1 := hbel.mono (by simp)
  have hB1 := HB.out.trans (hbel'.mono (by omega))
  have hW1 := HW.out.below hbel' (by omega)
  have hown1 : w1.ownsRow (w.heap.size + 1) 5 1 v (be 1 nm.length ++ nm).length (B8 (be 1 nm.length ++ nm)) := by
    have h := own_base hown (b' := w.heap.size + 1) (by simp)
    rw [bsize, List.nil_append] at h
    exact h
  have hsz : w.heap.size + 1 ≤ w1.heap.size := by have := hbel'.size; simpa using this
  have hlen : (be 1 nm.length ++ nm).length ≤ 256 := by rw [List.length_append, be_length]; omega
  obtain ⟨R, hR⟩ : ∃ R, R = be 1 nm.length ++ nm := ⟨_, rfl⟩
  rw [← hR] at hown1 hlen
  have hones : ∀ u ∈ [Value.int .u8 108], u.oneCell' = true := by simp [Value.oneCell']
  have e0 : (w1.alloc (.cells #[.int .u8 108] 5)).heap.size = w1.heap.size + 1 := by simp
  have hbs : w.heap.size + 1 ≤ (w1.alloc (.cells #[.int .u8 108] 5)).heap.size := by rw [e0]; omega
  have hWa := hW1.alloc (.cells #[.int .u8 108] 5)
  have k1 : w1.cell? ⟨w.heap.size, 1, none⟩ = some (.int .u8 108) := hW1.cell 1
  have HO := Lib.hid hown1
  have HB1 := Lib.hid hB1
  have HW1 := Lib.hid hWa
  have HBS := Lib.hid hbs
  have HR := Lib.hid hR
  have HON := Lib.hid hones
  have hs' : R.length + 1 ≤ 140737488355328 := by omega
  clear hown hbel hbel' hB1 hW1 hown1 hWa hbs hR hones e0
  go_wp2_with (at_builtin; refine wpList_append_cells rfl _ _ 24 rfl (w.heap.size + 1) 5 i0 (.int .u8 0) 1 1 Tryd.underlying24 HI.out H0.out H1.out H2.out rfl (by omega) _ R.length _ rfl (HO.out.alloc _) _ _ 1 1 _ rfl (Lies.one w1 5 _) rfl HON.out (room63 hs') (room1 hs') HBS.out ?_; intro v2 w2 hown2 hbel2; have hW2 := HW1.out.below hbel2 (by omega); have j1 : w2.cell? ⟨w.heap.size, 1, none⟩ = some (.int .u8 108) := hW2.cell 1; have j2 : w2.cell? ⟨w.heap.size, 2, none⟩ = some (.int .i64 n) := hW2.cell 2; have j3 : w2.cell? ⟨w.heap.size, 3, none⟩ = some (.string ⟨s.toArray⟩) := hW2.cell 3; have j4 : w2.cell? ⟨w.heap.size, 4, none⟩ = some (.slice A t.length c) := hW2.cell 4; have HB2 := Lib.hid ((HB1.out.alloc (by omega) _).trans (hbel2.mono (Nat.le_succ _))); have hsz2 : w1.heap.size + 1 ≤ w2.heap.size := (by have := hbel2.size; simpa using this); have HO2 := Lib.hid hown2; clear hown2 hbel2 hW2)
  have e1 : B8 R ++ [.int .u8 108] = B8 (R ++ [108]) := by rw [B8_append]; rfl
  have hown2 := HO2.out
  rw [e1, show R.length + 1 = (R ++ [108]).length from by simp] at hown2
  obtain ⟨T, hT⟩ : ∃ T, T = R ++ [108] := ⟨_, rfl⟩
  have hTl : T.length ≤ 257 := by rw [hT, List.length_append]; simp; omega
  rw [← hT] at hown2
  obtain ⟨A2, c2, rfl, _, _⟩ := own_form hown2
  have L2 := Lib.hid (Lies.own hown2 (Nat.le_refl _))
  have HTT := Lib.hid hT
  clear hown2 hT e1
  rw [u64_wrap]
  refine (int_any A2 c2 T _ 8 (u64 n) _ L2.out (Nat.le_refl _) (by omega)).mono ?_
  rintro e w3 ⟨v3, rfl, hown3, hbel3⟩
  rw [show wid 8 = 8 from rfl] at hown3
  rw [HTT.out, HR.out, ← HZ.out] at hown3
  have D : Hid (NewOcts w.heap.size Z w (.returned v3) w3) := Lib.hid ⟨v3, rfl, own_base hown3 (by omega), HB2.out.trans (hbel3.mono (by omega))⟩
  clear hown3 hbel3
  go_wp2_with fail
  go_ret
  exact D.out
set_option maxHeartbeats 400000 in
set_option maxRecDepth 100000 in
theorem row_V (nm s : List UInt8) (n : Int) (t : List Fld) (A : Option Addr) (c : Nat) (w : World) (h1 : nm.length ≤ 255) (Z : List UInt8) (HZ : Hid (Z = be 1 nm.length ++ nm ++ [86] ++ [])) :
    Calls Tryd.prog 88 #[.agg #[.string ⟨nm.toArray⟩, .int .u8 86, .int .i64 n, .string ⟨s.toArray⟩, .slice A t.length c]] w (NewOcts w.heap.size Z w) := by
  obtain ⟨i0, hi, hz0, hz1, hz2⟩ := info_parts u8_info
  have HI := Lib.hid hi
  have H0 := Lib.hid hz0
  have H1 := Lib.hid hz1
  have H2 := Lib.hid hz2
  have hwn := Whole.new w 50 #[.string ⟨nm.toArray⟩, .int .u8 86, .int .i64 n, .string ⟨s.toArray⟩, .slice A t.length c]
  have hb0 : Below w.heap.size w (w.alloc (.cells #[.string ⟨nm.toArray⟩, .int .u8 86, .int .i64 n, .string ⟨s.toArray⟩, .slice A t.length c] 50)) := (Below.refl _ _).alloc (Nat.le_refl _) _
  have hb1 : Below (w.heap.size + 1) (w.alloc (.cells #[.string ⟨nm.toArray⟩, .int .u8 86, .int .i64 n, .string ⟨s.toArray⟩, .slice A t.length c] 50)) (w.alloc (.cells #[.string ⟨nm.toArray⟩, .int .u8 86, .int .i64 n, .string ⟨s.toArray⟩, .slice A t.length c] 50)) := Below.refl _ _
  have HW := Lib.hid hwn
  have HB := Lib.hid hb0
  have HBB := Lib.hid hb1
  clear hi hz0 hz1 hz2 hwn hb0 hb1
  go_enter Tryd.func88, Tryd.ntmps88
  go_wp2_with fail
  refine (short_any none 0 [] 0 ⟨nm.toArray⟩ _ (Lies.empty _ _ _) (Nat.zero_le _) (by simp) h1).mono ?_
  rintro e w1 ⟨v, rfl, hown, hbel⟩
  have hbel' : Below (w.heap.size + 1) _ w1 := hbel.mono (by simp)
  have hB1 := HB.out.trans (hbel'.mono (by omega))
  have hW1 := HW.out.below hbel' (by omega)
  have hown1 : w1.ownsRow (w.heap.size + 1) 5 1 v (be 1 nm.length ++ nm).length (B8 (be 1 nm.length ++ nm)) := by
    have h := own_base hown (b' := w.heap.size + 1) (by simp)
    rw [bsize, List.nil_append] at h
    exact h
  have hsz : w.heap.size + 1 ≤ w1.heap.size := by have := hbel'.size; simpa using this
  have hlen : (be 1 nm.length ++ nm).length ≤ 256 := by rw [List.length_append, be_length]; omega
  obtain ⟨R, hR⟩ : ∃ R, R = be 1 nm.length ++ nm := ⟨_, rfl⟩
  rw [← hR] at hown1 hlen
  have hones : ∀ u ∈ [Value.int .u8 86], u.oneCell' = true := by simp [Value.oneCell']
  have e0 : (w1.alloc (.cells #[.int .u8 86] 5)).heap.size = w1.heap.size + 1 := by simp
  have hbs : w.heap.size + 1 ≤ (w1.alloc (.cells #[.int .u8 86] 5)).heap.size := by rw [e0]; omega
  have hWa := hW1.alloc (.cells #[.int .u8 86] 5)
  have k1 : w1.cell? ⟨w.heap.size, 1, none⟩ = some (.int .u8 86) := hW1.cell 1
  have HO := Lib.hid hown1
  have HB1 := Lib.hid hB1
  have HW1 := Lib.hid hWa
  have HBS := Lib.hid hbs
  have HR := Lib.hid hR
  have HON := Lib.hid hones
  have hs' : R.length + 1 ≤ 140737488355328 := by omega
  clear hown hbel hbel' hB1 hW1 hown1 hWa hbs hR hones e0
  go_wp2_with (at_builtin; refine wpList_append_cells rfl _ _ 24 rfl (w.heap.size + 1) 5 i0 (.int .u8 0) 1 1 Tryd.underlying24 HI.out H0.out H1.out H2.out rfl (by omega) _ R.length _ rfl (HO.out.alloc _) _ _ 1 1 _ rfl (Lies.one w1 5 _) rfl HON.out (room63 hs') (room1 hs') HBS.out ?_; intro v2 w2 hown2 hbel2; have hW2 := HW1.out.below hbel2 (by omega); have j1 : w2.cell? ⟨w.heap.size, 1, none⟩ = some (.int .u8 86) := hW2.cell 1; have j2 : w2.cell? ⟨w.heap.size, 2, none⟩ = some (.int .i64 n) := hW2.cell 2; have j3 : w2.cell? ⟨w.heap.size, 3, none⟩ = some (.string ⟨s.toArray⟩) := hW2.cell 3; have j4 : w2.cell? ⟨w.heap.size, 4, none⟩ = some (.slice A t.length c) := hW2.cell 4; have HB2 := Lib.hid ((HB1.out.alloc (by omega) _).trans (hbel2.mono (Nat.le_succ _))); have hsz2 : w1.heap.size + 1 ≤ w2.heap.size := (by have := hbel2.size; simpa using this); have HO2 := Lib.hid hown2; clear hown2 hbel2 hW2)
  have hown2 := HO2.out
  have e1 : B8 R ++ [.int .u8 86] = B8 Z := by rw [HZ.out, ← HR.out, List.append_nil, B8_append]; rfl
  rw [e1, show R.length + 1 = Z.length from by rw [HZ.out, ← HR.out]; simp] at hown2
  have D : Hid (NewOcts w.heap.size Z w (.returned v2) w2) := Lib.hid ⟨v2, rfl, own_base hown2 (by omega), HB2.out⟩
  clear hown2 e1
  go_wp2_with fail
  go_ret
  exact D.out
set_option maxHeartbeats 400000 in
set_option maxRecDepth 100000 in
theorem row_S (nm s : List UInt8) (n : Int) (t : List Fld) (A : Option Addr) (c : Nat) (w : World) (h1 : nm.length ≤ 255) (hs : s.length ≤ 70368744177664) (Z : List UInt8) (HZ : Hid (Z = be 1 nm.length ++ nm ++ [83] ++ (be 4 s.length ++ s))) :
    Calls Tryd.prog 88 #[.agg #[.string ⟨nm.toArray⟩, .int .u8 83, .int .i64 n, .string ⟨s.toArray⟩, .slice A t.length c]] w (NewOcts w.heap.size Z w) := by
  obtain ⟨i0, hi, hz0, hz1, hz2⟩ := info_parts u8_info
  have HI := Lib.hid hi
  have H0 := Lib.hid hz0
  have H1 := Lib.hid hz1
  have H2 := Lib.hid hz2
  have hwn := Whole.new w 50 #[.string ⟨nm.toArray⟩, .int .u8 83, .int .i64 n, .string ⟨s.toArray⟩, .slice A t.length c]
  have hb0 : Below w.heap.size w (w.alloc (.cells #[.string ⟨nm.toArray⟩, .int .u8 83, .int .i64 n, .string ⟨s.toArray⟩, .slice A t.length c] 50)) := (Below.refl _ _).alloc (Nat.le_refl _) _
  have hb1 : Below (w.heap.size + 1) (w.alloc (.cells #[.string ⟨nm.toArray⟩, .int .u8 83, .int .i64 n, .string ⟨s.toArray⟩, .slice A t.length c] 50)) (w.alloc (.cells #[.string ⟨nm.toArray⟩, .int .u8 83, .int .i64 n, .string ⟨s.toArray⟩, .slice A t.length c] 50)) := Below.refl _ _
  have HW := Lib.hid hwn
  have HB := Lib.hid hb0
  have HBB := Lib.hid hb1
  clear hi hz0 hz1 hz2 hwn hb0 hb1
  go_enter Tryd.func88, Tryd.ntmps88
  go_wp2_with fail
  refine (short_any none 0 [] 0 ⟨nm.toArray⟩ _ (Lies.empty _ _ _) (Nat.zero_le _) (by simp) h1).mono ?_
  rintro e w1 ⟨v, rfl, hown, hbel⟩
  have hbel' : Below (w.heap.size + 1) _ w1 := hbel.mono (by simp)
  have hB1 := HB.out.trans (hbel'.mono (by omega))
  have hW1 := HW.out.below hbel' (by omega)
  have hown1 : w1.ownsRow (w.heap.size + 1) 5 1 v (be 1 nm.length ++ nm).length (B8 (be 1 nm.length ++ nm)) := by
    have h := own_base hown (b' := w.heap.size + 1) (by simp)
    rw [bsize, List.nil_append] at h
    exact h
  have hsz : w.heap.size + 1 ≤ w1.heap.size := by have := hbel'.size; simpa using this
  have hlen : (be 1 nm.length ++ nm).length ≤ 256 := by rw [List.length_append, be_length]; omega
  obtain ⟨R, hR⟩ : ∃ R, R = be 1 nm.length ++ nm := ⟨_, rfl⟩
  rw [← hR] at hown1 hlen
  have hones : ∀ u ∈ [Value.int .u8 83], u.oneCell' = true := by simp [Value.oneCell']
  have e0 : (w1.alloc (.cells #[.int .u8 83] 5)).heap.size = w1.heap.size + 1 := by simp
  have hbs : w.heap.size + 1 ≤ (w1.alloc (.cells #[.int .u8 83] 5)).heap.size := by rw [e0]; omega
  have hWa := hW1.alloc (.cells #[.int .u8 83] 5)
  have k1 : w1.cell? ⟨w.heap.size, 1, none⟩ = some (.int .u8 83) := hW1.cell 1
  have HO := Lib.hid hown1
  have HB1 := Lib.hid hB1
  have HW1 := Lib.hid hWa
  have HBS := Lib.hid hbs
  have HR := Lib.hid hR
  have HON := Lib.hid hones
  have hs' : R.length + 1 ≤ 140737488355328 := by omega
  clear hown hbel hbel' hB1 hW1 hown1 hWa hbs hR hones e0
  go_wp2_with (at_builtin; refine wpList_append_cells rfl _ _ 24 rfl (w.heap.size + 1) 5 i0 (.int .u8 0) 1 1 Tryd.underlying24 HI.out H0.out H1.out H2.out rfl (by omega) _ R.length _ rfl (HO.out.alloc _) _ _ 1 1 _ rfl (Lies.one w1 5 _) rfl HON.out (room63 hs') (room1 hs') HBS.out ?_; intro v2 w2 hown2 hbel2; have hW2 := HW1.out.below hbel2 (by omega); have j1 : w2.cell? ⟨w.heap.size, 1, none⟩ = some (.int .u8 83) := hW2.cell 1; have j2 : w2.cell? ⟨w.heap.size, 2, none⟩ = some (.int .i64 n) := hW2.cell 2; have j3 : w2.cell? ⟨w.heap.size, 3, none⟩ = some (.string ⟨s.toArray⟩) := hW2.cell 3; have j4 : w2.cell? ⟨w.heap.size, 4, none⟩ = some (.slice A t.length c) := hW2.cell 4; have HB2 := Lib.hid ((HB1.out.alloc (by omega) _).trans (hbel2.mono (Nat.le_succ _))); have hsz2 : w1.heap.size + 1 ≤ w2.heap.size := (by have := hbel2.size; simpa using this); have HO2 := Lib.hid hown2; clear hown2 hbel2 hW2; have cv := Lib.run_convert_string_bytes (P := Tryd.prog) w2 9 24 5 ⟨s.toArray⟩ Tryd.underlying9 Tryd.underlying24 Tryd.underlying5; have LS := Lib.hid (bytes_lie w2 5 s); have BS := Lib.hid (bytes_below w2 5 ⟨s.toArray⟩); have HSZ : Hid ((Lib.bytesWorld w2 5 ⟨s.toArray⟩).heap.size = w2.heap.size + 1) := Lib.hid (Lib.bytesWorld_size _ _ _); generalize Lib.bytesWorld w2 5 ⟨s.toArray⟩ = w3 at *; generalize grownCap w2 (ByteArray.size ⟨s.toArray⟩) 0 5 = c3 at *)
  have e1 : B8 R ++ [.int .u8 83] = B8 (R ++ [83]) := by rw [B8_append]; rfl
  have hown2 := HO2.out
  rw [e1, show R.length + 1 = (R ++ [83]).length from by simp] at hown2
  obtain ⟨T, hT⟩ : ∃ T, T = R ++ [83] := ⟨_, rfl⟩
  have hTl : T.length ≤ 257 := by rw [hT, List.length_append]; simp; omega
  rw [← hT] at hown2
  obtain ⟨A2, c2, rfl, _, _⟩ := own_form hown2
  have L2 := Lib.hid (Lies.own hown2 (Nat.le_refl _))
  have HTT := Lib.hid hT
  clear hown2 hT e1
  have HB3 := Lib.hid (HB2.out.trans (BS.out.mono (by omega)))
  have L3 := Lib.hid (L2.out.below BS.out)
  refine (long_any A2 c2 T (w2.heap.size + 1) (some ⟨w2.heap.size, 0, none⟩) c3 s _ (L3.out.more (by omega)) LS.out (by rw [HSZ.out]; omega) (by omega)).mono ?_
  rintro e w4 ⟨v4, rfl, hown4, hbel4⟩
  rw [HTT.out, HR.out, List.append_assoc (be 1 nm.length ++ nm ++ [83]), ← HZ.out] at hown4
  have D : Hid (NewOcts w.heap.size Z w (.returned v4) w4) := Lib.hid ⟨v4, rfl, own_base hown4 (by have := HB3.out.size; omega), HB3.out.trans (hbel4.mono HB3.out.size)⟩
  clear hown4 hbel4
  go_wp2_with fail
  go_ret
  exact D.out
set_option maxHeartbeats 400000 in
set_option maxRecDepth 100000 in
theorem row_F (nm s : List UInt8) (n : Int) (t : List Fld) (A : Option Addr) (c : Nat) (w : World) (h1 : nm.length ≤ 255) (k d B : Nat) (HI2 : Hid (RowsOf 78 k)) (hform : Hid (formedB k t = true)) (htab : Hid (TabAt d w B t A c)) (hB : B ≤ w.heap.size) (hx : Hid ((rowsD k t).length ≤ 70368744177664)) (Z : List UInt8) (HZ : Hid (Z = be 1 nm.length ++ nm ++ [70] ++ (be 4 (rowsD k t).length ++ rowsD k t))) :
    Calls Tryd.prog 88 #[.agg #[.string ⟨nm.toArray⟩, .int .u8 70, .int .i64 n, .string ⟨s.toArray⟩, .slice A t.length c]] w (NewOcts w.heap.size Z w) := by
  obtain ⟨i0, hi, hz0, hz1, hz2⟩ := info_parts u8_info
  have HI := Lib.hid hi
  have H0 := Lib.hid hz0
  have H1 := Lib.hid hz1
  have H2 := Lib.hid hz2
  have hwn := Whole.new w 50 #[.string ⟨nm.toArray⟩, .int .u8 70, .int .i64 n, .string ⟨s.toArray⟩, .slice A t.length c]
  have hb0 : Below w.heap.size w (w.alloc (.cells #[.string ⟨nm.toArray⟩, .int .u8 70, .int .i64 n, .string ⟨s.toArray⟩, .slice A t.length c] 50)) := (Below.refl _ _).alloc (Nat.le_refl _) _
  have hb1 : Below (w.heap.size + 1) (w.alloc (.cells #[.string ⟨nm.toArray⟩, .int .u8 70, .int .i64 n, .string ⟨s.toArray⟩, .slice A t.length c] 50)) (w.alloc (.cells #[.string ⟨nm.toArray⟩, .int .u8 70, .int .i64 n, .string ⟨s.toArray⟩, .slice A t.length c] 50)) := Below.refl _ _
  have HW := Lib.hid hwn
  have HB := Lib.hid hb0
  have HBB := Lib.hid hb1
  clear hi hz0 hz1 hz2 hwn hb0 hb1
  go_enter Tryd.func88, Tryd.ntmps88
  go_wp2_with fail
  refine (short_any none 0 [] 0 ⟨nm.toArray⟩ _ (Lies.empty _ _ _) (Nat.zero_le _) (by simp) h1).mono ?_
  rintro e w1 ⟨v, rfl, hown, hbel⟩
  have hbel' : Below (w.heap.size + 1) _ w1 := hbel.mono (by simp)
  have hB1 := HB.out.trans (hbel'.mono (by omega))
  have hW1 := HW.out.below hbel' (by omega)
  have hown1 : w1.ownsRow (w.heap.size + 1) 5 1 v (be 1 nm.length ++ nm).length (B8 (be 1 nm.length ++ nm)) := by
    have h := own_base hown (b' := w.heap.size + 1) (by simp)
    rw [bsize, List.nil_append] at h
    exact h
  have hsz : w.heap.size + 1 ≤ w1.heap.size := by have := hbel'.size; simpa using this
  have hlen : (be 1 nm.length ++ nm).length ≤ 256 := by rw [List.length_append, be_length]; omega
  obtain ⟨R, hR⟩ : ∃ R, R = be 1 nm.length ++ nm := ⟨_, rfl⟩
  rw [← hR] at hown1 hlen
  have hones : ∀ u ∈ [Value.int .u8 70], u.oneCell' = true := by simp [Value.oneCell']
  have e0 : (w1.alloc (.cells #[.int .u8 70] 5)).heap.size = w1.heap.size + 1 := by simp
  have hbs : w.heap.size + 1 ≤ (w1.alloc (.cells #[.int .u8 70] 5)).heap.size := by rw [e0]; omega
  have hWa := hW1.alloc (.cells #[.int .u8 70] 5)
  have k1 : w1.cell? ⟨w.heap.size, 1, none⟩ = some (.int .u8 70) := hW1.cell 1
  have HO := Lib.hid hown1
  have HB1 := Lib.hid hB1
  have HW1 := Lib.hid hWa
  have HBS := Lib.hid hbs
  have HR := Lib.hid hR
  have HON := Lib.hid hones
  have hs' : R.length + 1 ≤ 140737488355328 := by omega
  clear hown hbel hbel' hB1 hW1 hown1 hWa hbs hR hones e0
  go_wp2_with (at_builtin; refine wpList_append_cells rfl _ _ 24 rfl (w.heap.size + 1) 5 i0 (.int .u8 0) 1 1 Tryd.underlying24 HI.out H0.out H1.out H2.out rfl (by omega) _ R.length _ rfl (HO.out.alloc _) _ _ 1 1 _ rfl (Lies.one w1 5 _) rfl HON.out (room63 hs') (room1 hs') HBS.out ?_; intro v2 w2 hown2 hbel2; have hW2 := HW1.out.below hbel2 (by omega); have j1 : w2.cell? ⟨w.heap.size, 1, none⟩ = some (.int .u8 70) := hW2.cell 1; have j2 : w2.cell? ⟨w.heap.size, 2, none⟩ = some (.int .i64 n) := hW2.cell 2; have j3 : w2.cell? ⟨w.heap.size, 3, none⟩ = some (.string ⟨s.toArray⟩) := hW2.cell 3; have j4 : w2.cell? ⟨w.heap.size, 4, none⟩ = some (.slice A t.length c) := hW2.cell 4; have HB2 := Lib.hid ((HB1.out.alloc (by omega) _).trans (hbel2.mono (Nat.le_succ _))); have hsz2 : w1.heap.size + 1 ≤ w2.heap.size := (by have := hbel2.size; simpa using this); have HO2 := Lib.hid hown2; clear hown2 hbel2 hW2)
  have e1 : B8 R ++ [.int .u8 70] = B8 (R ++ [70]) := by rw [B8_append]; rfl
  have hown2 := HO2.out
  rw [e1, show R.length + 1 = (R ++ [70]).length from by simp] at hown2
  obtain ⟨T, hT⟩ : ∃ T, T = R ++ [70] := ⟨_, rfl⟩
  have hTl : T.length ≤ 257 := by rw [hT, List.length_append]; simp; omega
  rw [← hT] at hown2
  obtain ⟨A2, c2, rfl, _, _⟩ := own_form hown2
  have L2 := Lib.hid (Lies.own hown2 (Nat.le_refl _))
  have HTT := Lib.hid hT
  clear hown2 hT e1
  refine (HI2.out t A c d B _ hform.out (TabH.below htab.out (HB2.out.mono hB)) (by omega) hx.out).mono ?_
  rintro e w3 ⟨v3, rfl, hown3, hbel3⟩
  obtain ⟨X, hX⟩ : ∃ X, X = rowsD k t := ⟨_, rfl⟩
  have hxl := hx.out
  rw [← hX] at hown3 hxl
  obtain ⟨A3, c3, rfl, _, _⟩ := own_form hown3
  have L3 := Lib.hid (Lies.own hown3 (Nat.le_refl _))
  have L2' := Lib.hid ((L2.out.below hbel3).more hbel3.size)
  have HB3 := Lib.hid (HB2.out.trans (hbel3.mono (by omega)))
  have HX := Lib.hid hX
  have hsz3 := hbel3.size
  clear hown3 hbel3 hX
  go_wp2_with fail
  refine (long_any A2 c2 T w3.heap.size A3 c3 X _ L2'.out L3.out (Nat.le_refl _) (by omega)).mono ?_
  rintro e w4 ⟨v4, rfl, hown4, hbel4⟩
  rw [HTT.out, HR.out, List.append_assoc (be 1 nm.length ++ nm ++ [70]), HX.out, ← HZ.out] at hown4
  have D : Hid (NewOcts w.heap.size Z w (.returned v4) w4) := Lib.hid ⟨v4, rfl, own_base hown4 (by omega), HB3.out.trans (hbel4.mono (by omega))⟩
  clear hown4 hbel4
  go_wp2_with fail
  go_ret
  exact D.out
end
section
open Go.RowKit
set_option maxRecDepth 100000

theorem may_parts (f : Fld) (h : mayB f = true) : 1 ≤ f.name.length ∧ f.name.length ≤ 128 := by
  unfold mayB at h
  simp only [Bool.and_eq_true, decide_eq_true_eq] at h
  exact h.1
theorem row_any (k : Nat) (HI : RowsOf 78 k) (f : Fld) (A : Option Addr) (c d B : Nat) (w : World) (hf : Held f) (hm : mayB f = true) (hk : f.kind = 70 → formedB k f.t = true) (ht : TabAt d w B f.t A c) (hB : B ≤ w.heap.size)
    (hx : (rowOf (rowsD k) f).length ≤ 70368744177664) : Calls Tryd.prog 88 #[aggF (.slice A f.t.length c) f] w (NewOcts w.heap.size (rowOf (rowsD k) f) w) := by
  have hp := may_parts f hm
  have hl := rowOf_length (rowsD k) f
  have hkk := may_kind f hm
  obtain ⟨nm, kd, n, s, t⟩ := f
  simp only [Fld.name, Fld.kind, Fld.n, Fld.s, Fld.t, sizeN] at hp hk hl hkk hx ht ⊢
  unfold kindB at hkk
  rcases kind_cases kd with hc | hc | hc | hc | hc | hc | hc
  · subst hc
    exact row_t nm s n t A c w (by omega) _ (Lib.hid (by simp [rowOf, tailOf, Fld.name, Fld.kind, Fld.n]))
  · subst hc
    exact row_I nm s n t A c w (by omega) _ (Lib.hid (by simp [rowOf, tailOf, Fld.name, Fld.kind, Fld.n]))
  · subst hc
    exact row_l nm s n t A c w (by omega) _ (Lib.hid (by simp [rowOf, tailOf, Fld.name, Fld.kind, Fld.n]))
  · subst hc
    exact row_S nm s n t A c w (by omega) (by simp [sizeK] at hl; omega) _ (Lib.hid (by simp [rowOf, tailOf, Fld.name, Fld.kind, Fld.s]))
  · subst hc
    exact row_F nm s n t A c w (by omega) k d B (Lib.hid HI) (Lib.hid (hk rfl)) (Lib.hid ht) hB (Lib.hid (by simp at hl; omega)) _ (Lib.hid (by simp [rowOf, tailOf, Fld.name, Fld.kind, Fld.t]))
  · subst hc
    exact row_V nm s n t A c w (by omega) _ (Lib.hid (by simp [rowOf, tailOf, Fld.name, Fld.kind]))
  · obtain ⟨a1, a2, a3, a4, a5, a6⟩ := hc
    simp [a1, a2, a3, a4, a5, a6] at hkk

theorem own_below {w w1 : World} {b : Nat} {e : TypeId} {size n : Nat} {v : Value} {xs : List Value} (h : w.ownsRow b e size v n xs) (hb : Below w.heap.size w w1) : w1.ownsRow b e size v n xs :=
  h.kept (only_below hb none) (by cases hv : v.ownBlock <;> simp)
theorem allB_at {sub : List Fld → Bool} : ∀ (l : List Fld) (seen : List (List UInt8)), allB sub seen l = true → ∀ (i : Nat) (hi : i < l.length), mayB l[i] = true ∧ (l[i].kind = 70 → sub l[i].t = true) := by
  intro l
  induction l with
  | nil => intro seen _ i hi; simp at hi
  | cons f l ih =>
    intro seen h i hi
    obtain ⟨h1, h2, h3⟩ := allB_cons h
    cases i with
    | zero => exact ⟨h1, h2⟩
    | succ i => exact ih _ h3 i (by simpa using hi)
theorem flat_take (g : Fld → List UInt8) (l : List Fld) (j : Nat) (h : j < l.length) : (l.take (j + 1)).flatMap g = (l.take j).flatMap g ++ g l[j] := by
  rw [List.take_succ_eq_append_getElem h, List.flatMap_append]
  simp
theorem flat_len (g : Fld → List UInt8) (l : List Fld) (j : Nat) : ((l.take j).flatMap g).length ≤ (l.flatMap g).length := by
  have h : l.flatMap g = (l.take j).flatMap g ++ (l.drop j).flatMap g := by rw [← List.flatMap_append, List.take_append_drop]
  rw [h, List.length_append]
  omega

set_option maxHeartbeats 1000000 in
set_option maxRecDepth 100000 in
theorem rows_any (k : Nat) : RowsOf 78 k := by
  induction k with
  | zero => intro l A c d B w hf; simp [formedB] at hf
  | succ k ih =>
    intro l A c d B w hform ht hB hx
    have ht1 := TabH.succ _ _ _ _ ht
    obtain ⟨hlc, hcm⟩ := ht.cap
    have hat := allB_at l [] hform
    have hxx : ∀ j, ((l.take j).flatMap (rowOf (rowsD k))).length ≤ 70368744177664 := fun j => Nat.le_trans (flat_len _ l j) hx
    obtain ⟨i0, hi, hz0, hz1, hz2⟩ := info_parts u8_info
    have HI := Lib.hid hi
    have H0 := Lib.hid hz0
    have H1 := Lib.hid hz1
    have H2 := Lib.hid hz2
    have HT := Lib.hid ht1
    have IH := Lib.hid ih
    have HA := Lib.hid hat
    have HX := Lib.hid hxx
    have D : ∀ v wr, wr.ownsRow w.heap.size 5 1 v ((l.take l.length).flatMap (rowOf (rowsD k))).length (B8 ((l.take l.length).flatMap (rowOf (rowsD k)))) → Below w.heap.size w wr → NewOcts w.heap.size (rowsD (k + 1) l) w (.returned v) wr := by
      intro v wr h1 h2
      rw [List.take_length] at h1
      exact ⟨v, rfl, h1, h2⟩
    have HD := Lib.hid D
    obtain ⟨Z, hZ⟩ : ∃ Z, Z = rowsD (k + 1) l := ⟨_, rfl⟩
    rw [← hZ] at HD ⊢
    unfold maxLen at hcm
    clear ht ht1 ih hform hx hat hxx hi hz0 hz1 hz2 D hZ
    go_enter Tryd.func78, Tryd.ntmps78
    go_wp2_with fail
    go_loopw [3, 8] (fun v i wr => ∃ j : Nat, j ≤ l.length ∧ i = .int .i64 j ∧ Below w.heap.size w wr ∧ wr.ownsRow w.heap.size 5 1 v ((l.take j).flatMap (rowOf (rowsD k))).length (B8 ((l.take j).flatMap (rowOf (rowsD k))))) (fun _ i _ => l.length - (intOf i).toNat)
    case atStart => exact ⟨0, Nat.zero_le _, rfl, Below.refl _ _, World.ownsRow_nil _ _ _ _⟩
    case round =>
      obtain ⟨j, hj, rfl, hbel, hown⟩ := hrel
      have HB := Lib.hid hbel
      have HO := Lib.hid hown
      have hsz := hbel.size
      clear hbel hown
      by_cases hlt : j < l.length
      · obtain ⟨b, o, A', c', rfl, hb, hheld, htab, hcell⟩ := (HT.out.below (HB.out.mono hB)).at j hlt
        obtain ⟨hm, hk⟩ := HA.out j hlt
        have hfl := flat_take (rowOf (rowsD k)) l j hlt
        have hx1 := HX.out (j + 1)
        rw [hfl, List.length_append] at hx1
        obtain ⟨f, hf⟩ : ∃ f, f = l[j] := ⟨_, rfl⟩
        obtain ⟨R, hR⟩ : ∃ R, R = (l.take j).flatMap (rowOf (rowsD k)) := ⟨_, rfl⟩
        obtain ⟨S, hS⟩ : ∃ S, S = rowOf (rowsD k) f := ⟨_, rfl⟩
        rw [← hf] at hheld htab hcell hm hk hfl hx1
        rw [← hR] at HO hfl hx1
        rw [← hS] at hfl hx1
        have c0 : wr.cell? ⟨b, o + j * 5, none⟩ = some (.string ⟨f.name.toArray⟩) := hcell 0 _ rfl
        have c1 : wr.cell? ⟨b, o + j * 5 + 1, none⟩ = some (.int .u8 (f.kind.toNat : Int)) := hcell 1 _ rfl
        have c2 : wr.cell? ⟨b, o + j * 5 + 2, none⟩ = some (.int .i64 f.n) := hcell 2 _ rfl
        have c3 : wr.cell? ⟨b, o + j * 5 + 3, none⟩ = some (.string ⟨f.s.toArray⟩) := hcell 3 _ rfl
        have c4 : wr.cell? ⟨b, o + j * 5 + 4, none⟩ = some (.slice A' f.t.length c') := hcell 4 _ rfl
        have hb0 : Below wr.heap.size wr (wr.alloc (.cells #[.string ⟨f.name.toArray⟩, .int .u8 (f.kind.toNat : Int), .int .i64 f.n, .string ⟨f.s.toArray⟩, .slice A' f.t.length c'] 50)) := (Below.refl _ _).alloc (Nat.le_refl _) _
        have HB0 := Lib.hid hb0
        have HE := Lib.hid hheld
        have HTB := Lib.hid htab
        have HM := Lib.hid hm
        have HK := Lib.hid hk
        have HS := Lib.hid hS
        have HFL := Lib.hid hfl
        have hx2 : S.length ≤ 70368744177664 := by omega
        have hft := htab.cap
        unfold maxLen at hft
        clear hcell hb0 hheld htab hm hk hS hfl hf hR
        go_wp2_with fail
        refine (row_any k IH.out f A' c' d B _ HE.out HM.out HK.out (HTB.out.below (HB0.out.mono (by omega))) (by simp; omega) (by rw [← HS.out]; exact hx2)).mono ?_
        rw [← HS.out]
        rintro e w1 ⟨v1, rfl, hown1, hbel1⟩
        obtain ⟨A1, c1', rfl, _, _⟩ := own_form hown1
        have L1 := Lib.hid (Lies.own hown1 (Nat.le_refl _))
        have hb1 := HB0.out.trans (hbel1.mono (by simp))
        have HO1 := Lib.hid (own_below HO.out hb1)
        have HB1 := Lib.hid (HB.out.trans (hb1.mono hsz))
        have hsz1 := HB1.out.size
        have hs' : R.length + S.length ≤ 140737488355328 := by omega
        clear hown1 hbel1 hb1 c0 c1 c2 c3 c4
        go_wp2_with (at_builtin; refine wpList_append_cells rfl _ _ 24 rfl w.heap.size 5 i0 (.int .u8 0) 1 1 Tryd.underlying24 HI.out H0.out H1.out H2.out rfl (by omega) _ R.length _ rfl HO1.out _ A1 S.length c1' (B8 S) rfl L1.out (B8_len1 S) (B8_one S) (room63 hs') (room1 hs') hsz1 ?_; intro v2 w2 hown2 hbel2; have HO2 := Lib.hid hown2; have HB2 := Lib.hid (HB1.out.trans hbel2); clear hown2 hbel2)
        go_roundw
        case rel =>
          refine ⟨j + 1, by omega, by go_num, HB2.out, ?_⟩
          rw [HFL.out, List.length_append, B8_append]
          exact HO2.out
        case measure => simp [intOf]; omega
      · obtain rfl : j = l.length := by omega
        go_wp2_with fail
        go_ret
        exact HD.out _ _ HO.out HB.out
end
end Go.Proofs.YtlfppfknelddcaaDoor
