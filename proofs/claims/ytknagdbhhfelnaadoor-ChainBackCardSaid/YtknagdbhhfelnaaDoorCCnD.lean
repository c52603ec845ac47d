/-
  Package chain: what a page of the right Kind and Number tells. Conditions: a place below 2^32.
-/
import Derived.Test.YtknagdbhhfelnaaDoorCCnC
namespace Go.Proofs.YtknagdbhhfelnaaDoor
open Go.RowKit Go.Maps
set_option maxRecDepth 100000
set_option linter.unusedVariables false

theorem fixedB_all (l : List UInt8) (k : Nat) (h : k = l.length) : fixedB l 0 k = (l, [], 0) := by
  rw [fixedB_ok _ _ (by omega), h, List.take_length, List.drop_length]
set_option maxHeartbeats 4000000 in
theorem ctold_1_one (w : World) (v : Value) (x : List UInt8) (k place : Nat) (hv : Byt w v x) (hk4 : k < 256) (hp : place < 4294967296) (hl : x.length = 4096) (hr : ∀ w0, Byt w0 v x → Calls Tryd.prog 64 #[v] w0 (ReadK w0 x k place)) (len : Nat)  (hnx : nextN x = 1) (hsz : sizeN x = len) (hl2 : len < 65536) :
    Calls Tryd.prog 51 #[v, .int .i64 (k : Int), .int .i64 (place : Int)] w (ToldQ w none) := by
  obtain ⟨w0, hw0⟩ : ∃ w0, w.alloc (.cells #[.int .i64 0, .slice none 0 0] 63) = w0 := ⟨_, rfl⟩
  have hA : LkBox w0 w.heap.size 0 (.slice none 0 0) := hw0 ▸ SBox.new w 63 [.int .i64 0, .slice none 0 0]
  have hb0 : Below w.heap.size w w0 := hw0 ▸ below_new w _
  have HR := Lib.hid (hr w0 (hv.below hb0))
  have HW0 := Lib.hid hw0
  have HA := Lib.hid hA
  have HB0 := Lib.hid hb0
  have HL : Hid ((x.drop 16).length = 4080) := by rw [Hid, List.length_drop, hl]
  have HW4 : Hid (∀ W g, Rdr W g (x.drop 16) 0 → Calls Tryd.prog 66 #[.pointer (some ⟨g, 0, none⟩), .int .i64 4] W (Told W g .u64 1 (x.drop 20) 0)) := fun W g h => by
    have := rword_is W g 0 (x.drop 16) ((4 : Nat) : Int) h (by rw [List.length_drop]; omega)
    rw [wordR_ok _ 4 (by omega) (by rw [List.length_drop]; omega), List.drop_drop] at this
    rw [show wordN ((x.drop 16).take 4) = 1 from hnx] at this
    exact this
  have HW2 : Hid (∀ W g, Rdr W g (x.drop 20) 0 → Calls Tryd.prog 66 #[.pointer (some ⟨g, 0, none⟩), .int .i64 2] W (Told W g .u64 len (x.drop 22) 0)) := fun W g h => by
    have := rword_is W g 0 (x.drop 20) ((2 : Nat) : Int) h (by rw [List.length_drop]; omega)
    rw [wordR_ok _ 2 (by omega) (by rw [List.length_drop]; omega), List.drop_drop] at this
    rw [show wordN ((x.drop 20).take 2) = len from hsz] at this
    exact this
  clear hv hA hw0 hb0 hr hnx hsz
  go_enter Tryd.func51, Tryd.ntmps51
  go_wp2_with fail
  rw [HW0.out]
  refine HR.out.mono ?_
  rintro e w1 ⟨A1, m1, c1, rfl, hown, hb1⟩
  have HA1 : Hid (LkBox w1 w.heap.size 0 (.slice none 0 0)) := HA.out.below hb1
  have HB1 : Hid (Below w.heap.size w w1) := HB0.out.trans (hb1.mono HB0.out.size)
  have HO1 := Lib.hid hown
  clear hown hb1
  go_wp2_with (first
    | (refine wpList_storeS (SBox.new w1 48 [.int .i64 0, .int .u32 0, .slice none 0 0]) pgInfo9 rfl (.tmp 8) (.tmp 17) rfl rfl (ds := [.int .i64 (k : Int), .int .u32 (place : Int), .slice A1 m1 c1]) rfl rfl (one_pg _ _ _ _ _) ?_; intro w3 hs3 hg3 hz3
       have HA3 : Hid (LkBox w3 w.heap.size 0 (.slice none 0 0)) := SBox.grown (SBox.alloc HA1.out _) hg3 (by have := SBox.lt HA1.out; omega)
       have HB3 : Hid (Below w.heap.size w w3) := (HB1.out.alloc HB1.out.size _).grown hg3 (by simp; exact Nat.le_succ_of_le HB1.out.size) (fun j e => by cases e; exact HB1.out.size)
       have HO3 : Hid (Byt w3 (.slice A1 m1 c1) (x.drop 16)) := HO1.out.below ((below_new w1 _).grown hg3 (by simp) (fun j e => by cases e; exact Nat.le_refl _))
       have p0 := SBox.cell hs3 0 _ rfl
       have p1 := SBox.cell hs3 1 _ rfl
       have p2 := SBox.cell hs3 2 _ rfl
       clear hs3 hg3 hz3))
  refine (new_any w3 _ _ HO3.out (by have := HL.out; omega)).mono ?_
  rintro e w4 ⟨g, rfl, hg4, hr4, hb4⟩
  have HGN : Hid (w.heap.size ≠ g) := by have := SBox.lt HA3.out; rw [Hid]; omega
  have HGL : Hid (w.heap.size ≤ g) := by have := SBox.lt HA3.out; rw [Hid]; omega
  have HR4 := Lib.hid hr4
  have HA4 : Hid (LkBox w4 w.heap.size 0 (.slice none 0 0)) := HA3.out.below hb4
  have HB4 : Hid (Below w.heap.size w w4) := HB3.out.trans (hb4.mono HB3.out.size)
  clear hr4 hb4 hg4 p0 p1 p2
  go_wp2_with fail
  refine (HW4.out w4 g HR4.out).mono ?_
  rintro e w5 ⟨rfl, hr5, hg5⟩
  have HR5 := Lib.hid hr5
  have HA5 : Hid (LkBox w5 w.heap.size 0 (.slice none 0 0)) := HA4.out.grown hg5 HGN.out
  have HB5 : Hid (Below w.heap.size w w5) := HB4.out.grown hg5 HB4.out.size (fun j e => by cases e; exact HGL.out)
  clear hr5 hg5
  go_wp2_with fail
  refine (HW2.out w5 g HR5.out).mono ?_
  rintro e w6 ⟨rfl, hr6, hg6⟩
  have HR6 := Lib.hid hr6
  have HA6 : Hid (LkBox w6 w.heap.size 0 (.slice none 0 0)) := HA5.out.grown hg6 HGN.out
  have HB6 : Hid (Below w.heap.size w w6) := HB5.out.grown hg6 HB5.out.size (fun j e => by cases e; exact HGL.out)
  clear hr6 hg6
  go_wp2_with (first
    | (refine wpList_storeS HA6.out lkInfo rfl (.tmp 6) (.tmp 58) rfl rfl (ds := [.int .i64 0, .slice none 0 0]) rfl rfl (one_lk _ _ _ _) ?_; intro wf hsf hgf hzf
       have HBf : Hid (Below w.heap.size w wf) := HB6.out.grown hgf HB6.out.size (fun j e => by cases e; exact Nat.le_refl _)))
  refine ret_s2 hsf lkUnder lkInfo rfl rfl rfl _ rfl ?_
  exact ⟨HBf.out, rfl⟩
set_option maxHeartbeats 4000000 in
theorem ctold_0_len (w : World) (v : Value) (x : List UInt8) (k place : Nat) (hv : Byt w v x) (hk4 : k < 256) (hp : place < 4294967296) (hl : x.length = 4096) (hr : ∀ w0, Byt w0 v x → Calls Tryd.prog 64 #[v] w0 (ReadK w0 x k place)) (len : Nat)  (hnx : nextN x = 0) (hsz : sizeN x = len) (hl2 : len < 65536) (lb : Bool) (hlk : lenOk len place 0 = lb) (hlb : lb = false) :
    Calls Tryd.prog 51 #[v, .int .i64 (k : Int), .int .i64 (place : Int)] w (ToldQ w none) := by
  obtain ⟨w0, hw0⟩ : ∃ w0, w.alloc (.cells #[.int .i64 0, .slice none 0 0] 63) = w0 := ⟨_, rfl⟩
  have hA : LkBox w0 w.heap.size 0 (.slice none 0 0) := hw0 ▸ SBox.new w 63 [.int .i64 0, .slice none 0 0]
  have hb0 : Below w.heap.size w w0 := hw0 ▸ below_new w _
  have HR := Lib.hid (hr w0 (hv.below hb0))
  have HW0 := Lib.hid hw0
  have HA := Lib.hid hA
  have HB0 := Lib.hid hb0
  have HL : Hid ((x.drop 16).length = 4080) := by rw [Hid, List.length_drop, hl]
  have HW4 : Hid (∀ W g, Rdr W g (x.drop 16) 0 → Calls Tryd.prog 66 #[.pointer (some ⟨g, 0, none⟩), .int .i64 4] W (Told W g .u64 0 (x.drop 20) 0)) := fun W g h => by
    have := rword_is W g 0 (x.drop 16) ((4 : Nat) : Int) h (by rw [List.length_drop]; omega)
    rw [wordR_ok _ 4 (by omega) (by rw [List.length_drop]; omega), List.drop_drop] at this
    rw [show wordN ((x.drop 16).take 4) = 0 from hnx] at this
    exact this
  have HW2 : Hid (∀ W g, Rdr W g (x.drop 20) 0 → Calls Tryd.prog 66 #[.pointer (some ⟨g, 0, none⟩), .int .i64 2] W (Told W g .u64 len (x.drop 22) 0)) := fun W g h => by
    have := rword_is W g 0 (x.drop 20) ((2 : Nat) : Int) h (by rw [List.length_drop]; omega)
    rw [wordR_ok _ 2 (by omega) (by rw [List.length_drop]; omega), List.drop_drop] at this
    rw [show wordN ((x.drop 20).take 2) = len from hsz] at this
    exact this
  have HLK : Hid (∀ W, Calls Tryd.prog 67 #[.int .i64 (len : Int), .int .i64 (place : Int), .bool true] W fun e w' => e = .returned (.bool lb) ∧ W = w') := fun W => by
    have := clength_any len place 0 W
    rw [hlk] at this
    exact this
  subst hlb
  clear hv hA hw0 hb0 hr hnx hsz hlk
  go_enter Tryd.func51, Tryd.ntmps51
  go_wp2_with fail
  rw [HW0.out]
  refine HR.out.mono ?_
  rintro e w1 ⟨A1, m1, c1, rfl, hown, hb1⟩
  have HA1 : Hid (LkBox w1 w.heap.size 0 (.slice none 0 0)) := HA.out.below hb1
  have HB1 : Hid (Below w.heap.size w w1) := HB0.out.trans (hb1.mono HB0.out.size)
  have HO1 := Lib.hid hown
  clear hown hb1
  go_wp2_with (first
    | (refine wpList_storeS (SBox.new w1 48 [.int .i64 0, .int .u32 0, .slice none 0 0]) pgInfo9 rfl (.tmp 8) (.tmp 17) rfl rfl (ds := [.int .i64 (k : Int), .int .u32 (place : Int), .slice A1 m1 c1]) rfl rfl (one_pg _ _ _ _ _) ?_; intro w3 hs3 hg3 hz3
       have HA3 : Hid (LkBox w3 w.heap.size 0 (.slice none 0 0)) := SBox.grown (SBox.alloc HA1.out _) hg3 (by have := SBox.lt HA1.out; omega)
       have HB3 : Hid (Below w.heap.size w w3) := (HB1.out.alloc HB1.out.size _).grown hg3 (by simp; exact Nat.le_succ_of_le HB1.out.size) (fun j e => by cases e; exact HB1.out.size)
       have HO3 : Hid (Byt w3 (.slice A1 m1 c1) (x.drop 16)) := HO1.out.below ((below_new w1 _).grown hg3 (by simp) (fun j e => by cases e; exact Nat.le_refl _))
       have p0 := SBox.cell hs3 0 _ rfl
       have p1 := SBox.cell hs3 1 _ rfl
       have p2 := SBox.cell hs3 2 _ rfl
       clear hs3 hg3 hz3))
  refine (new_any w3 _ _ HO3.out (by have := HL.out; omega)).mono ?_
  rintro e w4 ⟨g, rfl, hg4, hr4, hb4⟩
  have HGN : Hid (w.heap.size ≠ g) := by have := SBox.lt HA3.out; rw [Hid]; omega
  have HGL : Hid (w.heap.size ≤ g) := by have := SBox.lt HA3.out; rw [Hid]; omega
  have HR4 := Lib.hid hr4
  have HA4 : Hid (LkBox w4 w.heap.size 0 (.slice none 0 0)) := HA3.out.below hb4
  have HB4 : Hid (Below w.heap.size w w4) := HB3.out.trans (hb4.mono HB3.out.size)
  clear hr4 hb4 hg4 p0 p1 p2
  go_wp2_with fail
  refine (HW4.out w4 g HR4.out).mono ?_
  rintro e w5 ⟨rfl, hr5, hg5⟩
  have HR5 := Lib.hid hr5
  have HA5 : Hid (LkBox w5 w.heap.size 0 (.slice none 0 0)) := HA4.out.grown hg5 HGN.out
  have HB5 : Hid (Below w.heap.size w w5) := HB4.out.grown hg5 HB4.out.size (fun j e => by cases e; exact HGL.out)
  clear hr5 hg5
  go_wp2_with fail
  refine (HW2.out w5 g HR5.out).mono ?_
  rintro e w6 ⟨rfl, hr6, hg6⟩
  have HR6 := Lib.hid hr6
  have HA6 : Hid (LkBox w6 w.heap.size 0 (.slice none 0 0)) := HA5.out.grown hg6 HGN.out
  have HB6 : Hid (Below w.heap.size w w6) := HB5.out.grown hg6 HB5.out.size (fun j e => by cases e; exact HGL.out)
  clear hr6 hg6
  go_wp2_with fail
  refine (HLK.out w6).mono ?_
  rintro e w6' ⟨rfl, rfl⟩
  go_wp2_with (first
    | (refine wpList_storeS HA6.out lkInfo rfl (.tmp 6) (.tmp 58) rfl rfl (ds := [.int .i64 0, .slice none 0 0]) rfl rfl (one_lk _ _ _ _) ?_; intro wf hsf hgf hzf
       have HBf : Hid (Below w.heap.size w wf) := HB6.out.grown hgf HB6.out.size (fun j e => by cases e; exact Nat.le_refl _)))
  refine ret_s2 hsf lkUnder lkInfo rfl rfl rfl _ rfl ?_
  exact ⟨HBf.out, rfl⟩
set_option maxHeartbeats 4000000 in
theorem ctold_n_len (w : World) (v : Value) (x : List UInt8) (k place : Nat) (hv : Byt w v x) (hk4 : k < 256) (hp : place < 4294967296) (hl : x.length = 4096) (hr : ∀ w0, Byt w0 v x → Calls Tryd.prog 64 #[v] w0 (ReadK w0 x k place)) (nx len : Nat) (h2 : 2 ≤ nx) (hn4 : nx < 4294967296) (hnx : nextN x = nx) (hsz : sizeN x = len) (hl2 : len < 65536) (lb : Bool) (hlk : lenOk len place nx = lb) (hlb : lb = false) :
    Calls Tryd.prog 51 #[v, .int .i64 (k : Int), .int .i64 (place : Int)] w (ToldQ w none) := by
  obtain ⟨w0, hw0⟩ : ∃ w0, w.alloc (.cells #[.int .i64 0, .slice none 0 0] 63) = w0 := ⟨_, rfl⟩
  have hA : LkBox w0 w.heap.size 0 (.slice none 0 0) := hw0 ▸ SBox.new w 63 [.int .i64 0, .slice none 0 0]
  have hb0 : Below w.heap.size w w0 := hw0 ▸ below_new w _
  have HR := Lib.hid (hr w0 (hv.below hb0))
  have HW0 := Lib.hid hw0
  have HA := Lib.hid hA
  have HB0 := Lib.hid hb0
  have HL : Hid ((x.drop 16).length = 4080) := by rw [Hid, List.length_drop, hl]
  have HW4 : Hid (∀ W g, Rdr W g (x.drop 16) 0 → Calls Tryd.prog 66 #[.pointer (some ⟨g, 0, none⟩), .int .i64 4] W (Told W g .u64 nx (x.drop 20) 0)) := fun W g h => by
    have := rword_is W g 0 (x.drop 16) ((4 : Nat) : Int) h (by rw [List.length_drop]; omega)
    rw [wordR_ok _ 4 (by omega) (by rw [List.length_drop]; omega), List.drop_drop] at this
    rw [show wordN ((x.drop 16).take 4) = nx from hnx] at this
    exact this
  have HW2 : Hid (∀ W g, Rdr W g (x.drop 20) 0 → Calls Tryd.prog 66 #[.pointer (some ⟨g, 0, none⟩), .int .i64 2] W (Told W g .u64 len (x.drop 22) 0)) := fun W g h => by
    have := rword_is W g 0 (x.drop 20) ((2 : Nat) : Int) h (by rw [List.length_drop]; omega)
    rw [wordR_ok _ 2 (by omega) (by rw [List.length_drop]; omega), List.drop_drop] at this
    rw [show wordN ((x.drop 20).take 2) = len from hsz] at this
    exact this
  have HLK : Hid (∀ W, Calls Tryd.prog 67 #[.int .i64 (len : Int), .int .i64 (place : Int), .bool false] W fun e w' => e = .returned (.bool lb) ∧ W = w') := fun W => by
    have := clength_any len place nx W
    rw [hlk] at this
    rwa [decide_eq_false (show ¬ nx = 0 by omega)] at this
  subst hlb
  have hi2 : ¬ (nx : Int) < 2 := by omega
  have hi0 : ((nx : Int) == 0) = false := by simp; omega
  clear hv hA hw0 hb0 hr hnx hsz hlk
  go_enter Tryd.func51, Tryd.ntmps51
  go_wp2_with fail
  rw [HW0.out]
  refine HR.out.mono ?_
  rintro e w1 ⟨A1, m1, c1, rfl, hown, hb1⟩
  have HA1 : Hid (LkBox w1 w.heap.size 0 (.slice none 0 0)) := HA.out.below hb1
  have HB1 : Hid (Below w.heap.size w w1) := HB0.out.trans (hb1.mono HB0.out.size)
  have HO1 := Lib.hid hown
  clear hown hb1
  go_wp2_with (first
    | (refine wpList_storeS (SBox.new w1 48 [.int .i64 0, .int .u32 0, .slice none 0 0]) pgInfo9 rfl (.tmp 8) (.tmp 17) rfl rfl (ds := [.int .i64 (k : Int), .int .u32 (place : Int), .slice A1 m1 c1]) rfl rfl (one_pg _ _ _ _ _) ?_; intro w3 hs3 hg3 hz3
       have HA3 : Hid (LkBox w3 w.heap.size 0 (.slice none 0 0)) := SBox.grown (SBox.alloc HA1.out _) hg3 (by have := SBox.lt HA1.out; omega)
       have HB3 : Hid (Below w.heap.size w w3) := (HB1.out.alloc HB1.out.size _).grown hg3 (by simp; exact Nat.le_succ_of_le HB1.out.size) (fun j e => by cases e; exact HB1.out.size)
       have HO3 : Hid (Byt w3 (.slice A1 m1 c1) (x.drop 16)) := HO1.out.below ((below_new w1 _).grown hg3 (by simp) (fun j e => by cases e; exact Nat.le_refl _))
       have p0 := SBox.cell hs3 0 _ rfl
       have p1 := SBox.cell hs3 1 _ rfl
       have p2 := SBox.cell hs3 2 _ rfl
       clear hs3 hg3 hz3))
  refine (new_any w3 _ _ HO3.out (by have := HL.out; omega)).mono ?_
  rintro e w4 ⟨g, rfl, hg4, hr4, hb4⟩
  have HGN : Hid (w.heap.size ≠ g) := by have := SBox.lt HA3.out; rw [Hid]; omega
  have HGL : Hid (w.heap.size ≤ g) := by have := SBox.lt HA3.out; rw [Hid]; omega
  have HR4 := Lib.hid hr4
  have HA4 : Hid (LkBox w4 w.heap.size 0 (.slice none 0 0)) := HA3.out.below hb4
  have HB4 : Hid (Below w.heap.size w w4) := HB3.out.trans (hb4.mono HB3.out.size)
  clear hr4 hb4 hg4 p0 p1 p2
  go_wp2_with fail
  refine (HW4.out w4 g HR4.out).mono ?_
  rintro e w5 ⟨rfl, hr5, hg5⟩
  have HR5 := Lib.hid hr5
  have HA5 : Hid (LkBox w5 w.heap.size 0 (.slice none 0 0)) := HA4.out.grown hg5 HGN.out
  have HB5 : Hid (Below w.heap.size w w5) := HB4.out.grown hg5 HB4.out.size (fun j e => by cases e; exact HGL.out)
  clear hr5 hg5
  go_wp2_with fail
  refine (HW2.out w5 g HR5.out).mono ?_
  rintro e w6 ⟨rfl, hr6, hg6⟩
  have HR6 := Lib.hid hr6
  have HA6 : Hid (LkBox w6 w.heap.size 0 (.slice none 0 0)) := HA5.out.grown hg6 HGN.out
  have HB6 : Hid (Below w.heap.size w w6) := HB5.out.grown hg6 HB5.out.size (fun j e => by cases e; exact HGL.out)
  clear hr6 hg6
  go_wp2_with fail
  refine (HLK.out w6).mono ?_
  rintro e w6' ⟨rfl, rfl⟩
  go_wp2_with (first
    | (refine wpList_storeS HA6.out lkInfo rfl (.tmp 6) (.tmp 58) rfl rfl (ds := [.int .i64 0, .slice none 0 0]) rfl rfl (one_lk _ _ _ _) ?_; intro wf hsf hgf hzf
       have HBf : Hid (Below w.heap.size w wf) := HB6.out.grown hgf HB6.out.size (fun j e => by cases e; exact Nat.le_refl _)))
  refine ret_s2 hsf lkUnder lkInfo rfl rfl rfl _ rfl ?_
  exact ⟨HBf.out, rfl⟩
set_option maxHeartbeats 4000000 in
theorem ctold_0_rest (w : World) (v : Value) (x : List UInt8) (k place : Nat) (hv : Byt w v x) (hk4 : k < 256) (hp : place < 4294967296) (hl : x.length = 4096) (hr : ∀ w0, Byt w0 v x → Calls Tryd.prog 64 #[v] w0 (ReadK w0 x k place)) (len : Nat)  (hnx : nextN x = 0) (hsz : sizeN x = len) (hl2 : len < 65536) (lb : Bool) (hlk : lenOk len place 0 = lb) (hlb : lb = true) (hl4 : len ≤ 4074) (trl : List UInt8) (htr : trimR (x.drop (22 + len)) = trl) (htl : trl ≠ []) :
    Calls Tryd.prog 51 #[v, .int .i64 (k : Int), .int .i64 (place : Int)] w (ToldQ w none) := by
  obtain ⟨w0, hw0⟩ : ∃ w0, w.alloc (.cells #[.int .i64 0, .slice none 0 0] 63) = w0 := ⟨_, rfl⟩
  have hA : LkBox w0 w.heap.size 0 (.slice none 0 0) := hw0 ▸ SBox.new w 63 [.int .i64 0, .slice none 0 0]
  have hb0 : Below w.heap.size w w0 := hw0 ▸ below_new w _
  have HR := Lib.hid (hr w0 (hv.below hb0))
  have HW0 := Lib.hid hw0
  have HA := Lib.hid hA
  have HB0 := Lib.hid hb0
  have HL : Hid ((x.drop 16).length = 4080) := by rw [Hid, List.length_drop, hl]
  have HW4 : Hid (∀ W g, Rdr W g (x.drop 16) 0 → Calls Tryd.prog 66 #[.pointer (some ⟨g, 0, none⟩), .int .i64 4] W (Told W g .u64 0 (x.drop 20) 0)) := fun W g h => by
    have := rword_is W g 0 (x.drop 16) ((4 : Nat) : Int) h (by rw [List.length_drop]; omega)
    rw [wordR_ok _ 4 (by omega) (by rw [List.length_drop]; omega), List.drop_drop] at this
    rw [show wordN ((x.drop 16).take 4) = 0 from hnx] at this
    exact this
  have HW2 : Hid (∀ W g, Rdr W g (x.drop 20) 0 → Calls Tryd.prog 66 #[.pointer (some ⟨g, 0, none⟩), .int .i64 2] W (Told W g .u64 len (x.drop 22) 0)) := fun W g h => by
    have := rword_is W g 0 (x.drop 20) ((2 : Nat) : Int) h (by rw [List.length_drop]; omega)
    rw [wordR_ok _ 2 (by omega) (by rw [List.length_drop]; omega), List.drop_drop] at this
    rw [show wordN ((x.drop 20).take 2) = len from hsz] at this
    exact this
  have HLK : Hid (∀ W, Calls Tryd.prog 67 #[.int .i64 (len : Int), .int .i64 (place : Int), .bool true] W fun e w' => e = .returned (.bool lb) ∧ W = w') := fun W => by
    have := clength_any len place 0 W
    rw [hlk] at this
    exact this
  subst hlb
  have HFX : Hid (∀ W g, Rdr W g (x.drop 22) 0 → Calls Tryd.prog 68 #[.pointer (some ⟨g, 0, none⟩), .int .i64 (len : Int)] W (TookO W g ((x.drop 22).take len) (x.drop (22 + len)))) := fun W g h => by
    have := fixed_own W g (x.drop 22) len h (by rw [List.length_drop]; omega) (by rw [List.length_drop]; omega)
    rw [List.drop_drop] at this
    exact this
  have HL3 : Hid ((x.drop (22 + len)).length = 4074 - len) := by rw [Hid, List.length_drop]; omega
  have HF2 : Hid (∀ W g, Rdr W g (x.drop (22 + len)) 0 → Calls Tryd.prog 68 #[.pointer (some ⟨g, 0, none⟩), .int .i64 ((4074 - len : Nat) : Int)] W (Took W g (x.drop (22 + len)) [] 0)) := fun W g h => by
    have := fixed_is W g 0 (x.drop (22 + len)) ((4074 - len : Nat) : Int) h (by rw [List.length_drop]; omega) (by omega)
    rw [Int.toNat_natCast, fixedB_all _ _ (by rw [List.length_drop]; omega)] at this
    exact this
  have HTR := Lib.hid htr
  have HTL : Hid (0 < trl.length) := List.length_pos_iff.2 htl
  clear htr htl
  clear hv hA hw0 hb0 hr hnx hsz hlk
  go_enter Tryd.func51, Tryd.ntmps51
  go_wp2_with fail
  rw [HW0.out]
  refine HR.out.mono ?_
  rintro e w1 ⟨A1, m1, c1, rfl, hown, hb1⟩
  have HA1 : Hid (LkBox w1 w.heap.size 0 (.slice none 0 0)) := HA.out.below hb1
  have HB1 : Hid (Below w.heap.size w w1) := HB0.out.trans (hb1.mono HB0.out.size)
  have HO1 := Lib.hid hown
  clear hown hb1
  go_wp2_with (first
    | (refine wpList_storeS (SBox.new w1 48 [.int .i64 0, .int .u32 0, .slice none 0 0]) pgInfo9 rfl (.tmp 8) (.tmp 17) rfl rfl (ds := [.int .i64 (k : Int), .int .u32 (place : Int), .slice A1 m1 c1]) rfl rfl (one_pg _ _ _ _ _) ?_; intro w3 hs3 hg3 hz3
       have HA3 : Hid (LkBox w3 w.heap.size 0 (.slice none 0 0)) := SBox.grown (SBox.alloc HA1.out _) hg3 (by have := SBox.lt HA1.out; omega)
       have HB3 : Hid (Below w.heap.size w w3) := (HB1.out.alloc HB1.out.size _).grown hg3 (by simp; exact Nat.le_succ_of_le HB1.out.size) (fun j e => by cases e; exact HB1.out.size)
       have HO3 : Hid (Byt w3 (.slice A1 m1 c1) (x.drop 16)) := HO1.out.below ((below_new w1 _).grown hg3 (by simp) (fun j e => by cases e; exact Nat.le_refl _))
       have p0 := SBox.cell hs3 0 _ rfl
       have p1 := SBox.cell hs3 1 _ rfl
       have p2 := SBox.cell hs3 2 _ rfl
       clear hs3 hg3 hz3))
  refine (new_any w3 _ _ HO3.out (by have := HL.out; omega)).mono ?_
  rintro e w4 ⟨g, rfl, hg4, hr4, hb4⟩
  have HGN : Hid (w.heap.size ≠ g) := by have := SBox.lt HA3.out; rw [Hid]; omega
  have HGL : Hid (w.heap.size ≤ g) := by have := SBox.lt HA3.out; rw [Hid]; omega
  have HR4 := Lib.hid hr4
  have HA4 : Hid (LkBox w4 w.heap.size 0 (.slice none 0 0)) := HA3.out.below hb4
  have HB4 : Hid (Below w.heap.size w w4) := HB3.out.trans (hb4.mono HB3.out.size)
  clear hr4 hb4 hg4 p0 p1 p2
  go_wp2_with fail
  refine (HW4.out w4 g HR4.out).mono ?_
  rintro e w5 ⟨rfl, hr5, hg5⟩
  have HR5 := Lib.hid hr5
  have HA5 : Hid (LkBox w5 w.heap.size 0 (.slice none 0 0)) := HA4.out.grown hg5 HGN.out
  have HB5 : Hid (Below w.heap.size w w5) := HB4.out.grown hg5 HB4.out.size (fun j e => by cases e; exact HGL.out)
  clear hr5 hg5
  go_wp2_with fail
  refine (HW2.out w5 g HR5.out).mono ?_
  rintro e w6 ⟨rfl, hr6, hg6⟩
  have HR6 := Lib.hid hr6
  have HA6 : Hid (LkBox w6 w.heap.size 0 (.slice none 0 0)) := HA5.out.grown hg6 HGN.out
  have HB6 : Hid (Below w.heap.size w w6) := HB5.out.grown hg6 HB5.out.size (fun j e => by cases e; exact HGL.out)
  clear hr6 hg6
  go_wp2_with fail
  refine (HLK.out w6).mono ?_
  rintro e w6' ⟨rfl, rfl⟩
  go_wp2_with fail
  refine (HFX.out w6 g HR6.out).mono ?_
  rintro e w7 ⟨v7, rfl, hv7, hr7, hg7⟩
  obtain ⟨A7, m7, c7, rfl, _, _, _⟩ := hv7.byt.form
  have HR7 := Lib.hid hr7
  have HV7 := Lib.hid hv7
  have HA7 : Hid (LkBox w7 w.heap.size 0 (.slice none 0 0)) := HA6.out.grown hg7 HGN.out
  have HB7 : Hid (Below w.heap.size w w7) := HB6.out.grown hg7 HB6.out.size (fun j e => by cases e; exact HGL.out)
  clear hr7 hg7 hv7
  go_wp2_with (first
    | (refine wpList_storeS (SBox.new w7 63 [.int .i64 0, .slice none 0 0]) lkInfo rfl (.tmp 13) (.tmp 63) rfl rfl (ds := [.int .i64 0, .slice A7 m7 c7]) rfl rfl (one_lk _ _ _ _) ?_; intro w9 hs9 hg9 hz9
       have hb9 : Below w7.heap.size w7 w9 := (below_new w7 _).grown hg9 (by simp) (fun j e => by cases e; exact Nat.le_refl _)
       have HB9 : Hid (Below w.heap.size w w9) := HB7.out.trans (hb9.mono HB7.out.size)
       have HA9 := Lib.hid (HA7.out.below hb9)
       have HR9 := Lib.hid (HR7.out.below hb9)
       have HV9 := Lib.hid (HV7.out.keep hb9)
       have HS9 := Lib.hid hs9
       have HG7 : Hid (w7.heap.size ≠ g) := by have := HR7.out.lt; rw [Hid]; omega
       clear hs9 hg9 hz9 hb9))
  refine (left_is w9 g 0 _ HR9.out).mono ?_
  rintro e w9' ⟨rfl, rfl⟩
  rw [HL3.out]
  go_wp2_with fail
  refine (HF2.out w9 g HR9.out).mono ?_
  rintro e w10 ⟨v10, rfl, hv10, hr10, hg10⟩
  obtain ⟨A10, m10, c10, rfl, _, _, _⟩ := hv10.form
  have HV10 := Lib.hid hv10
  have HX10 : Hid (Own w10 w6.heap.size 5 (.slice A7 m7 c7) ((x.drop 22).take len)) := own_other HV9.out hg10 (fun j e => by cases e; obtain ⟨A, c, hh, _⟩ := HR9.out; exact ⟨_, _, _, hh, by decide⟩)
  have HA10 : Hid (LkBox w10 w.heap.size 0 (.slice none 0 0)) := HA9.out.grown hg10 HGN.out
  have HS10 : Hid (SBox w10 w7.heap.size 63 [.int .i64 0, .slice A7 m7 c7]) := SBox.grown HS9.out hg10 HG7.out
  have HB10 : Hid (Below w.heap.size w w10) := HB9.out.grown hg10 HB9.out.size (fun j e => by cases e; exact HGL.out)
  clear hr10 hg10 hv10
  go_wp2_with fail
  refine (trim_any w10 _ _ HV10.out).mono ?_
  rintro e w10' ⟨v11, rfl, hv11, rfl⟩
  obtain ⟨A11, m11, c11, rfl, N11, _, _⟩ := hv11.form
  have N12 : Hid (m11 = trl.length) := by rw [← HTR.out]; exact N11.out
  clear hv11 N11
  have hpos : (0 : Int) < (m11 : Int) := by rw [N12.out]; have := HTL.out; omega
  go_wp2_with (first
    | (refine wpList_storeS HA10.out lkInfo rfl (.tmp 6) (.tmp 71) rfl rfl (ds := [.int .i64 0, .slice none 0 0]) rfl rfl (one_lk _ _ _ _) ?_; intro wf hsf hgf hzf
       have HBf : Hid (Below w.heap.size w wf) := HB10.out.grown hgf HB10.out.size (fun j e => by cases e; exact Nat.le_refl _)))
  refine ret_s2 hsf lkUnder lkInfo rfl rfl rfl _ rfl ?_
  exact ⟨HBf.out, rfl⟩
set_option maxHeartbeats 4000000 in
theorem ctold_n_rest (w : World) (v : Value) (x : List UInt8) (k place : Nat) (hv : Byt w v x) (hk4 : k < 256) (hp : place < 4294967296) (hl : x.length = 4096) (hr : ∀ w0, Byt w0 v x → Calls Tryd.prog 64 #[v] w0 (ReadK w0 x k place)) (nx len : Nat) (h2 : 2 ≤ nx) (hn4 : nx < 4294967296) (hnx : nextN x = nx) (hsz : sizeN x = len) (hl2 : len < 65536) (lb : Bool) (hlk : lenOk len place nx = lb) (hlb : lb = true) (hl4 : len ≤ 4074) (trl : List UInt8) (htr : trimR (x.drop (22 + len)) = trl) (htl : trl ≠ []) :
    Calls Tryd.prog 51 #[v, .int .i64 (k : Int), .int .i64 (place : Int)] w (ToldQ w none) := by
  obtain ⟨w0, hw0⟩ : ∃ w0, w.alloc (.cells #[.int .i64 0, .slice none 0 0] 63) = w0 := ⟨_, rfl⟩
  have hA : LkBox w0 w.heap.size 0 (.slice none 0 0) := hw0 ▸ SBox.new w 63 [.int .i64 0, .slice none 0 0]
  have hb0 : Below w.heap.size w w0 := hw0 ▸ below_new w _
  have HR := Lib.hid (hr w0 (hv.below hb0))
  have HW0 := Lib.hid hw0
  have HA := Lib.hid hA
  have HB0 := Lib.hid hb0
  have HL : Hid ((x.drop 16).length = 4080) := by rw [Hid, List.length_drop, hl]
  have HW4 : Hid (∀ W g, Rdr W g (x.drop 16) 0 → Calls Tryd.prog 66 #[.pointer (some ⟨g, 0, none⟩), .int .i64 4] W (Told W g .u64 nx (x.drop 20) 0)) := fun W g h => by
    have := rword_is W g 0 (x.drop 16) ((4 : Nat) : Int) h (by rw [List.length_drop]; omega)
    rw [wordR_ok _ 4 (by omega) (by rw [List.length_drop]; omega), List.drop_drop] at this
    rw [show wordN ((x.drop 16).take 4) = nx from hnx] at this
    exact this
  have HW2 : Hid (∀ W g, Rdr W g (x.drop 20) 0 → Calls Tryd.prog 66 #[.pointer (some ⟨g, 0, none⟩), .int .i64 2] W (Told W g .u64 len (x.drop 22) 0)) := fun W g h => by
    have := rword_is W g 0 (x.drop 20) ((2 : Nat) : Int) h (by rw [List.length_drop]; omega)
    rw [wordR_ok _ 2 (by omega) (by rw [List.length_drop]; omega), List.drop_drop] at this
    rw [show wordN ((x.drop 20).take 2) = len from hsz] at this
    exact this
  have HLK : Hid (∀ W, Calls Tryd.prog 67 #[.int .i64 (len : Int), .int .i64 (place : Int), .bool false] W fun e w' => e = .returned (.bool lb) ∧ W = w') := fun W => by
    have := clength_any len place nx W
    rw [hlk] at this
    rwa [decide_eq_false (show ¬ nx = 0 by omega)] at this
  subst hlb
  have HFX : Hid (∀ W g, Rdr W g (x.drop 22) 0 → Calls Tryd.prog 68 #[.pointer (some ⟨g, 0, none⟩), .int .i64 (len : Int)] W (TookO W g ((x.drop 22).take len) (x.drop (22 + len)))) := fun W g h => by
    have := fixed_own W g (x.drop 22) len h (by rw [List.length_drop]; omega) (by rw [List.length_drop]; omega)
    rw [List.drop_drop] at this
    exact this
  have HL3 : Hid ((x.drop (22 + len)).length = 4074 - len) := by rw [Hid, List.length_drop]; omega
  have HF2 : Hid (∀ W g, Rdr W g (x.drop (22 + len)) 0 → Calls Tryd.prog 68 #[.pointer (some ⟨g, 0, none⟩), .int .i64 ((4074 - len : Nat) : Int)] W (Took W g (x.drop (22 + len)) [] 0)) := fun W g h => by
    have := fixed_is W g 0 (x.drop (22 + len)) ((4074 - len : Nat) : Int) h (by rw [List.length_drop]; omega) (by omega)
    rw [Int.toNat_natCast, fixedB_all _ _ (by rw [List.length_drop]; omega)] at this
    exact this
  have HTR := Lib.hid htr
  have HTL : Hid (0 < trl.length) := List.length_pos_iff.2 htl
  clear htr htl
  have hi2 : ¬ (nx : Int) < 2 := by omega
  have hi0 : ((nx : Int) == 0) = false := by simp; omega
  clear hv hA hw0 hb0 hr hnx hsz hlk
  go_enter Tryd.func51, Tryd.ntmps51
  go_wp2_with fail
  rw [HW0.out]
  refine HR.out.mono ?_
  rintro e w1 ⟨A1, m1, c1, rfl, hown, hb1⟩
  have HA1 : Hid (LkBox w1 w.heap.size 0 (.slice none 0 0)) := HA.out.below hb1
  have HB1 : Hid (Below w.heap.size w w1) := HB0.out.trans (hb1.mono HB0.out.size)
  have HO1 := Lib.hid hown
  clear hown hb1
  go_wp2_with (first
    | (refine wpList_storeS (SBox.new w1 48 [.int .i64 0, .int .u32 0, .slice none 0 0]) pgInfo9 rfl (.tmp 8) (.tmp 17) rfl rfl (ds := [.int .i64 (k : Int), .int .u32 (place : Int), .slice A1 m1 c1]) rfl rfl (one_pg _ _ _ _ _) ?_; intro w3 hs3 hg3 hz3
       have HA3 : Hid (LkBox w3 w.heap.size 0 (.slice none 0 0)) := SBox.grown (SBox.alloc HA1.out _) hg3 (by have := SBox.lt HA1.out; omega)
       have HB3 : Hid (Below w.heap.size w w3) := (HB1.out.alloc HB1.out.size _).grown hg3 (by simp; exact Nat.le_succ_of_le HB1.out.size) (fun j e => by cases e; exact HB1.out.size)
       have HO3 : Hid (Byt w3 (.slice A1 m1 c1) (x.drop 16)) := HO1.out.below ((below_new w1 _).grown hg3 (by simp) (fun j e => by cases e; exact Nat.le_refl _))
       have p0 := SBox.cell hs3 0 _ rfl
       have p1 := SBox.cell hs3 1 _ rfl
       have p2 := SBox.cell hs3 2 _ rfl
       clear hs3 hg3 hz3))
  refine (new_any w3 _ _ HO3.out (by have := HL.out; omega)).mono ?_
  rintro e w4 ⟨g, rfl, hg4, hr4, hb4⟩
  have HGN : Hid (w.heap.size ≠ g) := by have := SBox.lt HA3.out; rw [Hid]; omega
  have HGL : Hid (w.heap.size ≤ g) := by have := SBox.lt HA3.out; rw [Hid]; omega
  have HR4 := Lib.hid hr4
  have HA4 : Hid (LkBox w4 w.heap.size 0 (.slice none 0 0)) := HA3.out.below hb4
  have HB4 : Hid (Below w.heap.size w w4) := HB3.out.trans (hb4.mono HB3.out.size)
  clear hr4 hb4 hg4 p0 p1 p2
  go_wp2_with fail
  refine (HW4.out w4 g HR4.out).mono ?_
  rintro e w5 ⟨rfl, hr5, hg5⟩
  have HR5 := Lib.hid hr5
  have HA5 : Hid (LkBox w5 w.heap.size 0 (.slice none 0 0)) := HA4.out.grown hg5 HGN.out
  have HB5 : Hid (Below w.heap.size w w5) := HB4.out.grown hg5 HB4.out.size (fun j e => by cases e; exact HGL.out)
  clear hr5 hg5
  go_wp2_with fail
  refine (HW2.out w5 g HR5.out).mono ?_
  rintro e w6 ⟨rfl, hr6, hg6⟩
  have HR6 := Lib.hid hr6
  have HA6 : Hid (LkBox w6 w.heap.size 0 (.slice none 0 0)) := HA5.out.grown hg6 HGN.out
  have HB6 : Hid (Below w.heap.size w w6) := HB5.out.grown hg6 HB5.out.size (fun j e => by cases e; exact HGL.out)
  clear hr6 hg6
  go_wp2_with fail
  refine (HLK.out w6).mono ?_
  rintro e w6' ⟨rfl, rfl⟩
  go_wp2_with fail
  refine (HFX.out w6 g HR6.out).mono ?_
  rintro e w7 ⟨v7, rfl, hv7, hr7, hg7⟩
  obtain ⟨A7, m7, c7, rfl, _, _, _⟩ := hv7.byt.form
  have HR7 := Lib.hid hr7
  have HV7 := Lib.hid hv7
  have HA7 : Hid (LkBox w7 w.heap.size 0 (.slice none 0 0)) := HA6.out.grown hg7 HGN.out
  have HB7 : Hid (Below w.heap.size w w7) := HB6.out.grown hg7 HB6.out.size (fun j e => by cases e; exact HGL.out)
  clear hr7 hg7 hv7
  go_wp2_with (first
    | (refine wpList_storeS (SBox.new w7 63 [.int .i64 0, .slice none 0 0]) lkInfo rfl (.tmp 13) (.tmp 63) rfl rfl (ds := [.int .i64 (nx : Int), .slice A7 m7 c7]) rfl rfl (one_lk _ _ _ _) ?_; intro w9 hs9 hg9 hz9
       have hb9 : Below w7.heap.size w7 w9 := (below_new w7 _).grown hg9 (by simp) (fun j e => by cases e; exact Nat.le_refl _)
       have HB9 : Hid (Below w.heap.size w w9) := HB7.out.trans (hb9.mono HB7.out.size)
       have HA9 := Lib.hid (HA7.out.below hb9)
       have HR9 := Lib.hid (HR7.out.below hb9)
       have HV9 := Lib.hid (HV7.out.keep hb9)
       have HS9 := Lib.hid hs9
       have HG7 : Hid (w7.heap.size ≠ g) := by have := HR7.out.lt; rw [Hid]; omega
       clear hs9 hg9 hz9 hb9))
  refine (left_is w9 g 0 _ HR9.out).mono ?_
  rintro e w9' ⟨rfl, rfl⟩
  rw [HL3.out]
  go_wp2_with fail
  refine (HF2.out w9 g HR9.out).mono ?_
  rintro e w10 ⟨v10, rfl, hv10, hr10, hg10⟩
  obtain ⟨A10, m10, c10, rfl, _, _, _⟩ := hv10.form
  have HV10 := Lib.hid hv10
  have HX10 : Hid (Own w10 w6.heap.size 5 (.slice A7 m7 c7) ((x.drop 22).take len)) := own_other HV9.out hg10 (fun j e => by cases e; obtain ⟨A, c, hh, _⟩ := HR9.out; exact ⟨_, _, _, hh, by decide⟩)
  have HA10 : Hid (LkBox w10 w.heap.size 0 (.slice none 0 0)) := HA9.out.grown hg10 HGN.out
  have HS10 : Hid (SBox w10 w7.heap.size 63 [.int .i64 (nx : Int), .slice A7 m7 c7]) := SBox.grown HS9.out hg10 HG7.out
  have HB10 : Hid (Below w.heap.size w w10) := HB9.out.grown hg10 HB9.out.size (fun j e => by cases e; exact HGL.out)
  clear hr10 hg10 hv10
  go_wp2_with fail
  refine (trim_any w10 _ _ HV10.out).mono ?_
  rintro e w10' ⟨v11, rfl, hv11, rfl⟩
  obtain ⟨A11, m11, c11, rfl, N11, _, _⟩ := hv11.form
  have N12 : Hid (m11 = trl.length) := by rw [← HTR.out]; exact N11.out
  clear hv11 N11
  have hpos : (0 : Int) < (m11 : Int) := by rw [N12.out]; have := HTL.out; omega
  go_wp2_with (first
    | (refine wpList_storeS HA10.out lkInfo rfl (.tmp 6) (.tmp 71) rfl rfl (ds := [.int .i64 0, .slice none 0 0]) rfl rfl (one_lk _ _ _ _) ?_; intro wf hsf hgf hzf
       have HBf : Hid (Below w.heap.size w wf) := HB10.out.grown hgf HB10.out.size (fun j e => by cases e; exact Nat.le_refl _)))
  refine ret_s2 hsf lkUnder lkInfo rfl rfl rfl _ rfl ?_
  exact ⟨HBf.out, rfl⟩
set_option maxHeartbeats 4000000 in
theorem ctold_0_ok (w : World) (v : Value) (x : List UInt8) (k place : Nat) (hv : Byt w v x) (hk4 : k < 256) (hp : place < 4294967296) (hl : x.length = 4096) (hr : ∀ w0, Byt w0 v x → Calls Tryd.prog 64 #[v] w0 (ReadK w0 x k place)) (len : Nat)  (hnx : nextN x = 0) (hsz : sizeN x = len) (hl2 : len < 65536) (lb : Bool) (hlk : lenOk len place 0 = lb) (hlb : lb = true) (hl4 : len ≤ 4074) (trl : List UInt8) (htr : trimR (x.drop (22 + len)) = trl) (htl : trl = []) :
    Calls Tryd.prog 51 #[v, .int .i64 (k : Int), .int .i64 (place : Int)] w (ToldQ w (some (0, (x.drop 22).take len))) := by
  obtain ⟨w0, hw0⟩ : ∃ w0, w.alloc (.cells #[.int .i64 0, .slice none 0 0] 63) = w0 := ⟨_, rfl⟩
  have hA : LkBox w0 w.heap.size 0 (.slice none 0 0) := hw0 ▸ SBox.new w 63 [.int .i64 0, .slice none 0 0]
  have hb0 : Below w.heap.size w w0 := hw0 ▸ below_new w _
  have HR := Lib.hid (hr w0 (hv.below hb0))
  have HW0 := Lib.hid hw0
  have HA := Lib.hid hA
  have HB0 := Lib.hid hb0
  have HL : Hid ((x.drop 16).length = 4080) := by rw [Hid, List.length_drop, hl]
  have HW4 : Hid (∀ W g, Rdr W g (x.drop 16) 0 → Calls Tryd.prog 66 #[.pointer (some ⟨g, 0, none⟩), .int .i64 4] W (Told W g .u64 0 (x.drop 20) 0)) := fun W g h => by
    have := rword_is W g 0 (x.drop 16) ((4 : Nat) : Int) h (by rw [List.length_drop]; omega)
    rw [wordR_ok _ 4 (by omega) (by rw [List.length_drop]; omega), List.drop_drop] at this
    rw [show wordN ((x.drop 16).take 4) = 0 from hnx] at this
    exact this
  have HW2 : Hid (∀ W g, Rdr W g (x.drop 20) 0 → Calls Tryd.prog 66 #[.pointer (some ⟨g, 0, none⟩), .int .i64 2] W (Told W g .u64 len (x.drop 22) 0)) := fun W g h => by
    have := rword_is W g 0 (x.drop 20) ((2 : Nat) : Int) h (by rw [List.length_drop]; omega)
    rw [wordR_ok _ 2 (by omega) (by rw [List.length_drop]; omega), List.drop_drop] at this
    rw [show wordN ((x.drop 20).take 2) = len from hsz] at this
    exact this
  have HLK : Hid (∀ W, Calls Tryd.prog 67 #[.int .i64 (len : Int), .int .i64 (place : Int), .bool true] W fun e w' => e = .returned (.bool lb) ∧ W = w') := fun W => by
    have := clength_any len place 0 W
    rw [hlk] at this
    exact this
  subst hlb
  have HFX : Hid (∀ W g, Rdr W g (x.drop 22) 0 → Calls Tryd.prog 68 #[.pointer (some ⟨g, 0, none⟩), .int .i64 (len : Int)] W (TookO W g ((x.drop 22).take len) (x.drop (22 + len)))) := fun W g h => by
    have := fixed_own W g (x.drop 22) len h (by rw [List.length_drop]; omega) (by rw [List.length_drop]; omega)
    rw [List.drop_drop] at this
    exact this
  have HL3 : Hid ((x.drop (22 + len)).length = 4074 - len) := by rw [Hid, List.length_drop]; omega
  have HF2 : Hid (∀ W g, Rdr W g (x.drop (22 + len)) 0 → Calls Tryd.prog 68 #[.pointer (some ⟨g, 0, none⟩), .int .i64 ((4074 - len : Nat) : Int)] W (Took W g (x.drop (22 + len)) [] 0)) := fun W g h => by
    have := fixed_is W g 0 (x.drop (22 + len)) ((4074 - len : Nat) : Int) h (by rw [List.length_drop]; omega) (by omega)
    rw [Int.toNat_natCast, fixedB_all _ _ (by rw [List.length_drop]; omega)] at this
    exact this
  have HTR := Lib.hid htr
  have HTL : Hid (trl.length = 0) := by rw [Hid, htl]; rfl
  clear htr htl
  clear hv hA hw0 hb0 hr hnx hsz hlk
  go_enter Tryd.func51, Tryd.ntmps51
  go_wp2_with fail
  rw [HW0.out]
  refine HR.out.mono ?_
  rintro e w1 ⟨A1, m1, c1, rfl, hown, hb1⟩
  have HA1 : Hid (LkBox w1 w.heap.size 0 (.slice none 0 0)) := HA.out.below hb1
  have HB1 : Hid (Below w.heap.size w w1) := HB0.out.trans (hb1.mono HB0.out.size)
  have HO1 := Lib.hid hown
  clear hown hb1
  go_wp2_with (first
    | (refine wpList_storeS (SBox.new w1 48 [.int .i64 0, .int .u32 0, .slice none 0 0]) pgInfo9 rfl (.tmp 8) (.tmp 17) rfl rfl (ds := [.int .i64 (k : Int), .int .u32 (place : Int), .slice A1 m1 c1]) rfl rfl (one_pg _ _ _ _ _) ?_; intro w3 hs3 hg3 hz3
       have HA3 : Hid (LkBox w3 w.heap.size 0 (.slice none 0 0)) := SBox.grown (SBox.alloc HA1.out _) hg3 (by have := SBox.lt HA1.out; omega)
       have HB3 : Hid (Below w.heap.size w w3) := (HB1.out.alloc HB1.out.size _).grown hg3 (by simp; exact Nat.le_succ_of_le HB1.out.size) (fun j e => by cases e; exact HB1.out.size)
       have HO3 : Hid (Byt w3 (.slice A1 m1 c1) (x.drop 16)) := HO1.out.below ((below_new w1 _).grown hg3 (by simp) (fun j e => by cases e; exact Nat.le_refl _))
       have p0 := SBox.cell hs3 0 _ rfl
       have p1 := SBox.cell hs3 1 _ rfl
       have p2 := SBox.cell hs3 2 _ rfl
       clear hs3 hg3 hz3))
  refine (new_any w3 _ _ HO3.out (by have := HL.out; omega)).mono ?_
  rintro e w4 ⟨g, rfl, hg4, hr4, hb4⟩
  have HGN : Hid (w.heap.size ≠ g) := by have := SBox.lt HA3.out; rw [Hid]; omega
  have HGL : Hid (w.heap.size ≤ g) := by have := SBox.lt HA3.out; rw [Hid]; omega
  have HR4 := Lib.hid hr4
  have HA4 : Hid (LkBox w4 w.heap.size 0 (.slice none 0 0)) := HA3.out.below hb4
  have HB4 : Hid (Below w.heap.size w w4) := HB3.out.trans (hb4.mono HB3.out.size)
  clear hr4 hb4 hg4 p0 p1 p2
  go_wp2_with fail
  refine (HW4.out w4 g HR4.out).mono ?_
  rintro e w5 ⟨rfl, hr5, hg5⟩
  have HR5 := Lib.hid hr5
  have HA5 : Hid (LkBox w5 w.heap.size 0 (.slice none 0 0)) := HA4.out.grown hg5 HGN.out
  have HB5 : Hid (Below w.heap.size w w5) := HB4.out.grown hg5 HB4.out.size (fun j e => by cases e; exact HGL.out)
  clear hr5 hg5
  go_wp2_with fail
  refine (HW2.out w5 g HR5.out).mono ?_
  rintro e w6 ⟨rfl, hr6, hg6⟩
  have HR6 := Lib.hid hr6
  have HA6 : Hid (LkBox w6 w.heap.size 0 (.slice none 0 0)) := HA5.out.grown hg6 HGN.out
  have HB6 : Hid (Below w.heap.size w w6) := HB5.out.grown hg6 HB5.out.size (fun j e => by cases e; exact HGL.out)
  clear hr6 hg6
  go_wp2_with fail
  refine (HLK.out w6).mono ?_
  rintro e w6' ⟨rfl, rfl⟩
  go_wp2_with fail
  refine (HFX.out w6 g HR6.out).mono ?_
  rintro e w7 ⟨v7, rfl, hv7, hr7, hg7⟩
  obtain ⟨A7, m7, c7, rfl, _, _, _⟩ := hv7.byt.form
  have HR7 := Lib.hid hr7
  have HV7 := Lib.hid hv7
  have HA7 : Hid (LkBox w7 w.heap.size 0 (.slice none 0 0)) := HA6.out.grown hg7 HGN.out
  have HB7 : Hid (Below w.heap.size w w7) := HB6.out.grown hg7 HB6.out.size (fun j e => by cases e; exact HGL.out)
  clear hr7 hg7 hv7
  go_wp2_with (first
    | (refine wpList_storeS (SBox.new w7 63 [.int .i64 0, .slice none 0 0]) lkInfo rfl (.tmp 13) (.tmp 63) rfl rfl (ds := [.int .i64 0, .slice A7 m7 c7]) rfl rfl (one_lk _ _ _ _) ?_; intro w9 hs9 hg9 hz9
       have hb9 : Below w7.heap.size w7 w9 := (below_new w7 _).grown hg9 (by simp) (fun j e => by cases e; exact Nat.le_refl _)
       have HB9 : Hid (Below w.heap.size w w9) := HB7.out.trans (hb9.mono HB7.out.size)
       have HA9 := Lib.hid (HA7.out.below hb9)
       have HR9 := Lib.hid (HR7.out.below hb9)
       have HV9 := Lib.hid (HV7.out.keep hb9)
       have HS9 := Lib.hid hs9
       have HG7 : Hid (w7.heap.size ≠ g) := by have := HR7.out.lt; rw [Hid]; omega
       clear hs9 hg9 hz9 hb9))
  refine (left_is w9 g 0 _ HR9.out).mono ?_
  rintro e w9' ⟨rfl, rfl⟩
  rw [HL3.out]
  go_wp2_with fail
  refine (HF2.out w9 g HR9.out).mono ?_
  rintro e w10 ⟨v10, rfl, hv10, hr10, hg10⟩
  obtain ⟨A10, m10, c10, rfl, _, _, _⟩ := hv10.form
  have HV10 := Lib.hid hv10
  have HX10 : Hid (Own w10 w6.heap.size 5 (.slice A7 m7 c7) ((x.drop 22).take len)) := own_other HV9.out hg10 (fun j e => by cases e; obtain ⟨A, c, hh, _⟩ := HR9.out; exact ⟨_, _, _, hh, by decide⟩)
  have HA10 : Hid (LkBox w10 w.heap.size 0 (.slice none 0 0)) := HA9.out.grown hg10 HGN.out
  have HS10 : Hid (SBox w10 w7.heap.size 63 [.int .i64 0, .slice A7 m7 c7]) := SBox.grown HS9.out hg10 HG7.out
  have HB10 : Hid (Below w.heap.size w w10) := HB9.out.grown hg10 HB9.out.size (fun j e => by cases e; exact HGL.out)
  clear hr10 hg10 hv10
  go_wp2_with fail
  refine (trim_any w10 _ _ HV10.out).mono ?_
  rintro e w10' ⟨v11, rfl, hv11, rfl⟩
  obtain ⟨A11, m11, c11, rfl, N11, _, _⟩ := hv11.form
  have N12 : Hid (m11 = trl.length) := by rw [← HTR.out]; exact N11.out
  clear hv11 N11
  have h0 : m11 = 0 := by rw [N12.out, HTL.out]
  subst h0
  go_wp2_with (first
    | (refine wpList_loadS HS10.out lkUnder lkInfo rfl (.tmp 13) rfl rfl ?_)
    | (refine wpList_storeS HA10.out lkInfo rfl (.tmp 6) (.tmp 72) rfl rfl (ds := [.int .i64 0, .slice A7 m7 c7]) rfl rfl (one_lk _ _ _ _) ?_; intro wf hsf hgf hzf
       have HBf : Hid (Below w.heap.size w wf) := HB10.out.grown hgf HB10.out.size (fun j e => by cases e; exact Nat.le_refl _)
       have HXf : Hid (Own wf w.heap.size 5 (.slice A7 m7 c7) ((x.drop 22).take len)) := (own_other HX10.out hgf (fun j e => by cases e; exact ⟨_, _, _, HA10.out, by decide⟩)).lower HB6.out.size))
  refine ret_s2 hsf lkUnder lkInfo rfl rfl rfl _ rfl ?_
  exact ⟨HBf.out, _, rfl, HXf.out⟩
set_option maxHeartbeats 4000000 in
theorem ctold_n_ok (w : World) (v : Value) (x : List UInt8) (k place : Nat) (hv : Byt w v x) (hk4 : k < 256) (hp : place < 4294967296) (hl : x.length = 4096) (hr : ∀ w0, Byt w0 v x → Calls Tryd.prog 64 #[v] w0 (ReadK w0 x k place)) (nx len : Nat) (h2 : 2 ≤ nx) (hn4 : nx < 4294967296) (hnx : nextN x = nx) (hsz : sizeN x = len) (hl2 : len < 65536) (lb : Bool) (hlk : lenOk len place nx = lb) (hlb : lb = true) (hl4 : len ≤ 4074) (trl : List UInt8) (htr : trimR (x.drop (22 + len)) = trl) (htl : trl = []) :
    Calls Tryd.prog 51 #[v, .int .i64 (k : Int), .int .i64 (place : Int)] w (ToldQ w (some (nx, (x.drop 22).take len))) := by
  obtain ⟨w0, hw0⟩ : ∃ w0, w.alloc (.cells #[.int .i64 0, .slice none 0 0] 63) = w0 := ⟨_, rfl⟩
  have hA : LkBox w0 w.heap.size 0 (.slice none 0 0) := hw0 ▸ SBox.new w 63 [.int .i64 0, .slice none 0 0]
  have hb0 : Below w.heap.size w w0 := hw0 ▸ below_new w _
  have HR := Lib.hid (hr w0 (hv.below hb0))
  have HW0 := Lib.hid hw0
  have HA := Lib.hid hA
  have HB0 := Lib.hid hb0
  have HL : Hid ((x.drop 16).length = 4080) := by rw [Hid, List.length_drop, hl]
  have HW4 : Hid (∀ W g, Rdr W g (x.drop 16) 0 → Calls Tryd.prog 66 #[.pointer (some ⟨g, 0, none⟩), .int .i64 4] W (Told W g .u64 nx (x.drop 20) 0)) := fun W g h => by
    have := rword_is W g 0 (x.drop 16) ((4 : Nat) : Int) h (by rw [List.length_drop]; omega)
    rw [wordR_ok _ 4 (by omega) (by rw [List.length_drop]; omega), List.drop_drop] at this
    rw [show wordN ((x.drop 16).take 4) = nx from hnx] at this
    exact this
  have HW2 : Hid (∀ W g, Rdr W g (x.drop 20) 0 → Calls Tryd.prog 66 #[.pointer (some ⟨g, 0, none⟩), .int .i64 2] W (Told W g .u64 len (x.drop 22) 0)) := fun W g h => by
    have := rword_is W g 0 (x.drop 20) ((2 : Nat) : Int) h (by rw [List.length_drop]; omega)
    rw [wordR_ok _ 2 (by omega) (by rw [List.length_drop]; omega), List.drop_drop] at this
    rw [show wordN ((x.drop 20).take 2) = len from hsz] at this
    exact this
  have HLK : Hid (∀ W, Calls Tryd.prog 67 #[.int .i64 (len : Int), .int .i64 (place : Int), .bool false] W fun e w' => e = .returned (.bool lb) ∧ W = w') := fun W => by
    have := clength_any len place nx W
    rw [hlk] at this
    rwa [decide_eq_false (show ¬ nx = 0 by omega)] at this
  subst hlb
  have HFX : Hid (∀ W g, Rdr W g (x.drop 22) 0 → Calls Tryd.prog 68 #[.pointer (some ⟨g, 0, none⟩), .int .i64 (len : Int)] W (TookO W g ((x.drop 22).take len) (x.drop (22 + len)))) := fun W g h => by
    have := fixed_own W g (x.drop 22) len h (by rw [List.length_drop]; omega) (by rw [List.length_drop]; omega)
    rw [List.drop_drop] at this
    exact this
  have HL3 : Hid ((x.drop (22 + len)).length = 4074 - len) := by rw [Hid, List.length_drop]; omega
  have HF2 : Hid (∀ W g, Rdr W g (x.drop (22 + len)) 0 → Calls Tryd.prog 68 #[.pointer (some ⟨g, 0, none⟩), .int .i64 ((4074 - len : Nat) : Int)] W (Took W g (x.drop (22 + len)) [] 0)) := fun W g h => by
    have := fixed_is W g 0 (x.drop (22 + len)) ((4074 - len : Nat) : Int) h (by rw [List.length_drop]; omega) (by omega)
    rw [Int.toNat_natCast, fixedB_all _ _ (by rw [List.length_drop]; omega)] at this
    exact this
  have HTR := Lib.hid htr
  have HTL : Hid (trl.length = 0) := by rw [Hid, htl]; rfl
  clear htr htl
  have hi2 : ¬ (nx : Int) < 2 := by omega
  have hi0 : ((nx : Int) == 0) = false := by simp; omega
  clear hv hA hw0 hb0 hr hnx hsz hlk
  go_enter Tryd.func51, Tryd.ntmps51
  go_wp2_with fail
  rw [HW0.out]
  refine HR.out.mono ?_
  rintro e w1 ⟨A1, m1, c1, rfl, hown, hb1⟩
  have HA1 : Hid (LkBox w1 w.heap.size 0 (.slice none 0 0)) := HA.out.below hb1
  have HB1 : Hid (Below w.heap.size w w1) := HB0.out.trans (hb1.mono HB0.out.size)
  have HO1 := Lib.hid hown
  clear hown hb1
  go_wp2_with (first
    | (refine wpList_storeS (SBox.new w1 48 [.int .i64 0, .int .u32 0, .slice none 0 0]) pgInfo9 rfl (.tmp 8) (.tmp 17) rfl rfl (ds := [.int .i64 (k : Int), .int .u32 (place : Int), .slice A1 m1 c1]) rfl rfl (one_pg _ _ _ _ _) ?_; intro w3 hs3 hg3 hz3
       have HA3 : Hid (LkBox w3 w.heap.size 0 (.slice none 0 0)) := SBox.grown (SBox.alloc HA1.out _) hg3 (by have := SBox.lt HA1.out; omega)
       have HB3 : Hid (Below w.heap.size w w3) := (HB1.out.alloc HB1.out.size _).grown hg3 (by simp; exact Nat.le_succ_of_le HB1.out.size) (fun j e => by cases e; exact HB1.out.size)
       have HO3 : Hid (Byt w3 (.slice A1 m1 c1) (x.drop 16)) := HO1.out.below ((below_new w1 _).grown hg3 (by simp) (fun j e => by cases e; exact Nat.le_refl _))
       have p0 := SBox.cell hs3 0 _ rfl
       have p1 := SBox.cell hs3 1 _ rfl
       have p2 := SBox.cell hs3 2 _ rfl
       clear hs3 hg3 hz3))
  refine (new_any w3 _ _ HO3.out (by have := HL.out; omega)).mono ?_
  rintro e w4 ⟨g, rfl, hg4, hr4, hb4⟩
  have HGN : Hid (w.heap.size ≠ g) := by have := SBox.lt HA3.out; rw [Hid]; omega
  have HGL : Hid (w.heap.size ≤ g) := by have := SBox.lt HA3.out; rw [Hid]; omega
  have HR4 := Lib.hid hr4
  have HA4 : Hid (LkBox w4 w.heap.size 0 (.slice none 0 0)) := HA3.out.below hb4
  have HB4 : Hid (Below w.heap.size w w4) := HB3.out.trans (hb4.mono HB3.out.size)
  clear hr4 hb4 hg4 p0 p1 p2
  go_wp2_with fail
  refine (HW4.out w4 g HR4.out).mono ?_
  rintro e w5 ⟨rfl, hr5, hg5⟩
  have HR5 := Lib.hid hr5
  have HA5 : Hid (LkBox w5 w.heap.size 0 (.slice none 0 0)) := HA4.out.grown hg5 HGN.out
  have HB5 : Hid (Below w.heap.size w w5) := HB4.out.grown hg5 HB4.out.size (fun j e => by cases e; exact HGL.out)
  clear hr5 hg5
  go_wp2_with fail
  refine (HW2.out w5 g HR5.out).mono ?_
  rintro e w6 ⟨rfl, hr6, hg6⟩
  have HR6 := Lib.hid hr6
  have HA6 : Hid (LkBox w6 w.heap.size 0 (.slice none 0 0)) := HA5.out.grown hg6 HGN.out
  have HB6 : Hid (Below w.heap.size w w6) := HB5.out.grown hg6 HB5.out.size (fun j e => by cases e; exact HGL.out)
  clear hr6 hg6
  go_wp2_with fail
  refine (HLK.out w6).mono ?_
  rintro e w6' ⟨rfl, rfl⟩
  go_wp2_with fail
  refine (HFX.out w6 g HR6.out).mono ?_
  rintro e w7 ⟨v7, rfl, hv7, hr7, hg7⟩
  obtain ⟨A7, m7, c7, rfl, _, _, _⟩ := hv7.byt.form
  have HR7 := Lib.hid hr7
  have HV7 := Lib.hid hv7
  have HA7 : Hid (LkBox w7 w.heap.size 0 (.slice none 0 0)) := HA6.out.grown hg7 HGN.out
  have HB7 : Hid (Below w.heap.size w w7) := HB6.out.grown hg7 HB6.out.size (fun j e => by cases e; exact HGL.out)
  clear hr7 hg7 hv7
  go_wp2_with (first
    | (refine wpList_storeS (SBox.new w7 63 [.int .i64 0, .slice none 0 0]) lkInfo rfl (.tmp 13) (.tmp 63) rfl rfl (ds := [.int .i64 (nx : Int), .slice A7 m7 c7]) rfl rfl (one_lk _ _ _ _) ?_; intro w9 hs9 hg9 hz9
       have hb9 : Below w7.heap.size w7 w9 := (below_new w7 _).grown hg9 (by simp) (fun j e => by cases e; exact Nat.le_refl _)
       have HB9 : Hid (Below w.heap.size w w9) := HB7.out.trans (hb9.mono HB7.out.size)
       have HA9 := Lib.hid (HA7.out.below hb9)
       have HR9 := Lib.hid (HR7.out.below hb9)
       have HV9 := Lib.hid (HV7.out.keep hb9)
       have HS9 := Lib.hid hs9
       have HG7 : Hid (w7.heap.size ≠ g) := by have := HR7.out.lt; rw [Hid]; omega
       clear hs9 hg9 hz9 hb9))
  refine (left_is w9 g 0 _ HR9.out).mono ?_
  rintro e w9' ⟨rfl, rfl⟩
  rw [HL3.out]
  go_wp2_with fail
  refine (HF2.out w9 g HR9.out).mono ?_
  rintro e w10 ⟨v10, rfl, hv10, hr10, hg10⟩
  obtain ⟨A10, m10, c10, rfl, _, _, _⟩ := hv10.form
  have HV10 := Lib.hid hv10
  have HX10 : Hid (Own w10 w6.heap.size 5 (.slice A7 m7 c7) ((x.drop 22).take len)) := own_other HV9.out hg10 (fun j e => by cases e; obtain ⟨A, c, hh, _⟩ := HR9.out; exact ⟨_, _, _, hh, by decide⟩)
  have HA10 : Hid (LkBox w10 w.heap.size 0 (.slice none 0 0)) := HA9.out.grown hg10 HGN.out
  have HS10 : Hid (SBox w10 w7.heap.size 63 [.int .i64 (nx : Int), .slice A7 m7 c7]) := SBox.grown HS9.out hg10 HG7.out
  have HB10 : Hid (Below w.heap.size w w10) := HB9.out.grown hg10 HB9.out.size (fun j e => by cases e; exact HGL.out)
  clear hr10 hg10 hv10
  go_wp2_with fail
  refine (trim_any w10 _ _ HV10.out).mono ?_
  rintro e w10' ⟨v11, rfl, hv11, rfl⟩
  obtain ⟨A11, m11, c11, rfl, N11, _, _⟩ := hv11.form
  have N12 : Hid (m11 = trl.length) := by rw [← HTR.out]; exact N11.out
  clear hv11 N11
  have h0 : m11 = 0 := by rw [N12.out, HTL.out]
  subst h0
  go_wp2_with (first
    | (refine wpList_loadS HS10.out lkUnder lkInfo rfl (.tmp 13) rfl rfl ?_)
    | (refine wpList_storeS HA10.out lkInfo rfl (.tmp 6) (.tmp 72) rfl rfl (ds := [.int .i64 (nx : Int), .slice A7 m7 c7]) rfl rfl (one_lk _ _ _ _) ?_; intro wf hsf hgf hzf
       have HBf : Hid (Below w.heap.size w wf) := HB10.out.grown hgf HB10.out.size (fun j e => by cases e; exact Nat.le_refl _)
       have HXf : Hid (Own wf w.heap.size 5 (.slice A7 m7 c7) ((x.drop 22).take len)) := (own_other HX10.out hgf (fun j e => by cases e; exact ⟨_, _, _, HA10.out, by decide⟩)).lower HB6.out.size))
  refine ret_s2 hsf lkUnder lkInfo rfl rfl rfl _ rfl ?_
  exact ⟨HBf.out, _, rfl, HXf.out⟩

theorem ctold_any (w : World) (v : Value) (x : List UInt8) (k place : Nat) (hv : Byt w v x) (hp : place < 4294967296) :
    Calls Tryd.prog 51 #[v, .int .i64 (k : Int), .int .i64 (place : Int)] w (ToldQ w (toldB x k place)) := by
  by_cases h : okB x ∧ (x.getD 3 0).toNat = k ∧ numW x = place
  · obtain ⟨ho, hk, hn⟩ := h
    have hl : x.length = 4096 := ho.1.1
    have hr : ∀ w0, Byt w0 v x → Calls Tryd.prog 64 #[v] w0 (ReadK w0 x k place) := fun w0 h0 => read_k w0 v x k place h0 ho hk hn
    have hk4 : k < 256 := hk ▸ (x.getD 3 0).toNat_lt
    have hs := sizeN_lt x
    have hn4 := nextN_lt x
    by_cases h1 : nextN x = 1
    · rw [told_neg (fun h => h.2.1 h1)]
      exact ctold_1_one w v x k place hv hk4 hp hl hr _ h1 rfl hs
    · cases hlb : lenOk (sizeN x) place (nextN x) with
      | false =>
        rw [told_neg (fun h => by rw [h.2.2.1] at hlb; cases hlb)]
        by_cases h0 : nextN x = 0
        · exact ctold_0_len w v x k place hv hk4 hp hl hr _ h0 rfl hs _ (by rw [← h0]; exact hlb) rfl
        · exact ctold_n_len w v x k place hv hk4 hp hl hr _ _ (by omega) hn4 rfl rfl hs _ hlb rfl
      | true =>
        have h4 : sizeN x ≤ 4074 := by
          unfold lenOk at hlb
          split at hlb
          · have := of_decide_eq_true hlb; omega
          · split at hlb
            · cases hlb
            · exact of_decide_eq_true hlb
        by_cases ht : trimR (x.drop (22 + sizeN x)) = []
        · rw [told_pos ⟨⟨ho, hk, hn⟩, h1, hlb, ht⟩]
          by_cases h0 : nextN x = 0
          · rw [h0]
            exact ctold_0_ok w v x k place hv hk4 hp hl hr _ h0 rfl hs _ (by rw [← h0]; exact hlb) rfl h4 _ rfl ht
          · exact ctold_n_ok w v x k place hv hk4 hp hl hr _ _ (by omega) hn4 rfl rfl hs _ hlb rfl h4 _ rfl ht
        · rw [told_neg (fun h => ht h.2.2.2)]
          by_cases h0 : nextN x = 0
          · exact ctold_0_rest w v x k place hv hk4 hp hl hr _ h0 rfl hs _ (by rw [← h0]; exact hlb) rfl h4 _ rfl ht
          · exact ctold_n_rest w v x k place hv hk4 hp hl hr _ _ (by omega) hn4 rfl rfl hs _ hlb rfl h4 _ rfl ht
  · rw [told_neg (fun h' => h h'.1)]
    exact ctold_1 w v x k place hv hp h
end Go.Proofs.YtknagdbhhfelnaaDoor
