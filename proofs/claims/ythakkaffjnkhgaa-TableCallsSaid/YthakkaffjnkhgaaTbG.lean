/-
  Package table's Bytes by its contract. Conditions: lists of at most 65536 ints of 64 bits.
-/
import Derived.Test.YthakkaffjnkhgaaTbF
namespace Go.Proofs.Ythakkaffjnkhgaa
open Go.RowKit Go.Maps
set_option maxRecDepth 100000
set_option linter.unusedVariables false
set_option linter.unusedSimpArgs false

/-- What a call that answers bytes and an error leaves. -/
def BytE (w : World) (r : List UInt8 × Int) (e : Ending) (w' : World) : Prop := ∃ v, e = .returned (.tuple #[v, .int .i64 r.2]) ∧ Own w' w.heap.size 5 v r.1 ∧ Below w.heap.size w w'
def BysRel (w : World) (zs : List Int) (v i : Value) (wr : World) : Prop := ∃ (k : Nat) (A : Option Addr) (q c : Nat), k ≤ zs.length ∧ i = .int .i64 (k : Int) ∧ v = .slice A q c ∧ Own wr w.heap.size 5 v (numB zs.length ++ numsT (zs.take k)) ∧ Below w.heap.size w wr
theorem numsT_app (l m : List Int) : numsT (l ++ m) = numsT l ++ numsT m := by simp [numsT]
theorem numsT_len (l : List Int) : (numsT l).length ≤ 10 * l.length := by
  induction l with
  | nil => simp [numsT]
  | cons z l ih =>
    have e : numsT (z :: l) = numB z.toNat ++ numsT l := by simp [numsT]
    rw [e, List.length_append, List.length_cons]
    have := (numB_len z.toNat).2
    omega
theorem numsT_one (z : Int) : numsT [z] = numB z.toNat := by simp [numsT]
theorem bytesT_len {zs : List Int} (h : zs.length ≤ 65536) : (bytesT zs).1.length ≤ 655370 := by
  unfold bytesT
  split
  · simp only [List.length_append]
    have := numsT_len zs
    have := (numB_len zs.length).2
    omega
  · simp
set_option maxHeartbeats 2000000 in
theorem tbytes_any (w : World) (v : Value) (zs : List Int) (h : TbIn w v zs) :
    Calls Try.prog 23 #[.agg #[v]] w (BytE w (bytesT zs)) := by
  have H := Lib.hid h
  obtain ⟨A, m, c, rfl, N, hnc, hcm⟩ := h.row.form
  obtain ⟨w0, hw0⟩ : ∃ w0, w.alloc (.cells #[.slice A m c] 24) = w0 := ⟨_, rfl⟩
  have HX0 : Hid (TbBox w0 w.heap.size (.slice A m c)) := hw0 ▸ SBox.new w 24 [.slice A m c]
  have HB0 : Hid (Below w.heap.size w w0) := hw0 ▸ below_new w _
  have HW0 := Lib.hid hw0
  have hn : m = zs.length := h.row.lenZ
  have HN := Lib.hid hn
  have HCK := Lib.hid (tcheck_any w0 _ zs (H.out.below HB0.out))
  unfold chkT at HCK
  by_cases hok : tbOk zs
  · rw [if_pos hok] at HCK
    obtain ⟨i0, hi0, hz0, hz1, hz2⟩ := info_parts uinfo
    have hf : bytesT zs = (numB zs.length ++ numsT zs, 0) := if_pos hok
    rw [hf]
    have HL : Hid (m ≤ 65536) := by have := h.len; rw [Hid]; omega
    have HOK := Lib.hid hok
    have hwm : IntKind.u64.wrap (m : Int) = (m : Int) := by rw [IntKind.wrap_u64]; have := HL.out; omega
    have HNM := Lib.hid fun w1 => number_any w1 _ [] m (Byt.nil w1) (by have := HL.out; omega) (by simp)
    have HNB : Hid (numB zs.length = numB m) := by rw [Hid, hn]
    clear h hn hw0 hok hf
    go_enter Try.func23, Try.ntmps23
    go_wp2_with fail
    rw [HW0.out]
    have c1 := HX0.out.c0
    go_wp2_with fail
    refine HCK.out.mono ?_
    rintro e w1 ⟨rfl, hb1⟩
    have HX1 : Hid (TbBox w1 w.heap.size (.slice A m c)) := HX0.out.below hb1
    have HB1 : Hid (Below w.heap.size w w1) := HB0.out.trans (hb1.mono HB0.out.size)
    clear hb1 c1
    have c1 := HX1.out.c0
    go_wp2_with fail
    refine (HNM.out w1).mono ?_
    rintro e w2 ⟨v2, rfl, hv2, hb2⟩
    obtain ⟨A2, n2, c2, rfl, N2, _, _⟩ := hv2.byt.form
    have HX2 : Hid (TbBox w2 w.heap.size (.slice A m c)) := HX1.out.below hb2
    have HB2 : Hid (Below w.heap.size w w2) := HB1.out.trans (hb2.mono HB1.out.size)
    have HV2 : Hid (Own w2 w.heap.size 5 (.slice A2 n2 c2) (numB zs.length ++ numsT [])) := by
      have := hv2.lower HB1.out.size
      rw [List.nil_append] at this
      rw [Hid, HNB.out]
      simpa [numsT] using this
    clear hv2 hb2 c1
    have c1 := HX2.out.c0
    go_wp2_with fail
    go_loopw [5, 21] (fun v i wr => BysRel w zs v i wr) (fun v i _ => m - (intOf i).toNat)
    case atStart => exact ⟨0, _, _, _, by omega, rfl, rfl, HV2.out, HB2.out⟩
    case round =>
      obtain ⟨k, A', q', c', hk, rfl, rfl, hown, hbel⟩ := hrel
      have HO := Lib.hid hown
      have HB := Lib.hid hbel
      have HK := Lib.hid hk
      clear hown hbel c1
      by_cases hlt : k < zs.length
      · have hkn : (k : Int) < (m : Int) := by have := HN.out; omega
        obtain ⟨b, off, rfl, hb, hc⟩ := (H.out.row.below HB.out).atZ hlt
        have hyr : 0 ≤ atZ zs k ∧ atZ zs k < 4096 := by
          by_cases h0 : atZ zs k = 0
          · omega
          · have := standZ_page HOK.out.2.2 h0
            omega
        have HT : Hid (numB zs.length ++ numsT (zs.take (k + 1)) = (numB zs.length ++ numsT (zs.take k)) ++ numB (atZ zs k).toNat) := by
          rw [Hid, take_atZ hlt, numsT_app, numsT_one, List.append_assoc]
        have HLT : Hid (k < zs.length) := hlt
        have HFL : Hid ((numB zs.length ++ numsT (zs.take k)).length ≤ 655370) := by
          have h1 := numsT_len (zs.take k)
          rw [List.length_take] at h1
          have := (numB_len zs.length).2
          have := HL.out
          have := HN.out
          rw [Hid, List.length_append]
          omega
        obtain ⟨y, hy⟩ := Int.eq_ofNat_of_zero_le hyr.1
        rw [hy, Int.toNat_natCast] at HT
        rw [hy] at hc hyr
        have hwy : IntKind.u64.wrap (y : Int) = (y : Int) := by rw [IntKind.wrap_u64]; omega
        have HNY := Lib.hid fun w1 => number_any w1 _ [] y (Byt.nil w1) (by omega) (by simp)
        have HNL := Lib.hid (numB_len y).2
        clear hlt hk hyr hy
        go_wp2_with fail
        refine (HNY.out wr).mono ?_
        rintro e w3 ⟨v3, rfl, hv3, hb3⟩
        obtain ⟨A3, n3, c3, rfl, N3, _, _⟩ := hv3.byt.form
        have HV3 : Hid (Byt w3 (.slice A3 n3 c3) (numB y)) := by have := hv3.byt; rwa [List.nil_append] at this
        have HB3 : Hid (Below w.heap.size w w3) := HB.out.trans (hb3.mono HB.out.size)
        have HO3 := Lib.hid (HO.out.keep hb3)
        clear hv3 hb3
        go_wp2_with (at_builtin; refine wpList_app _ rfl (.tmp 25) (.tmp 28) _ rfl w.heap.size 5 i0 _ Try.underlying30 hi0 hz0 hz1 hz2 rfl _ _ rfl HO3.out _ (numB y) rfl HV3.out (by have := HFL.out; have := HNL.out; omega) HB3.out.size ?_; intro v4 w4 hown4 hg4 hat4; have hb4 : Below w.heap.size w w4 := below_own HB3.out HB3.out.size HO3.out hg4; obtain ⟨A4, q4, c4, rfl, _, _, _⟩ := hown4.byt.form)
        go_roundw
        case rel =>
          refine ⟨k + 1, _, _, _, by have := HLT.out; omega, by have := HL.out; have := HLT.out; have := HN.out; go_num, rfl, ?_, hb4⟩
          rw [HT.out]
          exact hown4
        case measure => have := HLT.out; have := HN.out; simp [intOf]; omega
      · obtain rfl : k = zs.length := by have := HK.out; omega
        have hkn : ¬ ((zs.length : Nat) : Int) < (m : Int) := by have := HN.out; omega
        clear hlt hk
        go_wp2_with fail
        go_ret2
        have := HO.out
        rw [List.take_length] at this
        exact ⟨_, rfl, this, HB.out⟩
  · rw [if_neg hok] at HCK
    have hf : bytesT zs = ([], 2) := if_neg hok
    rw [hf]
    clear h hn hw0 hok hf
    go_enter Try.func23, Try.ntmps23
    go_wp2_with fail
    rw [HW0.out]
    have c1 := HX0.out.c0
    go_wp2_with fail
    refine HCK.out.mono ?_
    rintro e w1 ⟨rfl, hb1⟩
    have HX1 : Hid (TbBox w1 w.heap.size (.slice A m c)) := HX0.out.below hb1
    have HB1 : Hid (Below w.heap.size w w1) := HB0.out.trans (hb1.mono HB0.out.size)
    clear hb1 c1
    have c1 := HX1.out.c0
    go_wp2_with fail
    go_ret2
    exact ⟨_, rfl, World.ownsRow_nil _ _ _ _, HB1.out⟩
end Go.Proofs.Ythakkaffjnkhgaa
