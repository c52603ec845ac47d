/-
  tallymanref10's Pages, Bytes by their contracts. Conditions: lists of at most 65536 ints of 64 bits.
-/
import Derived.Test.YthakkaffjnkhgaaTbM
import Derived.Test.YthakkaffjnkhgaaRef1
namespace Go.Proofs.Ythakkaffjnkhgaa
open Go.RowKit Go.Maps
set_option maxRecDepth 100000
set_option linter.unusedVariables false
set_option linter.unusedSimpArgs false

theorem SBox.rowgrown {w w' : World} {g B : Nat} {t e : TypeId} {cs vs : List Value} {v : Value} (h : SBox w g t cs) (ho : OwnV w B e v vs) (hg : w.grownBy w' v.ownBlock) (hB : g < B) : SBox w' g t cs := by
  refine h.same (hg.block g h.lt ?_)
  intro hk
  have := (World.ownsRow.lt ho g (by first | exact hk | exact hk.symm)).1
  omega
theorem Below.rowgrown {w w1 w' : World} {B B0 : Nat} {e : TypeId} {vs : List Value} {v : Value} (h : Below B0 w w1) (ho : OwnV w1 B e v vs) (hg : w1.grownBy w' v.ownBlock) (hB : B0 ≤ B) (hs : B0 ≤ w1.heap.size) : Below B0 w w' :=
  h.grown hg hs (fun k hk => Nat.le_trans hB (World.ownsRow.lt ho k hk).1)
def RpRel (w : World) (A0 : Option Addr) (m c0 : Nat) (zs : List Int) (v i : Value) (wr : World) : Prop := ∃ (k : Nat) (A : Option Addr) (q c : Nat), k ≤ zs.length ∧ i = .int .i64 (k : Int) ∧ v = .slice A q c ∧ OwnV wr (w.heap.size + 1) 3 v (intC ((zs.take k).filter nzB)) ∧ TbBox wr w.heap.size (.slice A0 m c0) ∧ Below w.heap.size w wr
set_option maxHeartbeats 4000000 in
theorem rpages_any (w : World) (v : Value) (zs : List Int) (h : TbIn w v zs) :
    Calls Try.prog 29 #[.agg #[v]] w (RowE w (pagesT zs)) := by
  have H := Lib.hid h
  obtain ⟨A, m, c, rfl, N, hnc, hcm⟩ := h.row.form
  obtain ⟨w0, hw0⟩ : ∃ w0, w.alloc (.cells #[.slice A m c] 24) = w0 := ⟨_, rfl⟩
  have HX0 : Hid (TbBox w0 w.heap.size (.slice A m c)) := hw0 ▸ SBox.new w 24 [.slice A m c]
  have HB0 : Hid (Below w.heap.size w w0) := hw0 ▸ below_new w _
  have HW0 := Lib.hid hw0
  have HZ0 : Hid (w0.heap.size = w.heap.size + 1) := by rw [Hid, ← hw0]; simp
  have hn : m = zs.length := h.row.lenZ
  have HN := Lib.hid hn
  have HCK := Lib.hid fun w1 (hb : Below w.heap.size w w1) => rcheck_any w1 _ zs (H.out.below hb)
  unfold chkT at HCK
  obtain ⟨i0, hi0, hz0, hz1, hz2⟩ := info_parts iinfo
  have hm6 : (m : Int) ≤ 65536 := by have := h.len; omega
  by_cases hok : tbOk zs
  · rw [if_pos hok] at HCK
    have hf : pagesT zs = zs.filter nzB := if_pos hok
    rw [hf]
    have HL : Hid (m ≤ 65536) := by have := h.len; rw [Hid]; omega
    clear h hn hw0 hok hf
    go_enter Try.func29, Try.ntmps29
    go_wp2_with fail
    rw [HW0.out]
    go_loopw [3, 4] (fun v i wr => RpRel w A m c zs v i wr) (fun v i _ => m - (intOf i).toNat)
    case atStart => exact ⟨0, none, 0, 0, by omega, rfl, rfl, OwnV.nil _ _ _, HX0.out, HB0.out⟩
    case round =>
      obtain ⟨k, A', q', c', hk, rfl, rfl, hown, hbx, hbel⟩ := hrel
      have HO := Lib.hid hown
      have HX := Lib.hid hbx
      have HB := Lib.hid hbel
      have HK := Lib.hid hk
      have c1 := HX.out.c0
      clear hown hbel hbx
      by_cases hlt : k < zs.length
      · have hkn : (k : Int) < (m : Int) := by have := HN.out; omega
        have HLT : Hid (k < zs.length) := hlt
        go_wp2_with fail
        refine (HCK.out wr HB.out).mono ?_
        rintro e w2 ⟨rfl, hb2⟩
        have HX2 : Hid (TbBox w2 w.heap.size (.slice A m c)) := HX.out.below hb2
        have HB2 : Hid (Below w.heap.size w w2) := HB.out.trans (hb2.mono HB.out.size)
        have HO2 : Hid (OwnV w2 (w.heap.size + 1) 3 (.slice A' q' c') (intC ((zs.take k).filter nzB))) := HO.out.keep hb2
        clear hb2 c1
        have c1 := HX2.out.c0
        obtain ⟨b, off, rfl, hb, hc⟩ := (H.out.row.below HB2.out).atZ hlt
        have HT : Hid ((zs.take (k + 1)).filter nzB = (zs.take k).filter nzB ++ (if nzB (atZ zs k) then [atZ zs k] else [])) := by
          rw [Hid, take_atZ hlt, List.filter_append]
          congr 1
          unfold List.filter List.filter
          cases nzB (atZ zs k) <;> rfl
        have HFL : Hid ((intC ((zs.take k).filter nzB)).length ≤ 65536) := by
          have h1 := List.length_filter_le nzB (zs.take k)
          rw [List.length_take] at h1
          have := HL.out
          have := HN.out
          rw [Hid, intC_len]
          omega
        generalize atZ zs k = y at *
        clear hlt hk
        by_cases e : y = 0
        · subst e
          have HT' : Hid ((zs.take (k + 1)).filter nzB = (zs.take k).filter nzB) := HT.out.trans (by simp [nzB])
          go_wp2_with fail
          go_roundw
          case rel =>
            exact ⟨k + 1, A', q', c', by have := HLT.out; omega, by have := HL.out; have := HLT.out; have := HN.out; go_num, rfl, by rw [HT'.out]; exact HO2.out, HX2.out, HB2.out⟩
          case measure => have := HLT.out; have := HN.out; simp [intOf]; omega
        · have he : (y != 0) = true := by simpa using e
          have HT' : Hid ((zs.take (k + 1)).filter nzB = (zs.take k).filter nzB ++ [y]) := HT.out.trans (by simp [nzB, e])
          clear e
          have HS2 : Hid (w.heap.size + 1 ≤ w2.heap.size) := by have := HX2.out.lt; rw [Hid]; omega
          go_wp2_with (at_builtin; refine wpList_appV rfl (.tmp 23) (.tmp 29) _ rfl (w.heap.size + 1) 3 8 i0 _ Try.underlying22 hi0 hz0 hz1 hz2 rfl _ (intC ((zs.take k).filter nzB)) rfl (HO2.out.keep (below_new w2 _)) _ [.int .i64 y] rfl (Rowz.litV w2 [.int .i64 y] 3 (by simp [maxLen])) (by simp [Value.oneCell']) (by have := HFL.out; simp only [List.length_cons, List.length_nil]; omega) (by have := HFL.out; simp only [List.length_cons, List.length_nil, maxLen]; omega) (by have := HS2.out; simp; omega) ?_; intro v3 w3 hown3 hg3 hat3
                       have hx3 : TbBox w3 w.heap.size (.slice (some ⟨b, off, none⟩) m c) := SBox.rowgrown (HX2.out.alloc _) (HO2.out.keep (below_new w2 _)) hg3 (by omega)
                       have hb3 : Below w.heap.size w w3 := Below.rowgrown (HB2.out.alloc HB2.out.size _) (HO2.out.keep (below_new w2 _)) hg3 (by omega) (by have := HB2.out.size; simp; omega)
                       obtain ⟨A3, q3, c3, rfl, _, _, _⟩ := hown3.rowz.form)
          go_roundw
          case rel =>
            refine ⟨k + 1, _, _, _, by have := HLT.out; omega, by have := HL.out; have := HLT.out; have := HN.out; go_num, rfl, ?_, hx3, hb3⟩
            rw [HT'.out, intC_app]
            exact hown3
          case measure => have := HLT.out; have := HN.out; simp [intOf]; omega
      · obtain rfl : k = zs.length := by have := HK.out; omega
        have hkn : ¬ ((zs.length : Nat) : Int) < (m : Int) := by have := HN.out; omega
        clear hlt hk
        go_wp2_with fail
        go_ret
        have := HO.out
        rw [List.take_length] at this
        exact ⟨_, rfl, this.rowO.lower (Nat.le_succ _), HB.out⟩
  · rw [if_neg hok] at HCK
    have hf : pagesT zs = [] := if_neg hok
    rw [hf]
    have h0 : (0 : Int) < (m : Int) := by
      have : zs ≠ [] := fun e => hok (by rw [e]; exact tbOk_nil)
      have := List.length_pos_iff.2 this
      omega
    clear h hn hw0 hok hf
    go_enter Try.func29, Try.ntmps29
    go_wp2_with fail
    rw [HW0.out]
    go_loopw [3, 4] (fun v i wr => v = .slice none 0 0 ∧ i = .int .i64 0 ∧ TbBox wr w.heap.size (.slice A m c) ∧ Below w.heap.size w wr) (fun v i _ => 0)
    case atStart => exact ⟨rfl, rfl, HX0.out, HB0.out⟩
    case round =>
      obtain ⟨rfl, rfl, hbx, hbel⟩ := hrel
      have HX := Lib.hid hbx
      have HB := Lib.hid hbel
      have c1 := HX.out.c0
      clear hbel hbx
      go_wp2_with fail
      refine (HCK.out wr HB.out).mono ?_
      rintro e w2 ⟨rfl, hb2⟩
      have HB2 : Hid (Below w.heap.size w w2) := HB.out.trans (hb2.mono HB.out.size)
      clear hb2 c1
      go_wp2_with fail
      go_ret
      exact ⟨_, rfl, RowO.nil _ _, HB2.out⟩

/-! Bytes. -/
def RbRel (w : World) (A0 : Option Addr) (m c0 : Nat) (zs : List Int) (v i : Value) (wr : World) : Prop := ∃ (k : Nat) (A : Option Addr) (q c : Nat), k ≤ zs.length ∧ i = .int .i64 (k : Int) ∧ v = .slice A q c ∧ Own wr w.heap.size 5 v (numB zs.length ++ numsT (zs.take k)) ∧ TbBox wr w.heap.size (.slice A0 m c0) ∧ Below w.heap.size w wr
set_option maxHeartbeats 4000000 in
theorem rbytes_any (w : World) (v : Value) (zs : List Int) (h : TbIn w v zs) :
    Calls Try.prog 24 #[.agg #[v]] w (BytE w (bytesT zs)) := by
  have H := Lib.hid h
  obtain ⟨A, m, c, rfl, N, hnc, hcm⟩ := h.row.form
  obtain ⟨w0, hw0⟩ : ∃ w0, w.alloc (.cells #[.slice A m c] 24) = w0 := ⟨_, rfl⟩
  have HX0 : Hid (TbBox w0 w.heap.size (.slice A m c)) := hw0 ▸ SBox.new w 24 [.slice A m c]
  have HB0 : Hid (Below w.heap.size w w0) := hw0 ▸ below_new w _
  have HW0 := Lib.hid hw0
  have hn : m = zs.length := h.row.lenZ
  have HN := Lib.hid hn
  have HCK := Lib.hid (rcheck_any w0 _ zs (H.out.below HB0.out))
  unfold chkT at HCK
  by_cases hok : tbOk zs
  · rw [if_pos hok] at HCK
    have hf : bytesT zs = (numB zs.length ++ numsT zs, 0) := if_pos hok
    rw [hf]
    have HL : Hid (m ≤ 65536) := by have := h.len; rw [Hid]; omega
    have HOK := Lib.hid hok
    have hwm : IntKind.u64.wrap (m : Int) = (m : Int) := by rw [IntKind.wrap_u64]; have := HL.out; omega
    have HNM := Lib.hid fun w1 => refnumber_any w1 _ [] m (Byt.nil w1) (by have := HL.out; omega) (by simp)
    have HNB : Hid (numB zs.length = numB m) := by rw [Hid, hn]
    clear h hn hw0 hok hf
    go_enter Try.func24, Try.ntmps24
    go_wp2_with fail
    rw [HW0.out]
    have c1 := HX0.out.c0
    go_wp2_with fail
    refine HCK.out.mono ?_
    rintro e w1 ⟨rfl, hb1⟩
    have HX1 : Hid (TbBox w1 w.heap.size (.slice A m c)) := HX0.out.below hb1
    have HB1 : Hid (Below w.heap.size w w1) := HB0.out.trans (hb1.mono HB0.out.size)
    clear hb1 c1
    have c1 := HX1.out.c0
    go_wp2_with fail
    refine (HNM.out w1).mono ?_
    rintro e w2 ⟨v2, rfl, hv2, hb2⟩
    obtain ⟨A2, n2, c2, rfl, N2, _, _⟩ := hv2.byt.form
    have HX2 : Hid (TbBox w2 w.heap.size (.slice A m c)) := HX1.out.below hb2
    have HB2 : Hid (Below w.heap.size w w2) := HB1.out.trans (hb2.mono HB1.out.size)
    have HV2 : Hid (Own w2 w.heap.size 5 (.slice A2 n2 c2) (numB zs.length ++ numsT [])) := by
      have := hv2.lower HB1.out.size
      rw [List.nil_append] at this
      rw [Hid, HNB.out]
      simpa [numsT] using this
    clear hv2 hb2 c1
    go_wp2_with fail
    go_loopw [4, 5] (fun v i wr => RbRel w A m c zs v i wr) (fun v i _ => m - (intOf i).toNat)
    case atStart => exact ⟨0, _, _, _, by omega, rfl, rfl, HV2.out, HX2.out, HB2.out⟩
    case round =>
      obtain ⟨k, A', q', c', hk, rfl, rfl, hown, hbx, hbel⟩ := hrel
      have HO := Lib.hid hown
      have HX := Lib.hid hbx
      have HB := Lib.hid hbel
      have HK := Lib.hid hk
      have c1 := HX.out.c0
      clear hown hbel hbx
      by_cases hlt : k < zs.length
      · have hkn : (k : Int) < (m : Int) := by have := HN.out; omega
        obtain ⟨b, off, rfl, hb, hc⟩ := (H.out.row.below HB.out).atZ hlt
        have hyr : 0 ≤ atZ zs k ∧ atZ zs k < 4096 := by
          by_cases h0 : atZ zs k = 0
          · omega
          · have := standZ_page HOK.out.2.2 h0
            omega
        have HT : Hid (numB zs.length ++ numsT (zs.take (k + 1)) = (numB zs.length ++ numsT (zs.take k)) ++ numB (atZ zs k).toNat) := by
          rw [Hid, take_atZ hlt, numsT_app, numsT_one, List.append_assoc]
        have HLT : Hid (k < zs.length) := hlt
        have HFL : Hid ((numB zs.length ++ numsT (zs.take k)).length ≤ 655370) := by
          have h1 := numsT_len (zs.take k)
          rw [List.length_take] at h1
          have := (numB_len zs.length).2
          have := HL.out
          have := HN.out
          rw [Hid, List.length_append]
          omega
        obtain ⟨y, hy⟩ := Int.eq_ofNat_of_zero_le hyr.1
        rw [hy, Int.toNat_natCast] at HT
        rw [hy] at hc hyr
        have hwy : IntKind.u64.wrap (y : Int) = (y : Int) := by rw [IntKind.wrap_u64]; omega
        have HNY : Hid (∀ w1, Byt w1 (.slice A' q' c') (numB zs.length ++ numsT (zs.take k)) → Calls Try.prog 42 #[.slice A' q' c', .int .u64 (y : Int)] w1 (Made w1 ((numB zs.length ++ numsT (zs.take k)) ++ numB y))) := fun w1 hw => refnumber_any w1 _ _ y hw (by omega) (by have := HFL.out; omega)
        clear hlt hk hyr hy
        go_wp2_with fail
        refine (HNY.out wr HO.out.byt).mono ?_
        rintro e w3 ⟨v3, rfl, hv3, hb3⟩
        obtain ⟨A3, n3, c3, rfl, N3, _, _⟩ := hv3.byt.form
        have HV3 : Hid (Own w3 w.heap.size 5 (.slice A3 n3 c3) (numB zs.length ++ numsT (zs.take (k + 1)))) := by rw [HT.out]; exact hv3.lower HB.out.size
        have HB3 : Hid (Below w.heap.size w w3) := HB.out.trans (hb3.mono HB.out.size)
        have HX3 : Hid (TbBox w3 w.heap.size (.slice (some ⟨b, off, none⟩) m c)) := HX.out.below hb3
        clear hv3 hb3 c1
        go_wp2_with fail
        go_roundw
        case rel => exact ⟨k + 1, _, _, _, by have := HLT.out; omega, by have := HL.out; have := HLT.out; have := HN.out; go_num, rfl, HV3.out, HX3.out, HB3.out⟩
        case measure => have := HLT.out; have := HN.out; simp [intOf]; omega
      · obtain rfl : k = zs.length := by have := HK.out; omega
        have hkn : ¬ ((zs.length : Nat) : Int) < (m : Int) := by have := HN.out; omega
        clear hlt hk
        go_wp2_with fail
        go_ret2
        have := HO.out
        rw [List.take_length] at this
        exact ⟨_, rfl, this, HB.out⟩
  · rw [if_neg hok] at HCK
    have hf : bytesT zs = ([], 2) := if_neg hok
    rw [hf]
    clear h hn hw0 hok hf
    go_enter Try.func24, Try.ntmps24
    go_wp2_with fail
    rw [HW0.out]
    have c1 := HX0.out.c0
    go_wp2_with fail
    refine HCK.out.mono ?_
    rintro e w1 ⟨rfl, hb1⟩
    have HX1 : Hid (TbBox w1 w.heap.size (.slice A m c)) := HX0.out.below hb1
    have HB1 : Hid (Below w.heap.size w w1) := HB0.out.trans (hb1.mono HB0.out.size)
    clear hb1 c1
    have c1 := HX1.out.c0
    go_wp2_with fail
    go_ret2
    exact ⟨_, rfl, World.ownsRow_nil _ _ _ _, HB1.out⟩
end Go.Proofs.Ythakkaffjnkhgaa
