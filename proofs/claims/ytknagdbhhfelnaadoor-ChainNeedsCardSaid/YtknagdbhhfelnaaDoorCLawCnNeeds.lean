/-
  The statement ChainNeeds: as many pages as are needed, each but the last one full; other bytes have other pages. Conditions: none.
-/
import Derived.Test.YtknagdbhhfelnaaDoorCCnM
import Derived.Test.YtknagdbhhfelnaaDoorCCnN
import Derived.Test.YtknagdbhhfelnaaDoorMg5
import Derived.Test.YtknagdbhhfelnaaDoorMg6
namespace Go.Proofs.YtknagdbhhfelnaaDoor.chainNeeds
open Go.ChangeShapes Go.WideShapes Go.ChangeAt Go.RowKit Go.Maps
set_option maxRecDepth 100000
set_option linter.unusedVariables false

def PgRel (w : World) (n : Nat) (v i : Value) (wr : World) : Prop := ∃ (q : Nat) (A : Option Addr) (c : Nat), v = .slice A q c ∧ q ≤ n ∧ i = .int .i64 (q : Int) ∧ OwnV wr w.heap.size 3 v (natC (psN q)) ∧ Below w.heap.size w wr
def RdRel (w : World) (n : Nat) (i : Value) (wr : World) : Prop := ∃ q : Nat, q ≤ n ∧ i = .int .i64 (q : Int) ∧ Below w.heap.size w wr
def EqRel (w : World) (n : Nat) (i : Value) (wr : World) : Prop := ∃ q : Nat, q ≤ n ∧ i = .int .i64 (q : Int) ∧ Below w.heap.size w wr
set_option maxRecDepth 100000 in
set_option maxHeartbeats 16000000 in
theorem walk_gt (w : World) (v : Value) (b : List UInt8) (kind at_ : Int) (by_ : UInt8) (j k nb N : Nat) (hv : Byt w v b) (hnb : b.length = nb) (h0 : 1 < nb) (h20 : nb ≤ 20000) (hN : needN nb = N) (hkj : kind % 3 = (j : Int)) (hjk : (j = 0 ∧ k = 2) ∨ (j = 1 ∧ k = 3) ∨ (j = 2 ∧ k = 7)) :
    Calls Tryd.prog 6 #[v, .int .i64 kind, .int .i64 at_, .int .u8 (by_.toNat : Int)] w fun e w' => e = .returned (.bool true) ∧ Below w.heap.size w w' := by
  obtain ⟨i0, hi0, hz0, hz1, hz2⟩ := info_parts iinfo
  obtain ⟨i1, hi1, hy0, hy1, hy2⟩ := info_parts uinfo
  obtain ⟨A, m, c, rfl, Nl, hmc, hcm⟩ := hv.form
  have hm : m = nb := Nl.out.trans hnb
  subst hm
  have HV := Lib.hid hv
  have HNB := Lib.hid hnb
  have HJK := Lib.hid hjk
  have HPK : Hid (∀ W, Calls Tryd.prog 14 #[.int .i64 kind, .int .i64 3] W fun e w' => e = .returned (.int .i64 (j : Int)) ∧ W = w') := fun W => hkj ▸ pick_any kind 3 W (by omega) (by omega)
  have HND : Hid (∀ W, Calls Tryd.prog 13 #[.int .i64 (m : Int)] W fun e w' => e = .returned (.int .i64 (N : Int)) ∧ W = w') := fun W => by
    have := cneed_any W (m : Int) (by omega)
    rw [show needI (m : Int) = needN m from rfl, hN] at this
    exact this
  have HND4 : Hid (∀ W, Calls Tryd.prog 13 #[.int .i64 ((m : Int) + 4074)] W fun e w' => e = .returned (.int .i64 ((N : Int) + 1)) ∧ W = w') := fun W => by
    have := cneed_any W ((m : Int) + 4074) (by omega)
    rw [show needI ((m : Int) + 4074) = needN (m + 4074) from rfl, needN_more (by omega), hN] at this
    exact this
  have hlo := needN_lo (n := m) (by omega)
  have hup := needN_up (n := m)
  have hp1 := needN_pos m
  rw [hN] at hlo hup hp1
  have HPG : Hid (∀ W A c v (x : List UInt8), Rowz W (.slice A N c) (natC (psN N)) → Byt W v x → x.length = m → Calls Tryd.prog 7 #[.int .i64 (k : Int), .slice A N c, v] W (PagesOut W (chainL k (psN N) x))) := fun W A c v x h1 h2 h3 =>
    cpages_ok W k A _ c v _ x h1 h2 (fun y hy => by have := ((psN_may N (by omega)).2 y hy).2; omega) (by omega) (by rcases hjk with ⟨_, rfl⟩ | ⟨_, rfl⟩ | ⟨_, rfl⟩ <;> simp) (by rw [psN_len, h3]; exact hN.symm) (psN_may _ (by omega))
  have HK7 : Hid (1 ≤ k ∧ k ≤ 7) := show 1 ≤ k ∧ k ≤ 7 by omega
  have HN1 : Hid (1 ≤ N) := hp1
  have HN10 : Hid (N ≤ 10) := by rw [Hid]; omega
  have hc1 : ¬ (N : Int) < 1 := by omega
  have hc3 : ¬ (N : Int) * 4074 < (m : Int) := by omega
  have hc2 : ¬ (m : Int) ≤ ((N : Int) - 1) * 4074 := by omega
  have hc4 : (1 : Int) < (m : Int) := by omega
  have HL := Lib.hid hlo
  have HU := Lib.hid hup
  have HNN := Lib.hid hN
  clear hv hnb hjk hkj hN hlo hup hp1 Nl
  go_enter Tryd.func6, Tryd.ntmps6
  go_wp2_with fail
  refine (lives9_any w).mono ?_
  rintro e w1 ⟨rfl, hb1⟩
  have HB1 := Lib.hid hb1
  clear hb1
  go_wp2_with fail
  refine (HPK.out _).mono ?_
  rintro e w2 ⟨rfl, rfl⟩
  have cJ : (w1.alloc (.cells #[.int .i64 2, .int .i64 3, .int .i64 7] 3)).cell? ⟨w1.heap.size, j, none⟩ = some (.int .i64 (k : Int)) := by
    have h0 := SBox.new w1 3 [.int .i64 2, .int .i64 3, .int .i64 7]
    exact h0.cell j _ (by rcases HJK.out with ⟨rfl, rfl⟩ | ⟨rfl, rfl⟩ | ⟨rfl, rfl⟩ <;> rfl)
  have hj3 : (j : Int) < 3 := by rcases HJK.out with ⟨rfl, _⟩ | ⟨rfl, _⟩ | ⟨rfl, _⟩ <;> decide
  have HB2 : Hid (Below w.heap.size w (w1.alloc (.cells #[.int .i64 2, .int .i64 3, .int .i64 7] 3))) := HB1.out.alloc HB1.out.size _
  have HW2 : Hid (w1.alloc (.cells #[.int .i64 2, .int .i64 3, .int .i64 7] 3) = w1.alloc (.cells #[.int .i64 2, .int .i64 3, .int .i64 7] 3)) := rfl
  go_wp2_with fail
  clear cJ HW2
  generalize w1.alloc (.cells #[.int .i64 2, .int .i64 3, .int .i64 7] 3) = w2 at *
  refine (HND.out w2).mono ?_
  rintro e w2' ⟨rfl, rfl⟩
  go_wp2_with fail
  refine (HND4.out w2).mono ?_
  rintro e w2' ⟨rfl, rfl⟩
  go_wp2_with fail
  go_loopw [10, 11] (fun v i wr => PgRel w2 N v i wr) (fun _ i _ => N - (intOf i).toNat)
  case atStart => exact ⟨0, none, 0, rfl, Nat.zero_le _, rfl, OwnV.nil _ _ _, Below.refl _ _⟩
  case round =>
    obtain ⟨q, Av, cv, rfl, hq, rfl, hown, hbel⟩ := hrel
    have HO := Lib.hid hown
    have HBL := Lib.hid hbel
    clear hown hbel
    by_cases hlt : q < N
    · have hqn : (q : Int) < (N : Int) := by omega
      have HPS : Hid (natC (psN (q + 1)) = natC (psN q) ++ [.int .i64 (2 + 3 * (q : Int))]) := by
        rw [Hid, psN_snoc, natC_app]
        have : ((2 + 3 * q : Nat) : Int) = 2 + 3 * (q : Int) := by omega
        simp [natC, this]
      go_wp2_with (at_builtin; refine wpList_appV rfl (.tmp 71) (.tmp 75) _ rfl w2.heap.size 3 8 i0 _ Tryd.underlying26 hi0 hz0 hz1 hz2 rfl _ (natC (psN q)) rfl (HO.out.keep (below_new wr _)) _ [.int .i64 (2 + 3 * (q : Int))] rfl (Rowz.litV wr [.int .i64 (2 + 3 * (q : Int))] 3 (by simp [maxLen])) (by simp [Value.oneCell']) (by rw [natC_len, psN_len]; have := HN10.out; simp only [List.length_cons, List.length_nil]; omega) (by rw [natC_len, psN_len]; have := HN10.out; simp only [List.length_cons, List.length_nil, maxLen]; omega) (by have := HBL.out.size; simp; omega) ?_; intro v3 w3 hown3 hg3 hat3; have hb3 := OwnV.below (HO.out.keep (below_new wr (.cells #[.int .i64 (2 + 3 * (q : Int))] 3))) (HBL.out.alloc HBL.out.size _) (by have := HBL.out.size; simp; omega) hg3)
      go_roundw
      case rel =>
        obtain ⟨A3, c3, rfl⟩ := ownsRow_form hown3
        exact ⟨q + 1, A3, c3, by rw [← HPS.out, natC_len, psN_len], by omega, by go_num, by rw [HPS.out]; exact hown3, hb3⟩
      case measure => simp [intOf]; omega
    · obtain rfl : N = q := by omega
      have HR : Hid (Rowz wr (.slice Av N cv) (natC (psN N))) := HO.out.rowz
      have HBW : Hid (Below w.heap.size w wr) := HB2.out.trans (HBL.out.mono HB2.out.size)
      clear HO HBL hlt hq
      go_wp2_with fail
      refine (kitown_any wr _ b (HV.out.below HBW.out) (by rw [HNB.out]; omega)).mono ?_
      rintro e w4 ⟨vo, rfl, hown4, hb4⟩
      have HB4 : Hid (Below w.heap.size w w4) := HBW.out.trans (hb4.mono HBW.out.size)
      have HR4 : Hid (Rowz w4 (.slice Av N cv) (natC (psN N))) := HR.out.below hb4
      have HY4 : Hid (Byt w4 vo b) := hown4.byt
      clear hown4 hb4
      go_wp2_with fail
      refine (HPG.out w4 Av cv vo b HR4.out HY4.out HNB.out).mono ?_
      rintro e w5 ⟨vl, vs, rfl, hlr, hls, hb5⟩
      have HB5 : Hid (Below w.heap.size w w5) := HB4.out.trans (hb5.mono HB4.out.size)
      have HR5 : Hid (Rowz w5 (.slice Av N cv) (natC (psN N))) := HR4.out.below hb5
      have hvl : vs.length = N := by rw [hls.1, chainL_len, psN_len]
      obtain ⟨gl, cl, rfl, hgl, hll, _, hcl, hcell, _⟩ := OwnV.form (e := 27) hlr (by have := HN1.out; omega)
      have HCL : Hid (∀ q, q < N → ∃ v0 c0, w5.cell? ⟨gl, q, none⟩ = some (.slice v0 4096 c0) ∧ Byt w5 (.slice v0 4096 c0) (chainB k (psN N) b q)) := fun q hq => by
        have h1 := hcell q (by omega)
        have h2 := hls.2 q (by omega) (by rw [chainL_len, psN_len]; exact hq)
        rw [chainL_get] at h2
        obtain ⟨A0, c0, e0⟩ := ownsRow_form h2
        rw [chainB_len] at e0
        rw [e0] at h1 h2
        exact ⟨A0, c0, h1, h2.byt⟩
      have HGL : Hid (gl < w5.heap.size) := hll
      rw [hvl]
      clear hlr hls hb5 hvl hcell hgl hll hcl HR HR4 HY4 HBW HB4 HB2
      go_wp2_with fail
      go_loopw [14] (fun i wr => RdRel w5 N i wr) (fun i _ => N - (intOf i).toNat)
      case atStart => exact ⟨0, Nat.zero_le _, rfl, Below.refl _ _⟩
      case round =>
        obtain ⟨q, hq, rfl, hbel⟩ := hrel
        have HBL := Lib.hid hbel
        clear hbel
        by_cases hlt : q < N
        · have hqn : (q : Int) < (N : Int) := by omega
          obtain ⟨A0, c0, hcell, hbt⟩ := HCL.out q hlt
          have c1 := (HBL.out.cell (p := ⟨gl, q, none⟩) HGL.out).trans hcell
          have HBT : Hid (Byt wr (.slice A0 4096 c0) (chainB k (psN N) b q)) := hbt.below HBL.out
          clear hcell hbt
          go_wp2_with fail
          refine (r5read_ok wr _ _ HBT.out (pageB_ok (by have := HK7.out; omega) (by have := HK7.out; omega) (link_le _ _ _))).mono ?_
          rintro e w6 ⟨v6, rfl, hown6, hb6⟩
          obtain ⟨A6, c6, rfl⟩ := ownsRow_form hown6
          have hkk : ((chainB k (psN N) b q).getD 3 0).toNat = k := pageB_kind _ _ _ (by have := HK7.out; omega)
          have hnn : numW (chainB k (psN N) b q) = q := pageB_num _ _ _ (by have := HN10.out; omega)
          rw [hkk, hnn]
          have HB6 : Hid (Below w5.heap.size w5 w6) := HBL.out.trans (hb6.mono HBL.out.size)
          have hq32 : (q : Int) < 4294967296 := by have := HN10.out; omega
          clear hown6 hb6 hkk hnn
          generalize (List.drop 16 (chainB k (psN N) b q)).length = n6
          unfold pageV
          go_wp2_with (refine wpList_storeS (SBox.new w6 48 [.int .i64 0, .int .u32 0, .slice none 0 0]) pgInfo9 rfl (.tmp 15) (.tmp 104) rfl rfl (ds := [.int .i64 (k : Int), .int .u32 (q : Int), .slice A6 n6 c6]) rfl rfl (one_pg _ _ _ _ _) ?_; intro w7 hs7 hg7 hz7
                       have HB7 : Hid (Below w5.heap.size w5 w7) := (HB6.out.alloc HB6.out.size _).grown hg7 (by simp; exact Nat.le_succ_of_le HB6.out.size) (fun j e => by cases e; exact HB6.out.size)
                       have p0 := SBox.cell hs7 0 _ rfl
                       have p1 := SBox.cell hs7 1 _ rfl
                       clear hs7 hg7 hz7)
          go_roundw
          case rel => exact ⟨q + 1, by omega, by go_num, HB7.out⟩
          case measure => simp [intOf]; omega
        · obtain rfl : N = q := by omega
          clear hlt hq
          have HBR : Hid (Below w.heap.size w wr) := HB5.out.trans (HBL.out.mono HB5.out.size)
          by_cases hy : by_ = 0
          · subst hy
            have hy0 : (((0 : UInt8).toNat : Int) == 0) = true := rfl
            go_wp2_with fail
            go_ret
            exact ⟨rfl, HBR.out⟩
          · have hy0 : ((by_.toNat : Int) == 0) = false := by
              have : by_.toNat ≠ 0 := fun e => hy (UInt8.toNat_inj.1 e)
              simp; exact this
            have HY := Lib.hid hy
            clear hy
            have hm0 : ((m : Int) == 0) = false := by simp; omega
            go_wp2_with fail
            refine (pick_any at_ (m : Int) wr (by omega) (by omega)).mono ?_
            rintro e w6' ⟨rfl, rfl⟩
            have hj1 := Int.emod_nonneg at_ (show (m : Int) ≠ 0 by omega)
            have hj2 := Int.emod_lt_of_pos at_ (show (0 : Int) < (m : Int) by omega)
            obtain ⟨K, hK⟩ : ∃ K : Nat, at_ % (m : Int) = (K : Int) := ⟨(at_ % (m : Int)).toNat, by omega⟩
            rw [hK] at hj1 hj2 ⊢
            have HKM : Hid (K < m) := by rw [Hid]; omega
            clear hK hy0 hm0
            go_wp2_with fail
            refine (kitown_any wr _ b (HV.out.below HBR.out) (by rw [HNB.out]; omega)).mono ?_
            rintro e w6 ⟨vo2, rfl, hown6, hb6⟩
            obtain ⟨g, c6, rfl, hg1, hg2, hg3, hg4⟩ := hown6.at (by rw [HNB.out]; have := HKM.out; omega)
            rw [HNB.out] at hown6 hg3 ⊢
            have hcell := own_cell hown6 (j := K) (by rw [HNB.out]; exact HKM.out)
            have hfr := own_frozen hown6 HNB.out K
            have EX := byte_xor (b.getD K 0) by_
            have HS := Lib.hid (own_set hown6 HNB.out K (b.getD K 0 ^^^ by_))
            have HX : Hid (∀ i, chainB k (psN N) b i = chainB k (psN N) (b.set K (b.getD K 0 ^^^ by_)) i ↔ i ≠ K / 4074) := chain_set k (psN N) b K _ (by rw [HNB.out]; exact HKM.out) (by
              have hkb : K < b.length := by rw [HNB.out]; exact HKM.out
              rw [List.getD_eq_getElem?_getD, List.getElem?_eq_getElem hkb]
              exact xorC_ne HY.out)
            have HB6 : Hid (Below wr.heap.size wr (w6.setCell ⟨g, K, none⟩ (.int .u8 ((b.getD K 0 ^^^ by_).toNat : Int)))) := hb6.setCell (p := ⟨g, K, none⟩) hg1 _
            clear hown6 hb6 hg1 hg2 hg3 hg4
            generalize b.getD K 0 ^^^ by_ = z at *
            generalize b.getD K 0 = z0 at *
            go_wp2_with fail
            have HB7 : Hid (Below w5.heap.size w5 (w6.setCell ⟨g, K, none⟩ (.int .u8 (z.toNat : Int)))) := HBL.out.trans (HB6.out.mono HBL.out.size)
            refine (HPG.out _ Av cv _ _ (HR5.out.below HB7.out) HS.out.byt (by rw [List.length_set]; exact HNB.out)).mono ?_
            rintro e w8 ⟨vl2, vs2, rfl, hlr, hls, hb8⟩
            have HB8 : Hid (Below w5.heap.size w5 w8) := HB7.out.trans (hb8.mono HB7.out.size)
            have hvl : vs2.length = N := by rw [hls.1, chainL_len, psN_len]
            obtain ⟨gm, cm, rfl, hgl, hll, _, hcl, hcm, _⟩ := OwnV.form (e := 27) hlr (by have := HN1.out; omega)
            have HCM : Hid (∀ q, q < N → ∃ v0 c0, w8.cell? ⟨gm, q, none⟩ = some (.slice v0 4096 c0) ∧ Byt w8 (.slice v0 4096 c0) (chainB k (psN N) (b.set K z) q)) := fun q hq => by
              have h1 := hcm q (by omega)
              have h2 := hls.2 q (by omega) (by rw [chainL_len, psN_len]; exact hq)
              rw [chainL_get] at h2
              obtain ⟨A0, c0, e0⟩ := ownsRow_form h2
              rw [chainB_len] at e0
              rw [e0] at h1 h2
              exact ⟨A0, c0, h1, h2.byt⟩
            have HGM : Hid (gm < w8.heap.size) := hll
            have HBW : Hid (Below w.heap.size w w8) := HB5.out.trans (HB8.out.mono HB5.out.size)
            rw [hvl]
            clear hlr hls hb8 hvl hcm hgl hll hcl hcell hfr EX HS HB6 HB7
            go_wp2_with fail
            have hKd : IntKind.i64.wrap ((K : Int) / 4074) = ((K / 4074 : Nat) : Int) := by rw [IntKind.wrap_i64]; have := HKM.out; omega
            generalize K / 4074 = D at *
            have HKD := Lib.hid hKd
            clear hKd
            go_loopw [20] (fun i wr => RdRel w8 N i wr) (fun i _ => N - (intOf i).toNat)
            case atStart => exact ⟨0, Nat.zero_le _, rfl, Below.refl _ _⟩
            case round =>
              obtain ⟨q, hq, rfl, hbel⟩ := hrel
              have HB0 := Lib.hid hbel
              have HBL : Hid (Below w8.heap.size w8 wr.drew) := hbel.drew
              clear hbel
              by_cases hlt : q < N
              · have hqn : (q : Int) < (N : Int) := by omega
                obtain ⟨A0, c0, hc0, hbt0⟩ := HCL.out q hlt
                obtain ⟨A1, c1, hc1, hbt1⟩ := HCM.out q hlt
                have CA : Hid (wr.drew.cell? ⟨gl, q, none⟩ = some (.slice A0 4096 c0)) := (HBL.out.cell (p := ⟨gl, q, none⟩) (by have := HB8.out.size; have := HGL.out; show gl < w8.heap.size; omega)).trans ((HB8.out.cell (p := ⟨gl, q, none⟩) HGL.out).trans hc0)
                have CB : Hid (wr.drew.cell? ⟨gm, q, none⟩ = some (.slice A1 4096 c1)) := (HBL.out.cell (p := ⟨gm, q, none⟩) HGM.out).trans hc1
                have T1 := Lib.hid (text_of ((hbt0.below HB8.out).below HBL.out))
                have T2 := Lib.hid (text_of (hbt1.below HBL.out))
                have hE := bytes_eq (chainB k (psN N) b q) (chainB k (psN N) (b.set K z) q)
                clear hc0 hc1 hbt0 hbt1
                by_cases hqk : q = D
                · rw [decide_eq_false (fun h => (HX.out q).1 h hqk)] at hE
                  have hD : ((q : Int) != (D : Int)) = false := by rw [hqk]; simp
                  have E1 := Lib.hid hE
                  have HD := Lib.hid hD
                  clear hE hD hqk
                  generalize hs1 : (⟨(chainB k (psN N) b q).toArray⟩ : ByteArray) = s1 at *
                  generalize hs2 : (⟨(chainB k (psN N) (b.set K z) q).toArray⟩ : ByteArray) = s2 at *
                  go_wp2_with fail
                  refine wp_region_R (R := fun x y => x = y) (by kernel_rfl) (fun _ => rfl) (fun h k => h.trans k) (by kernel_rfl) (fun d v c a w h => by cases d <;> exact h)
                    [(0, false), (1, false), (2, false), (3, false), (4, false), (5, false), (6, false), (7, false), (8, false), (9, false), (10, false), (11, false), (12, false), (13, false), (14, false), (15, false)] rfl (by kernel_rfl) (by kernel_rfl) ?_
                  simp only [sel, List.getElem?_toArray, List.getElem?_cons_succ, List.getElem?_cons_zero]
                  generalize wr.drew = wd at *
                  iterate 3 (refine sch_take ?_ rfl ?_ ?_; rotate_left; (focus (intro u hu; go_simp <;> rfl)); simp only [Act.put, List.setIfInBounds_toArray, List.set_cons_zero, List.set_cons_succ])
                  (refine sch_take ?_ rfl ?_ ?_; rotate_left; (focus (intro u hu; subst hu; have c1 := CA.out; go_simp <;> rfl)); simp only [Act.put, List.setIfInBounds_toArray, List.set_cons_zero, List.set_cons_succ])
                  (refine sch_take ?_ rfl ?_ ?_; rotate_left; (focus (intro u hu; subst hu; have c1 := T1.out; go_simp <;> rfl)); simp only [Act.put, List.setIfInBounds_toArray, List.set_cons_zero, List.set_cons_succ])
                  iterate 3 (refine sch_take ?_ rfl ?_ ?_; rotate_left; (focus (intro u hu; go_simp <;> rfl)); simp only [Act.put, List.setIfInBounds_toArray, List.set_cons_zero, List.set_cons_succ])
                  (refine sch_take ?_ rfl ?_ ?_; rotate_left; (focus (intro u hu; subst hu; have c1 := CB.out; go_simp <;> rfl)); simp only [Act.put, List.setIfInBounds_toArray, List.set_cons_zero, List.set_cons_succ])
                  (refine sch_take ?_ rfl ?_ ?_; rotate_left; (focus (intro u hu; subst hu; have c1 := T2.out; go_simp <;> rfl)); simp only [Act.put, List.setIfInBounds_toArray, List.set_cons_zero, List.set_cons_succ])
                  (refine sch_take ?_ rfl ?_ ?_; rotate_left; (focus (intro u hu; have c1 := E1.out; go_simp <;> rfl)); simp only [Act.put, List.setIfInBounds_toArray, List.set_cons_zero, List.set_cons_succ])
                  iterate 2 (refine sch_take ?_ rfl ?_ ?_; rotate_left; (focus (intro u hu; go_simp <;> rfl)); simp only [Act.put, List.setIfInBounds_toArray, List.set_cons_zero, List.set_cons_succ])
                  (refine sch_take ?_ rfl ?_ ?_; rotate_left; (focus (intro u hu; have c1 := HKD.out; go_simp <;> rfl)); simp only [Act.put, List.setIfInBounds_toArray, List.set_cons_zero, List.set_cons_succ])
                  (refine sch_take ?_ rfl ?_ ?_; rotate_left; (focus (intro u hu; have c1 := HD.out; have c2 := HKD.out; go_simp <;> rfl)); simp only [Act.put, List.setIfInBounds_toArray, List.set_cons_zero, List.set_cons_succ])
                  (refine sch_take ?_ rfl ?_ ?_; rotate_left; (focus (intro u hu; have c1 := HD.out; have c2 := HKD.out; go_simp <;> rfl)); simp only [Act.put, List.setIfInBounds_toArray, List.set_cons_zero, List.set_cons_succ])
                  refine sch_nil ?_
                  go_wp2_with fail
                  go_roundw
                  case rel => exact ⟨q + 1, by omega, by go_num, HBL.out⟩
                  case measure => simp [intOf]; omega
                · rw [decide_eq_true ((HX.out q).2 hqk)] at hE
                  have hD : ((q : Int) != (D : Int)) = true := by simp; omega
                  have E1 := Lib.hid hE
                  have HD := Lib.hid hD
                  clear hE hD hqk
                  generalize hs1 : (⟨(chainB k (psN N) b q).toArray⟩ : ByteArray) = s1 at *
                  generalize hs2 : (⟨(chainB k (psN N) (b.set K z) q).toArray⟩ : ByteArray) = s2 at *
                  go_wp2_with fail
                  refine wp_region_R (R := fun x y => x = y) (by kernel_rfl) (fun _ => rfl) (fun h k => h.trans k) (by kernel_rfl) (fun d v c a w h => by cases d <;> exact h)
                    [(0, false), (1, false), (2, false), (3, false), (4, false), (5, false), (6, false), (7, false), (8, false), (9, false), (10, false), (11, false), (12, false), (13, false), (14, false), (15, false)] rfl (by kernel_rfl) (by kernel_rfl) ?_
                  simp only [sel, List.getElem?_toArray, List.getElem?_cons_succ, List.getElem?_cons_zero]
                  generalize wr.drew = wd at *
                  iterate 3 (refine sch_take ?_ rfl ?_ ?_; rotate_left; (focus (intro u hu; go_simp <;> rfl)); simp only [Act.put, List.setIfInBounds_toArray, List.set_cons_zero, List.set_cons_succ])
                  (refine sch_take ?_ rfl ?_ ?_; rotate_left; (focus (intro u hu; subst hu; have c1 := CA.out; go_simp <;> rfl)); simp only [Act.put, List.setIfInBounds_toArray, List.set_cons_zero, List.set_cons_succ])
                  (refine sch_take ?_ rfl ?_ ?_; rotate_left; (focus (intro u hu; subst hu; have c1 := T1.out; go_simp <;> rfl)); simp only [Act.put, List.setIfInBounds_toArray, List.set_cons_zero, List.set_cons_succ])
                  iterate 3 (refine sch_take ?_ rfl ?_ ?_; rotate_left; (focus (intro u hu; go_simp <;> rfl)); simp only [Act.put, List.setIfInBounds_toArray, List.set_cons_zero, List.set_cons_succ])
                  (refine sch_take ?_ rfl ?_ ?_; rotate_left; (focus (intro u hu; subst hu; have c1 := CB.out; go_simp <;> rfl)); simp only [Act.put, List.setIfInBounds_toArray, List.set_cons_zero, List.set_cons_succ])
                  (refine sch_take ?_ rfl ?_ ?_; rotate_left; (focus (intro u hu; subst hu; have c1 := T2.out; go_simp <;> rfl)); simp only [Act.put, List.setIfInBounds_toArray, List.set_cons_zero, List.set_cons_succ])
                  (refine sch_take ?_ rfl ?_ ?_; rotate_left; (focus (intro u hu; have c1 := E1.out; go_simp <;> rfl)); simp only [Act.put, List.setIfInBounds_toArray, List.set_cons_zero, List.set_cons_succ])
                  iterate 2 (refine sch_take ?_ rfl ?_ ?_; rotate_left; (focus (intro u hu; go_simp <;> rfl)); simp only [Act.put, List.setIfInBounds_toArray, List.set_cons_zero, List.set_cons_succ])
                  (refine sch_take ?_ rfl ?_ ?_; rotate_left; (focus (intro u hu; have c1 := HKD.out; go_simp <;> rfl)); simp only [Act.put, List.setIfInBounds_toArray, List.set_cons_zero, List.set_cons_succ])
                  (refine sch_take ?_ rfl ?_ ?_; rotate_left; (focus (intro u hu; have c1 := HD.out; have c2 := HKD.out; go_simp <;> rfl)); simp only [Act.put, List.setIfInBounds_toArray, List.set_cons_zero, List.set_cons_succ])
                  (refine sch_take ?_ rfl ?_ ?_; rotate_left; (focus (intro u hu; have c1 := HD.out; have c2 := HKD.out; go_simp <;> rfl)); simp only [Act.put, List.setIfInBounds_toArray, List.set_cons_zero, List.set_cons_succ])
                  refine sch_nil ?_
                  go_wp2_with fail
                  go_roundw
                  case rel => exact ⟨q + 1, by omega, by go_num, HBL.out⟩
                  case measure => simp [intOf]; omega
              · obtain rfl : N = q := by omega
                clear hlt hq
                have HBZ : Hid (Below w.heap.size w wr) := HBW.out.trans (HB0.out.mono HBW.out.size)
                go_wp2_with fail
                go_ret
                exact ⟨rfl, HBZ.out⟩

set_option maxRecDepth 100000 in
set_option maxHeartbeats 16000000 in
theorem walk_one (w : World) (v : Value) (b : List UInt8) (kind at_ : Int) (by_ : UInt8) (j k nb N : Nat) (hv : Byt w v b) (hnb : b.length = nb) (h0 : nb = 1) (h20 : nb ≤ 20000) (hN : needN nb = N) (hkj : kind % 3 = (j : Int)) (hjk : (j = 0 ∧ k = 2) ∨ (j = 1 ∧ k = 3) ∨ (j = 2 ∧ k = 7)) :
    Calls Tryd.prog 6 #[v, .int .i64 kind, .int .i64 at_, .int .u8 (by_.toNat : Int)] w fun e w' => e = .returned (.bool true) ∧ Below w.heap.size w w' := by
  obtain ⟨i0, hi0, hz0, hz1, hz2⟩ := info_parts iinfo
  obtain ⟨i1, hi1, hy0, hy1, hy2⟩ := info_parts uinfo
  obtain ⟨A, m, c, rfl, Nl, hmc, hcm⟩ := hv.form
  have hm : m = nb := Nl.out.trans hnb
  subst hm
  have HV := Lib.hid hv
  have HNB := Lib.hid hnb
  have HJK := Lib.hid hjk
  have HPK : Hid (∀ W, Calls Tryd.prog 14 #[.int .i64 kind, .int .i64 3] W fun e w' => e = .returned (.int .i64 (j : Int)) ∧ W = w') := fun W => hkj ▸ pick_any kind 3 W (by omega) (by omega)
  have HND : Hid (∀ W, Calls Tryd.prog 13 #[.int .i64 (m : Int)] W fun e w' => e = .returned (.int .i64 (N : Int)) ∧ W = w') := fun W => by
    have := cneed_any W (m : Int) (by omega)
    rw [show needI (m : Int) = needN m from rfl, hN] at this
    exact this
  have HND4 : Hid (∀ W, Calls Tryd.prog 13 #[.int .i64 ((m : Int) + 4074)] W fun e w' => e = .returned (.int .i64 ((N : Int) + 1)) ∧ W = w') := fun W => by
    have := cneed_any W ((m : Int) + 4074) (by omega)
    rw [show needI ((m : Int) + 4074) = needN (m + 4074) from rfl, needN_more (by omega), hN] at this
    exact this
  have hlo := needN_lo (n := m) (by omega)
  have hup := needN_up (n := m)
  have hp1 := needN_pos m
  rw [hN] at hlo hup hp1
  have HPG : Hid (∀ W A c v (x : List UInt8), Rowz W (.slice A N c) (natC (psN N)) → Byt W v x → x.length = m → Calls Tryd.prog 7 #[.int .i64 (k : Int), .slice A N c, v] W (PagesOut W (chainL k (psN N) x))) := fun W A c v x h1 h2 h3 =>
    cpages_ok W k A _ c v _ x h1 h2 (fun y hy => by have := ((psN_may N (by omega)).2 y hy).2; omega) (by omega) (by rcases hjk with ⟨_, rfl⟩ | ⟨_, rfl⟩ | ⟨_, rfl⟩ <;> simp) (by rw [psN_len, h3]; exact hN.symm) (psN_may _ (by omega))
  have HK7 : Hid (1 ≤ k ∧ k ≤ 7) := show 1 ≤ k ∧ k ≤ 7 by omega
  have HN1 : Hid (1 ≤ N) := hp1
  have HN10 : Hid (N ≤ 10) := by rw [Hid]; omega
  have hc1 : ¬ (N : Int) < 1 := by omega
  have hc3 : ¬ (N : Int) * 4074 < (m : Int) := by omega
  have hc2 : ¬ (1 : Int) ≤ ((N : Int) - 1) * 4074 := by omega
  have hc4 : (m : Int) ≤ 1 := by omega
  have hc5 : (0 : Int) < (m : Int) := by omega
  have HL := Lib.hid hlo
  have HU := Lib.hid hup
  have HNN := Lib.hid hN
  clear hv hnb hjk hkj hN h0 hlo hup hp1 Nl
  go_enter Tryd.func6, Tryd.ntmps6
  go_wp2_with fail
  refine (lives9_any w).mono ?_
  rintro e w1 ⟨rfl, hb1⟩
  have HB1 := Lib.hid hb1
  clear hb1
  go_wp2_with fail
  refine (HPK.out _).mono ?_
  rintro e w2 ⟨rfl, rfl⟩
  have cJ : (w1.alloc (.cells #[.int .i64 2, .int .i64 3, .int .i64 7] 3)).cell? ⟨w1.heap.size, j, none⟩ = some (.int .i64 (k : Int)) := by
    have h0 := SBox.new w1 3 [.int .i64 2, .int .i64 3, .int .i64 7]
    exact h0.cell j _ (by rcases HJK.out with ⟨rfl, rfl⟩ | ⟨rfl, rfl⟩ | ⟨rfl, rfl⟩ <;> rfl)
  have hj3 : (j : Int) < 3 := by rcases HJK.out with ⟨rfl, _⟩ | ⟨rfl, _⟩ | ⟨rfl, _⟩ <;> decide
  have HB2 : Hid (Below w.heap.size w (w1.alloc (.cells #[.int .i64 2, .int .i64 3, .int .i64 7] 3))) := HB1.out.alloc HB1.out.size _
  have HW2 : Hid (w1.alloc (.cells #[.int .i64 2, .int .i64 3, .int .i64 7] 3) = w1.alloc (.cells #[.int .i64 2, .int .i64 3, .int .i64 7] 3)) := rfl
  go_wp2_with fail
  clear cJ HW2
  generalize w1.alloc (.cells #[.int .i64 2, .int .i64 3, .int .i64 7] 3) = w2 at *
  refine (HND.out w2).mono ?_
  rintro e w2' ⟨rfl, rfl⟩
  go_wp2_with fail
  refine (HND4.out w2).mono ?_
  rintro e w2' ⟨rfl, rfl⟩
  go_wp2_with fail
  go_loopw [10, 11] (fun v i wr => PgRel w2 N v i wr) (fun _ i _ => N - (intOf i).toNat)
  case atStart => exact ⟨0, none, 0, rfl, Nat.zero_le _, rfl, OwnV.nil _ _ _, Below.refl _ _⟩
  case round =>
    obtain ⟨q, Av, cv, rfl, hq, rfl, hown, hbel⟩ := hrel
    have HO := Lib.hid hown
    have HBL := Lib.hid hbel
    clear hown hbel
    by_cases hlt : q < N
    · have hqn : (q : Int) < (N : Int) := by omega
      have HPS : Hid (natC (psN (q + 1)) = natC (psN q) ++ [.int .i64 (2 + 3 * (q : Int))]) := by
        rw [Hid, psN_snoc, natC_app]
        have : ((2 + 3 * q : Nat) : Int) = 2 + 3 * (q : Int) := by omega
        simp [natC, this]
      go_wp2_with (at_builtin; refine wpList_appV rfl (.tmp 71) (.tmp 75) _ rfl w2.heap.size 3 8 i0 _ Tryd.underlying26 hi0 hz0 hz1 hz2 rfl _ (natC (psN q)) rfl (HO.out.keep (below_new wr _)) _ [.int .i64 (2 + 3 * (q : Int))] rfl (Rowz.litV wr [.int .i64 (2 + 3 * (q : Int))] 3 (by simp [maxLen])) (by simp [Value.oneCell']) (by rw [natC_len, psN_len]; have := HN10.out; simp only [List.length_cons, List.length_nil]; omega) (by rw [natC_len, psN_len]; have := HN10.out; simp only [List.length_cons, List.length_nil, maxLen]; omega) (by have := HBL.out.size; simp; omega) ?_; intro v3 w3 hown3 hg3 hat3; have hb3 := OwnV.below (HO.out.keep (below_new wr (.cells #[.int .i64 (2 + 3 * (q : Int))] 3))) (HBL.out.alloc HBL.out.size _) (by have := HBL.out.size; simp; omega) hg3)
      go_roundw
      case rel =>
        obtain ⟨A3, c3, rfl⟩ := ownsRow_form hown3
        exact ⟨q + 1, A3, c3, by rw [← HPS.out, natC_len, psN_len], by omega, by go_num, by rw [HPS.out]; exact hown3, hb3⟩
      case measure => simp [intOf]; omega
    · obtain rfl : N = q := by omega
      have HR : Hid (Rowz wr (.slice Av N cv) (natC (psN N))) := HO.out.rowz
      have HBW : Hid (Below w.heap.size w wr) := HB2.out.trans (HBL.out.mono HB2.out.size)
      clear HO HBL hlt hq
      go_wp2_with fail
      refine (kitown_any wr _ b (HV.out.below HBW.out) (by rw [HNB.out]; omega)).mono ?_
      rintro e w4 ⟨vo, rfl, hown4, hb4⟩
      have HB4 : Hid (Below w.heap.size w w4) := HBW.out.trans (hb4.mono HBW.out.size)
      have HR4 : Hid (Rowz w4 (.slice Av N cv) (natC (psN N))) := HR.out.below hb4
      have HY4 : Hid (Byt w4 vo b) := hown4.byt
      clear hown4 hb4
      go_wp2_with fail
      refine (HPG.out w4 Av cv vo b HR4.out HY4.out HNB.out).mono ?_
      rintro e w5 ⟨vl, vs, rfl, hlr, hls, hb5⟩
      have HB5 : Hid (Below w.heap.size w w5) := HB4.out.trans (hb5.mono HB4.out.size)
      have HR5 : Hid (Rowz w5 (.slice Av N cv) (natC (psN N))) := HR4.out.below hb5
      have hvl : vs.length = N := by rw [hls.1, chainL_len, psN_len]
      obtain ⟨gl, cl, rfl, hgl, hll, _, hcl, hcell, _⟩ := OwnV.form (e := 27) hlr (by have := HN1.out; omega)
      have HCL : Hid (∀ q, q < N → ∃ v0 c0, w5.cell? ⟨gl, q, none⟩ = some (.slice v0 4096 c0) ∧ Byt w5 (.slice v0 4096 c0) (chainB k (psN N) b q)) := fun q hq => by
        have h1 := hcell q (by omega)
        have h2 := hls.2 q (by omega) (by rw [chainL_len, psN_len]; exact hq)
        rw [chainL_get] at h2
        obtain ⟨A0, c0, e0⟩ := ownsRow_form h2
        rw [chainB_len] at e0
        rw [e0] at h1 h2
        exact ⟨A0, c0, h1, h2.byt⟩
      have HGL : Hid (gl < w5.heap.size) := hll
      rw [hvl]
      clear hlr hls hb5 hvl hcell hgl hll hcl HR HR4 HY4 HBW HB4 HB2
      go_wp2_with fail
      go_loopw [14] (fun i wr => RdRel w5 N i wr) (fun i _ => N - (intOf i).toNat)
      case atStart => exact ⟨0, Nat.zero_le _, rfl, Below.refl _ _⟩
      case round =>
        obtain ⟨q, hq, rfl, hbel⟩ := hrel
        have HBL := Lib.hid hbel
        clear hbel
        by_cases hlt : q < N
        · have hqn : (q : Int) < (N : Int) := by omega
          obtain ⟨A0, c0, hcell, hbt⟩ := HCL.out q hlt
          have c1 := (HBL.out.cell (p := ⟨gl, q, none⟩) HGL.out).trans hcell
          have HBT : Hid (Byt wr (.slice A0 4096 c0) (chainB k (psN N) b q)) := hbt.below HBL.out
          clear hcell hbt
          go_wp2_with fail
          refine (r5read_ok wr _ _ HBT.out (pageB_ok (by have := HK7.out; omega) (by have := HK7.out; omega) (link_le _ _ _))).mono ?_
          rintro e w6 ⟨v6, rfl, hown6, hb6⟩
          obtain ⟨A6, c6, rfl⟩ := ownsRow_form hown6
          have hkk : ((chainB k (psN N) b q).getD 3 0).toNat = k := pageB_kind _ _ _ (by have := HK7.out; omega)
          have hnn : numW (chainB k (psN N) b q) = q := pageB_num _ _ _ (by have := HN10.out; omega)
          rw [hkk, hnn]
          have HB6 : Hid (Below w5.heap.size w5 w6) := HBL.out.trans (hb6.mono HBL.out.size)
          have hq32 : (q : Int) < 4294967296 := by have := HN10.out; omega
          clear hown6 hb6 hkk hnn
          generalize (List.drop 16 (chainB k (psN N) b q)).length = n6
          unfold pageV
          go_wp2_with (refine wpList_storeS (SBox.new w6 48 [.int .i64 0, .int .u32 0, .slice none 0 0]) pgInfo9 rfl (.tmp 15) (.tmp 104) rfl rfl (ds := [.int .i64 (k : Int), .int .u32 (q : Int), .slice A6 n6 c6]) rfl rfl (one_pg _ _ _ _ _) ?_; intro w7 hs7 hg7 hz7
                       have HB7 : Hid (Below w5.heap.size w5 w7) := (HB6.out.alloc HB6.out.size _).grown hg7 (by simp; exact Nat.le_succ_of_le HB6.out.size) (fun j e => by cases e; exact HB6.out.size)
                       have p0 := SBox.cell hs7 0 _ rfl
                       have p1 := SBox.cell hs7 1 _ rfl
                       clear hs7 hg7 hz7)
          go_roundw
          case rel => exact ⟨q + 1, by omega, by go_num, HB7.out⟩
          case measure => simp [intOf]; omega
        · obtain rfl : N = q := by omega
          clear hlt hq
          have HBR : Hid (Below w.heap.size w wr) := HB5.out.trans (HBL.out.mono HB5.out.size)
          by_cases hy : by_ = 0
          · subst hy
            have hy0 : (((0 : UInt8).toNat : Int) == 0) = true := rfl
            go_wp2_with fail
            go_ret
            exact ⟨rfl, HBR.out⟩
          · have hy0 : ((by_.toNat : Int) == 0) = false := by
              have : by_.toNat ≠ 0 := fun e => hy (UInt8.toNat_inj.1 e)
              simp; exact this
            have HY := Lib.hid hy
            clear hy
            have hm0 : ((m : Int) == 0) = false := by simp; omega
            go_wp2_with fail
            refine (pick_any at_ (m : Int) wr (by omega) (by omega)).mono ?_
            rintro e w6' ⟨rfl, rfl⟩
            have hj1 := Int.emod_nonneg at_ (show (m : Int) ≠ 0 by omega)
            have hj2 := Int.emod_lt_of_pos at_ (show (0 : Int) < (m : Int) by omega)
            obtain ⟨K, hK⟩ : ∃ K : Nat, at_ % (m : Int) = (K : Int) := ⟨(at_ % (m : Int)).toNat, by omega⟩
            rw [hK] at hj1 hj2 ⊢
            have HKM : Hid (K < m) := by rw [Hid]; omega
            clear hK hy0 hm0
            go_wp2_with fail
            refine (kitown_any wr _ b (HV.out.below HBR.out) (by rw [HNB.out]; omega)).mono ?_
            rintro e w6 ⟨vo2, rfl, hown6, hb6⟩
            obtain ⟨g, c6, rfl, hg1, hg2, hg3, hg4⟩ := hown6.at (by rw [HNB.out]; have := HKM.out; omega)
            rw [HNB.out] at hown6 hg3 ⊢
            have hcell := own_cell hown6 (j := K) (by rw [HNB.out]; exact HKM.out)
            have hfr := own_frozen hown6 HNB.out K
            have EX := byte_xor (b.getD K 0) by_
            have HS := Lib.hid (own_set hown6 HNB.out K (b.getD K 0 ^^^ by_))
            have HX : Hid (∀ i, chainB k (psN N) b i = chainB k (psN N) (b.set K (b.getD K 0 ^^^ by_)) i ↔ i ≠ K / 4074) := chain_set k (psN N) b K _ (by rw [HNB.out]; exact HKM.out) (by
              have hkb : K < b.length := by rw [HNB.out]; exact HKM.out
              rw [List.getD_eq_getElem?_getD, List.getElem?_eq_getElem hkb]
              exact xorC_ne HY.out)
            have HB6 : Hid (Below wr.heap.size wr (w6.setCell ⟨g, K, none⟩ (.int .u8 ((b.getD K 0 ^^^ by_).toNat : Int)))) := hb6.setCell (p := ⟨g, K, none⟩) hg1 _
            clear hown6 hb6 hg1 hg2 hg3 hg4
            generalize b.getD K 0 ^^^ by_ = z at *
            generalize b.getD K 0 = z0 at *
            go_wp2_with fail
            have HB7 : Hid (Below w5.heap.size w5 (w6.setCell ⟨g, K, none⟩ (.int .u8 (z.toNat : Int)))) := HBL.out.trans (HB6.out.mono HBL.out.size)
            refine (HPG.out _ Av cv _ _ (HR5.out.below HB7.out) HS.out.byt (by rw [List.length_set]; exact HNB.out)).mono ?_
            rintro e w8 ⟨vl2, vs2, rfl, hlr, hls, hb8⟩
            have HB8 : Hid (Below w5.heap.size w5 w8) := HB7.out.trans (hb8.mono HB7.out.size)
            have hvl : vs2.length = N := by rw [hls.1, chainL_len, psN_len]
            obtain ⟨gm, cm, rfl, hgl, hll, _, hcl, hcm, _⟩ := OwnV.form (e := 27) hlr (by have := HN1.out; omega)
            have HCM : Hid (∀ q, q < N → ∃ v0 c0, w8.cell? ⟨gm, q, none⟩ = some (.slice v0 4096 c0) ∧ Byt w8 (.slice v0 4096 c0) (chainB k (psN N) (b.set K z) q)) := fun q hq => by
              have h1 := hcm q (by omega)
              have h2 := hls.2 q (by omega) (by rw [chainL_len, psN_len]; exact hq)
              rw [chainL_get] at h2
              obtain ⟨A0, c0, e0⟩ := ownsRow_form h2
              rw [chainB_len] at e0
              rw [e0] at h1 h2
              exact ⟨A0, c0, h1, h2.byt⟩
            have HGM : Hid (gm < w8.heap.size) := hll
            have HBW : Hid (Below w.heap.size w w8) := HB5.out.trans (HB8.out.mono HB5.out.size)
            rw [hvl]
            clear hlr hls hb8 hvl hcm hgl hll hcl hcell hfr EX HS HB6 HB7
            go_wp2_with fail
            have hKd : IntKind.i64.wrap ((K : Int) / 4074) = ((K / 4074 : Nat) : Int) := by rw [IntKind.wrap_i64]; have := HKM.out; omega
            generalize K / 4074 = D at *
            have HKD := Lib.hid hKd
            clear hKd
            go_loopw [20] (fun i wr => RdRel w8 N i wr) (fun i _ => N - (intOf i).toNat)
            case atStart => exact ⟨0, Nat.zero_le _, rfl, Below.refl _ _⟩
            case round =>
              obtain ⟨q, hq, rfl, hbel⟩ := hrel
              have HB0 := Lib.hid hbel
              have HBL : Hid (Below w8.heap.size w8 wr.drew) := hbel.drew
              clear hbel
              by_cases hlt : q < N
              · have hqn : (q : Int) < (N : Int) := by omega
                obtain ⟨A0, c0, hc0, hbt0⟩ := HCL.out q hlt
                obtain ⟨A1, c1, hc1, hbt1⟩ := HCM.out q hlt
                have CA : Hid (wr.drew.cell? ⟨gl, q, none⟩ = some (.slice A0 4096 c0)) := (HBL.out.cell (p := ⟨gl, q, none⟩) (by have := HB8.out.size; have := HGL.out; show gl < w8.heap.size; omega)).trans ((HB8.out.cell (p := ⟨gl, q, none⟩) HGL.out).trans hc0)
                have CB : Hid (wr.drew.cell? ⟨gm, q, none⟩ = some (.slice A1 4096 c1)) := (HBL.out.cell (p := ⟨gm, q, none⟩) HGM.out).trans hc1
                have T1 := Lib.hid (text_of ((hbt0.below HB8.out).below HBL.out))
                have T2 := Lib.hid (text_of (hbt1.below HBL.out))
                have hE := bytes_eq (chainB k (psN N) b q) (chainB k (psN N) (b.set K z) q)
                clear hc0 hc1 hbt0 hbt1
                by_cases hqk : q = D
                · rw [decide_eq_false (fun h => (HX.out q).1 h hqk)] at hE
                  have hD : ((q : Int) != (D : Int)) = false := by rw [hqk]; simp
                  have E1 := Lib.hid hE
                  have HD := Lib.hid hD
                  clear hE hD hqk
                  generalize hs1 : (⟨(chainB k (psN N) b q).toArray⟩ : ByteArray) = s1 at *
                  generalize hs2 : (⟨(chainB k (psN N) (b.set K z) q).toArray⟩ : ByteArray) = s2 at *
                  go_wp2_with fail
                  refine wp_region_R (R := fun x y => x = y) (by kernel_rfl) (fun _ => rfl) (fun h k => h.trans k) (by kernel_rfl) (fun d v c a w h => by cases d <;> exact h)
                    [(0, false), (1, false), (2, false), (3, false), (4, false), (5, false), (6, false), (7, false), (8, false), (9, false), (10, false), (11, false), (12, false), (13, false), (14, false), (15, false)] rfl (by kernel_rfl) (by kernel_rfl) ?_
                  simp only [sel, List.getElem?_toArray, List.getElem?_cons_succ, List.getElem?_cons_zero]
                  generalize wr.drew = wd at *
                  iterate 3 (refine sch_take ?_ rfl ?_ ?_; rotate_left; (focus (intro u hu; go_simp <;> rfl)); simp only [Act.put, List.setIfInBounds_toArray, List.set_cons_zero, List.set_cons_succ])
                  (refine sch_take ?_ rfl ?_ ?_; rotate_left; (focus (intro u hu; subst hu; have c1 := CA.out; go_simp <;> rfl)); simp only [Act.put, List.setIfInBounds_toArray, List.set_cons_zero, List.set_cons_succ])
                  (refine sch_take ?_ rfl ?_ ?_; rotate_left; (focus (intro u hu; subst hu; have c1 := T1.out; go_simp <;> rfl)); simp only [Act.put, List.setIfInBounds_toArray, List.set_cons_zero, List.set_cons_succ])
                  iterate 3 (refine sch_take ?_ rfl ?_ ?_; rotate_left; (focus (intro u hu; go_simp <;> rfl)); simp only [Act.put, List.setIfInBounds_toArray, List.set_cons_zero, List.set_cons_succ])
                  (refine sch_take ?_ rfl ?_ ?_; rotate_left; (focus (intro u hu; subst hu; have c1 := CB.out; go_simp <;> rfl)); simp only [Act.put, List.setIfInBounds_toArray, List.set_cons_zero, List.set_cons_succ])
                  (refine sch_take ?_ rfl ?_ ?_; rotate_left; (focus (intro u hu; subst hu; have c1 := T2.out; go_simp <;> rfl)); simp only [Act.put, List.setIfInBounds_toArray, List.set_cons_zero, List.set_cons_succ])
                  (refine sch_take ?_ rfl ?_ ?_; rotate_left; (focus (intro u hu; have c1 := E1.out; go_simp <;> rfl)); simp only [Act.put, List.setIfInBounds_toArray, List.set_cons_zero, List.set_cons_succ])
                  iterate 2 (refine sch_take ?_ rfl ?_ ?_; rotate_left; (focus (intro u hu; go_simp <;> rfl)); simp only [Act.put, List.setIfInBounds_toArray, List.set_cons_zero, List.set_cons_succ])
                  (refine sch_take ?_ rfl ?_ ?_; rotate_left; (focus (intro u hu; have c1 := HKD.out; go_simp <;> rfl)); simp only [Act.put, List.setIfInBounds_toArray, List.set_cons_zero, List.set_cons_succ])
                  (refine sch_take ?_ rfl ?_ ?_; rotate_left; (focus (intro u hu; have c1 := HD.out; have c2 := HKD.out; go_simp <;> rfl)); simp only [Act.put, List.setIfInBounds_toArray, List.set_cons_zero, List.set_cons_succ])
                  (refine sch_take ?_ rfl ?_ ?_; rotate_left; (focus (intro u hu; have c1 := HD.out; have c2 := HKD.out; go_simp <;> rfl)); simp only [Act.put, List.setIfInBounds_toArray, List.set_cons_zero, List.set_cons_succ])
                  refine sch_nil ?_
                  go_wp2_with fail
                  go_roundw
                  case rel => exact ⟨q + 1, by omega, by go_num, HBL.out⟩
                  case measure => simp [intOf]; omega
                · rw [decide_eq_true ((HX.out q).2 hqk)] at hE
                  have hD : ((q : Int) != (D : Int)) = true := by simp; omega
                  have E1 := Lib.hid hE
                  have HD := Lib.hid hD
                  clear hE hD hqk
                  generalize hs1 : (⟨(chainB k (psN N) b q).toArray⟩ : ByteArray) = s1 at *
                  generalize hs2 : (⟨(chainB k (psN N) (b.set K z) q).toArray⟩ : ByteArray) = s2 at *
                  go_wp2_with fail
                  refine wp_region_R (R := fun x y => x = y) (by kernel_rfl) (fun _ => rfl) (fun h k => h.trans k) (by kernel_rfl) (fun d v c a w h => by cases d <;> exact h)
                    [(0, false), (1, false), (2, false), (3, false), (4, false), (5, false), (6, false), (7, false), (8, false), (9, false), (10, false), (11, false), (12, false), (13, false), (14, false), (15, false)] rfl (by kernel_rfl) (by kernel_rfl) ?_
                  simp only [sel, List.getElem?_toArray, List.getElem?_cons_succ, List.getElem?_cons_zero]
                  generalize wr.drew = wd at *
                  iterate 3 (refine sch_take ?_ rfl ?_ ?_; rotate_left; (focus (intro u hu; go_simp <;> rfl)); simp only [Act.put, List.setIfInBounds_toArray, List.set_cons_zero, List.set_cons_succ])
                  (refine sch_take ?_ rfl ?_ ?_; rotate_left; (focus (intro u hu; subst hu; have c1 := CA.out; go_simp <;> rfl)); simp only [Act.put, List.setIfInBounds_toArray, List.set_cons_zero, List.set_cons_succ])
                  (refine sch_take ?_ rfl ?_ ?_; rotate_left; (focus (intro u hu; subst hu; have c1 := T1.out; go_simp <;> rfl)); simp only [Act.put, List.setIfInBounds_toArray, List.set_cons_zero, List.set_cons_succ])
                  iterate 3 (refine sch_take ?_ rfl ?_ ?_; rotate_left; (focus (intro u hu; go_simp <;> rfl)); simp only [Act.put, List.setIfInBounds_toArray, List.set_cons_zero, List.set_cons_succ])
                  (refine sch_take ?_ rfl ?_ ?_; rotate_left; (focus (intro u hu; subst hu; have c1 := CB.out; go_simp <;> rfl)); simp only [Act.put, List.setIfInBounds_toArray, List.set_cons_zero, List.set_cons_succ])
                  (refine sch_take ?_ rfl ?_ ?_; rotate_left; (focus (intro u hu; subst hu; have c1 := T2.out; go_simp <;> rfl)); simp only [Act.put, List.setIfInBounds_toArray, List.set_cons_zero, List.set_cons_succ])
                  (refine sch_take ?_ rfl ?_ ?_; rotate_left; (focus (intro u hu; have c1 := E1.out; go_simp <;> rfl)); simp only [Act.put, List.setIfInBounds_toArray, List.set_cons_zero, List.set_cons_succ])
                  iterate 2 (refine sch_take ?_ rfl ?_ ?_; rotate_left; (focus (intro u hu; go_simp <;> rfl)); simp only [Act.put, List.setIfInBounds_toArray, List.set_cons_zero, List.set_cons_succ])
                  (refine sch_take ?_ rfl ?_ ?_; rotate_left; (focus (intro u hu; have c1 := HKD.out; go_simp <;> rfl)); simp only [Act.put, List.setIfInBounds_toArray, List.set_cons_zero, List.set_cons_succ])
                  (refine sch_take ?_ rfl ?_ ?_; rotate_left; (focus (intro u hu; have c1 := HD.out; have c2 := HKD.out; go_simp <;> rfl)); simp only [Act.put, List.setIfInBounds_toArray, List.set_cons_zero, List.set_cons_succ])
                  (refine sch_take ?_ rfl ?_ ?_; rotate_left; (focus (intro u hu; have c1 := HD.out; have c2 := HKD.out; go_simp <;> rfl)); simp only [Act.put, List.setIfInBounds_toArray, List.set_cons_zero, List.set_cons_succ])
                  refine sch_nil ?_
                  go_wp2_with fail
                  go_roundw
                  case rel => exact ⟨q + 1, by omega, by go_num, HBL.out⟩
                  case measure => simp [intOf]; omega
              · obtain rfl : N = q := by omega
                clear hlt hq
                have HBZ : Hid (Below w.heap.size w wr) := HBW.out.trans (HB0.out.mono HBW.out.size)
                go_wp2_with fail
                go_ret
                exact ⟨rfl, HBZ.out⟩

set_option maxRecDepth 100000 in
set_option maxHeartbeats 16000000 in
theorem walk_zero (w : World) (v : Value) (b : List UInt8) (kind at_ : Int) (by_ : UInt8) (j k nb N : Nat) (hv : Byt w v b) (hnb : b.length = nb) (h0 : nb = 0) (h20 : nb ≤ 20000) (hN : needN nb = N) (hkj : kind % 3 = (j : Int)) (hjk : (j = 0 ∧ k = 2) ∨ (j = 1 ∧ k = 3) ∨ (j = 2 ∧ k = 7)) :
    Calls Tryd.prog 6 #[v, .int .i64 kind, .int .i64 at_, .int .u8 (by_.toNat : Int)] w fun e w' => e = .returned (.bool true) ∧ Below w.heap.size w w' := by
  obtain ⟨i0, hi0, hz0, hz1, hz2⟩ := info_parts iinfo
  obtain ⟨i1, hi1, hy0, hy1, hy2⟩ := info_parts uinfo
  obtain ⟨A, m, c, rfl, Nl, hmc, hcm⟩ := hv.form
  have hm : m = nb := Nl.out.trans hnb
  subst hm
  have HV := Lib.hid hv
  have HNB := Lib.hid hnb
  have HJK := Lib.hid hjk
  have HPK : Hid (∀ W, Calls Tryd.prog 14 #[.int .i64 kind, .int .i64 3] W fun e w' => e = .returned (.int .i64 (j : Int)) ∧ W = w') := fun W => hkj ▸ pick_any kind 3 W (by omega) (by omega)
  have HND : Hid (∀ W, Calls Tryd.prog 13 #[.int .i64 (m : Int)] W fun e w' => e = .returned (.int .i64 (N : Int)) ∧ W = w') := fun W => by
    have := cneed_any W (m : Int) (by omega)
    rw [show needI (m : Int) = needN m from rfl, hN] at this
    exact this
  have hup := needN_up (n := m)
  have hp1 := needN_pos m
  have hN1 : N = 1 := by rw [← hN, h0]; rfl
  subst h0
  subst hN1
  have HPG : Hid (∀ W A c v (x : List UInt8), Rowz W (.slice A 1 c) (natC (psN 1)) → Byt W v x → x.length = 0 → Calls Tryd.prog 7 #[.int .i64 (k : Int), .slice A 1 c, v] W (PagesOut W (chainL k (psN 1) x))) := fun W A c v x h1 h2 h3 =>
    cpages_ok W k A _ c v _ x h1 h2 (fun y hy => by have := ((psN_may 1 (by omega)).2 y hy).2; omega) (by omega) (by rcases hjk with ⟨_, rfl⟩ | ⟨_, rfl⟩ | ⟨_, rfl⟩ <;> simp) (by rw [psN_len, h3]; rfl) (psN_may _ (by omega))
  have HK7 : Hid (1 ≤ k ∧ k ≤ 7) := show 1 ≤ k ∧ k ≤ 7 by omega
  have HN1 : Hid (1 ≤ 1) := Nat.le_refl 1
  have HN10 : Hid (1 ≤ 10) := by rw [Hid]; omega
  have HNN := Lib.hid hN
  clear hv hnb hjk hkj hN hup hp1 Nl
  go_enter Tryd.func6, Tryd.ntmps6
  go_wp2_with fail
  refine (lives9_any w).mono ?_
  rintro e w1 ⟨rfl, hb1⟩
  have HB1 := Lib.hid hb1
  clear hb1
  go_wp2_with fail
  refine (HPK.out _).mono ?_
  rintro e w2 ⟨rfl, rfl⟩
  have cJ : (w1.alloc (.cells #[.int .i64 2, .int .i64 3, .int .i64 7] 3)).cell? ⟨w1.heap.size, j, none⟩ = some (.int .i64 (k : Int)) := by
    have h0 := SBox.new w1 3 [.int .i64 2, .int .i64 3, .int .i64 7]
    exact h0.cell j _ (by rcases HJK.out with ⟨rfl, rfl⟩ | ⟨rfl, rfl⟩ | ⟨rfl, rfl⟩ <;> rfl)
  have hj3 : (j : Int) < 3 := by rcases HJK.out with ⟨rfl, _⟩ | ⟨rfl, _⟩ | ⟨rfl, _⟩ <;> decide
  have HB2 : Hid (Below w.heap.size w (w1.alloc (.cells #[.int .i64 2, .int .i64 3, .int .i64 7] 3))) := HB1.out.alloc HB1.out.size _
  have HW2 : Hid (w1.alloc (.cells #[.int .i64 2, .int .i64 3, .int .i64 7] 3) = w1.alloc (.cells #[.int .i64 2, .int .i64 3, .int .i64 7] 3)) := rfl
  go_wp2_with fail
  clear cJ HW2
  generalize w1.alloc (.cells #[.int .i64 2, .int .i64 3, .int .i64 7] 3) = w2 at *
  refine (HND.out w2).mono ?_
  rintro e w2' ⟨rfl, rfl⟩
  go_wp2_with fail
  refine (cneed_any w2 4074 (by omega)).mono ?_
  rintro e w2' ⟨rfl, rfl⟩
  rw [show needI 4074 = 1 from rfl]
  go_wp2_with fail
  go_loopw [10, 11] (fun v i wr => PgRel w2 1 v i wr) (fun _ i _ => 1 - (intOf i).toNat)
  case atStart => exact ⟨0, none, 0, rfl, Nat.zero_le _, rfl, OwnV.nil _ _ _, Below.refl _ _⟩
  case round =>
    obtain ⟨q, Av, cv, rfl, hq, rfl, hown, hbel⟩ := hrel
    have HO := Lib.hid hown
    have HBL := Lib.hid hbel
    clear hown hbel
    by_cases hlt : q < 1
    · have hqn : (q : Int) < (1 : Int) := by omega
      have HPS : Hid (natC (psN (q + 1)) = natC (psN q) ++ [.int .i64 (2 + 3 * (q : Int))]) := by
        rw [Hid, psN_snoc, natC_app]
        have : ((2 + 3 * q : Nat) : Int) = 2 + 3 * (q : Int) := by omega
        simp [natC, this]
      go_wp2_with (at_builtin; refine wpList_appV rfl (.tmp 71) (.tmp 75) _ rfl w2.heap.size 3 8 i0 _ Tryd.underlying26 hi0 hz0 hz1 hz2 rfl _ (natC (psN q)) rfl (HO.out.keep (below_new wr _)) _ [.int .i64 (2 + 3 * (q : Int))] rfl (Rowz.litV wr [.int .i64 (2 + 3 * (q : Int))] 3 (by simp [maxLen])) (by simp [Value.oneCell']) (by rw [natC_len, psN_len]; have := HN10.out; simp only [List.length_cons, List.length_nil]; omega) (by rw [natC_len, psN_len]; have := HN10.out; simp only [List.length_cons, List.length_nil, maxLen]; omega) (by have := HBL.out.size; simp; omega) ?_; intro v3 w3 hown3 hg3 hat3; have hb3 := OwnV.below (HO.out.keep (below_new wr (.cells #[.int .i64 (2 + 3 * (q : Int))] 3))) (HBL.out.alloc HBL.out.size _) (by have := HBL.out.size; simp; omega) hg3)
      go_roundw
      case rel =>
        obtain ⟨A3, c3, rfl⟩ := ownsRow_form hown3
        exact ⟨q + 1, A3, c3, by rw [← HPS.out, natC_len, psN_len], by omega, by go_num, by rw [HPS.out]; exact hown3, hb3⟩
      case measure => simp [intOf]; omega
    · obtain rfl : q = 1 := by omega
      have HR : Hid (Rowz wr (.slice Av 1 cv) (natC (psN 1))) := HO.out.rowz
      have HBW : Hid (Below w.heap.size w wr) := HB2.out.trans (HBL.out.mono HB2.out.size)
      clear HO HBL hlt hq
      go_wp2_with fail
      refine (kitown_any wr _ b (HV.out.below HBW.out) (by rw [HNB.out]; omega)).mono ?_
      rintro e w4 ⟨vo, rfl, hown4, hb4⟩
      have HB4 : Hid (Below w.heap.size w w4) := HBW.out.trans (hb4.mono HBW.out.size)
      have HR4 : Hid (Rowz w4 (.slice Av 1 cv) (natC (psN 1))) := HR.out.below hb4
      have HY4 : Hid (Byt w4 vo b) := hown4.byt
      clear hown4 hb4
      go_wp2_with fail
      refine (HPG.out w4 Av cv vo b HR4.out HY4.out HNB.out).mono ?_
      rintro e w5 ⟨vl, vs, rfl, hlr, hls, hb5⟩
      have HB5 : Hid (Below w.heap.size w w5) := HB4.out.trans (hb5.mono HB4.out.size)
      have HR5 : Hid (Rowz w5 (.slice Av 1 cv) (natC (psN 1))) := HR4.out.below hb5
      have hvl : vs.length = 1 := by rw [hls.1, chainL_len, psN_len]
      obtain ⟨gl, cl, rfl, hgl, hll, _, hcl, hcell, _⟩ := OwnV.form (e := 27) hlr (by have := HN1.out; omega)
      have HCL : Hid (∀ q, q < 1 → ∃ v0 c0, w5.cell? ⟨gl, q, none⟩ = some (.slice v0 4096 c0) ∧ Byt w5 (.slice v0 4096 c0) (chainB k (psN 1) b q)) := fun q hq => by
        have h1 := hcell q (by omega)
        have h2 := hls.2 q (by omega) (by rw [chainL_len, psN_len]; exact hq)
        rw [chainL_get] at h2
        obtain ⟨A0, c0, e0⟩ := ownsRow_form h2
        rw [chainB_len] at e0
        rw [e0] at h1 h2
        exact ⟨A0, c0, h1, h2.byt⟩
      have HGL : Hid (gl < w5.heap.size) := hll
      rw [hvl]
      clear hlr hls hb5 hvl hcell hgl hll hcl HR HR4 HY4 HBW HB4 HB2
      go_wp2_with fail
      go_loopw [14] (fun i wr => RdRel w5 1 i wr) (fun i _ => 1 - (intOf i).toNat)
      case atStart => exact ⟨0, Nat.zero_le _, rfl, Below.refl _ _⟩
      case round =>
        obtain ⟨q, hq, rfl, hbel⟩ := hrel
        have HBL := Lib.hid hbel
        clear hbel
        by_cases hlt : q < 1
        · have hqn : (q : Int) < (1 : Int) := by omega
          obtain ⟨A0, c0, hcell, hbt⟩ := HCL.out q hlt
          have c1 := (HBL.out.cell (p := ⟨gl, q, none⟩) HGL.out).trans hcell
          have HBT : Hid (Byt wr (.slice A0 4096 c0) (chainB k (psN 1) b q)) := hbt.below HBL.out
          clear hcell hbt
          go_wp2_with fail
          refine (r5read_ok wr _ _ HBT.out (pageB_ok (by have := HK7.out; omega) (by have := HK7.out; omega) (link_le _ _ _))).mono ?_
          rintro e w6 ⟨v6, rfl, hown6, hb6⟩
          obtain ⟨A6, c6, rfl⟩ := ownsRow_form hown6
          have hkk : ((chainB k (psN 1) b q).getD 3 0).toNat = k := pageB_kind _ _ _ (by have := HK7.out; omega)
          have hnn : numW (chainB k (psN 1) b q) = q := pageB_num _ _ _ (by have := HN10.out; omega)
          rw [hkk, hnn]
          have HB6 : Hid (Below w5.heap.size w5 w6) := HBL.out.trans (hb6.mono HBL.out.size)
          have hq32 : (q : Int) < 4294967296 := by have := HN10.out; omega
          clear hown6 hb6 hkk hnn
          generalize (List.drop 16 (chainB k (psN 1) b q)).length = n6
          unfold pageV
          go_wp2_with (refine wpList_storeS (SBox.new w6 48 [.int .i64 0, .int .u32 0, .slice none 0 0]) pgInfo9 rfl (.tmp 15) (.tmp 104) rfl rfl (ds := [.int .i64 (k : Int), .int .u32 (q : Int), .slice A6 n6 c6]) rfl rfl (one_pg _ _ _ _ _) ?_; intro w7 hs7 hg7 hz7
                       have HB7 : Hid (Below w5.heap.size w5 w7) := (HB6.out.alloc HB6.out.size _).grown hg7 (by simp; exact Nat.le_succ_of_le HB6.out.size) (fun j e => by cases e; exact HB6.out.size)
                       have p0 := SBox.cell hs7 0 _ rfl
                       have p1 := SBox.cell hs7 1 _ rfl
                       clear hs7 hg7 hz7)
          go_roundw
          case rel => exact ⟨q + 1, by omega, by go_num, HB7.out⟩
          case measure => simp [intOf]; omega
        · obtain rfl : q = 1 := by omega
          clear hlt hq
          have HBR : Hid (Below w.heap.size w wr) := HB5.out.trans (HBL.out.mono HB5.out.size)
          go_wp2_with fail
          go_ret
          exact ⟨rfl, HBR.out⟩

set_option maxRecDepth 100000 in
theorem walk (w : World) (v : Value) (b : List UInt8) (kind at_ : Int) (by_ : UInt8) (hv : Byt w v b) (h1 : -9223372036854775808 ≤ kind ∧ kind ≤ 9223372036854775807) (h2 : -9223372036854775808 ≤ at_ ∧ at_ ≤ 9223372036854775807) :
    Calls Tryd.prog 6 #[v, .int .i64 kind, .int .i64 at_, .int .u8 (by_.toNat : Int)] w fun e w' => e = .returned (.bool true) ∧ Below w.heap.size w w' := by
  by_cases h20 : b.length ≤ 20000
  · have hj1 := Int.emod_nonneg kind (show (3 : Int) ≠ 0 by omega)
    have hj2 := Int.emod_lt_of_pos kind (show (0 : Int) < 3 by omega)
    obtain ⟨j, hj⟩ : ∃ j : Nat, kind % 3 = (j : Int) := ⟨(kind % 3).toNat, by omega⟩
    obtain ⟨k, hk⟩ : ∃ k : Nat, (j = 0 ∧ k = 2) ∨ (j = 1 ∧ k = 3) ∨ (j = 2 ∧ k = 7) := by
      have : j = 0 ∨ j = 1 ∨ j = 2 := by omega
      rcases this with rfl | rfl | rfl
      · exact ⟨2, by simp⟩
      · exact ⟨3, by simp⟩
      · exact ⟨7, by simp⟩
    by_cases hg : 1 < b.length
    · exact walk_gt w v b kind at_ by_ j k _ _ hv rfl hg h20 rfl hj hk
    · by_cases ho : b.length = 1
      · exact walk_one w v b kind at_ by_ j k _ _ hv rfl ho h20 rfl hj hk
      · exact walk_zero w v b kind at_ by_ j k _ _ hv rfl (by omega) h20 rfl hj hk
  · obtain ⟨A, m, c, rfl, Nl, hmc, hcm⟩ := hv.form
    have hm : m = b.length := Nl.out
    have hb : (20000 : Int) < (m : Int) := by omega
    clear hm h20 Nl
    go_enter Tryd.func6, Tryd.ntmps6
    go_wp2_with fail
    refine (lives9_any w).mono ?_
    rintro e w1 ⟨rfl, hb1⟩
    have HB1 := Lib.hid hb1
    clear hb1
    go_wp2_with fail
    go_ret
    exact ⟨rfl, HB1.out⟩

set_option maxRecDepth 100000 in
theorem lifted (os : Os) (started : os.Started) (H : Type) (enc : TypeId × Value → H) :
    ReturnsInHanded {} Tryd.checked os 6 .any (fun w args => (Rows.chainNeedsSpec.pre enc Tryd.prog Tryd.f6 Rows.chainNeedsRow.domain false w args ∧ laidMetH Tryd.prog Rows.chainNeedsRow.laid w) ∧ sizedMet enc Tryd.prog Tryd.f6 (OpenSpec.ofChange Rows.chainNeedsSpec) false w args) (Rows.chainNeedsSpec.post enc Tryd.prog Tryd.f6 false true false false) := by
  refine returnsInHanded_of_change_and (C := Tryd.checked) (X := fun w _ => laidMetH Tryd.prog Rows.chainNeedsRow.laid w) (fun _ _ _ hh h => h.of_heap hh) ownKnobs started (by kernel_rfl) Tryd.func6
    (ChangeSpec.witness_shaped (enc := enc) (C := Tryd.checked) (os := os) (X := fun w _ => laidMetH Tryd.prog Rows.chainNeedsRow.laid w) false (World.laidAll Tryd.prog os Rows.chainNeedsRow.laid) #[.slice none 0 0, .int .i64 0, .int .i64 0, .int .u8 0] 8 (World.laidAll_os _ _ _)
      (World.shaped_of_ZipB (by kernel_rfl) (by kernel_rfl)) (by kernel_rfl) (by kernel_rfl) (by kernel_rfl)
      (by rw [MakeChecks.laidMetH_plain _ _ _ (by kernel_rfl)]; exact laidMet_laidAll _ (by kernel_rfl) (by kernel_rfl))) ?_
  intro W base args ds gs before hval0 hW hcnd _ _ _
  have hval : ∀ (j : Nat) t v, Tryd.f6.params[j]? = some t → args[j]? = some v → Value.okWide Tryd.prog W .any base t v := hval0
  have hW' := hW
  obtain ⟨p, q, hA0, hV, rfl, hfz, hnd⟩ := hW
  have hA : DataW.TrodAll enc Tryd.prog W 0 (fun _ => true) true Tryd.f6.params.toList args.toList ds p := hA0
  rw [Tryd.params6] at hA hval
  obtain ⟨v0, vs0, d0, ds0, p0, q0, hargs, rfl, rfl, h0, r0⟩ := trodAll_cons hA
  obtain ⟨v1, vs1, d1, ds1, p1, q1, rfl, rfl, rfl, h1, r1⟩ := trodAll_cons r0
  obtain ⟨v2, vs2, d2, ds2, p2, q2, rfl, rfl, rfl, h2, r2⟩ := trodAll_cons r1
  obtain ⟨v3, vs3, d3, ds3, p3, q3, rfl, rfl, rfl, h3, r3⟩ := trodAll_cons r2
  obtain ⟨rfl, rfl, rfl⟩ := trodAll_nil r3
  obtain rfl : args = #[v0, v1, v2, v3] := by cases args; simp_all
  obtain ⟨rfl, rfl⟩ := trodVars_none hV
  have k0 := h0
  have lt0 : ∀ x ∈ p0, x.block < W.heap.size := by obtain ⟨m, hm⟩ := k0; exact DataW.trod_lt m _ _ _ hm
  obtain ⟨l0, b0⟩ := open_bytes (hval 0 27 v0 rfl rfl) h0
  obtain ⟨a1, rfl, rfl, rfl, w1⟩ := open_int Tryd.underlying3 (hval 1 3 v1 rfl rfl) h1
  have b1 := open_i64 w1
  obtain ⟨a2, rfl, rfl, rfl, w2⟩ := open_int Tryd.underlying3 (hval 2 3 v2 rfl rfl) h2
  have b2 := open_i64 w2
  obtain ⟨a3, rfl, rfl, rfl, w3⟩ := open_int Tryd.underlying5 (hval 3 5 v3 rfl rfl) h3
  obtain ⟨n3, rfl⟩ := open_u8 w3
  clear hA0 hval0
  refine (walk W v0 l0 a1 a2 n3 b0 b1 b2).mono fun e W' ⟨he, bel⟩ => ?_
  subst he
  exact ⟨_, rfl, _, _, _, [], _, [], hW', trodAll_mk1 (shut_bool Tryd.underlying4 _), (trodAll_cons_mk (Below.trod laidOuts (by kernel_rfl) (of_decide_eq_true (by kernel_rfl)) k0 bel lt0) (trodAll_cons_mk (shut_int Tryd.underlying3 w1) (trodAll_cons_mk (shut_int Tryd.underlying3 w2) (trodAll_cons_mk (shut_int Tryd.underlying5 w3) trodAll_mk0)))), rfl, bel.frame _, fun h => by cases h⟩

theorem over : Rows.chainNeedsRow.holds Tryd.pinned (OpenSpec.ofChange Rows.chainNeedsSpec) :=
  OpenClaim.holds_of_wide 6 Tryd.f6 rfl rfl rfl rfl rfl rfl rfl ⟨rfl, rfl, rfl, rfl, rfl⟩ rfl rfl rfl rfl rfl (by kernel_rfl) Tryd.func6 (by kernel_rfl)
    (of_decide_eq_true (by kernel_rfl)) (by unfold Func.isWrapper; first | (rw [if_pos (by decide +kernel)]; kernel_rfl) | (rw [if_neg (by decide +kernel)]; exact ⟨rfl, rfl⟩))
    (fun os started H enc _ => lifted os started H enc)

theorem proved : Rows.ChainNeedsCardSaid :=
  Claim7.holds_tied_plain_at .later [] [.data, .pinned] true Rows.chainNeedsCard.stood.harness false over (fun _ h => by cases h) (by kernel_rfl) (fun _ h => by cases h) chainNeeds_row_tie rfl ⟨rfl, rfl⟩ (by kernel_rfl) rfl
    (fun f fn hf hfn => by
      obtain rfl : f = 6 := Option.some.inj ((show Tryd.prog.funcNamed "tallyman/tallymanlaw09.ChainNeeds" = some 6 by kernel_rfl).symm.trans hf) |>.symm
      obtain rfl : fn = Tryd.f6 := (Option.some.inj (Tryd.func6.symm.trans hfn)).symm
      exact ⟨by kernel_rfl, fun j t ht => by
        rw [Tryd.params6] at ht
        have hm : t ∈ [27, 3, 3, 5] := by simpa using Array.mem_of_getElem? ht
        have hall : ([27, 3, 3, 5].all fun u => !Tryd.prog.wantsStandIn u) = true := by kernel_rfl
        exact (show Tryd.prog.wantsStandIn t = false by simpa using List.all_eq_true.1 hall t hm)⟩)
    (by kernel_rfl)
#print axioms proved
end Go.Proofs.YtknagdbhhfelnaaDoor.chainNeeds

