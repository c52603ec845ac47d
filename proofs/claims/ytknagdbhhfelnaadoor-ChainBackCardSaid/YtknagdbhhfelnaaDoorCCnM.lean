/-
  Package chain: what is refused; a pool that was just made; the chapter's examples (the law's lives). Conditions: none.
-/
import Derived.Test.YtknagdbhhfelnaaDoorCCnK
import Derived.Test.YtknagdbhhfelnaaDoorCCnL
import Derived.Test.YtknagdbhhfelnaaDoorCSpO
import Derived.Test.YtknagdbhhfelnaaDoorMg0
import Derived.Test.YtknagdbhhfelnaaDoorMg5
namespace Go.Proofs.YtknagdbhhfelnaaDoor
open Go.ChangeShapes Go.WideShapes Go.ChangeAt Go.RowKit Go.Maps
set_option maxRecDepth 100000
set_option linter.unusedVariables false

theorem cread_nil (w : World) (k head most : Int) : Calls Tryd.prog 8 #[.pointer none, .int .i64 k, .int .i64 head, .int .i64 most] w fun e w' => e = .returned (.tuple #[.slice none 0 0, .slice none 0 0, .int .i64 1]) ∧ Below w.heap.size w w' := by
  obtain ⟨w0, hw0⟩ : ∃ w0, w.alloc (.cells #[.int .i64 most] 3) = w0 := ⟨_, rfl⟩
  have hb0 : Below w.heap.size w w0 := hw0 ▸ below_new w _
  have HMD := Lib.hid (cmade_nil w0)
  have HW0 := Lib.hid hw0
  have HB0 := Lib.hid hb0
  clear hw0 hb0
  go_enter Tryd.func8, Tryd.ntmps8
  go_wp2_with fail
  rw [HW0.out]
  go_wp2_with fail
  refine HMD.out.mono ?_
  rintro e w1 ⟨rfl, hb1⟩
  have HB1 : Hid (Below w.heap.size w w1) := HB0.out.trans (hb1.mono HB0.out.size)
  clear hb1
  go_wp2_with fail
  refine bodyPost_ret (results_tmp3 rfl _ _ _) rfl ?_
  exact ⟨rfl, HB1.out⟩
theorem cread_low {w : World} {T : Nat → Prop} {p d fb n m : Nat} {has : Nat → List UInt8} (h : PlT w T p d fb n m has) (k : Nat) (hk : k = 2 ∨ k = 3 ∨ k = 7) (head most : Int) (hh : head < 2) : Calls Tryd.prog 8 #[.pointer (some ⟨p, 0, none⟩), .int .i64 (k : Int), .int .i64 head, .int .i64 most] w fun e w' => e = .returned (.tuple #[.slice none 0 0, .slice none 0 0, .int .i64 2]) ∧ Below w.heap.size w w' := by
  obtain ⟨w0, hw0⟩ : ∃ w0, w.alloc (.cells #[.int .i64 most] 3) = w0 := ⟨_, rfl⟩
  have hb0 : Below w.heap.size w w0 := hw0 ▸ below_new w _
  obtain ⟨P, hP, hTI⟩ := h.below hb0
  have HMD := Lib.hid (cmade_is hP)
  have HKI := Lib.hid fun W => ckind_any (k : Int) W
  rw [show ((k : Int) == 2 || (k : Int) == 3 || (k : Int) == 7) = true by rcases hk with rfl | rfl | rfl <;> rfl] at HKI
  have HW0 := Lib.hid hw0
  have HB0 := Lib.hid hb0
  clear hw0 hb0 h hP hTI hk
  go_enter Tryd.func8, Tryd.ntmps8
  go_wp2_with fail
  rw [HW0.out]
  go_wp2_with fail
  refine HMD.out.mono ?_
  rintro e w1 ⟨rfl, hb1⟩
  have HB1 : Hid (Below w.heap.size w w1) := HB0.out.trans (hb1.mono HB0.out.size)
  clear hb1
  go_wp2_with fail
  refine (HKI.out w1).mono ?_
  rintro e w1' ⟨rfl, rfl⟩
  go_wp2_with fail
  refine bodyPost_ret (results_tmp3 rfl _ _ _) rfl ?_
  exact ⟨rfl, HB1.out⟩
/-- A pool of eight frames over a disk that was just made. -/
theorem plt_new {w w1 w2 : World} {n d p fb : Nat} (h1 : 0 < n) (h2 : 8 * n ≤ 32768) (hp : PAt w2 (more (fun k => w.heap.size ≤ k ∧ k < w1.heap.size) w1 w2) p d fb (newQ (newS (8 * n)) 8)) (hs : w.heap.size ≤ w1.heap.size) :
    ∃ T, PlT w2 T p d fb n 8 (fun _ => List.replicate 4096 0) ∧ ∀ k, T k → w.heap.size ≤ k :=
  ⟨_, ⟨_, hp, new_t n 8 h1 h2 (by omega)⟩, fun k hk => hk.elim (fun e => e.1) (fun e => by omega)⟩
theorem PlOut.own {w w' : World} {T : Nat → Prop} {p d fb n m B : Nat} {has : Nat → List UInt8} (h : PlOut w T p d fb n m has w') (hB : B ≤ w.heap.size) (hT : ∀ k, T k → B ≤ k) : ∃ T', PlT w' T' p d fb n m has ∧ (∀ k, T' k → B ≤ k) ∧ (∀ k, T' k → more T w w' k) ∧ Trn T w w' ∧ Below B w w' := by
  obtain ⟨T', h1, h2, h3⟩ := h
  exact ⟨T', h1, fun k hk => (h2 k hk).elim (hT k) (fun e => by omega), h2, h3, h3.below hB hT⟩
theorem ReadO.own {w w' : World} {T : Nat → Prop} {p d fb n m B : Nat} {has : Nat → List UInt8} {r : Option (List UInt8 × List Nat)} {e : Ending} (h : ReadO w T p d fb n m has r e w') (hB : B ≤ w.heap.size) (hT : ∀ k, T k → B ≤ k) : ∃ T', PlT w' T' p d fb n m has ∧ (∀ k, T' k → B ≤ k) ∧ (∀ k, T' k → more T w w' k) ∧ Trn T w w' ∧ Below B w w' ∧ ReadEnd w r e w' T' := by
  obtain ⟨T', h1, h2, h3, h4⟩ := h
  exact ⟨T', h1, fun k hk => (h2 k hk).elim (hT k) (fun e => by omega), h2, h3, h3.below hB hT, h4⟩
theorem own_part {w : World} {B g n c : Nat} {l : List UInt8} (h : Own w B 5 (.slice (some ⟨g, 0, none⟩) n c) l) (a k : Nat) (hak : a + k ≤ l.length) : Byt w (.slice (some ⟨g, a, none⟩) k (c - a)) ((l.drop a).take k) := by
  have hl : ((l.drop a).take k).length = k := by rw [List.length_take, List.length_drop]; omega
  obtain ⟨A', n', c', e, N, h1, h2⟩ := h.byt.form
  cases e
  have hn := N.out
  obtain ⟨A2, c2, e2, g1, g2, _⟩ := h.byt
  cases e2
  refine ⟨_, _, by rw [hl], by rw [hl]; omega, by unfold maxLen at g2 ⊢; omega, .inr ⟨g, a, rfl, (World.ownsRow.lt h g rfl).2, fun j hj => ?_⟩⟩
  rw [hl] at hj
  rw [own_cell h (j := a + j) (by omega)]
  congr 2
  have : a + j < l.length := by omega
  rw [List.getD_eq_getElem?_getD, List.getElem?_eq_getElem this]
  simp only [List.getElem_take, List.getElem_drop, Option.getD_some]
theorem own_form0 {w : World} {B : Nat} {v : Value} {l : List UInt8} (h : Own w B 5 v l) (h0 : 0 < l.length) : ∃ g c, v = .slice (some ⟨g, 0, none⟩) l.length c ∧ l.length ≤ c ∧ c ≤ 9223372036854775807 := by
  rcases h.2 with ⟨_, h1⟩ | ⟨g, cap, cur, rfl, hb, hg, h1, h2, h3, h4⟩
  · omega
  · exact ⟨g, cap, rfl, h1, by unfold maxLen at h2; omega⟩
theorem head_bytes : ((chainB 2 [5, 3] (zsB 4075) 0).drop 16).take 6 = [3, 0, 0, 0, 234, 15] := by
  unfold chainB
  rw [pageB_drop]
  have hl : (chunkB (zsB 4075) 0).length = 4074 := by rw [chunk_len, zsB_len]; rfl
  have e4 : wordB 4 3 = [3, 0, 0, 0] := by decide
  have e2 : wordB 2 4074 = [234, 15] := by decide
  unfold padB linkB
  rw [hl, show (([5, 3] : List Nat).getD (0 + 1) 0) = 3 from rfl, e4, e2]
  rfl
set_option maxRecDepth 100000 in
set_option maxHeartbeats 8000000 in
theorem lives9_any (w : World) : Calls Tryd.prog 11 #[] w fun e w' => e = .returned (.bool true) ∧ Below w.heap.size w w' := by
  obtain ⟨i0, hi0, hz0, hz1, hz2⟩ := info_parts iinfo
  obtain ⟨i1, hi1, hy0, hy1, hy2⟩ := info_parts uinfo
  go_enter Tryd.func11, Tryd.ntmps11
  go_wp2_with (first
    | (at_make; refine wpList_make_full _ rfl _ _ 27 rfl w.heap.size 5 i1 _ 1 Tryd.underlying27 hi1 hy0 hy1 _ _ _ _ 4075 rfl rfl rfl rfl (by rw [hy2]; omega) (by simp only [maxLen]; omega) (by simp) ?_; intro w2 hown2 hg2
       have hb2 : Below w.heap.size w w2 := (below_new w _).trans ((below_none hg2).mono (by simp))
       have hr2 : Rowz w2 (.slice (some ⟨w.heap.size, 0, none⟩) 2 2) (natC [5, 3]) := (Rowz.litV w [.int .i64 5, .int .i64 3] 3 (by simp [maxLen])).below (below_none hg2)
       have ho2 := own_zeros hown2
       rw [World.size_alloc] at ho2
       have HB2 := Lib.hid hb2
       have HR2 := Lib.hid hr2
       have HO2 := Lib.hid ho2
       clear hown2 hg2 hb2 hr2 ho2))
  refine (cpages_ok w2 2 _ 2 2 _ [5, 3] (zsB 4075) HR2.out HO2.out.byt (by decide) (by rw [zsB_len]; omega) (.inl rfl) (by rw [zsB_len]; rfl) (by decide)).mono ?_
  rintro e w3 ⟨v3, vs, rfl, hlr, hls, hb3⟩
  have hvl : vs.length = 2 := by rw [hls.1, chainL_len]; rfl
  obtain ⟨g3, c3, rfl, hg3, hl3, _, hc3, hcell, _⟩ := OwnV.form (e := 27) hlr (by omega)
  have h0 : 0 < vs.length := by omega
  have hcl := hcell 0 h0
  have hov := hls.2 0 h0 (by rw [chainL_len]; decide)
  rw [chainL_get] at hov
  generalize vs[0] = v0 at *
  obtain ⟨g0, c0, rfl, hc01, hc02⟩ := own_form0 hov (by rw [chainB_len]; omega)
  have hbm := own_part hov 16 6 (by rw [chainB_len]; omega)
  rw [head_bytes] at hbm
  rw [chainB_len] at hcl hc01
  have tx := text_of hbm
  have HB3 : Hid (Below w.heap.size w w3) := HB2.out.trans (hb3.mono HB2.out.size)
  rw [hvl]
  clear hlr hls hb3 hcell hov h0 hbm hvl
  go_wp2_with fail
  refine (cneed_any w3 0 (by omega)).mono ?_
  rintro e w3' ⟨rfl, rfl⟩
  rw [show needI 0 = 1 from rfl]
  go_wp2_with fail
  refine (cneed_any w3 4074 (by omega)).mono ?_
  rintro e w3' ⟨rfl, rfl⟩
  rw [show needI 4074 = 1 from rfl]
  go_wp2_with fail
  refine (cneed_any w3 4075 (by omega)).mono ?_
  rintro e w3' ⟨rfl, rfl⟩
  rw [show needI 4075 = 2 from rfl]
  go_wp2_with fail
  clear hcl tx
  refine (snew_any w3 64 (by omega) (by omega)).mono ?_
  rintro e w4 ⟨d, rfl, hd4, hb4⟩
  have HD4 := Lib.hid hd4
  have HB4 := Lib.hid hb4
  clear hd4 hb4
  go_wp2_with fail
  refine (pnew_is w4 _ d (newS 64) 8 HD4.out (by rw [secs_new]; omega) (by omega) (by omega)).mono ?_
  rintro e w5 ⟨p, fb, rfl, hp5, hb5⟩
  obtain ⟨T, hpt, hT⟩ := plt_new (n := 8) (by omega) (by omega) hp5 HB4.out.size
  have HPT := Lib.hid hpt
  have HT := Lib.hid hT
  have HB5 : Hid (Below w.heap.size w w5) := HB3.out.trans ((HB4.out.mono HB3.out.size).trans (hb5.mono (Nat.le_trans HB3.out.size HB4.out.size)))
  clear hp5 hb5 hpt hT
  go_wp2_with (first
    | (at_make; refine wpList_make_full _ rfl _ _ 27 rfl w.heap.size 5 i1 _ 1 Tryd.underlying27 hi1 hy0 hy1 _ _ _ _ 5000 rfl rfl rfl rfl (by rw [hy2]; omega) (by simp only [maxLen]; omega) (by have := HB5.out.size; simp; omega) ?_; intro w6 hown6 hg6
       have hb6 : Below w5.heap.size w5 w6 := (below_new w5 _).trans ((below_none hg6).mono (by simp))
       have hr6 : Rowz w6 (.slice (some ⟨w5.heap.size, 0, none⟩) 2 2) (natC [7, 2]) := (Rowz.litV w5 [.int .i64 7, .int .i64 2] 3 (by simp [maxLen])).below (below_none hg6)
       have ho6 := own_zeros hown6
       rw [World.size_alloc] at ho6
       have HB6 := Lib.hid hb6
       have HR6 := Lib.hid hr6
       have HO6 := Lib.hid ho6
       clear hown6 hg6 hb6 hr6 ho6))
  have HS6 : Hid (w.heap.size ≤ w6.heap.size) := Nat.le_trans HB5.out.size HB6.out.size
  have HT3 : Hid (∀ k, T k → w.heap.size ≤ k) := fun k hk => Nat.le_trans HB3.out.size (HT.out k hk)
  refine (cwrite_ok w6 T p d fb 8 8 _ 7 _ 2 2 _ [7, 2] (zsB 5000) (HPT.out.below HB6.out) HR6.out HO6.out.byt (by rw [zsB_len]; omega) (.inr (.inr rfl)) (by rw [zsB_len]; rfl) (by decide) (by decide) (fun j hj h => by
    have h1 := HPT.out.lt j h
    have : w5.heap.size = j := by simpa [Value.ownBlock] using hj
    omega)).mono ?_
  rintro e w7 ⟨rfl, ho7⟩
  obtain ⟨T7, hpt7, hT7, _, _, hb7⟩ := ho7.own (B := w.heap.size) HS6.out HT3.out
  have HPT7 := Lib.hid hpt7
  have HT7 := Lib.hid hT7
  have HB7 : Hid (Below w.heap.size w w7) := HB5.out.trans ((HB6.out.mono HB5.out.size).trans hb7)
  clear ho7 hpt7 hT7 hb7
  go_wp2_with fail
  refine (cread_is w7 T7 p d fb 8 8 _ 7 7 2 HPT7.out (.inr (.inr rfl)) (by omega) (by omega) (((Sane.zero 8).wrote (k := 7) (ps := [7, 2]) (b := zsB 5000) (by decide) (by decide) (by omega)).closed 7) (by omega)).mono ?_
  intro e w8 ho8
  obtain ⟨T8, _, _, _, _, hb8, hend⟩ := ho8.own (B := w.heap.size) HB7.out.size HT7.out
  have hrb := read_back (k := 7) (ps := [7, 2]) (b := zsB 5000) (.inr (.inr rfl)) (by decide) (by rw [zsB_len]; rfl) (by decide) (wrote_get (fun _ => List.replicate 4096 0) 7 [7, 2] (zsB 5000) (by decide)) 2
  rw [if_pos (by decide), show ([7, 2] : List Nat).getD 0 0 = 7 from rfl] at hrb
  rw [hrb] at hend
  obtain ⟨bv, pv, rfl, hob, hop, _, _⟩ := hend
  obtain ⟨Ab, cb, rfl⟩ := ownsRow_form hob
  obtain ⟨Ap, cp, rfl⟩ := ownsRow_form hop
  rw [zsB_len, show (natC [7, 2]).length = 2 from rfl]
  have HOP := Lib.hid (OwnV.rowz hop)
  have HB8 : Hid (Below w.heap.size w w8) := HB7.out.trans hb8
  clear ho8 hb8 hob hop hrb
  go_wp2_with fail
  refine (kitints_any _ _ _ [7, 2] [7, 2] (HOP.out.below (below_new w8 _)) (Rowz.litV w8 [.int .i64 7, .int .i64 2] 3 (by simp [maxLen]))).mono ?_
  rintro e w9 ⟨rfl, hb9⟩
  have HB9 : Hid (Below w.heap.size w w9) := (HB8.out.alloc HB8.out.size _).trans (hb9.mono (by have := HB8.out.size; simp; omega))
  clear hb9
  go_wp2_with fail
  go_ret
  exact ⟨rfl, HB9.out⟩
end Go.Proofs.YtknagdbhhfelnaaDoor
