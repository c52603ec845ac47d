/-
  Package chain's Pages where it may. Conditions: at most 2^30 bytes, whose slice has room for at most 2^46.
-/
import Derived.Test.YtknagdbhhfelnaaDoorCCnF
namespace Go.Proofs.YtknagdbhhfelnaaDoor
open Go.RowKit Go.Shelf Go.Maps
set_option maxRecDepth 100000
attribute [local go_sem] Oper.semAt_some
set_option linter.unusedVariables false

theorem info1R : (Tryd.prog.info? 22).map (·.size) = some 1 := by kernel_rfl
theorem info1E : (Tryd.prog.info? 23).map (·.size) = some 1 := by kernel_rfl
theorem info1I : (Tryd.prog.info? 26).map (·.size) = some 1 := by kernel_rfl
/-- What the loop of Pages holds: n1, n2: the iterator's own blocks. -/
structure PgIn (w W : World) (k : Int) (B8 B9 g8 m8 c8 n1 n2 : Nat) (nx : List Nat) (ls : List (List UInt8)) (lv : Value) (vs : List Value) : Prop where
  bk : SBox W w.heap.size 3 [.int .i64 k]
  b1 : SBox W (w.heap.size + 1) 22 [.slice none 0 0]
  b2 : SBox W (w.heap.size + 2) 23 [.int .i64 0]
  b8 : SBox W B8 26 [.slice (some ⟨g8, 0, none⟩) m8 c8]
  nr : OwnV W w.heap.size 3 (.slice (some ⟨g8, 0, none⟩) m8 c8) (natC nx)
  b9 : SBox W B9 22 [lv]
  lr : OwnV W w.heap.size 27 lv vs
  ls : Owns W w.heap.size vs ls
  lo : ∀ g, lv.ownBlock = some g → g < n1 ∨ n2 ≤ g
  sz : n2 ≤ W.heap.size
  bel : Below w.heap.size w W
theorem PgIn.turn {w W W' : World} {k : Int} {B8 B9 g8 m8 c8 n1 n2 B : Nat} {nx : List Nat} {ls : List (List UInt8)} {lv : Value} {vs : List Value} {row : Option Nat} (h : PgIn w W k B8 B9 g8 m8 c8 n1 n2 nx ls lv vs) (h1 : w.heap.size + 3 ≤ B) (h8 : B8 < B) (h9 : B9 < B) (hg : W.grownBy W' row) (hr : ∀ r, row = some r → B ≤ r ∧ ∃ o : Obj, W.heap[r]? = some o ∧ o.isCells = false) : PgIn w W' k B8 B9 g8 m8 c8 n1 n2 nx ls lv vs :=
  ⟨h.bk.turn (by omega) hg (fun r e => (hr r e).1), h.b1.turn (by omega) hg (fun r e => (hr r e).1), h.b2.turn (by omega) hg (fun r e => (hr r e).1), h.b8.turn h8 hg (fun r e => (hr r e).1), ownsRow_turn h.nr hg (fun r e => (hr r e).2), h.b9.turn h9 hg (fun r e => (hr r e).1), ownsRow_turn h.lr hg (fun r e => (hr r e).2),
    h.ls.map fun v l ho => ownsRow_turn ho hg (fun r e => (hr r e).2), h.lo, Nat.le_trans h.sz hg.size, below_turn h.bel (by omega) hg (fun r e => (hr r e).1)⟩
theorem PgIn.below {w W W' : World} {k : Int} {B8 B9 g8 m8 c8 n1 n2 : Nat} {nx : List Nat} {ls : List (List UInt8)} {lv : Value} {vs : List Value} (h : PgIn w W k B8 B9 g8 m8 c8 n1 n2 nx ls lv vs) (hb : Below W.heap.size W W') : PgIn w W' k B8 B9 g8 m8 c8 n1 n2 nx ls lv vs :=
  ⟨h.bk.below hb, h.b1.below hb, h.b2.below hb, h.b8.below hb, h.nr.keep hb, h.b9.below hb, h.lr.keep hb, h.ls.keep hb, h.lo, Nat.le_trans h.sz hb.size, h.bel.trans (hb.mono h.bel.size)⟩
theorem PgIn.grow {w W W' : World} {k : Int} {B8 B9 g8 m8 c8 n1 n2 : Nat} {nx : List Nat} {ls : List (List UInt8)} {lv : Value} {vs : List Value} (h : PgIn w W k B8 B9 g8 m8 c8 n1 n2 nx ls lv vs) (hl : ∀ g, lv.ownBlock = some g → g < n1) (hb : Below W.heap.size W W') : PgIn w W' k B8 B9 g8 m8 c8 n1 W'.heap.size nx ls lv vs :=
  ⟨h.bk.below hb, h.b1.below hb, h.b2.below hb, h.b8.below hb, h.nr.keep hb, h.b9.below hb, h.lr.keep hb, h.ls.keep hb, fun g hg => .inl (hl g hg), Nat.le_refl _, h.bel.trans (hb.mono h.bel.size)⟩

theorem SBox.kept {W W' : World} {g : Nat} {t t' : TypeId} {cs : List Value} {row : Option Nat} (h : SBox W g t cs) (hg : W.grownBy W' row) (hr : ∀ r, row = some r → ∃ cs' f, W.heap[r]? = some (.cells cs' t' f)) (ht : t ≠ t') : SBox W' g t cs :=
  h.same (hg.block g h.lt (by
    intro e
    obtain ⟨cs', f, hh⟩ := hr g e.symm
    rw [show W.heap[g]? = _ from h] at hh
    injection hh with hh
    injection hh with _ hh _
    exact ht hh))
/-- A page more. -/
theorem PgIn.put {w W2 W3 : World} {k : Int} {B8 B9 g8 m8 c8 n1 n2 : Nat} {nx : List Nat} {ls : List (List UInt8)} {lv lv' : Value} {vs : List Value} {v : Value} {l : List UInt8} {tmp : Obj} (h : PgIn w W2 k B8 B9 g8 m8 c8 n1 n2 nx ls lv vs)
    (ho : Own W2 w.heap.size 5 v l) (hown : OwnV W3 w.heap.size 27 lv' (vs ++ [v])) (hg : (W2.alloc tmp).grownBy W3 lv.ownBlock) (hat : lv'.ownBlock = lv.ownBlock ∨ lv'.ownBlock = some (W2.alloc tmp).heap.size) (h89 : B8 < B9) (hs9 : w.heap.size + 2 < B9) (hn1 : B9 < n1) (B : Nat) :
    PgIn w (W3.setCell ⟨B9, 0, none⟩ lv') k B8 B9 g8 m8 c8 n1 n2 nx (ls ++ [l]) lv' (vs ++ [v]) ∧ KeepsFrom B W2 (W3.setCell ⟨B9, 0, none⟩ lv') ∧ KpC n1 n2 W2 (W3.setCell ⟨B9, 0, none⟩ lv') := by
  have hw : w.heap.size ≤ W2.heap.size := h.bel.size
  have hn2 := h.sz
  have hlr : OwnV (W2.alloc tmp) w.heap.size 27 lv vs := h.lr.keep (below_new W2 tmp)
  have htag := ownsRow_tag hlr
  have hbn := below_new W2 tmp
  have hg9 : W3.grownBy (W3.setCell ⟨B9, 0, none⟩ lv') (some B9) := grown_set _ _ _ _
  have hb93 : SBox W3 B9 22 [lv] := (h.b9.below hbn).kept hg htag (by decide)
  have htag9 : ∀ r, some B9 = some r → ∃ cs' f, W3.heap[r]? = some (.cells cs' 22 f) := fun r e => by cases e; exact ⟨_, _, hb93⟩
  have hrows : ∀ {v0 : Value} {l0 : List UInt8}, Own W2 w.heap.size 5 v0 l0 → Own (W3.setCell ⟨B9, 0, none⟩ lv') w.heap.size 5 v0 l0 := fun h0 =>
    own_other (own_other (h0.keep hbn) hg (fun g e => by obtain ⟨cs, f, hh⟩ := htag g e; exact ⟨cs, _, f, hh, by decide⟩)) hg9 (fun g e => by obtain ⟨cs, f, hh⟩ := htag9 g e; exact ⟨cs, _, f, hh, by decide⟩)
  refine ⟨⟨((h.bk.below hbn).kept hg htag (by decide)).grown hg9 (by omega), ((h.b1.below hbn).kept hg htag (by decide)).grown hg9 (by omega), ((h.b2.below hbn).kept hg htag (by decide)).grown hg9 (by omega), ((h.b8.below hbn).kept hg htag (by decide)).grown hg9 (by omega),
    ownV_other (ownV_other (h.nr.keep hbn) hg (fun g e => by obtain ⟨cs, f, hh⟩ := htag g e; exact ⟨cs, _, f, hh, by decide⟩)) hg9 (fun g e => by obtain ⟨cs, f, hh⟩ := htag9 g e; exact ⟨cs, _, f, hh, by decide⟩),
    hb93.put 0 lv', ownV_other hown hg9 (fun g e => by obtain ⟨cs, f, hh⟩ := htag9 g e; exact ⟨cs, _, f, hh, by decide⟩), (h.ls.map fun v0 l0 h0 => hrows h0).snoc (hrows ho), ?_, ?_, ?_⟩, ?_, ?_⟩
  · intro g hgo
    rcases hat with e | e
    · exact h.lo g (by rw [← e]; exact hgo)
    · rw [hgo] at e
      have : g = (W2.alloc tmp).heap.size := by simpa using e
      rw [World.size_alloc] at this
      exact .inr (by omega)
  · have := hg.size
    rw [World.size_alloc] at this
    rw [setCell_size]
    omega
  · refine ((h.bel.trans (hbn.mono hw)).grown hg (by rw [World.size_alloc]; omega) (fun j e => (World.ownsRow.lt hlr j e).1)).grown hg9 ?_ (fun j e => by cases e; omega)
    have := hg.size
    rw [World.size_alloc] at this
    omega
  · refine KeepsOthers.from (((KeepsOthers.alloc W2 tmp).trans (KeepsOthers.of_grownBy hg fun j o ej hj => ?_)).trans (KeepsOthers.setCell _ _ _)) B
    obtain ⟨cs, f, hh⟩ := htag j ej
    rw [hh] at hj
    cases hj
    rfl
  · intro j h1 h2
    refine (hg9.block j (by have := hg.size; rw [World.size_alloc] at this; omega) (fun e => by cases e; omega)).trans ((hg.block j (by rw [World.size_alloc]; omega) (fun e => ?_)).trans (hbn.block j (by omega)))
    rcases h.lo j e.symm with h3 | h3 <;> omega

set_option maxRecDepth 100000 in
set_option maxHeartbeats 8000000 in
theorem cpages_ok (w : World) (k : Nat) (A : Option Addr) (n c : Nat) (vb : Value) (ps : List Nat) (b : List UInt8) (hv : Rowz w (.slice A n c) (natC ps)) (hvb : Byt w vb b) (hps : ∀ x ∈ ps, x ≤ 4611686018427387904) (hbl : b.length ≤ 1073741824)
    (hk : k = 2 ∨ k = 3 ∨ k = 7) (hl : ps.length = needN b.length) (hm : mayP ps) :
    Calls Tryd.prog 7 #[.int .i64 (k : Int), .slice A n c, vb] w (PagesOut w (chainL k ps b)) := by
  obtain ⟨i0, hi0, hz0, hz1, hz2⟩ := info_parts iinfo
  obtain ⟨i1, hi1, hy0, hy1, hy2⟩ := info_parts sinfo
  obtain ⟨Ab, m, cb, rfl, Nb, _, _⟩ := hvb.form
  obtain ⟨A, n, c, e, N, hnc, hcm⟩ := hv.form
  cases e
  have hn : n = ps.length := N.out.trans (natC_len ps)
  have hmm : m = b.length := Nb.out
  subst hn hmm
  have hlen : ps.length ≤ 1073741824 := by rw [hl]; unfold needN; omega
  have hpos : 0 < ps.length := by rw [hl]; exact needN_pos _
  have HV := Lib.hid hv
  have HVB := Lib.hid hvb
  have HK := Lib.hid fun W => ckind_any (k : Int) W
  rw [show ((k : Int) == 2 || (k : Int) == 3 || (k : Int) == 7) = true by rcases hk with rfl | rfl | rfl <;> rfl] at HK
  have HK7 : Hid (1 ≤ k ∧ k ≤ 7) := show 1 ≤ k ∧ k ≤ 7 by omega
  have HND := Lib.hid fun W => cneed_any W (b.length : Int) (by omega)
  rw [show needI (b.length : Int) = needN b.length from rfl, ← hl] at HND
  have HMY := Lib.hid fun W (hb : Below w.heap.size w W) => cmay_any W A ps.length c ps (hv.below hb) hlen hps
  rw [decide_eq_true hm] at HMY
  have HCT := Lib.hid fun W => cut_any w W (.slice Ab b.length cb) b hvb hbl
  have HP1 : Hid (∀ x ∈ ps, x ≤ 4294967295) := fun x hx => (hm.2 x hx).2
  have HLP := Lib.hid hl
  have HLN := Lib.hid hlen
  obtain ⟨w0, hw0⟩ : ∃ w0, ((w.alloc (.cells #[.int .i64 (k : Int)] 3)).alloc (.cells #[.slice none 0 0] 22)).alloc (.cells #[.int .i64 0] 23) = w0 := ⟨_, rfl⟩
  have hs0 : w0.heap.size = w.heap.size + 3 := by rw [← hw0]; simp
  have hb0 : Below w.heap.size w w0 := by rw [← hw0]; exact (below_new w _).trans (((below_new _ _).mono (by simp)).trans ((below_new _ _).mono (by simp only [World.size_alloc]; omega)))
  have hk0 : SBox w0 w.heap.size 3 [.int .i64 (k : Int)] := by rw [← hw0]; exact ((SBox.new w 3 [.int .i64 (k : Int)]).alloc _).alloc _
  have h1 : SBox w0 (w.heap.size + 1) 22 [.slice none 0 0] := by
    have := (SBox.new (w.alloc (.cells #[.int .i64 (k : Int)] 3)) 22 [.slice none 0 0]).alloc (.cells #[.int .i64 0] 23)
    rw [World.size_alloc] at this
    rw [← hw0]
    exact this
  have h2 : SBox w0 (w.heap.size + 2) 23 [.int .i64 0] := by
    have := SBox.new ((w.alloc (.cells #[.int .i64 (k : Int)] 3)).alloc (.cells #[.slice none 0 0] 22)) 23 [.int .i64 0]
    rw [World.size_alloc, World.size_alloc] at this
    rw [← hw0]
    exact this
  have HW0 := Lib.hid hw0
  have HB0 := Lib.hid hb0
  have HS0 := Lib.hid hs0
  have c0 := hk0.cell 0 _ rfl
  have HK0 := Lib.hid hk0
  have H1 := Lib.hid h1
  have H2 := Lib.hid h2
  clear hv hvb hw0 hb0 hs0 hk0 h1 h2 N Nb hk hl hm hps hlen hbl
  refine (callsIn_wide (n := 3)).1 ?_
  refine callsIn_of_wp_marks Tryd.func7 rfl trivial ?_ rfl
  simp only [Tryd.ntmps7, List.size_toArray, List.length_cons, List.length_nil, Nat.reduceAdd, Nat.reduceSub, Array.replicate_succ, Array.replicate_zero, List.push_toArray, List.append_toArray, List.nil_append, List.cons_append]
  refine wpIn_wide.2 ?_
  go_wp2_with fail
  rw [HW0.out]
  go_wp2_with fail
  refine (HK.out w0).mono ?_
  rintro e w1 ⟨rfl, rfl⟩
  go_wp2_with fail
  refine (HND.out w0).mono ?_
  rintro e w1 ⟨rfl, rfl⟩
  go_wp2_with fail
  refine (HMY.out w0 HB0.out).mono ?_
  rintro e w2 ⟨rfl, hb2⟩
  have HK2 := Lib.hid (HK0.out.below hb2)
  have H12 : Hid (SBox w2 (w.heap.size + 1) 22 [.slice none 0 0]) := H1.out.below hb2
  have H22 : Hid (SBox w2 (w.heap.size + 2) 23 [.int .i64 0]) := H2.out.below hb2
  have HB2 : Hid (Below w.heap.size w w2) := HB0.out.trans (hb2.mono HB0.out.size)
  have HS2 : Hid (w.heap.size + 3 ≤ w2.heap.size) := by have := HS0.out; have := hb2.size; rw [Hid]; omega
  obtain ⟨A', n', c', hsl, hv2⟩ := rowz_tail (HV.out.below HB2.out) hpos
  have HCL := Lib.hid (iclone_any w2 A' n' c' (ps.drop 1) hv2 (by rw [List.length_drop]; have := HLN.out; omega))
  clear hb2 c0 hv2
  go_wp2_with fail
  refine HCL.out.mono ?_
  rintro e w3 ⟨v3, rfl, ho3, hb3⟩
  have HO3 : Hid (OwnV w3 w.heap.size 3 v3 (natC (ps.drop 1))) := ho3.lower HB2.out.size
  have HK3 := Lib.hid (HK2.out.below hb3)
  have H13 : Hid (SBox w3 (w.heap.size + 1) 22 [.slice none 0 0]) := H12.out.below hb3
  have H23 : Hid (SBox w3 (w.heap.size + 2) 23 [.int .i64 0]) := H22.out.below hb3
  have HB3 : Hid (Below w.heap.size w w3) := HB2.out.trans (hb3.mono HB2.out.size)
  have HS3 : Hid (w2.heap.size ≤ w3.heap.size) := hb3.size
  have HR3 : Hid (∀ g, v3.ownBlock = some g → w2.heap.size ≤ g) := fun g hg => (World.ownsRow.lt ho3 g hg).1
  clear ho3 hb3 hsl
  go_wp2_with (first
    | (at_builtin; refine wpList_appV rfl (.tmp 33) (.tmp 34) _ rfl w.heap.size 3 8 i0 _ Tryd.underlying26 hi0 hz0 hz1 hz2 rfl _ (natC (ps.drop 1)) rfl (HO3.out.keep (below_new w3 _)) _ [.int .i64 0] rfl (Rowz.litV w3 [.int .i64 0] 3 (by simp [maxLen])) (by simp [Value.oneCell']) (by rw [natC_len, List.length_drop]; have := HLN.out; simp only [List.length_cons, List.length_nil]; omega) (by rw [natC_len, List.length_drop]; have := HLN.out; simp only [List.length_cons, List.length_nil, maxLen]; omega) (by have := HB3.out.size; simp; omega) ?_; intro v4 w4 hown4 hg4 hat4
       have hbb4 := OwnV.below (HO3.out.keep (below_new w3 _)) (HB3.out.trans ((below_new w3 (.cells #[.int .i64 0] 3)).mono HB3.out.size)) (by have := HB3.out.size; simp; omega) hg4
       obtain ⟨g4, cc4, rfl, hB4, hlt4, hc4, hcm4, _, _⟩ := OwnV.form hown4 (by simp)
       have hm4 : (natC (ps.drop 1) ++ [Value.int .i64 0]).length = ps.length := by rw [List.length_append, natC_len, List.length_drop]; simp; omega
       rw [hm4] at hc4 hown4 ⊢
       have HO4 : Hid (OwnV w4 w.heap.size 3 (.slice (some ⟨g4, 0, none⟩) ps.length cc4) (natC (ps.drop 1 ++ [0]))) := by rw [natC_app]; exact hown4
       have HB4 : Hid (Below w.heap.size w w4) := hbb4
       have HH4 : Hid (∀ j, j < w2.heap.size → w4.heap[j]? = w3.heap[j]?) := fun j hj => by
         have h1 := HS3.out
         refine (hg4.block j (by rw [World.size_alloc]; omega) (fun e => ?_)).trans ((below_new w3 _).block j (by omega))
         have := HR3.out j e.symm
         omega
       have HS4 : Hid (w2.heap.size ≤ w4.heap.size ∧ w.heap.size ≤ g4 ∧ g4 < w4.heap.size) := by
         have h1 := hg4.size
         rw [World.size_alloc] at h1
         have := HS3.out
         exact ⟨by omega, hB4, hlt4⟩
       clear hown4 hg4 hat4 hbb4 hlt4 hm4 hB4)
    | (at_make; refine wpList_make_own _ rfl _ _ 22 rfl w.heap.size 27 i1 _ 1 Tryd.underlying22 hi1 hy0 hy1 _ _ _ ps.length rfl rfl (by omega) (by rw [hy2]; have := HLN.out; omega) (by have := HLN.out; simp only [maxLen]; omega) (by have := HB4.out.size; simp; omega) ?_; intro w6 hown6 hg6
       have hb6 : Below w4.heap.size w4 w6 := (below_new w4 _).trans ((below_none hg6).mono (by simp))
       have HN6 : Hid (SBox w6 w4.heap.size 26 [.slice (some ⟨g4, 0, none⟩) ps.length cc4]) := (SBox.new w4 26 [.slice (some ⟨g4, 0, none⟩) ps.length cc4]).below (below_none hg6)
       have HL6 : Hid (OwnV w6 w.heap.size 27 (.slice (some ⟨w4.heap.size + 1, 0, none⟩) 0 ps.length) []) := by
         rw [World.size_alloc] at hown6
         exact hown6
       have HB6 : Hid (Below w4.heap.size w4 w6) := hb6
       have HS6 : Hid (w4.heap.size + 1 < w6.heap.size) := by
         have := (World.ownsRow.lt hown6 _ rfl).2
         rw [World.size_alloc] at this
         exact this
       clear hown6 hg6 hb6))
  obtain ⟨w7, hw7⟩ : ∃ w7, w6.alloc (.cells #[.slice (some ⟨w4.heap.size + 1, 0, none⟩) 0 ps.length] 22) = w7 := ⟨_, rfl⟩
  rw [hw7]
  have hb67 : Below w6.heap.size w6 w7 := hw7 ▸ below_new w6 _
  have hb47 : Below w4.heap.size w4 w7 := HB6.out.trans (hb67.mono HB6.out.size)
  have HB7 : Hid (Below w.heap.size w w7) := HB4.out.trans (hb47.mono HB4.out.size)
  have hx4 : ∀ {j t cs}, j < w2.heap.size → SBox w3 j t cs → SBox w7 j t cs := fun hj h => (h.same (HH4.out _ hj)).below hb47
  have hl7 : ∀ g, (Value.slice (some ⟨w4.heap.size + 1, 0, none⟩) 0 ps.length).ownBlock = some g → g < w7.heap.size := fun g hg => by
    have : w4.heap.size + 1 = g := by simpa [Value.ownBlock] using hg
    have := HS6.out; have := hb67.size; omega
  have HP7 : Hid (PgIn w w7 k w4.heap.size w6.heap.size g4 ps.length cc4 w7.heap.size w7.heap.size (ps.drop 1 ++ [0]) (chainI k (ps.drop 1 ++ [0]) b []) (.slice (some ⟨w4.heap.size + 1, 0, none⟩) 0 ps.length) []) :=
    ⟨hx4 (by have := HS2.out; omega) HK3.out, hx4 (by have := HS2.out; omega) H13.out, hx4 (by have := HS2.out; omega) H23.out, HN6.out.below hb67, HO4.out.keep hb47, hw7 ▸ SBox.new w6 22 [.slice (some ⟨w4.heap.size + 1, 0, none⟩) 0 ps.length], HL6.out.keep hb67, Owns.nil _ _,
      fun g hg => .inl (hl7 g hg), Nat.le_refl _, HB7.out⟩
  have HS7 : Hid (w.heap.size + 3 ≤ w7.heap.size ∧ w4.heap.size < w7.heap.size ∧ w6.heap.size < w7.heap.size) := by
    have h1 : w7.heap.size = w6.heap.size + 1 := by rw [← hw7]; simp
    have := HS2.out; have := HS4.out; have := HS6.out
    exact ⟨by omega, by omega, by omega⟩
  clear hw7 hb67 hb47 hx4 HK3 H13 H23 HK2 H12 H22 HK0 H1 H2 HN6 HL6 HH4
  refine (HCT.out w7).mono ?_
  rintro e w8 ⟨gf, lb, vv, rfl, hb8, heg, hvv, hsq⟩
  have HP8 := Lib.hid (HP7.out.grow hl7 hb8)
  have HVV := Lib.hid hvv
  have HSQ := Lib.hid hsq
  have HS8 : Hid (w7.heap.size ≤ w8.heap.size) := hb8.size
  clear hb8 hvv hsq HP7 hl7
  go_wp2_with fail
  refine (wpIn_wide (n := 3)).1 ?_
  refine wpIn_rangeFunc_ownG rfl (by omega) (gf := gf) (lb := lb) rfl trivial heg
    HSQ.out (fun h k => h.trans k) (KpC.obj (Nat.le_refl _)) (Below.refl _ _) (fun _ => rfl)
    (fun (pre : List Nat) W => ∃ lv vs, vs.length = pre.length ∧ PgIn w W k w4.heap.size w6.heap.size g4 ps.length cc4 w7.heap.size w8.heap.size (ps.drop 1 ++ [0]) (chainI k (ps.drop 1 ++ [0]) b pre) lv vs)
    (fun _ _ _ => False)
    (fun s X Y row hs hg hr => by
      obtain ⟨lv, vs, h1, h2⟩ := hs
      have a := HS7.out
      have c := HS8.out
      exact ⟨lv, vs, h1, h2.turn (by omega) (by omega) (by omega) hg hr⟩)
    (fun _ _ _ _ _ hs _ _ => hs)
    ⟨_, [], rfl, HP8.out⟩
    (fun i => { tmps := #[.int .i64 (k : Int), .slice A ps.length c, .slice Ab b.length cb, .pointer (some ⟨w.heap.size, 0, none⟩), undef, undef, .pointer (some ⟨w.heap.size + 1, 0, none⟩), .pointer (some ⟨w.heap.size + 1 + 1, 0, none⟩), .pointer (some ⟨w4.heap.size, 0, none⟩), .pointer (some ⟨w6.heap.size, 0, none⟩),
      vv i, undef, undef, undef, undef, .int .i64 (k : Int), .bool true, .bool false, .bool false, .slice A ps.length c, .int .i64 (ps.length : Int), .slice Ab b.length cb, .int .i64 (b.length : Int), .int .i64 (ps.length : Int), .bool false, .bool false, .bool false, .slice A ps.length c, .bool true, .bool false, .bool false, .slice A ps.length c,
      .slice A' n' c', v3, .slice (some ⟨w3.heap.size, 0, none⟩) 1 1, .slice (some ⟨g4, 0, none⟩) ps.length cc4, .slice A ps.length c, .int .i64 (ps.length : Int), .slice (some ⟨w4.heap.size + 1, 0, none⟩) 0 ps.length, .slice Ab b.length cb, .func (.func gf) #[] lb,
      vv i, undef, undef, undef, undef, undef, undef, undef, undef, undef, undef, undef, undef, undef, undef, undef, undef, undef, undef, undef, undef, undef, undef, undef, undef, undef, undef], defers := [] }) ?assign ?body ?done ?stop
  case assign =>
    intro lp x W K hK
    gi_wp2
    exact hK
  case body =>
    rintro lp pre i W ⟨lv, vs, hvl, hP⟩ hlen
    rw [← HLP.out] at hlen
    obtain ⟨Al, cl, rfl⟩ := ownsRow_form hP.lr
    have hx := (HVV.out i).below hP.bel
    rw [hvl] at hP
    generalize hq : pre.length = q at *
    have HQ := Lib.hid hq
    have cL := hP.b9.cell 0 _ rfl
    have cN := hP.b8.cell 0 _ rfl
    have HK0 : Hid ((ps.drop 1 ++ [0]).getD q 0 ≤ 4294967295) := by
      rw [nexts_get ps q hlen, List.getD_eq_getElem?_getD]
      by_cases e : q + 1 < ps.length
      · rw [List.getElem?_eq_getElem e]; exact HP1.out _ (List.getElem_mem e)
      · rw [List.getElem?_eq_none (by omega)]; exact Nat.zero_le _
    have cX : W.cell? ⟨g4, q, none⟩ = some (.int .i64 (((ps.drop 1 ++ [0]).getD q 0 : Nat) : Int)) := by
      have hql : q < (natC (ps.drop 1 ++ [0])).length := by rw [natC_len, List.length_append, List.length_drop]; simp; omega
      have := World.ownsRow.cells hP.nr (g := g4) rfl q _ (List.getElem?_eq_getElem hql)
      rw [plainAdd, Nat.zero_add] at this
      rw [this]
      congr 1
      have hql2 : q < (ps.drop 1 ++ [0]).length := by rw [natC_len] at hql; exact hql
      rw [List.getD_eq_getElem?_getD, List.getElem?_eq_getElem hql2]
      simp only [natC, List.getElem_map, Option.getD_some]
    have hqn : (q : Int) < (ps.length : Int) := by omega
    have HP := Lib.hid hP
    have HX := Lib.hid hx
    have HVL := Lib.hid hvl
    have HXL := Lib.hid (chunk_le b i)
    obtain ⟨Av, mv, cv, hve, _, _, _⟩ := hx.form
    have HCH := Lib.hid (chainI_snoc k (ps.drop 1 ++ [0]) b pre i)
    rw [hq] at HCH
    generalize (ps.drop 1 ++ [0]).getD q 0 = nxt at *
    generalize chunkB b i = ch at *
    generalize vv i = va at *
    subst hve
    clear hP hx hq hvl hlen
    gi_wp2
    refine ⟨trivial, ?_⟩
    refine (CallsIn.inRound lp (callsIn_wide.2 (cbody_any W nxt _ ch HX.out (by have := HK0.out; omega) HXL.out))).mono ?_
    rintro e W1 ⟨v1, rfl, ho1, hb1⟩
    have HO1 := Lib.hid ho1
    have HB1 := Lib.hid hb1
    have HP1' := Lib.hid (HP.out.below hb1)
    have cK := HP1'.out.bk.cell 0 _ rfl
    obtain ⟨A1, m1, c1, rfl, _, _, _⟩ := ho1.byt.form
    have hq32 : q < 4294967296 := by have := HLN.out; omega
    have HQ32 := Lib.hid hq32
    clear ho1 hb1 cL cN cX
    gi_wp2
    refine ⟨trivial, ?_⟩
    refine (CallsIn.inRound lp (callsIn_wide.2 (bytes_ok W1 k q _ (linkB nxt ch) HO1.out.byt HK7.out.1 HK7.out.2 (by rw [linkB_len]; have := HXL.out; omega) HQ32.out))).mono ?_
    rintro e W2 ⟨v2, rfl, ho2, hb2⟩
    obtain ⟨A2, m2, c2, rfl, _, _, _⟩ := ho2.byt.form
    have HP2 := Lib.hid (HP1'.out.below hb2)
    have HO2 : Hid (Own W2 w.heap.size 5 (.slice A2 m2 c2) (pageB k q (linkB nxt ch))) := ho2.lower HP1'.out.bel.size
    have HB2' : Hid (Below W.heap.size W W2) := HB1.out.trans (hb2.mono HB1.out.size)
    have cL := HP2.out.b9.cell 0 _ rfl
    clear ho2 hb2 cK
    gi_wp2_with (first
      | (gi_at_builtin; refine wpListIn_appV rfl (.tmp 63) (.tmp 65) _ rfl w.heap.size 27 24 i1 _ Tryd.underlying22 hi1 hy0 hy1 hy2 rfl _ vs rfl (HP2.out.lr.keep (below_new W2 _)) _ [.slice A2 m2 c2] rfl (Rowz.litV W2 [.slice A2 m2 c2] 27 (by simp [maxLen])) (by simp [Value.oneCell']) (by have := HVL.out; have := HLN.out; simp only [List.length_cons, List.length_nil]; omega) (by have := HVL.out; have := HLN.out; simp only [List.length_cons, List.length_nil, maxLen]; omega) (by have := HP2.out.bel.size; simp; omega) ?_; intro v3' W3 hown3 hg3 hat3
         obtain ⟨g5, c5, rfl, _, _, hcc5, hcm5, _, _⟩ := OwnV.form hown3 (by simp)
         have hml : (vs ++ [Value.slice A2 m2 c2]).length = q + 1 := by rw [List.length_append, HVL.out]; rfl
         rw [hml] at hown3 hat3 hcc5 ⊢
         have hput := HP2.out.put HO2.out hown3 hg3 hat3 (by have := HS6.out; omega) (by have := HS2.out; have := HS4.out; have := HS6.out; omega) (by have := HS7.out; omega) w8.heap.size
         have HPU := Lib.hid hput
         have hb93 : SBox W3 w6.heap.size 22 [.slice Al q cl] := (HP2.out.b9.below (below_new W2 _)).kept hg3 (ownsRow_tag (HP2.out.lr.keep (below_new W2 _))) (by decide)
         have c93 := hb93.cell 0 _ rfl
         have f93 := hb93.frozen 0
         clear hput hown3 hg3 hat3))
    obtain ⟨p1, p2, p3⟩ := HPU.out
    refine ⟨(keeps_below HB2'.out).trans p2, KpC.trans (fun j hj1 hj2 => HB2'.out.block j (Nat.lt_of_lt_of_le hj2 HP.out.sz)) p3, ?_⟩
    exact ⟨_, vs ++ [Value.slice A2 m2 c2], by rw [List.length_append, List.length_append, HVL.out, HQ.out]; rfl, by rw [HCH.out]; exact p1⟩
  case done =>
    rintro D ys W hD rfl ⟨lv, vs, hvl, hP⟩ hK
    rw [← HLP.out, chainI_all] at hP
    rw [List.length_range, ← HLP.out] at hvl
    have HP := Lib.hid hP
    have HD := Lib.hid hD
    have HKK := Lib.hid hK
    obtain ⟨Al, cl, rfl⟩ := ownsRow_form hP.lr
    have c9 := hP.b9.cell 0 _ rfl
    have HVL := Lib.hid hvl
    clear hP hD hvl
    go_wp2_with (first
      | (refine wpList_put1 22 rfl (.tmp 6) (.tmp 67) rfl 0 _ rfl rfl rfl info1R _ (HP.out.b1.cell 0 _ rfl) (HP.out.b1.frozen 0) ?_; intro W8 hw8
         have hg8 : W.grownBy W8 (some (w.heap.size + 1)) := by rw [hw8]; exact grown_set _ _ _ _
         have ht8 : ∀ g, some (w.heap.size + 1) = some g → ∃ cs t f, W.heap[g]? = some (.cells cs t f) ∧ t ≠ 5 ∧ t ≠ 27 := fun g e => by cases e; exact ⟨_, _, _, HP.out.b1, by decide, by decide⟩
         have HL8 : Hid (OwnV W8 w.heap.size 27 (.slice Al vs.length cl) vs) := ownV_other HP.out.lr hg8 (fun g e => by obtain ⟨a, b, c, d, _, f⟩ := ht8 g e; exact ⟨a, b, c, d, f⟩)
         have HO8 : Hid (Owns W8 w.heap.size vs (chainL k ps b)) := HP.out.ls.map fun v0 l0 h0 => own_other h0 hg8 (fun g e => by obtain ⟨a, b, c, d, f, _⟩ := ht8 g e; exact ⟨a, b, c, d, f⟩)
         have HB8 : Hid (Below w.heap.size w W8) := HP.out.bel.grown hg8 HP.out.bel.size (fun j e => by cases e; omega)
         clear ht8
         have H18 : Hid (SBox W8 (w.heap.size + 1) 22 [.slice Al vs.length cl]) := by rw [hw8]; exact HP.out.b1.put 0 _
         have H28 : Hid (SBox W8 (w.heap.size + 2) 23 [.int .i64 0]) := HP.out.b2.grown hg8 (by omega)
         have HG8 := Lib.hid hg8
         clear hw8 hg8)
      | (refine wpList_put1 23 rfl (.tmp 7) _ rfl 0 (.int .i64 0) rfl rfl rfl info1E _ (H28.out.cell 0 _ rfl) (H28.out.frozen 0) ?_; intro W9 hw9
         have hg9 : W8.grownBy W9 (some (w.heap.size + 2)) := by rw [hw9]; exact grown_set _ _ _ _
         have ht9 : ∀ g, some (w.heap.size + 2) = some g → ∃ cs t f, W8.heap[g]? = some (.cells cs t f) ∧ t ≠ 5 ∧ t ≠ 27 := fun g e => by cases e; exact ⟨_, _, _, H28.out, by decide, by decide⟩
         have HL9 : Hid (OwnV W9 w.heap.size 27 (.slice Al vs.length cl) vs) := ownV_other HL8.out hg9 (fun g e => by obtain ⟨a, b, c, d, _, f⟩ := ht9 g e; exact ⟨a, b, c, d, f⟩)
         have HO9 : Hid (Owns W9 w.heap.size vs (chainL k ps b)) := HO8.out.map fun v0 l0 h0 => own_other h0 hg9 (fun g e => by obtain ⟨a, b, c, d, f, _⟩ := ht9 g e; exact ⟨a, b, c, d, f⟩)
         have HB9 : Hid (Below w.heap.size w W9) := HB8.out.grown hg9 HB8.out.size (fun j e => by cases e; omega)
         clear ht9
         have H19 : Hid (SBox W9 (w.heap.size + 1) 22 [.slice Al vs.length cl]) := H18.out.grown hg9 (by omega)
         have H29 : Hid (SBox W9 (w.heap.size + 2) 23 [.int .i64 0]) := by rw [hw9]; exact H28.out.put 0 _
         have HG9 := Lib.hid hg9
         clear hw9 hg9))
    have hK9 : W9.heap[D]? = some (.deferred (some [])) := by
      have hlt := (Array.getElem?_eq_some_iff.1 HKK.out).1
      have a := HS7.out; have c := HS8.out; have d := HD.out
      have e1 := HG8.out.size
      rw [HG9.out.block D (by omega) (by intro e; injection e with e; omega), HG8.out.block D hlt (by intro e; injection e with e; omega)]
      exact HKK.out
    refine ⟨by simp, .inl ⟨_, _, rfl, run_takeDeferred hK9, ?_⟩⟩
    have hg5 := grownBy_putObj' W9 D (.deferred none)
    have hD2 : ∀ r, some D = some r → w8.heap.size ≤ r := fun r e => by cases e; exact HD.out
    have a := HS7.out
    have c := HS8.out
    refine ⟨_, res_pages (H19.out.turn (B := w8.heap.size) (by omega) hg5 hD2) (H29.out.turn (B := w8.heap.size) (by omega) hg5 hD2) rfl rfl, _, vs, rfl, ?_, ?_, ?_⟩
    · exact ownsRow_turn HL9.out hg5 (fun r e => by cases e; exact ⟨_, hK9, rfl⟩)
    · exact HO9.out.map fun v0 l0 h0 => ownsRow_turn h0 hg5 (fun r e => by cases e; exact ⟨_, hK9, rfl⟩)
    · exact below_turn (B := w8.heap.size) HB9.out (by omega) hg5 hD2
  case stop =>
    rintro D c pre W _ _ h _
    exact h.elim
end Go.Proofs.YtknagdbhhfelnaaDoor
