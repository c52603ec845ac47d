/-
  Package space's own iterator (those) by its contract: which pages come, in which order, whatever the loop's body does that leaves the row and the flag. Conditions: none.
-/
import Derived.Test.YtncjobeahpjnpaaSpD
import Derived.RangeFuncNested
import Derived.RangeFuncBound
import Derived.RangeFuncCalls
import Derived.RangeFuncLeaves
import Derived.RangeFuncBox
import Derived.Shelf.Abstract
import Derived.Shelf.RegionOpen
import Derived.OwnWalkIn
import Derived.TacticsInMore
import Derived.LoopNIn
import Derived.LoopIn
namespace Go.Proofs.Ytncjobeahpjnpaa
open Go.RowKit Go.Shelf Go.Maps
set_option maxRecDepth 100000
attribute [local go_sem] Oper.semAt_some

/-- A page of which the row says u. -/
abbrev Ix (l : List Bool) (u : Bool) := { n : Nat // l[n]? = some u }
def ixF (l : List Bool) (u : Bool) (k : Nat) : List (Ix l u) := (List.range k).filterMap fun n => if h : l[n]? = some u then some ⟨n, h⟩ else none
theorem ixF_hit {l : List Bool} {u : Bool} {k : Nat} (h : l[k]? = some u) : ixF l u (k + 1) = ixF l u k ++ [⟨k, h⟩] := by
  simp [ixF, List.range_succ, List.filterMap_append, h]
theorem ixF_miss {l : List Bool} {u : Bool} {k : Nat} (h : ¬ l[k]? = some u) : ixF l u (k + 1) = ixF l u k := by
  simp [ixF, List.range_succ, List.filterMap_append, h]
theorem ixF_val (l : List Bool) (u : Bool) (k : Nat) : (ixF l u k).map (·.1) = idxN l u k := by
  induction k with
  | zero => rfl
  | succ k ih =>
    rw [idxN_succ]
    by_cases h : l[k]? = some u
    · rw [ixF_hit h, List.map_append, ih, if_pos (by simpa using h)]
      rfl
    · rw [ixF_miss h, ih, if_neg (by simpa using h), List.append_nil]
theorem ixF_pre (l : List Bool) (u : Bool) {j k : Nat} (h : j ≤ k) : ixF l u j <+: ixF l u k := by
  induction k with
  | zero =>
    obtain rfl : j = 0 := by omega
    exact List.prefix_refl _
  | succ k ih =>
    by_cases e : j = k + 1
    · subst e; exact List.prefix_refl _
    · refine (ih (by omega)).trans ?_
      by_cases h : l[k]? = some u
      · rw [ixF_hit h]; exact List.prefix_append _ _
      · rw [ixF_miss h]; exact List.prefix_refl _
/-- What a round that goes on leaves: what lay below n₀, and the flag. -/
def KpS (n₀ Bu : Nat) (W W' : World) : Prop := Below n₀ W W' ∧ W'.heap[Bu]? = W.heap[Bu]?
theorem KpS.refl (n₀ Bu : Nat) (W : World) : KpS n₀ Bu W W := ⟨Below.refl _ _, rfl⟩
theorem KpS.trans {n₀ Bu : Nat} {A B C : World} (h : KpS n₀ Bu A B) (k : KpS n₀ Bu B C) : KpS n₀ Bu A C := ⟨h.1.trans k.1, k.2.trans h.2⟩
theorem KpS.obj {n₀ Bu : Nat} {w : World} (h1 : n₀ ≤ w.heap.size) (h2 : Bu < w.heap.size) (W : World) (l : Nat) (o o' : Obj) (hl : w.heap.size ≤ l) (ho : W.heap[l]? = some o) (hc : o.isCells = false) (hw : o.isWalk = false) : KpS n₀ Bu W (W.putObj l o') :=
  ⟨belowK_b (n₀ := n₀) h1 W l o o' hl ho hc hw, World.putObj_heap_other (by omega)⟩

def IxRel (n₀ Bu : Nat) (W : World) {l : List Bool} {u : Bool} (J : List (Ix l u) → World → Prop) (i : Value) (wr : World) : Prop := ∃ k : Nat, k ≤ l.length ∧ i = .int .i64 (k : Int) ∧ J (ixF l u k) wr ∧ KpS n₀ Bu W wr
set_option maxRecDepth 100000 in
set_option maxHeartbeats 4000000 in
theorem those1_in (F : Fence) (n : Nat) (hf : F.fn 50) (hro : F.round = none) (hn : 1 ≤ n) (lp Bs Bu : Nat) (w00 : World) (v : Value) (l : List Bool) (u : Bool) (hv : Boos w00 v l) (J Jx : List (Ix l u) → World → Prop)
    (hY : ∀ pre x W, J pre W → pre.length < (ixF l u l.length).length → YieldAt F (n - 1) Try.prog lp #[.int .i64 (x.1 : Int)] W fun e W' =>
      (e = .returned (.bool true) ∧ J (pre ++ [x]) W' ∧ KpS w00.heap.size Bu W W') ∨ (e = .returned (.bool false) ∧ Jx (pre ++ [x]) W'))
    (W : World) (hb : Below w00.heap.size w00 W) (hBs : W.cell? ⟨Bs, 1, none⟩ = some v) (hBu : W.cell? ⟨Bu, 0, none⟩ = some (.bool u)) (h0 : J [] W) :
    CallsIn F n Try.prog 50 #[.func (.yield lp) #[] #[], .pointer (some ⟨Bs, 0, none⟩), .pointer (some ⟨Bu, 0, none⟩)] W fun e W' => (∃ v, e = .returned v) ∧
      ((∃ ys, ys = ixF l u l.length ∧ J ys W') ∨ (∃ pre, pre <+: ixF l u l.length ∧ Jx pre W')) := by
  obtain ⟨A, m, c, rfl, N, hnc, hcm⟩ := hv.form
  have HV := Lib.hid hv
  have HB := Lib.hid hb
  have HBu := Lib.hid hBu
  clear hv hb
  refine callsIn_of_wp Try.func50 rfl hf ?_ hro
  simp only [Try.ntmps50, List.size_toArray, List.length_cons, List.length_nil, Nat.reduceAdd, Nat.reduceSub, Array.replicate_succ, Array.replicate_zero, List.push_toArray, List.append_toArray, List.nil_append, List.cons_append]
  gi_wp2
  gi_loopw [9] (fun i wr => IxRel w00.heap.size Bu W J i wr) (fun i _ => l.length - (intOf i).toNat)
  case atStart => exact ⟨0, Nat.zero_le _, rfl, h0, KpS.refl _ _ _⟩
  case round =>
    obtain ⟨k, hk, rfl, hJs, hkp⟩ := hrel
    have hbu : wr.cell? ⟨Bu, 0, none⟩ = some (.bool u) := (World.cell?_of_block (a := ⟨Bu, 0, none⟩) hkp.2).trans HBu.out
    have HKP := Lib.hid hkp
    clear hkp
    by_cases hlt : k < l.length
    · have hkm : k < m := by rw [show m = l.length from N.out]; exact hlt
      obtain ⟨bl, off, rfl, hbl, hc⟩ := (HV.out.below (HB.out.trans HKP.out.1)).at hlt
      have hcell := hc k hlt
      have hq : l[k]? = some l[k] := List.getElem?_eq_getElem hlt
      clear hc
      generalize l[k] = q at *
      by_cases e : q = u
      · subst e
        have HQ := Lib.hid hq
        have hlen : (ixF l q k).length < (ixF l q l.length).length := by
          have := (ixF_pre l q (show k + 1 ≤ l.length by omega)).length_le
          rw [ixF_hit HQ.out, List.length_append] at this
          simp at this
          omega
        obtain ⟨fn, tmps, assign, body, hy, hR⟩ := hY (ixF l q k) ⟨k, HQ.out⟩ wr hJs hlen
        dsimp only at hy
        clear hq hlen
        have hee : (q == q) = true := by simp
        gi_wp2
        refine hR.mono ?_
        rintro e W3 (⟨rfl, hJ3, hk3⟩ | ⟨rfl, hJx3⟩)
        · gi_wp2
          go_roundw
          case rel => exact ⟨k + 1, by omega, by go_num, by rw [ixF_hit HQ.out]; exact hJ3, HKP.out.trans hk3⟩
          case measure => simp [intOf]; omega
        · gi_wp2
          refine bodyPost_ret (results_none rfl _ _ _) rfl ?_
          exact ⟨⟨_, rfl⟩, .inr ⟨_, by rw [← ixF_hit HQ.out]; exact ixF_pre _ _ (by omega), hJx3⟩⟩
      · have HQ : Hid (¬ l[k]? = some u) := fun h => e (by rw [hq] at h; exact Option.some.inj h)
        have hee : (q == u) = false := by simpa using e
        clear hq
        gi_wp2
        refine ⟨fun _ h => (by cases h), ?_⟩
        gi_wp2
        go_roundw
        case rel => exact ⟨k + 1, by omega, by go_num, by rw [ixF_miss HQ.out]; exact hJs, HKP.out⟩
        case measure => simp [intOf]; omega
    · have hkm : ¬ k < m := by rw [show m = l.length from N.out]; exact hlt
      have HK : Hid (k = l.length) := show k = l.length by omega
      gi_wp2
      go_end0
      exact ⟨⟨_, rfl⟩, .inl ⟨_, rfl, HK.out ▸ hJs⟩⟩

/-! Structs and cells written within a fence. -/
section
variable {P : Program} {F : Fence} {nF : Nat} {ops : Array Oper} {rest : List Oper} {o : Oper} {a : Act} {w : World} {Q : Exit → Act → World → Prop} {g : Nat} {t : TypeId} {cs : List Value}
theorem wpListIn_loadS {fs : Array Field} (h : SBox w g t cs) (hu : P.underlying t = some (.struct fs)) (hi : (P.info? t).map (·.size) = some cs.length) (hgd : o.guard = none) (x : Operand) (ho : o.op = .load t x) (hx : a.eval x = .pointer (some ⟨g, 0, none⟩))
    (hK : wpListIn F nF P ops Q rest (a.put o.dst (.agg cs.toArray)) w) : wpListIn F nF P ops Q (o :: rest) a w :=
  wpListIn_plain hgd fun _ hk => by
    unfold Oper.wpIn
    refine ⟨by simp [Oper.about, ho], ?_⟩
    rw [Oper.semAt_plain F _ _ (by rw [ho]; intro c hc'; cases hc'), exec_loadS h hu hi x ho hx]
    exact hk _ _ hK
theorem wpListIn_storeS (h : SBox w g t cs) (hi : (P.info? t).map (·.size) = some cs.length) (hgd : o.guard = none) (x y : Operand) (ho : o.op = .store t x y) (hx : a.eval x = .pointer (some ⟨g, 0, none⟩)) {ds : List Value} (hy : a.eval y = .agg ds.toArray)
    (hl : ds.length = cs.length) (h1 : ∀ u ∈ ds, u.oneCell' = true)
    (hK : ∀ w', SBox w' g t ds → w.grownBy w' (some g) → w'.heap.size = w.heap.size → wpListIn F nF P ops Q rest (a.put o.dst undef) w') : wpListIn F nF P ops Q (o :: rest) a w :=
  wpListIn_plain hgd fun _ hk => by
    unfold Oper.wpIn
    refine ⟨by simp [Oper.about, ho], ?_⟩
    rw [Oper.semAt_plain F _ _ (by rw [ho]; intro c hc'; cases hc'), exec_storeS h hi x y ho hx hy hl h1]
    obtain ⟨s1, s2, s3⟩ := h.setRow ds
    exact hk _ _ (hK _ s1 s2 s3)
theorem wpListIn_put1 (t' : TypeId) (hgd : o.guard = none) (x y : Operand) (ho : o.op = .store t' x y) (j : Nat) (v : Value) (hx : a.eval x = .pointer (some ⟨g, j, none⟩)) (hy : a.eval y = v) (h1 : v.oneCell' = true) (hs : (P.info? t').map (·.size) = some 1)
    (u : Value) (hc : w.cell? ⟨g, j, none⟩ = some u) (hf : w.frozen? ⟨g, j, none⟩ = false)
    (hK : ∀ w', w' = w.setCell ⟨g, j, none⟩ v → wpListIn F nF P ops Q rest (a.put o.dst undef) w') : wpListIn F nF P ops Q (o :: rest) a w :=
  wpListIn_plain hgd fun _ hk => by
    unfold Oper.wpIn
    refine ⟨by simp [Oper.about, ho], ?_⟩
    rw [Oper.semAt_plain F _ _ (by rw [ho]; intro c hc'; cases hc'), exec_put1 t' x y ho j v hx hy h1 hs u hc hf]
    exact hk _ _ (hK _ rfl)
end

set_option maxHeartbeats 1000000 in
/-- those: the space and the flag are boxed; the function value captures both boxes. -/
theorem those_any (w : World) (p : Int) (v : Value) (u : Bool) :
    Calls Try.prog 35 #[.agg #[.int .i64 p, v], .bool u] w fun e w' => e = .returned (.func (.func 50) #[] #[.pointer (some ⟨w.heap.size, 0, none⟩), .pointer (some ⟨w.heap.size + 1, 0, none⟩)]) ∧ w' = (w.alloc (.cells #[.int .i64 p, v] 24)).alloc (.cells #[.bool u] 4) := by
  go_enter Try.func35, Try.ntmps35
  go_wp2
  go_ret
  exact ⟨rfl, rfl⟩
/-- What those answers goes over the pages of which the row says u, rising. -/
theorem those_stops (F : Fence) (n : Nat) (hf : F.fn 50) (hro : F.round = none) (hn : 1 ≤ n) (Bs Bu : Nat) (w00 : World) (v : Value) (l : List Bool) (u : Bool) (hv : Boos w00 v l) (w : World) (hb : Below w00.heap.size w00 w)
    (hs : Bs < w.heap.size) (hu : Bu < w.heap.size) (hBs : w.cell? ⟨Bs, 1, none⟩ = some v) (hBu : w.cell? ⟨Bu, 0, none⟩ = some (.bool u)) :
    SeqStopsK F n Try.prog 50 #[.pointer (some ⟨Bs, 0, none⟩), .pointer (some ⟨Bu, 0, none⟩)] (fun x : Ix l u => #[Value.int .i64 (x.1 : Int)]) (KpS w00.heap.size Bu) (fun ys => ys = ixF l u l.length) (fun pre => pre <+: ixF l u l.length) (ixF l u l.length).length w :=
  fun lp J Jx W hW _ _ hY h0 => those1_in F n hf hro hn lp Bs Bu w00 v l u hv J Jx hY W (hb.trans (hW.mono hb.size)) ((hW.cell (p := ⟨Bs, 1, none⟩) hs).trans hBs) ((hW.cell (p := ⟨Bu, 0, none⟩) hu).trans hBu) h0
end Go.Proofs.Ytncjobeahpjnpaa
