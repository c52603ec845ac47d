/-
  The region of tallymanref04's Write that puts a new sector into the cache: its order is drawn. What it holds at each step, for any order. Conditions: none.
-/
import Derived.Test.YtagchbpofoidmaaDoorSecW
import Derived.Test.YtagchbpofoidmaaDoorMach
namespace Go.Proofs.YtagchbpofoidmaaDoor
open Go.RowKit Go.Maps
set_option maxRecDepth 100000

theorem ownsRow_lt {w : World} {e : TypeId} {v : Value} {n k : Nat} {xs : List Value} (h : w.ownsRow 0 e 1 v n xs) (hk : v.ownBlock = some k) : k < w.heap.size := by
  obtain ⟨cur, hc⟩ := ownsRow_block h hk
  exact (Array.getElem?_eq_some_iff.1 hc).1
structure Mid (w u : World) (S : Nat → Prop) (g ib ic : Nat) (s : St) (vn vc : Value) (vs : List Value) (x : Value) (l : List UInt8) (vn' : Value) (ks : List Value) : Prop where
  obj : u.heap[g]? = some (.cells #[.slice (some ⟨ib, 0, none⟩) s.B.length ic, vn, vc, .int .i64 (fuseI s.F)] 77 (0, 0))
  img : Own u 0 5 (.slice (some ⟨ib, 0, none⟩) s.B.length ic) s.B
  ord : u.ownsRow 0 3 1 vn' ks.length ks
  rows : u.ownsRow 0 22 1 vc s.C.length vs
  each : ∀ j (hj : j < s.C.length) (hv : j < vs.length), Own u 0 5 vs[j] s.C[j].2 ∧ vs[j].ownBlock ≠ some ib
  own : Own u 0 5 x l
  xib : x.ownBlock ≠ some ib
  trn : Trn S w u
  fn : ∀ k, vn'.ownBlock = some k → more S w u k
section
variable {w u u' : World} {S : Nat → Prop} {g ib ic : Nat} {s : St} {vn vc : Value} {vs : List Value} {x : Value} {l : List UInt8} {vn' : Value} {ks : List Value}
theorem Mid.below (h : Mid w u S g ib ic s vn vc vs x l vn' ks) (hb : Below u.heap.size u u') : Mid w u' S g ib ic s vn vc vs x l vn' ks := by
  have lt : ∀ {e : TypeId} {v : Value} {n : Nat} {xs : List Value}, u.ownsRow 0 e 1 v n xs → u'.ownsRow 0 e 1 v n xs := fun ho => ownsRow_same ho (fun k hk => hb.block k (ownsRow_lt ho hk))
  refine ⟨(hb.block g (Array.getElem?_eq_some_iff.1 h.obj).1).trans h.obj, lt h.img, lt h.ord, lt h.rows, fun j hj hv => ⟨lt (h.each j hj hv).1, (h.each j hj hv).2⟩, lt h.own, h.xib, h.trn.trans (T := fun _ => False) (Trn.of_below hb) (fun _ _ f => f.elim), fun k hk => ?_⟩
  have := hb.size
  exact (h.fn k hk).elim .inl (fun h => .inr ⟨h.1, by omega⟩)
theorem Mid.grow (h : Mid w u S g ib ic s vn vc vs x l vn ks) (hS : ∀ k, vn.ownBlock = some k → S k) {y v' : Value} (hg : u.grownBy u' vn.ownBlock) (ho : u'.ownsRow 0 3 1 v' (ks.length + 1) (ks ++ [y])) (hw : v'.ownBlock = vn.ownBlock ∨ v'.ownBlock = some u.heap.size) :
    Mid w u' S g ib ic s vn vc vs x l v' (ks ++ [y]) := by
  have ht : Trn (fun i => vn.ownBlock = some i) u u' := Trn.of_grown hg (fun i hi => hi)
  have hb : ∀ {k : Nat} {cur : Array Value} {t : TypeId} {f : Nat × Nat}, u.heap[k]? = some (.cells cur t f) → t ≠ 3 → u'.heap[k]? = u.heap[k]? := fun {k cur t f} hc hne =>
    ht.block k (Array.getElem?_eq_some_iff.1 hc).1 (fun e => by
      obtain ⟨c2, h2⟩ := ownsRow_block h.ord e
      exact tag_ne hc h2 hne rfl)
  have lt : ∀ {e : TypeId} {v : Value} {n : Nat} {xs : List Value}, e ≠ 3 → u.ownsRow 0 e 1 v n xs → u'.ownsRow 0 e 1 v n xs := fun hne ho => ownsRow_same ho (fun k hk => by
    obtain ⟨c2, h2⟩ := ownsRow_block ho hk
    exact hb h2 hne)
  refine ⟨(hb h.obj (by decide)).trans h.obj, lt (by decide) h.img, by simpa using ho, lt (by decide) h.rows, fun j hj hv => ⟨lt (by decide) (h.each j hj hv).1, (h.each j hj hv).2⟩, lt (by decide) h.own, h.xib, h.trn.trans ht (fun i _ e => hS i e), fun k hk => ?_⟩
  have hlt := ownsRow_lt ho hk
  rcases hw with hw | hw
  · exact .inl (hS k (hw ▸ hk))
  · rw [hw] at hk
    injection hk with hk
    have := h.trn.size
    exact .inr ⟨by omega, hlt⟩
theorem Mid.fin {n : Nat} (h : Mid w u S g ib ic s vn vc vs x l vn' (inz (keysC s.C) ++ [.int .i64 ((n : Nat) : Int)])) (F : RFoot S w g ib vn vc vs) (hfx : ∀ k, x.ownBlock = some k → w.heap.size ≤ k) (hno : lookC s.C n = none) {v' : Value} (hg : u.grownBy u' vc.ownBlock) (ho : u'.ownsRow 0 22 1 v' (s.C.length + 1) (vs ++ [x])) (hw : v'.ownBlock = vc.ownBlock ∨ v'.ownBlock = some u.heap.size) :
    u'.heap[g]? = u.heap[g]? ∧ RefAt ((u'.setCell ⟨g, 1, none⟩ vn').setCell ⟨g, 2, none⟩ v') g (writeS s n l) ib ic vn' v' (vs ++ [x]) ∧ RFoot (more S w ((u'.setCell ⟨g, 1, none⟩ vn').setCell ⟨g, 2, none⟩ v')) ((u'.setCell ⟨g, 1, none⟩ vn').setCell ⟨g, 2, none⟩ v') g ib vn' v' (vs ++ [x]) ∧ Trn S w ((u'.setCell ⟨g, 1, none⟩ vn').setCell ⟨g, 2, none⟩ v') := by
  have ht : Trn (fun i => vc.ownBlock = some i) u u' := Trn.of_grown hg (fun i hi => hi)
  have hb : ∀ {k : Nat} {cur : Array Value} {t : TypeId} {f : Nat × Nat}, u.heap[k]? = some (.cells cur t f) → t ≠ 22 → u'.heap[k]? = u.heap[k]? := fun {k cur t f} hc hne =>
    ht.block k (Array.getElem?_eq_some_iff.1 hc).1 (fun e => by
      obtain ⟨c2, h2⟩ := ownsRow_block h.rows e
      exact tag_ne hc h2 hne rfl)
  have hog := hb h.obj (by decide)
  have hobj := hog.trans h.obj
  have hsz : ((u'.setCell ⟨g, 1, none⟩ vn').setCell ⟨g, 2, none⟩ v').heap.size = u'.heap.size := by rw [setCell_size, setCell_size]
  have up : ∀ {e : TypeId} {v : Value} {n : Nat} {xs : List Value}, e ≠ 77 → u'.ownsRow 0 e 1 v n xs → ((u'.setCell ⟨g, 1, none⟩ vn').setCell ⟨g, 2, none⟩ v').ownsRow 0 e 1 v n xs := fun hne ho => ownsRow_same ho (fun k hk => by
    obtain ⟨c2, h2⟩ := ownsRow_block ho hk
    have : k ≠ g := tag_ne h2 hobj hne
    exact (heap_cell_other this).trans (heap_cell_other this))
  have lt : ∀ {e : TypeId} {v : Value} {n : Nat} {xs : List Value}, e ≠ 22 → u.ownsRow 0 e 1 v n xs → u'.ownsRow 0 e 1 v n xs := fun hne ho => ownsRow_same ho (fun k hk => by
    obtain ⟨c2, h2⟩ := ownsRow_block ho hk
    exact hb h2 hne)
  have hC : (writeS s n l).C = s.C ++ [(n, l)] := put_new l hno
  have hlen : (writeS s n l).C.length = s.C.length + 1 := by rw [hC]; simp
  have hkeys : inz (keysC (writeS s n l).C) = inz (keysC s.C) ++ [.int .i64 ((n : Nat) : Int)] := by rw [hC]; simp [inz, keysC]
  have hvl : vs.length = s.C.length := by simpa using h.rows.1
  have hsu := ht.size
  have mor : ∀ k, more S w u k → more S w ((u'.setCell ⟨g, 1, none⟩ vn').setCell ⟨g, 2, none⟩ v') k := fun k hk => hk.elim .inl (fun h => .inr ⟨h.1, by rw [hsz]; omega⟩)
  have htr : Trn S w ((u'.setCell ⟨g, 1, none⟩ vn').setCell ⟨g, 2, none⟩ v') := ((h.trn.trans ht (fun i _ e => F.c i e)).setCell _ (fun _ => F.g)).setCell _ (fun _ => F.g)
  refine ⟨hog, ⟨?_, up (by decide) (lt (by decide) h.img), ?_, ?_, fun j hj hv => ?_⟩, ⟨.inl F.g, .inl F.ib, fun k hk => mor k (h.fn k hk), fun k hk => ?_, fun z hz k hk => ?_, more_lt htr.size F.lt⟩, htr⟩
  · simp [World.setCell, Array.getElem?_modify, hobj]
    exact ⟨rfl, rfl⟩
  · rw [hkeys, hlen]
    have := h.ord
    rw [List.length_append, inz_len, keysC_len] at this
    exact up (by decide) (lt (by decide) this)
  · rw [hlen]
    exact up (by decide) ho
  · by_cases hjl : j < s.C.length
    · have e1 : (vs ++ [x])[j] = vs[j]'(by omega) := List.getElem_append_left (by omega)
      have e2 : (writeS s n l).C[j] = s.C[j] := by simp [hC, hjl]
      rw [e1, e2]
      exact ⟨up (by decide) (lt (by decide) (h.each j hjl (by omega)).1), (h.each j hjl (by omega)).2⟩
    · obtain rfl : j = s.C.length := by omega
      have e1 : (vs ++ [x])[s.C.length] = x := by simp [← hvl]
      have e2 : (writeS s n l).C[s.C.length] = (n, l) := by simp [hC]
      rw [e1, e2]
      exact ⟨up (by decide) (lt (by decide) h.own), h.xib⟩
  · have hlt := ownsRow_lt ho hk
    rcases hw with hw | hw
    · exact .inl (F.c k (hw ▸ hk))
    · rw [hw] at hk
      injection hk with hk
      have := h.trn.size
      exact .inr ⟨by omega, by rw [hsz]; exact hlt⟩
  · rcases List.mem_append.1 hz with hz | hz
    · exact .inl (F.r z hz k hk)
    · obtain rfl : z = x := by simpa using hz
      exact mor k (.inr ⟨hfx k hk, ownsRow_lt h.own hk⟩)
end
def Lit (w u : World) (y z : Value) : Prop := Rowz u y [z] ∧ ∀ k, y.ownBlock = some k → w.heap.size ≤ k
theorem Lit.below {w u u' : World} {y z : Value} (h : Lit w u y z) (hb : Below u.heap.size u u') : Lit w u' y z := ⟨h.1.below hb, h.2⟩
theorem Lit.grow {w u u' : World} {y z : Value} {r : Option Nat} (h : Lit w u y z) (hg : u.grownBy u' r) (hr : ∀ k, r = some k → k < w.heap.size) : Lit w u' y z :=
  ⟨h.1.trn (S := fun i => r = some i) (Trn.of_grown hg (fun i hi => hi)) (fun k hk e => by have := h.2 k hk; have := hr k e; omega), h.2⟩
theorem Lit.new {w u : World} (z : Value) (t : TypeId) (hs : w.heap.size ≤ u.heap.size) : Lit w (u.alloc (.cells #[z] t)) (.slice (some ⟨u.heap.size, 0, none⟩) 1 1) z := by
  refine ⟨⟨_, 1, rfl, by simp, by simp [maxLen], .inr ⟨u.heap.size, 0, rfl, by simp, fun j hj => ?_⟩⟩, fun k hk => by simp [Value.ownBlock] at hk; omega⟩
  obtain rfl : j = 0 := by simp at hj; omega
  rw [cell_of_row _ _ _ _ _ _ (heap_alloc_new u _)]
  rfl
structure Slots (ds : List Deferred) (g : Nat) (nv x : Value) (a : Act) : Prop where
  df : a.defers = ds
  sz : a.tmps.size = 59
  e43 : a.eval (.tmp 43) = .pointer (some ⟨g, 1, none⟩)
  e45 : a.eval (.tmp 45) = nv
  e50 : a.eval (.tmp 50) = .pointer (some ⟨g, 2, none⟩)
  e52 : a.eval (.tmp 52) = x
  e39 : a.eval (.tmp 39) = .pointer (some ⟨g, 0, none⟩)
  e40 : a.eval (.tmp 40) = .pointer (some ⟨g, 0, none⟩)
theorem Slots.put {ds : List Deferred} {g : Nat} {nv x : Value} {a : Act} (h : Slots ds g nv x a) (d : Nat) (v : Value) (hd : (decide (d ∉ [43, 45, 50, 52, 39, 40])) = true) : Slots ds g nv x (a.put (some d) v) := by
  simp at hd
  refine ⟨h.df, by simp [Act.put, h.sz], ?_, ?_, ?_, ?_, ?_, ?_⟩ <;> rw [ev_ne (by omega)]
  · exact h.e43
  · exact h.e45
  · exact h.e50
  · exact h.e52
  · exact h.e39
  · exact h.e40
structure Stt (w : World) (S : Nat → Prop) (g ib ic : Nat) (s : St) (vn vc : Value) (vs : List Value) (x : Value) (l : List UInt8) (n : Nat) (ds : List Deferred) (d5 d7 d12 d14 d8 : Bool) (a : Act) (u : World) : Prop where
  sl : Slots ds g (.int .i64 (n : Int)) x a
  e44 : d5 = true → a.eval (.tmp 44) = vn
  r46 : d7 = true → Lit w u (a.eval (.tmp 46)) (.int .i64 (n : Int))
  e51 : d12 = true → a.eval (.tmp 51) = vc
  r53 : d14 = true → Lit w u (a.eval (.tmp 53)) x
  mid : Mid w u S g ib ic s vn vc vs x l (if d8 then a.eval (.tmp 47) else vn) (if d8 then inz (keysC s.C) ++ [.int .i64 (n : Int)] else inz (keysC s.C))
section
variable {w u : World} {S : Nat → Prop} {g ib ic : Nat} {s : St} {vn vc : Value} {vs : List Value} {x : Value} {l : List UInt8} {n : Nat} {ds : List Deferred} {d5 d7 d12 d14 d8 : Bool} {a : Act} {o : Oper} {K : Act → World → Prop} {Q : Exit → Act → World → Prop}
theorem step5 (h : Stt w S g ib ic s vn vc vs x l n ds false d7 d12 d14 false a u) (ho : o.op = .load 44 (.tmp 43)) (hd : o.dst = some 44) (hK : ∀ a' u', Stt w S g ib ic s vn vc vs x l n ds true d7 d12 d14 false a' u' → K a' u') : o.wp Tryd.prog a u K Q := by
  obtain ⟨dst, op, type, pos, after, guard⟩ := o
  simp only at ho hd
  subst ho hd
  have c1 := (robj_cells h.mid.obj).2.1
  have e0 := h.sl.e43
  have hz := h.sl.sz
  have hk := hK (a.put (some 44) vn) u ⟨h.sl.put _ _ (by decide), fun _ => ev_eq (by omega), fun h7 => by rw [ev_ne (by decide)]; exact h.r46 h7, fun h7 => by rw [ev_ne (by decide)]; exact h.e51 h7, fun h7 => by rw [ev_ne (by decide)]; exact h.r53 h7, h.mid⟩
  clear h hK
  unfold Oper.wp
  generalize a.eval = ρ at *
  go_simp
  exact hk
theorem step12 (h : Stt w S g ib ic s vn vc vs x l n ds d5 d7 false d14 d8 a u) (ho : o.op = .load 41 (.tmp 50)) (hd : o.dst = some 51) (hK : ∀ a' u', Stt w S g ib ic s vn vc vs x l n ds d5 d7 true d14 d8 a' u' → K a' u') : o.wp Tryd.prog a u K Q := by
  obtain ⟨dst, op, type, pos, after, guard⟩ := o
  simp only at ho hd
  subst ho hd
  have c1 := (robj_cells h.mid.obj).2.2.1
  have e0 := h.sl.e50
  have hz := h.sl.sz
  have hk := hK (a.put (some 51) vc) u ⟨h.sl.put _ _ (by decide), fun h7 => by rw [ev_ne (by decide)]; exact h.e44 h7, fun h7 => by rw [ev_ne (by decide)]; exact h.r46 h7, fun _ => ev_eq (by omega), fun h7 => by rw [ev_ne (by decide)]; exact h.r53 h7, by rw [ev_ne (by decide)]; exact h.mid⟩
  clear h hK
  unfold Oper.wp
  generalize a.eval = ρ at *
  go_simp
  exact hk
theorem step7 (h : Stt w S g ib ic s vn vc vs x l n ds d5 false d12 d14 d8 a u) (ho : o.op = .buildSlice 44 1 #[(0, .tmp 45)]) (hd : o.dst = some 46) (hK : ∀ a' u', Stt w S g ib ic s vn vc vs x l n ds d5 true d12 d14 d8 a' u' → K a' u') : o.wp Tryd.prog a u K Q := by
  obtain ⟨dst, op, type, pos, after, guard⟩ := o
  simp only at ho hd
  subst ho hd
  have e0 := h.sl.e45
  have hz := h.sl.sz
  have hb := below_new u (.cells #[.int .i64 (n : Int)] 3)
  have hk := hK (a.put (some 46) (.slice (some ⟨u.heap.size, 0, none⟩) 1 1)) (u.alloc (.cells #[.int .i64 (n : Int)] 3)) ⟨h.sl.put _ _ (by decide), fun h7 => by rw [ev_ne (by decide)]; exact h.e44 h7, fun _ => by rw [ev_eq (by omega)]; exact Lit.new _ _ h.mid.trn.size, fun h7 => by rw [ev_ne (by decide)]; exact h.e51 h7, fun h7 => by rw [ev_ne (by decide)]; exact (h.r53 h7).below hb, by rw [ev_ne (by decide)]; exact h.mid.below hb⟩
  clear h hK hb
  unfold Oper.wp
  generalize a.eval = ρ at *
  go_simp
  exact hk
theorem step14 (h : Stt w S g ib ic s vn vc vs x l n ds d5 d7 d12 false d8 a u) (ho : o.op = .buildSlice 41 1 #[(0, .tmp 52)]) (hd : o.dst = some 53) (hK : ∀ a' u', Stt w S g ib ic s vn vc vs x l n ds d5 d7 d12 true d8 a' u' → K a' u') : o.wp Tryd.prog a u K Q := by
  obtain ⟨dst, op, type, pos, after, guard⟩ := o
  simp only at ho hd
  subst ho hd
  obtain ⟨Ax, nx, cx, rfl, _, _, _⟩ := h.mid.own.byt.form
  have e0 := h.sl.e52
  have hz := h.sl.sz
  have hb := below_new u (.cells #[.slice Ax nx cx] 22)
  have hk := hK (a.put (some 53) (.slice (some ⟨u.heap.size, 0, none⟩) 1 1)) (u.alloc (.cells #[.slice Ax nx cx] 22)) ⟨h.sl.put _ _ (by decide), fun h7 => by rw [ev_ne (by decide)]; exact h.e44 h7, fun h7 => by rw [ev_ne (by decide)]; exact (h.r46 h7).below hb, fun h7 => by rw [ev_ne (by decide)]; exact h.e51 h7, fun _ => by rw [ev_eq (by omega)]; exact Lit.new _ _ h.mid.trn.size, by rw [ev_ne (by decide)]; exact h.mid.below hb⟩
  clear h hK hb
  unfold Oper.wp
  generalize a.eval = ρ at *
  go_simp
  exact hk
theorem step8 (hS : ∀ k, vn.ownBlock = some k → S k) (hlt : ∀ k, S k → k < w.heap.size) (hcnt : s.C.length ≤ 32768) (h : Stt w S g ib ic s vn vc vs x l n ds true true d12 d14 false a u) (ho : o.op = .call { callee := .builtin .append, args := #[.tmp 44, .tmp 46], argTypes := #[44, 44] }) (hd : o.dst = some 47) (hK : ∀ a' u', Stt w S g ib ic s vn vc vs x l n ds true true d12 d14 true a' u' → K a' u') : o.wp Tryd.prog a u K Q := by
  obtain ⟨i0, hi0, hz0, hz1, hz2⟩ := info_parts iinfo
  have hz := h.sl.sz
  have hm : Mid w u S g ib ic s vn vc vs x l vn (inz (keysC s.C)) := h.mid
  have hl : (inz (keysC s.C)).length = s.C.length := by rw [inz_len, keysC_len]
  refine wp_appZ u (.tmp 44) (.tmp 46) _ ho 0 3 i0 _ 8 Tryd.underlying44 hi0 hz0 hz1 hz2 rfl vn _ _ (h.e44 rfl) hm.ord _ [.int .i64 (n : Int)] rfl (h.r46 rfl).1 (fun y hy => by obtain rfl : y = _ := List.mem_singleton.1 hy; rfl) (by rw [hl]; simp; omega) (Nat.zero_le _) ?_
  intro v' u' hown hg hat
  have hr : ∀ k, vn.ownBlock = some k → k < w.heap.size := fun k hk => hlt k (hS k hk)
  rw [hd]
  exact hK _ _ ⟨h.sl.put _ _ (by decide), fun h7 => by rw [ev_ne (by decide)]; exact h.e44 h7, fun h7 => by rw [ev_ne (by decide)]; exact (h.r46 h7).grow hg hr, fun h7 => by rw [ev_ne (by decide)]; exact h.e51 h7, fun h7 => by rw [ev_ne (by decide)]; exact (h.r53 h7).grow hg hr, by rw [ev_eq (by omega)]; exact hm.grow hS hg hown hat⟩
end
/-- What is left behind both appends. -/
structure Aft (w : World) (S : Nat → Prop) (g ib ic : Nat) (s : St) (vn vc : Value) (vs : List Value) (x : Value) (l : List UInt8) (n : Nat) (ds : List Deferred) (v47 v54 : Value) (a : Act) (u : World) : Prop where
  sl : Slots ds g (.int .i64 (n : Int)) x a
  e47 : a.eval (.tmp 47) = v47
  e54 : a.eval (.tmp 54) = v54
  obj : u.heap[g]? = some (.cells #[.slice (some ⟨ib, 0, none⟩) s.B.length ic, vn, vc, .int .i64 (fuseI s.F)] 77 (0, 0))
  ref : RefAt ((u.setCell ⟨g, 1, none⟩ v47).setCell ⟨g, 2, none⟩ v54) g (writeS s n l) ib ic v47 v54 (vs ++ [x])
  foot : RFoot (more S w ((u.setCell ⟨g, 1, none⟩ v47).setCell ⟨g, 2, none⟩ v54)) ((u.setCell ⟨g, 1, none⟩ v47).setCell ⟨g, 2, none⟩ v54) g ib v47 v54 (vs ++ [x])
  trn : Trn S w ((u.setCell ⟨g, 1, none⟩ v47).setCell ⟨g, 2, none⟩ v54)
section
variable {w u : World} {S : Nat → Prop} {g ib ic : Nat} {s : St} {vn vc : Value} {vs : List Value} {x : Value} {l : List UInt8} {n : Nat} {ds : List Deferred} {a : Act} {o : Oper} {K : Act → World → Prop} {Q : Exit → Act → World → Prop}
theorem step15 (F : RFoot S w g ib vn vc vs) (hfx : ∀ k, x.ownBlock = some k → w.heap.size ≤ k) (hno : lookC s.C n = none) (hcnt : s.C.length ≤ 32768) (h : Stt w S g ib ic s vn vc vs x l n ds true true true true true a u) (ho : o.op = .call { callee := .builtin .append, args := #[.tmp 51, .tmp 53], argTypes := #[41, 41] }) (hd : o.dst = some 54)
    (hK : ∀ v47 v54 a' u', Aft w S g ib ic s vn vc vs x l n ds v47 v54 a' u' → K a' u') : o.wp Tryd.prog a u K Q := by
  obtain ⟨i0, hi0, hz0, hz1, hz2⟩ := info_parts sinfo
  have hz := h.sl.sz
  have hm : Mid w u S g ib ic s vn vc vs x l (a.eval (.tmp 47)) (inz (keysC s.C) ++ [.int .i64 (n : Int)]) := h.mid
  have hx1 : x.oneCell' = true := by
    obtain ⟨Ax, nx, cx, rfl, _, _, _⟩ := hm.own.byt.form
    rfl
  refine wp_appZ u (.tmp 51) (.tmp 53) _ ho 0 22 i0 _ 24 Tryd.underlying41 hi0 hz0 hz1 hz2 rfl vc _ _ (h.e51 rfl) hm.rows _ [x] rfl (h.r53 rfl).1 (fun y hy => by obtain rfl : y = _ := List.mem_singleton.1 hy; exact hx1) (by simp; omega) (Nat.zero_le _) ?_
  intro v' u' hown hg hat
  obtain ⟨f1, f2, f3, f4⟩ := hm.fin F hfx hno hg hown hat
  rw [hd]
  exact hK _ v' _ _ ⟨h.sl.put _ _ (by decide), ev_ne (by decide), ev_eq (by omega), f1.trans hm.obj, f2, f3, f4⟩
theorem Aft.put {v47 v54 : Value} (h : Aft w S g ib ic s vn vc vs x l n ds v47 v54 a u) (d : Nat) (v : Value) (hd : (decide (d ∉ [43, 45, 50, 52, 39, 40])) = true) (h1 : d ≠ 47) (h2 : d ≠ 54) : Aft w S g ib ic s vn vc vs x l n ds v47 v54 (a.put (some d) v) u :=
  ⟨h.sl.put d v hd, (ev_ne h1).trans h.e47, (ev_ne h2).trans h.e54, h.obj, h.ref, h.foot, h.trn⟩
theorem step16 {t d : Nat} {y : Addr} (e0 : a.eval (.tmp t) = .pointer (some y)) (ho : o.op = .nilCheck (.tmp t)) (hd : o.dst = some d) (hK : K (a.put (some d) (.pointer (some y))) u) : o.wp Tryd.prog a u K Q := by
  obtain ⟨dst, op, type, pos, after, guard⟩ := o
  simp only at ho hd
  subst ho hd
  unfold Oper.wp
  generalize a.eval = ρ at *
  go_simp
  exact hK
theorem step17 {t d k : Nat} (hk : k = 1 ∨ k = 2) (e0 : a.eval (.tmp t) = .pointer (some ⟨g, 0, none⟩)) (ho : o.op = .fieldAddr 77 (.tmp t) k) (hd : o.dst = some d) (hK : K (a.put (some d) (.pointer (some ⟨g, k, none⟩))) u) : o.wp Tryd.prog a u K Q := by
  rcases hk with rfl | rfl
  · obtain ⟨dst, op, type, pos, after, guard⟩ := o
    simp only at ho hd
    subst ho hd
    unfold Oper.wp
    generalize a.eval = ρ at *
    go_simp
    exact hK
  · obtain ⟨dst, op, type, pos, after, guard⟩ := o
    simp only at ho hd
    subst ho hd
    unfold Oper.wp
    generalize a.eval = ρ at *
    go_simp
    exact hK
theorem step18 {v47 v54 : Value} (h : Aft w S g ib ic s vn vc vs x l n ds v47 v54 a u) (e0 : a.eval (.tmp 56) = .pointer (some ⟨g, 1, none⟩)) (ho : o.op = .store 44 (.tmp 56) (.tmp 47)) (hd : o.dst = none) (hK : K a (u.setCell ⟨g, 1, none⟩ v47)) : o.wp Tryd.prog a u K Q := by
  obtain ⟨dst, op, type, pos, after, guard⟩ := o
  simp only at ho hd
  subst ho hd
  obtain ⟨Av, nv, cv, rfl, _, _, _⟩ := (ints_rowz h.ref.ord).form
  obtain ⟨_, c1, _, _, z1, _, _⟩ := robj_cells h.obj
  have e1 := h.e47
  clear h
  unfold Oper.wp
  generalize a.eval = ρ at *
  go_simp
  exact hK
theorem step21 {v47 v54 : Value} (h : Aft w S g ib ic s vn vc vs x l n ds v47 v54 a u) (e0 : a.eval (.tmp 58) = .pointer (some ⟨g, 2, none⟩)) (ho : o.op = .store 41 (.tmp 58) (.tmp 54)) (hd : o.dst = none) (hK : K a ((u.setCell ⟨g, 1, none⟩ v47).setCell ⟨g, 2, none⟩ v54)) : o.wp Tryd.prog a (u.setCell ⟨g, 1, none⟩ v47) K Q := by
  obtain ⟨dst, op, type, pos, after, guard⟩ := o
  simp only at ho hd
  subst ho hd
  have hrz : Rowz _ v54 (vs ++ [x]) := OwnR.rowz (by have := h.ref.rows; rw [← h.ref.len] at this; exact this)
  obtain ⟨Av, nv, cv, rfl, _, _, _⟩ := hrz.form
  have hobj : (u.setCell ⟨g, 1, none⟩ v47).heap[g]? = some (.cells #[.slice (some ⟨ib, 0, none⟩) s.B.length ic, v47, vc, .int .i64 (fuseI s.F)] 77 (0, 0)) := by
    have := h.obj
    simp [World.setCell, Array.getElem?_modify, this]
  obtain ⟨_, _, c1, _, _, z1, _⟩ := robj_cells hobj
  have e1 := h.e54
  clear h hobj hrz
  generalize u.setCell ⟨g, 1, none⟩ v47 = u1 at *
  unfold Oper.wp
  generalize a.eval = ρ at *
  go_simp
  exact hK
end
def lst (d5 d7 d12 d14 d8 d15 d16 d17 d18 d19 d20 d21 : Bool) : Array Bool := #[true, true, true, true, true, d5, true, d7, d8, true, true, true, d12, true, d14, d15, d16, d17, d18, d19, d20, d21]
def rdy (d5 d7 d12 d14 d8 : Bool) : List Nat := (if d5 then [] else [5]) ++ ((if d7 then [] else [7]) ++ ((if d5 && d7 && !d8 then [8] else []) ++ ((if d12 then [] else [12]) ++ ((if d14 then [] else [14]) ++ (if d12 && d14 && d8 then [15] else [])))))
def left (d : Bool) : Nat := if d then 0 else 1
theorem lst_5 {d5 d7 d12 d14 d8 d15 d16 d17 d18 d19 d20 d21 : Bool} : (lst d5 d7 d12 d14 d8 d15 d16 d17 d18 d19 d20 d21).setIfInBounds 5 true = lst true d7 d12 d14 d8 d15 d16 d17 d18 d19 d20 d21 := rfl
theorem lst_7 {d5 d7 d12 d14 d8 d15 d16 d17 d18 d19 d20 d21 : Bool} : (lst d5 d7 d12 d14 d8 d15 d16 d17 d18 d19 d20 d21).setIfInBounds 7 true = lst d5 true d12 d14 d8 d15 d16 d17 d18 d19 d20 d21 := rfl
theorem lst_12 {d5 d7 d12 d14 d8 d15 d16 d17 d18 d19 d20 d21 : Bool} : (lst d5 d7 d12 d14 d8 d15 d16 d17 d18 d19 d20 d21).setIfInBounds 12 true = lst d5 d7 true d14 d8 d15 d16 d17 d18 d19 d20 d21 := rfl
theorem lst_14 {d5 d7 d12 d14 d8 d15 d16 d17 d18 d19 d20 d21 : Bool} : (lst d5 d7 d12 d14 d8 d15 d16 d17 d18 d19 d20 d21).setIfInBounds 14 true = lst d5 d7 d12 true d8 d15 d16 d17 d18 d19 d20 d21 := rfl
theorem lst_8 {d5 d7 d12 d14 d8 d15 d16 d17 d18 d19 d20 d21 : Bool} : (lst d5 d7 d12 d14 d8 d15 d16 d17 d18 d19 d20 d21).setIfInBounds 8 true = lst d5 d7 d12 d14 true d15 d16 d17 d18 d19 d20 d21 := rfl
theorem lst_15 {d5 d7 d12 d14 d8 d15 d16 d17 d18 d19 d20 d21 : Bool} : (lst d5 d7 d12 d14 d8 d15 d16 d17 d18 d19 d20 d21).setIfInBounds 15 true = lst d5 d7 d12 d14 d8 true d16 d17 d18 d19 d20 d21 := rfl
theorem lst_16 {d5 d7 d12 d14 d8 d15 d16 d17 d18 d19 d20 d21 : Bool} : (lst d5 d7 d12 d14 d8 d15 d16 d17 d18 d19 d20 d21).setIfInBounds 16 true = lst d5 d7 d12 d14 d8 d15 true d17 d18 d19 d20 d21 := rfl
theorem lst_17 {d5 d7 d12 d14 d8 d15 d16 d17 d18 d19 d20 d21 : Bool} : (lst d5 d7 d12 d14 d8 d15 d16 d17 d18 d19 d20 d21).setIfInBounds 17 true = lst d5 d7 d12 d14 d8 d15 d16 true d18 d19 d20 d21 := rfl
theorem lst_18 {d5 d7 d12 d14 d8 d15 d16 d17 d18 d19 d20 d21 : Bool} : (lst d5 d7 d12 d14 d8 d15 d16 d17 d18 d19 d20 d21).setIfInBounds 18 true = lst d5 d7 d12 d14 d8 d15 d16 d17 true d19 d20 d21 := rfl
theorem lst_19 {d5 d7 d12 d14 d8 d15 d16 d17 d18 d19 d20 d21 : Bool} : (lst d5 d7 d12 d14 d8 d15 d16 d17 d18 d19 d20 d21).setIfInBounds 19 true = lst d5 d7 d12 d14 d8 d15 d16 d17 d18 true d20 d21 := rfl
theorem lst_20 {d5 d7 d12 d14 d8 d15 d16 d17 d18 d19 d20 d21 : Bool} : (lst d5 d7 d12 d14 d8 d15 d16 d17 d18 d19 d20 d21).setIfInBounds 20 true = lst d5 d7 d12 d14 d8 d15 d16 d17 d18 d19 true d21 := rfl
theorem lst_21 {d5 d7 d12 d14 d8 d15 d16 d17 d18 d19 d20 d21 : Bool} : (lst d5 d7 d12 d14 d8 d15 d16 d17 d18 d19 d20 d21).setIfInBounds 21 true = lst d5 d7 d12 d14 d8 d15 d16 d17 d18 d19 d20 true := rfl
section
variable {w : World} {S : Nat → Prop} {g ib ic : Nat} {s : St} {vn vc : Value} {vs : List Value} {x : Value} {l : List UInt8} {n : Nat} {ds : List Deferred} {Q : Exit → Act → World → Prop} {ops : Array Oper}
theorem t21 (hend : ∀ a u v47 v54, a.defers = ds → a.tmps.size = 59 → RefAt u g (writeS s n l) ib ic v47 v54 (vs ++ [x]) → RFoot (more S w u) u g ib v47 v54 (vs ++ [x]) → Trn S w u → Q .normal a u) (h21 : OpAt ops 21 (.store 41 (.tmp 58) (.tmp 54)) (none)) (c22 : Region.ready .any ops (lst true true true true true true true true true true true true) = []) (c21 : Region.ready .any ops (lst true true true true true true true true true true true false) = [21]) {v47 v54 : Value} {a : Act} {u : World} (h : Aft w S g ib ic s vn vc vs x l n ds v47 v54 a u) (e : a.eval (.tmp 58) = .pointer (some ⟨g, 2, none⟩)) : wpAny Tryd.prog .any ops Q 1 (lst true true true true true true true true true true true false) a (u.setCell ⟨g, 1, none⟩ v47) :=
  one_op c21 (h21.wp (fun _ q r => step21 h e q r (lst_21 ▸ wpAny_done c22 (hend _ _ _ _ h.sl.df h.sl.sz h.ref h.foot h.trn) 0)))
theorem t20 (hend : ∀ a u v47 v54, a.defers = ds → a.tmps.size = 59 → RefAt u g (writeS s n l) ib ic v47 v54 (vs ++ [x]) → RFoot (more S w u) u g ib v47 v54 (vs ++ [x]) → Trn S w u → Q .normal a u) (h21 : OpAt ops 21 (.store 41 (.tmp 58) (.tmp 54)) (none)) (h20 : OpAt ops 20 (.fieldAddr 77 (.tmp 57) 2) (some 58)) (c22 : Region.ready .any ops (lst true true true true true true true true true true true true) = []) (c21 : Region.ready .any ops (lst true true true true true true true true true true true false) = [21]) (c20 : Region.ready .any ops (lst true true true true true true true true true true false false) = [20]) {v47 v54 : Value} {a : Act} {u : World} (h : Aft w S g ib ic s vn vc vs x l n ds v47 v54 a u) (e : a.eval (.tmp 57) = .pointer (some ⟨g, 0, none⟩)) : wpAny Tryd.prog .any ops Q 2 (lst true true true true true true true true true true false false) a (u.setCell ⟨g, 1, none⟩ v47) :=
  one_op c20 (h20.wp (fun _ q r => step17 (.inr rfl) e q r (lst_20 ▸ t21 hend h21 c22 c21 (h.put 58 _ (by decide) (by decide) (by decide)) (ev_eq (by rw [h.sl.sz]; decide)))))
theorem t19 (hend : ∀ a u v47 v54, a.defers = ds → a.tmps.size = 59 → RefAt u g (writeS s n l) ib ic v47 v54 (vs ++ [x]) → RFoot (more S w u) u g ib v47 v54 (vs ++ [x]) → Trn S w u → Q .normal a u) (h21 : OpAt ops 21 (.store 41 (.tmp 58) (.tmp 54)) (none)) (h20 : OpAt ops 20 (.fieldAddr 77 (.tmp 57) 2) (some 58)) (h19 : OpAt ops 19 (.nilCheck (.tmp 40)) (some 57)) (c22 : Region.ready .any ops (lst true true true true true true true true true true true true) = []) (c21 : Region.ready .any ops (lst true true true true true true true true true true true false) = [21]) (c20 : Region.ready .any ops (lst true true true true true true true true true true false false) = [20]) (c19 : Region.ready .any ops (lst true true true true true true true true true false false false) = [19]) {v47 v54 : Value} {a : Act} {u : World} (h : Aft w S g ib ic s vn vc vs x l n ds v47 v54 a u) : wpAny Tryd.prog .any ops Q 3 (lst true true true true true true true true true false false false) a (u.setCell ⟨g, 1, none⟩ v47) :=
  one_op c19 (h19.wp (fun _ q r => step16 h.sl.e40 q r (lst_19 ▸ t20 hend h21 h20 c22 c21 c20 (h.put 57 _ (by decide) (by decide) (by decide)) (ev_eq (by rw [h.sl.sz]; decide)))))
theorem t18 (hend : ∀ a u v47 v54, a.defers = ds → a.tmps.size = 59 → RefAt u g (writeS s n l) ib ic v47 v54 (vs ++ [x]) → RFoot (more S w u) u g ib v47 v54 (vs ++ [x]) → Trn S w u → Q .normal a u) (h21 : OpAt ops 21 (.store 41 (.tmp 58) (.tmp 54)) (none)) (h20 : OpAt ops 20 (.fieldAddr 77 (.tmp 57) 2) (some 58)) (h19 : OpAt ops 19 (.nilCheck (.tmp 40)) (some 57)) (h18 : OpAt ops 18 (.store 44 (.tmp 56) (.tmp 47)) (none)) (c22 : Region.ready .any ops (lst true true true true true true true true true true true true) = []) (c21 : Region.ready .any ops (lst true true true true true true true true true true true false) = [21]) (c20 : Region.ready .any ops (lst true true true true true true true true true true false false) = [20]) (c19 : Region.ready .any ops (lst true true true true true true true true true false false false) = [19]) (c18 : Region.ready .any ops (lst true true true true true true true true false false false false) = [18]) {v47 v54 : Value} {a : Act} {u : World} (h : Aft w S g ib ic s vn vc vs x l n ds v47 v54 a u) (e : a.eval (.tmp 56) = .pointer (some ⟨g, 1, none⟩)) : wpAny Tryd.prog .any ops Q 4 (lst true true true true true true true true false false false false) a u :=
  one_op c18 (h18.wp (fun _ q r => step18 h e q r (lst_18 ▸ t19 hend h21 h20 h19 c22 c21 c20 c19 h)))
theorem t17 (hend : ∀ a u v47 v54, a.defers = ds → a.tmps.size = 59 → RefAt u g (writeS s n l) ib ic v47 v54 (vs ++ [x]) → RFoot (more S w u) u g ib v47 v54 (vs ++ [x]) → Trn S w u → Q .normal a u) (h21 : OpAt ops 21 (.store 41 (.tmp 58) (.tmp 54)) (none)) (h20 : OpAt ops 20 (.fieldAddr 77 (.tmp 57) 2) (some 58)) (h19 : OpAt ops 19 (.nilCheck (.tmp 40)) (some 57)) (h18 : OpAt ops 18 (.store 44 (.tmp 56) (.tmp 47)) (none)) (h17 : OpAt ops 17 (.fieldAddr 77 (.tmp 55) 1) (some 56)) (c22 : Region.ready .any ops (lst true true true true true true true true true true true true) = []) (c21 : Region.ready .any ops (lst true true true true true true true true true true true false) = [21]) (c20 : Region.ready .any ops (lst true true true true true true true true true true false false) = [20]) (c19 : Region.ready .any ops (lst true true true true true true true true true false false false) = [19]) (c18 : Region.ready .any ops (lst true true true true true true true true false false false false) = [18]) (c17 : Region.ready .any ops (lst true true true true true true true false false false false false) = [17]) {v47 v54 : Value} {a : Act} {u : World} (h : Aft w S g ib ic s vn vc vs x l n ds v47 v54 a u) (e : a.eval (.tmp 55) = .pointer (some ⟨g, 0, none⟩)) : wpAny Tryd.prog .any ops Q 5 (lst true true true true true true true false false false false false) a u :=
  one_op c17 (h17.wp (fun _ q r => step17 (.inl rfl) e q r (lst_17 ▸ t18 hend h21 h20 h19 h18 c22 c21 c20 c19 c18 (h.put 56 _ (by decide) (by decide) (by decide)) (ev_eq (by rw [h.sl.sz]; decide)))))
theorem t16 (hend : ∀ a u v47 v54, a.defers = ds → a.tmps.size = 59 → RefAt u g (writeS s n l) ib ic v47 v54 (vs ++ [x]) → RFoot (more S w u) u g ib v47 v54 (vs ++ [x]) → Trn S w u → Q .normal a u) (h21 : OpAt ops 21 (.store 41 (.tmp 58) (.tmp 54)) (none)) (h20 : OpAt ops 20 (.fieldAddr 77 (.tmp 57) 2) (some 58)) (h19 : OpAt ops 19 (.nilCheck (.tmp 40)) (some 57)) (h18 : OpAt ops 18 (.store 44 (.tmp 56) (.tmp 47)) (none)) (h17 : OpAt ops 17 (.fieldAddr 77 (.tmp 55) 1) (some 56)) (h16 : OpAt ops 16 (.nilCheck (.tmp 39)) (some 55)) (c22 : Region.ready .any ops (lst true true true true true true true true true true true true) = []) (c21 : Region.ready .any ops (lst true true true true true true true true true true true false) = [21]) (c20 : Region.ready .any ops (lst true true true true true true true true true true false false) = [20]) (c19 : Region.ready .any ops (lst true true true true true true true true true false false false) = [19]) (c18 : Region.ready .any ops (lst true true true true true true true true false false false false) = [18]) (c17 : Region.ready .any ops (lst true true true true true true true false false false false false) = [17]) (c16 : Region.ready .any ops (lst true true true true true true false false false false false false) = [16]) {v47 v54 : Value} {a : Act} {u : World} (h : Aft w S g ib ic s vn vc vs x l n ds v47 v54 a u) : wpAny Tryd.prog .any ops Q 6 (lst true true true true true true false false false false false false) a u :=
  one_op c16 (h16.wp (fun _ q r => step16 h.sl.e39 q r (lst_16 ▸ t17 hend h21 h20 h19 h18 h17 c22 c21 c20 c19 c18 c17 (h.put 55 _ (by decide) (by decide) (by decide)) (ev_eq (by rw [h.sl.sz]; decide)))))
theorem reg10 (hend : ∀ a u v47 v54, a.defers = ds → a.tmps.size = 59 → RefAt u g (writeS s n l) ib ic v47 v54 (vs ++ [x]) → RFoot (more S w u) u g ib v47 v54 (vs ++ [x]) → Trn S w u → Q .normal a u) (h5 : OpAt ops 5 (.load 44 (.tmp 43)) (some 44))  (h7 : OpAt ops 7 (.buildSlice 44 1 #[(0, .tmp 45)]) (some 46))  (h8 : OpAt ops 8 (.call { callee := .builtin .append, args := #[.tmp 44, .tmp 46], argTypes := #[44, 44] }) (some 47))  (h12 : OpAt ops 12 (.load 41 (.tmp 50)) (some 51))  (h14 : OpAt ops 14 (.buildSlice 41 1 #[(0, .tmp 52)]) (some 53))  (h15 : OpAt ops 15 (.call { callee := .builtin .append, args := #[.tmp 51, .tmp 53], argTypes := #[41, 41] }) (some 54))  (h21 : OpAt ops 21 (.store 41 (.tmp 58) (.tmp 54)) (none)) (h20 : OpAt ops 20 (.fieldAddr 77 (.tmp 57) 2) (some 58)) (h19 : OpAt ops 19 (.nilCheck (.tmp 40)) (some 57)) (h18 : OpAt ops 18 (.store 44 (.tmp 56) (.tmp 47)) (none)) (h17 : OpAt ops 17 (.fieldAddr 77 (.tmp 55) 1) (some 56)) (h16 : OpAt ops 16 (.nilCheck (.tmp 39)) (some 55)) (c22 : Region.ready .any ops (lst true true true true true true true true true true true true) = []) (c21 : Region.ready .any ops (lst true true true true true true true true true true true false) = [21]) (c20 : Region.ready .any ops (lst true true true true true true true true true true false false) = [20]) (c19 : Region.ready .any ops (lst true true true true true true true true true false false false) = [19]) (c18 : Region.ready .any ops (lst true true true true true true true true false false false false) = [18]) (c17 : Region.ready .any ops (lst true true true true true true true false false false false false) = [17]) (c16 : Region.ready .any ops (lst true true true true true true false false false false false false) = [16])
    (hr : ∀ d5 d7 d12 d14 d8, (d8 = true → d5 = true ∧ d7 = true) → Region.ready .any ops (lst d5 d7 d12 d14 d8 false false false false false false false) = rdy d5 d7 d12 d14 d8)
    (F : RFoot S w g ib vn vc vs) (hfx : ∀ k, x.ownBlock = some k → w.heap.size ≤ k) (hno : lookC s.C n = none) (hcnt : s.C.length ≤ 32768) :
    ∀ a u, Stt w S g ib ic s vn vc vs x l n ds false false false false false a u → wpAny Tryd.prog .any ops Q 12 (lst false false false false false false false false false false false false) a u := by
  intro a u h
  refine mach (I := fun k L a u => ∃ d5 d7 d12 d14 d8, k = 7 + left d5 + left d7 + left d12 + left d14 + left d8 ∧ L = lst d5 d7 d12 d14 d8 false false false false false false false ∧ (d8 = true → d5 = true ∧ d7 = true) ∧ Stt w S g ib ic s vn vc vs x l n ds d5 d7 d12 d14 d8 a u) ?_ 12 _ a u ⟨false, false, false, false, false, rfl, rfl, fun h => (by cases h), h⟩
  clear h a u
  rintro k L a u ⟨d5, d7, d12, d14, d8, rfl, rfl, hv, h⟩
  refine ⟨6 + left d5 + left d7 + left d12 + left d14 + left d8, _, by omega, hr d5 d7 d12 d14 d8 hv, ?_, fun i hi => ?_⟩
  · cases d5 <;> cases d7 <;> cases d12 <;> cases d14 <;> cases d8 <;> simp_all [rdy]
  · unfold rdy at hi
    rcases List.mem_append.1 hi with hi | hi
    · cases d5 <;> simp at hi
      subst hi
      obtain rfl : d8 = false := by cases d8 <;> simp_all
      refine h5.wp (fun _ q r => step5 h q r (fun a' u' h' => .inl ⟨true, d7, d12, d14, false, ?_, lst_5, fun h => (by cases h), h'⟩))
      show 6 + 1 + _ + _ + _ + _ = 7 + 0 + _ + _ + _ + _
      omega
    rcases List.mem_append.1 hi with hi | hi
    · cases d7 <;> simp at hi
      subst hi
      obtain rfl : d8 = false := by cases d8 <;> simp_all
      refine h7.wp (fun _ q r => step7 h q r (fun a' u' h' => .inl ⟨d5, true, d12, d14, false, ?_, lst_7, fun h => (by cases h), h'⟩))
      show 6 + _ + 1 + _ + _ + _ = 7 + _ + 0 + _ + _ + _
      omega
    rcases List.mem_append.1 hi with hi | hi
    · cases d5 <;> cases d7 <;> cases d8 <;> simp at hi
      subst hi
      refine h8.wp (fun _ q r => step8 F.n F.lt hcnt h q r (fun a' u' h' => .inl ⟨true, true, d12, d14, true, ?_, lst_8, fun _ => ⟨rfl, rfl⟩, h'⟩))
      show 6 + 0 + 0 + _ + _ + 1 = 7 + 0 + 0 + _ + _ + 0
      omega
    rcases List.mem_append.1 hi with hi | hi
    · cases d12 <;> simp at hi
      subst hi
      refine h12.wp (fun _ q r => step12 h q r (fun a' u' h' => .inl ⟨d5, d7, true, d14, d8, ?_, lst_12, hv, h'⟩))
      show 6 + _ + _ + 1 + _ + _ = 7 + _ + _ + 0 + _ + _
      omega
    rcases List.mem_append.1 hi with hi | hi
    · cases d14 <;> simp at hi
      subst hi
      refine h14.wp (fun _ q r => step14 h q r (fun a' u' h' => .inl ⟨d5, d7, d12, true, d8, ?_, lst_14, hv, h'⟩))
      show 6 + _ + _ + _ + 1 + _ = 7 + _ + _ + _ + 0 + _
      omega
    · cases d12 <;> cases d14 <;> cases d8 <;> simp at hi
      subst hi
      obtain ⟨rfl, rfl⟩ := hv rfl
      exact h15.wp (fun _ q r => step15 F hfx hno hcnt h q r (fun v47 v54 a' u' h' => .inr (lst_15 ▸ t16 hend h21 h20 h19 h18 h17 h16 c22 c21 c20 c19 c18 c17 c16 h')))
end
end Go.Proofs.YtagchbpofoidmaaDoor
