/-
  The document's pages (tallymanref05): Read, Kind by their contracts. Conditions: none.
-/
import Derived.Test.YtagchbpofoidmaaDoorPgJ
import Derived.Test.YtagchbpofoidmaaDoorMach
namespace Go.Proofs.YtagchbpofoidmaaDoor
open Go.RowKit Go.Maps
set_option maxRecDepth 100000

/-- What lies in memory, and stands in the slots, while the page is told: which of the operations are done. -/
structure RdSt (w : World) (p g x nw : Nat) (l : List UInt8) (d2 d3 d5 d6 d7 d10 d11 d12 : Bool) (t5 t17 t18 t20 t21 t22 t25 t26 : Value) (u : World) : Prop where
  bel : Below w.heap.size w u
  boxp : Box u p 0 0 (.slice none 0 0)
  rd : d5 = false → RRdr u g ((l.drop 4).take 4)
  e17 : d2 = true → t17 = .int .u8 (x : Int)
  e18 : d3 = true → t18 = .int .i64 (x : Int)
  e20 : d5 = true → t20 = .int .u64 (nw : Int)
  e21 : d6 = true → t21 = .int .u32 (nw : Int)
  r22 : d7 = true → d10 = false → Own u w.heap.size 5 t22 []
  r25 : d10 = true → Own u w.heap.size 5 t25 (l.drop 16)
  e26 : d11 = true → t26 = .agg (pageV (x : Int) (nw : Int) t25)
  b5 : d12 = true → ∃ q, t5 = .pointer (some ⟨q, 0, none⟩) ∧ w.heap.size ≤ q ∧ q ≠ p ∧ Box u q 0 0 (.slice none 0 0)
section
variable {w u u' : World} {p g x nw : Nat} {l : List UInt8} {d2 d3 d5 d6 d7 d10 d11 d12 : Bool} {t5 t17 t18 t20 t21 t22 t25 t26 : Value} {a : Act} {o : Oper} {K : Act → World → Prop} {Q : Exit → Act → World → Prop}
theorem RdSt.below (h : RdSt w p g x nw l d2 d3 d5 d6 d7 d10 d11 d12 t5 t17 t18 t20 t21 t22 t25 t26 u) (hb : Below u.heap.size u u') : RdSt w p g x nw l d2 d3 d5 d6 d7 d10 d11 d12 t5 t17 t18 t20 t21 t22 t25 t26 u' :=
  ⟨h.bel.trans (hb.mono h.bel.size), h.boxp.below hb, fun e => (h.rd e).below hb, h.e17, h.e18, h.e20, h.e21, fun e1 e2 => Own.keep (h.r22 e1 e2) hb, fun e => Own.keep (h.r25 e) hb, h.e26, fun e => by
    obtain ⟨q, e1, e2, e3, e4⟩ := h.b5 e
    exact ⟨q, e1, e2, e3, e4.below hb⟩⟩
theorem own_grownR {B k : Nat} {v : Value} {m : List UInt8} {cur : Array Value} {t : TypeId} {f : Nat × Nat} (h : Own u B 5 v m) (hg : u.grownBy u' (some k)) (hk : u.heap[k]? = some (.cells cur t f)) (ht : 5 ≠ t) : Own u' B 5 v m :=
  ownsRow_sameB h (fun i hi => by
    obtain ⟨c2, h2⟩ := ownsRow_block (h.lower (Nat.zero_le _)) hi
    have hne : i ≠ k := tag_ne h2 hk ht
    exact hg.block i (Array.getElem?_eq_some_iff.1 h2).1 (by simpa using hne))
theorem box_grownR {q k : Nat} {kd n : Int} {vb : Value} {cur : Array Value} {t : TypeId} {f : Nat × Nat} (h : Box u q kd n vb) (hg : u.grownBy u' (some k)) (hk : u.heap[k]? = some (.cells cur t f)) (ht : 28 ≠ t) : Box u' q kd n vb :=
  h.grown hg (tag_ne h hk ht)
theorem st2 {b off : Nat} (e : a.eval (.tmp 16) = .pointer (some ⟨b, off, none⟩)) (hc : u.cell? ⟨b, off, none⟩ = some (.int .u8 (x : Int))) (ho : o.op = .load 5 (.tmp 16)) (hd : o.dst = some 17) (hK : K (a.put (some 17) (.int .u8 (x : Int))) u) : o.wp Tryd.prog a u K Q := by
  obtain ⟨dst, op, type, pos, after, guard⟩ := o
  simp only at ho hd
  subst ho hd
  unfold Oper.wp
  generalize a.eval = ρ at *
  go_simp
  exact hK
theorem st3 (e : a.eval (.tmp 17) = .int .u8 (x : Int)) (hx : x < 256) (ho : o.op = .convert 5 3 (.tmp 17)) (hd : o.dst = some 18) (hK : K (a.put (some 18) (.int .i64 (x : Int))) u) : o.wp Tryd.prog a u K Q := by
  obtain ⟨dst, op, type, pos, after, guard⟩ := o
  simp only at ho hd
  subst ho hd
  have hw : IntKind.i64.wrap (x : Int) = (x : Int) := by rw [IntKind.wrap_i64]; omega
  unfold Oper.wp
  generalize a.eval = ρ at *
  go_simp
  first | exact hK | (rw [hw]; exact hK)
theorem st6 (e : a.eval (.tmp 20) = .int .u64 (nw : Int)) (hx : nw < 4294967296) (ho : o.op = .convert 61 26 (.tmp 20)) (hd : o.dst = some 21) (hK : K (a.put (some 21) (.int .u32 (nw : Int))) u) : o.wp Tryd.prog a u K Q := by
  obtain ⟨dst, op, type, pos, after, guard⟩ := o
  simp only at ho hd
  subst ho hd
  have hw : IntKind.u32.wrap (nw : Int) = (nw : Int) := by rw [IntKind.wrap_u32]; omega
  unfold Oper.wp
  generalize a.eval = ρ at *
  go_simp
  first | exact hK | (rw [hw]; exact hK)
theorem st5 (e : a.eval (.tmp 19) = .pointer (some ⟨g, 0, none⟩)) (hr : RRdr u g ((l.drop 4).take 4)) (hl : ((l.drop 4).take 4).length = 4) (ho : o.op = .call { callee := .value (.func 56), args := #[.tmp 19, .const (.int .i64 4)], argTypes := #[74, 3] }) (hd : o.dst = some 20) (hK : ∀ u', u.grownBy u' (some g) → K (a.put (some 20) (.int .u64 (wordN ((l.drop 4).take 4) : Int))) u') : o.wp Tryd.prog a u K Q := by
  obtain ⟨dst, op, type, pos, after, guard⟩ := o
  simp only at ho hd
  subst ho hd
  unfold Oper.wp
  have hcall := rrword_is u g _ hr hl
  generalize wordN ((l.drop 4).take 4) = nn at *
  have hev : a.eval (.const (.int .i64 4)) = .int .i64 4 := rfl
  have hev2 : a.eval (.func 56) = .func (.func 56) #[] #[] := rfl
  generalize a.eval = ρ at *
  go_simp
  refine hcall.mono ?_
  rintro e' w1 ⟨rfl, hg1⟩
  exact hK _ hg1
theorem st7 (ho : o.op = .buildSlice 22 0 #[]) (hd : o.dst = some 22) (hK : K (a.put (some 22) (.slice (some ⟨u.heap.size, 0, none⟩) 0 0)) (u.alloc (.cells #[] 5))) : o.wp Tryd.prog a u K Q := by
  obtain ⟨dst, op, type, pos, after, guard⟩ := o
  simp only at ho hd
  subst ho hd
  unfold Oper.wp
  generalize a.eval = ρ at *
  go_simp
  exact hK
theorem st11 {A : Option Addr} {n c : Nat} (e1 : a.eval (.tmp 18) = .int .i64 (x : Int)) (e2 : a.eval (.tmp 21) = .int .u32 (nw : Int)) (e3 : a.eval (.tmp 25) = .slice A n c) (ho : o.op = .build 28 #[(0, .tmp 18), (1, .tmp 21), (2, .tmp 25)]) (hd : o.dst = some 26) (hK : K (a.put (some 26) (.agg (pageV (x : Int) (nw : Int) (.slice A n c)))) u) : o.wp Tryd.prog a u K Q := by
  obtain ⟨dst, op, type, pos, after, guard⟩ := o
  simp only at ho hd
  subst ho hd
  unfold Oper.wp
  unfold pageV at hK
  generalize a.eval = ρ at *
  go_simp
  exact hK
theorem st12 (ho : o.op = .alloc 28) (hd : o.dst = some 5) (hK : K (a.put (some 5) (.pointer (some ⟨u.heap.size, 0, none⟩))) (u.alloc (.cells (pageV 0 0 (.slice none 0 0)) 28))) : o.wp Tryd.prog a u K Q := by
  obtain ⟨dst, op, type, pos, after, guard⟩ := o
  simp only at ho hd
  subst ho hd
  unfold Oper.wp
  unfold pageV at hK
  generalize a.eval = ρ at *
  go_simp
  exact hK
theorem st13 {q : Nat} {A : Option Addr} {n c : Nat} (hb : Box u q 0 0 (.slice none 0 0)) (e1 : a.eval (.tmp 5) = .pointer (some ⟨q, 0, none⟩)) (e2 : a.eval (.tmp 26) = .agg (pageV (x : Int) (nw : Int) (.slice A n c))) (ho : o.op = .store 28 (.tmp 5) (.tmp 26)) (hd : o.dst = none)
    (hK : K a (((u.setCell ⟨q, 0, none⟩ (.int .i64 (x : Int))).setCell ⟨q, 1, none⟩ (.int .u32 (nw : Int))).setCell ⟨q, 2, none⟩ (.slice A n c))) : o.wp Tryd.prog a u K Q := by
  obtain ⟨dst, op, type, pos, after, guard⟩ := o
  simp only at ho hd
  subst ho hd
  obtain ⟨c0, c1, c2⟩ := hb.cells
  have f0 := hb.frozen 0
  have f1 := hb.frozen 1
  have f2 := hb.frozen 2
  clear hb
  unfold pageV at e2
  unfold Oper.wp
  generalize a.eval = ρ at *
  go_simp
  exact hK
end
def lst4 (d2 d3 d5 d6 d7 d10 d11 d12 d13 : Bool) : Array Bool := #[true, true, d2, d3, true, d5, d6, d7, true, true, d10, d11, d12, d13]
def rdy4 (d2 d3 d5 d6 d7 d10 d11 d12 : Bool) : List Nat := (if d2 then [] else [2]) ++ ((if d2 && !d3 then [3] else []) ++ ((if d5 then [] else [5]) ++ ((if d5 && !d6 then [6] else []) ++ ((if d7 then [] else [7]) ++ ((if d5 && d7 && !d10 then [10] else []) ++ ((if d3 && d6 && d10 && !d11 then [11] else []) ++ ((if d12 then [] else [12]) ++ (if d11 && d12 then [13] else []))))))))
def okF (d2 d3 d5 d6 d7 d10 d11 _d12 : Bool) : Prop := (d3 = true → d2 = true) ∧ (d6 = true → d5 = true) ∧ (d10 = true → d5 = true ∧ d7 = true) ∧ (d11 = true → d3 = true ∧ d6 = true ∧ d10 = true)
def lef (d : Bool) : Nat := if d then 0 else 1
theorem lst4_2 {d2 d3 d5 d6 d7 d10 d11 d12 d13 : Bool} : (lst4 d2 d3 d5 d6 d7 d10 d11 d12 d13).setIfInBounds 2 true = lst4 true d3 d5 d6 d7 d10 d11 d12 d13 := rfl
theorem lst4_3 {d2 d3 d5 d6 d7 d10 d11 d12 d13 : Bool} : (lst4 d2 d3 d5 d6 d7 d10 d11 d12 d13).setIfInBounds 3 true = lst4 d2 true d5 d6 d7 d10 d11 d12 d13 := rfl
theorem lst4_5 {d2 d3 d5 d6 d7 d10 d11 d12 d13 : Bool} : (lst4 d2 d3 d5 d6 d7 d10 d11 d12 d13).setIfInBounds 5 true = lst4 d2 d3 true d6 d7 d10 d11 d12 d13 := rfl
theorem lst4_6 {d2 d3 d5 d6 d7 d10 d11 d12 d13 : Bool} : (lst4 d2 d3 d5 d6 d7 d10 d11 d12 d13).setIfInBounds 6 true = lst4 d2 d3 d5 true d7 d10 d11 d12 d13 := rfl
theorem lst4_7 {d2 d3 d5 d6 d7 d10 d11 d12 d13 : Bool} : (lst4 d2 d3 d5 d6 d7 d10 d11 d12 d13).setIfInBounds 7 true = lst4 d2 d3 d5 d6 true d10 d11 d12 d13 := rfl
theorem lst4_10 {d2 d3 d5 d6 d7 d10 d11 d12 d13 : Bool} : (lst4 d2 d3 d5 d6 d7 d10 d11 d12 d13).setIfInBounds 10 true = lst4 d2 d3 d5 d6 d7 true d11 d12 d13 := rfl
theorem lst4_11 {d2 d3 d5 d6 d7 d10 d11 d12 d13 : Bool} : (lst4 d2 d3 d5 d6 d7 d10 d11 d12 d13).setIfInBounds 11 true = lst4 d2 d3 d5 d6 d7 d10 true d12 d13 := rfl
theorem lst4_12 {d2 d3 d5 d6 d7 d10 d11 d12 d13 : Bool} : (lst4 d2 d3 d5 d6 d7 d10 d11 d12 d13).setIfInBounds 12 true = lst4 d2 d3 d5 d6 d7 d10 d11 true d13 := rfl
theorem lst4_13 {d2 d3 d5 d6 d7 d10 d11 d12 d13 : Bool} : (lst4 d2 d3 d5 d6 d7 d10 d11 d12 d13).setIfInBounds 13 true = lst4 d2 d3 d5 d6 d7 d10 d11 d12 true := rfl
theorem rdy4_ne {d2 d3 d5 d6 d7 d10 d11 d12 : Bool} (h : okF d2 d3 d5 d6 d7 d10 d11 d12) : rdy4 d2 d3 d5 d6 d7 d10 d11 d12 ≠ [] := by
  revert h
  cases d2 <;> cases d3 <;> cases d5 <;> cases d6 <;> cases d7 <;> cases d10 <;> cases d11 <;> cases d12 <;> simp [rdy4, okF]
theorem box_grownO {u u' : World} {q B : Nat} {kd n : Int} {vb v : Value} {m : List UInt8} (h : Box u q kd n vb) (ho : Own u B 5 v m) (hg : u.grownBy u' v.ownBlock) : Box u' q kd n vb :=
  (hg.block q h.lt (fun e => by
    obtain ⟨c2, h2⟩ := ownsRow_block (ho.lower (Nat.zero_le _)) e.symm
    exact tag_ne h2 h (by decide) rfl)).trans h
set_option maxRecDepth 100000 in
set_option maxHeartbeats 4000000 in
theorem reg4 {w : World} {p g x nw b off : Nat} {l : List UInt8} {vs : Value} {f : Value → Value → Value → Value → Value → Value → Value → Value → Act} {ops : Array Oper} {Q : Exit → Act → World → Prop}
    (h2 : OpAt ops 2 (.load 5 (.tmp 16)) (some 17)) (h3 : OpAt ops 3 (.convert 5 3 (.tmp 17)) (some 18)) (h5 : OpAt ops 5 (.call { callee := .value (.func 56), args := #[.tmp 19, .const (.int .i64 4)], argTypes := #[74, 3] }) (some 20)) (h6 : OpAt ops 6 (.convert 61 26 (.tmp 20)) (some 21)) (h7 : OpAt ops 7 (.buildSlice 22 0 #[]) (some 22)) (h10 : OpAt ops 10 (.call { callee := .builtin .append, args := #[.tmp 22, .tmp 24], argTypes := #[22, 22] }) (some 25)) (h11 : OpAt ops 11 (.build 28 #[(0, .tmp 18), (1, .tmp 21), (2, .tmp 25)]) (some 26)) (h12 : OpAt ops 12 (.alloc 28) (some 5)) (h13 : OpAt ops 13 (.store 28 (.tmp 5) (.tmp 26)) (none))
    (p17 : ∀ t5 t17 t18 t20 t21 t22 t25 t26 v, (f t5 t17 t18 t20 t21 t22 t25 t26).put (some 17) v = f t5 v t18 t20 t21 t22 t25 t26) (p18 : ∀ t5 t17 t18 t20 t21 t22 t25 t26 v, (f t5 t17 t18 t20 t21 t22 t25 t26).put (some 18) v = f t5 t17 v t20 t21 t22 t25 t26) (p20 : ∀ t5 t17 t18 t20 t21 t22 t25 t26 v, (f t5 t17 t18 t20 t21 t22 t25 t26).put (some 20) v = f t5 t17 t18 v t21 t22 t25 t26) (p21 : ∀ t5 t17 t18 t20 t21 t22 t25 t26 v, (f t5 t17 t18 t20 t21 t22 t25 t26).put (some 21) v = f t5 t17 t18 t20 v t22 t25 t26) (p22 : ∀ t5 t17 t18 t20 t21 t22 t25 t26 v, (f t5 t17 t18 t20 t21 t22 t25 t26).put (some 22) v = f t5 t17 t18 t20 t21 v t25 t26) (p25 : ∀ t5 t17 t18 t20 t21 t22 t25 t26 v, (f t5 t17 t18 t20 t21 t22 t25 t26).put (some 25) v = f t5 t17 t18 t20 t21 t22 v t26) (p26 : ∀ t5 t17 t18 t20 t21 t22 t25 t26 v, (f t5 t17 t18 t20 t21 t22 t25 t26).put (some 26) v = f t5 t17 t18 t20 t21 t22 t25 v) (p5 : ∀ t5 t17 t18 t20 t21 t22 t25 t26 v, (f t5 t17 t18 t20 t21 t22 t25 t26).put (some 5) v = f v t17 t18 t20 t21 t22 t25 t26)
    (v17 : ∀ t5 t17 t18 t20 t21 t22 t25 t26, (f t5 t17 t18 t20 t21 t22 t25 t26).eval (.tmp 17) = t17) (v18 : ∀ t5 t17 t18 t20 t21 t22 t25 t26, (f t5 t17 t18 t20 t21 t22 t25 t26).eval (.tmp 18) = t18) (v20 : ∀ t5 t17 t18 t20 t21 t22 t25 t26, (f t5 t17 t18 t20 t21 t22 t25 t26).eval (.tmp 20) = t20) (v21 : ∀ t5 t17 t18 t20 t21 t22 t25 t26, (f t5 t17 t18 t20 t21 t22 t25 t26).eval (.tmp 21) = t21) (v22 : ∀ t5 t17 t18 t20 t21 t22 t25 t26, (f t5 t17 t18 t20 t21 t22 t25 t26).eval (.tmp 22) = t22) (v25 : ∀ t5 t17 t18 t20 t21 t22 t25 t26, (f t5 t17 t18 t20 t21 t22 t25 t26).eval (.tmp 25) = t25) (v26 : ∀ t5 t17 t18 t20 t21 t22 t25 t26, (f t5 t17 t18 t20 t21 t22 t25 t26).eval (.tmp 26) = t26) (v5 : ∀ t5 t17 t18 t20 t21 t22 t25 t26, (f t5 t17 t18 t20 t21 t22 t25 t26).eval (.tmp 5) = t5)
    (e16 : ∀ t5 t17 t18 t20 t21 t22 t25 t26, (f t5 t17 t18 t20 t21 t22 t25 t26).eval (.tmp 16) = .pointer (some ⟨b, off, none⟩)) (e19 : ∀ t5 t17 t18 t20 t21 t22 t25 t26, (f t5 t17 t18 t20 t21 t22 t25 t26).eval (.tmp 19) = .pointer (some ⟨g, 0, none⟩)) (e24 : ∀ t5 t17 t18 t20 t21 t22 t25 t26, (f t5 t17 t18 t20 t21 t22 t25 t26).eval (.tmp 24) = vs)
    (hc : ∀ u, Below w.heap.size w u → u.cell? ⟨b, off, none⟩ = some (.int .u8 (x : Int))) (hvs : ∀ u, Below w.heap.size w u → Byt u vs (l.drop 16)) (hx : x < 256) (hnw : nw < 4294967296) (hwn : wordN ((l.drop 4).take 4) = nw)
    (hl4 : ((l.drop 4).take 4).length = 4) (hl : (l.drop 16).length ≤ 10000) (hg : w.heap.size ≤ g)
    (hr : ∀ d2 d3 d5 d6 d7 d10 d11 d12, okF d2 d3 d5 d6 d7 d10 d11 d12 → Region.ready .any ops (lst4 d2 d3 d5 d6 d7 d10 d11 d12 false) = rdy4 d2 d3 d5 d6 d7 d10 d11 d12) (hr13 : Region.ready .any ops (lst4 true true true true true true true true true) = [])
    (hend : ∀ t5 t17 t18 t20 t21 t22 t25 t26 u q, t5 = .pointer (some ⟨q, 0, none⟩) → Own u w.heap.size 5 t25 (l.drop 16) → Box u q x nw t25 → w.heap.size ≤ q → q ≠ p → Box u p 0 0 (.slice none 0 0) → Below w.heap.size w u → Q .normal (f t5 t17 t18 t20 t21 t22 t25 t26) u) :
    ∀ t5 t17 t18 t20 t21 t22 t25 t26 u, RdSt w p g x nw l false false false false false false false false t5 t17 t18 t20 t21 t22 t25 t26 u → wpAny Tryd.prog .any ops Q 9 (lst4 false false false false false false false false false) (f t5 t17 t18 t20 t21 t22 t25 t26) u := by
  intro t5 t17 t18 t20 t21 t22 t25 t26 u h
  obtain ⟨i0, hi0, hz0, hz1, hz2⟩ := info_parts uinfo
  refine mach (I := fun k L a u => ∃ d2 d3 d5 d6 d7 d10 d11 d12 t5 t17 t18 t20 t21 t22 t25 t26, k = 1 + lef d2 + lef d3 + lef d5 + lef d6 + lef d7 + lef d10 + lef d11 + lef d12 ∧ L = lst4 d2 d3 d5 d6 d7 d10 d11 d12 false ∧ okF d2 d3 d5 d6 d7 d10 d11 d12 ∧ a = f t5 t17 t18 t20 t21 t22 t25 t26 ∧ RdSt w p g x nw l d2 d3 d5 d6 d7 d10 d11 d12 t5 t17 t18 t20 t21 t22 t25 t26 u) ?_ 9 _ _ u ⟨false, false, false, false, false, false, false, false, t5, t17, t18, t20, t21, t22, t25, t26, rfl, rfl, ⟨nofun, nofun, nofun, nofun⟩, rfl, h⟩
  clear h u t5 t17 t18 t20 t21 t22 t25 t26
  rintro k L a u ⟨d2, d3, d5, d6, d7, d10, d11, d12, t5, t17, t18, t20, t21, t22, t25, t26, rfl, rfl, hv, rfl, h⟩
  refine ⟨lef d2 + lef d3 + lef d5 + lef d6 + lef d7 + lef d10 + lef d11 + lef d12, _, by omega, hr _ _ _ _ _ _ _ _ hv, ?_, fun i hi => ?_⟩
  · exact rdy4_ne hv
  · unfold rdy4 at hi
    rcases List.mem_append.1 hi with hi | hi
    · cases d2 <;> simp at hi
      subst hi
      refine h2.wp (fun _ q r => st2 (e16 _ _ _ _ _ _ _ _) (hc u h.bel) q r ?_)
      rw [p17]
      refine .inl ⟨true, d3, d5, d6, d7, d10, d11, d12, t5, _, t18, t20, t21, t22, t25, t26, ?_, lst4_2, ⟨fun _ => rfl, hv.2.1, hv.2.2.1, hv.2.2.2⟩, rfl, ⟨h.bel, h.boxp, h.rd, fun _ => rfl, h.e18, h.e20, h.e21, h.r22, h.r25, h.e26, h.b5⟩⟩
      show 1 + _ + _ + _ + _ + _ + _ + _ = 1 + 0 + _ + _ + _ + _ + _ + _ + _
      omega
    rcases List.mem_append.1 hi with hi | hi
    · cases d2 <;> cases d3 <;> simp at hi
      subst hi
      refine h3.wp (fun _ q r => st3 ((v17 _ _ _ _ _ _ _ _).trans (h.e17 rfl)) hx q r ?_)
      rw [p18]
      obtain rfl : d11 = false := by cases d11; rfl; exact absurd (hv.2.2.2 rfl).1 (by simp)
      refine .inl ⟨true, true, d5, d6, d7, d10, false, d12, t5, t17, _, t20, t21, t22, t25, t26, ?_, lst4_3, ⟨fun _ => rfl, hv.2.1, hv.2.2.1, nofun⟩, rfl, ⟨h.bel, h.boxp, h.rd, h.e17, fun _ => rfl, h.e20, h.e21, h.r22, h.r25, nofun, h.b5⟩⟩
      show 0 + 1 + _ + _ + _ + _ + 1 + _ = 1 + 0 + 0 + _ + _ + _ + _ + 1 + _
      omega
    rcases List.mem_append.1 hi with hi | hi
    · cases d5 <;> simp at hi
      subst hi
      obtain rfl : d6 = false := by cases d6; rfl; exact absurd (hv.2.1 rfl) (by simp)
      obtain rfl : d10 = false := by cases d10; rfl; exact absurd (hv.2.2.1 rfl).1 (by simp)
      obtain rfl : d11 = false := by cases d11; rfl; exact absurd (hv.2.2.2 rfl).2.2 (by simp)
      refine h5.wp (fun _ q r => st5 (e19 _ _ _ _ _ _ _ _) (h.rd rfl) hl4 q r (fun u' hgr => ?_))
      rw [hwn, p20]
      obtain ⟨Ar, cr, hblk, _⟩ := h.rd rfl
      refine .inl ⟨d2, d3, true, false, d7, false, false, d12, t5, t17, t18, _, t21, t22, t25, t26, ?_, lst4_5, ⟨hv.1, nofun, nofun, nofun⟩, rfl, ⟨h.bel.grown hgr h.bel.size (fun k e => by injection e with e; exact e ▸ hg), box_grownR h.boxp hgr hblk (by decide), nofun, h.e17, h.e18, fun _ => rfl, nofun, fun e1 e2 => own_grownR (h.r22 e1 e2) hgr hblk (by decide), nofun, nofun, fun e => ?_⟩⟩
      · show _ + _ + 1 + 1 + _ + 1 + 1 + _ = 1 + _ + _ + 0 + 1 + _ + 1 + 1 + _
        omega
      · obtain ⟨q', q1, q2, q3, q4⟩ := h.b5 e
        exact ⟨q', q1, q2, q3, box_grownR q4 hgr hblk (by decide)⟩
    rcases List.mem_append.1 hi with hi | hi
    · cases d5 <;> cases d6 <;> simp at hi
      subst hi
      obtain rfl : d11 = false := by cases d11; rfl; exact absurd (hv.2.2.2 rfl).2.1 (by simp)
      refine h6.wp (fun _ q r => st6 ((v20 _ _ _ _ _ _ _ _).trans (h.e20 rfl)) hnw q r ?_)
      rw [p21]
      refine .inl ⟨d2, d3, true, true, d7, d10, false, d12, t5, t17, t18, t20, _, t22, t25, t26, ?_, lst4_6, ⟨hv.1, fun _ => rfl, hv.2.2.1, nofun⟩, rfl, ⟨h.bel, h.boxp, h.rd, h.e17, h.e18, h.e20, fun _ => rfl, h.r22, h.r25, nofun, h.b5⟩⟩
      show _ + _ + 0 + 1 + _ + _ + 1 + _ = 1 + _ + _ + 0 + 0 + _ + _ + 1 + _
      omega
    rcases List.mem_append.1 hi with hi | hi
    · cases d7 <;> simp at hi
      subst hi
      obtain rfl : d10 = false := by cases d10; rfl; exact absurd (hv.2.2.1 rfl).2 (by simp)
      obtain rfl : d11 = false := by cases d11; rfl; exact absurd (hv.2.2.2 rfl).2.2 (by simp)
      refine h7.wp (fun _ q r => st7 q r ?_)
      rw [p22]
      have hb := below_new u (.cells #[] 5)
      have h' := h.below hb
      refine .inl ⟨d2, d3, d5, d6, true, false, false, d12, t5, t17, t18, t20, t21, _, t25, t26, ?_, lst4_7, ⟨hv.1, hv.2.1, nofun, nofun⟩, rfl, ⟨h'.bel, h'.boxp, h'.rd, h'.e17, h'.e18, h'.e20, h'.e21, fun _ _ => (Own.empty u).lower h.bel.size, nofun, nofun, h'.b5⟩⟩
      show _ + _ + _ + _ + 1 + 1 + 1 + _ = 1 + _ + _ + _ + _ + 0 + 1 + 1 + _
      omega
    rcases List.mem_append.1 hi with hi | hi
    · cases d5 <;> cases d7 <;> cases d10 <;> simp at hi
      subst hi
      obtain rfl : d11 = false := by cases d11; rfl; exact absurd (hv.2.2.2 rfl).2.2 (by simp)
      have hown := h.r22 rfl rfl
      refine h10.wp (fun o q r => ?_)
      refine wp_app u (.tmp 22) (.tmp 24) _ q w.heap.size 5 i0 _ Tryd.underlying22 hi0 hz0 hz1 hz2 rfl _ [] (v22 _ _ _ _ _ _ _ _) hown _ (l.drop 16) (e24 _ _ _ _ _ _ _ _) (hvs u h.bel) (by rw [List.length_nil]; omega) h.bel.size ?_
      intro v' u' hown' hgr hat
      rw [r, p25]
      refine .inl ⟨d2, d3, true, d6, true, true, false, d12, t5, t17, t18, t20, t21, t22, _, t26, ?_, lst4_10, ⟨hv.1, hv.2.1, fun _ => ⟨rfl, rfl⟩, nofun⟩, rfl, ⟨below_own h.bel h.bel.size hown hgr, box_grownO h.boxp hown hgr, nofun, h.e17, h.e18, h.e20, h.e21, nofun, fun _ => (by rw [List.nil_append] at hown'; exact hown'), nofun, fun e => ?_⟩⟩
      · show _ + _ + 0 + _ + 0 + 1 + 1 + _ = 1 + _ + _ + 0 + _ + 0 + 0 + 1 + _
        omega
      · obtain ⟨q', q1, q2, q3, q4⟩ := h.b5 e
        exact ⟨q', q1, q2, q3, box_grownO q4 hown hgr⟩
    rcases List.mem_append.1 hi with hi | hi
    · cases d3 <;> cases d6 <;> cases d10 <;> cases d11 <;> simp at hi
      subst hi
      obtain ⟨A, n, c, e25, _, _, _⟩ := (h.r25 rfl).byt.form
      refine h11.wp (fun _ q r => st11 ((v18 _ _ _ _ _ _ _ _).trans (h.e18 rfl)) ((v21 _ _ _ _ _ _ _ _).trans (h.e21 rfl)) ((v25 _ _ _ _ _ _ _ _).trans e25) q r ?_)
      rw [p26]
      refine .inl ⟨d2, true, d5, true, d7, true, true, d12, t5, t17, t18, t20, t21, t22, t25, _, ?_, lst4_11, ⟨hv.1, hv.2.1, hv.2.2.1, fun _ => ⟨rfl, rfl, rfl⟩⟩, rfl, ⟨h.bel, h.boxp, h.rd, h.e17, h.e18, h.e20, h.e21, h.r22, h.r25, fun _ => (by rw [e25]), h.b5⟩⟩
      show _ + 0 + _ + 0 + _ + 0 + 1 + _ = 1 + _ + 0 + _ + 0 + _ + 0 + 0 + _
      omega
    rcases List.mem_append.1 hi with hi | hi
    · cases d12 <;> simp at hi
      subst hi
      refine h12.wp (fun _ q r => st12 q r ?_)
      rw [p5]
      have hb := below_new u (.cells (pageV 0 0 (.slice none 0 0)) 28)
      have h' := h.below hb
      refine .inl ⟨d2, d3, d5, d6, d7, d10, d11, true, _, t17, t18, t20, t21, t22, t25, t26, ?_, lst4_12, hv, rfl, ⟨h'.bel, h'.boxp, h'.rd, h'.e17, h'.e18, h'.e20, h'.e21, h'.r22, h'.r25, h'.e26, fun _ => ⟨u.heap.size, rfl, h.bel.size, Nat.ne_of_gt h.boxp.lt, Box.new u 0 0 _⟩⟩⟩
      show _ + _ + _ + _ + _ + _ + _ + 1 = 1 + _ + _ + _ + _ + _ + _ + _ + 0
      omega
    · cases d11 <;> cases d12 <;> simp at hi
      subst hi
      obtain ⟨rfl, rfl, rfl⟩ := hv.2.2.2 rfl
      obtain ⟨rfl, rfl⟩ := hv.2.2.1 rfl
      obtain rfl := hv.1 rfl
      obtain ⟨q', rfl, q2, q3, q4⟩ := h.b5 rfl
      obtain ⟨A, n, c, rfl, _, _, _⟩ := (h.r25 rfl).byt.form
      refine h13.wp (fun _ q r => st13 q4 (v5 _ _ _ _ _ _ _ _) ((v26 _ _ _ _ _ _ _ _).trans (h.e26 rfl)) q r ?_)
      refine .inr ?_
      rw [lst4_13]
      exact wpAny_done hr13 (hend _ _ _ _ _ _ _ _ _ q' rfl (Own.set3 q4 _ _ _ (h.r25 rfl)) (q4.set x nw _) q2 q3 (by
        unfold Box
        rw [heap_cell_other (Ne.symm q3), heap_cell_other (Ne.symm q3), heap_cell_other (Ne.symm q3)]
        exact h.boxp) (bel_set3 h.bel q2 _ _ _)) _
end Go.Proofs.YtagchbpofoidmaaDoor
