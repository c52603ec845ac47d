/-
  Calls that came in (a slice of Act), opened; an act's bytes; are calls gone through. Conditions: none.
-/
import Derived.Test.YtagchbpofoidmaaDoorSecO
namespace Go.Proofs.YtagchbpofoidmaaDoor
open Go.ChangeShapes Go.WideShapes Go.ChangeAt Go.RowKit Go.Deep Go.Maps
set_option maxRecDepth 100000

structure ActD where
  kind : Int
  pl : Int
  v : UInt8
  b : UInt8
  n : Int
  vk : Value
  keep : List Bool
  torn : Int
  bytes : Int
def actL (a : ActD) : List Value := [.int .i64 a.kind, .int .i64 a.pl, .int .u8 (a.v.toNat : Int), .int .u8 (a.b.toNat : Int), .int .i64 a.n, a.vk, .int .i64 a.torn, .int .i64 a.bytes]
def actV (a : ActD) : Array Value := (actL a).toArray
instance : Inhabited ActD := ⟨⟨0, 0, 0, 0, 0, .slice none 0 0, [], 0, 0⟩⟩
/-- Numbers are ints; Keep lies there. -/
structure OkAct (w : World) (a : ActD) : Prop where
  kind : -9223372036854775808 ≤ a.kind ∧ a.kind ≤ 9223372036854775807
  pl : -9223372036854775808 ≤ a.pl ∧ a.pl ≤ 9223372036854775807
  n : -9223372036854775808 ≤ a.n ∧ a.n ≤ 9223372036854775807
  torn : -9223372036854775808 ≤ a.torn ∧ a.torn ≤ 9223372036854775807
  bytes : -9223372036854775808 ≤ a.bytes ∧ a.bytes ≤ 9223372036854775807
  keep : Rowz w a.vk (a.keep.map Value.bool)
theorem OkAct.below {w w' : World} {a : ActD} (h : OkAct w a) (hb : Below w.heap.size w w') : OkAct w' a := ⟨h.kind, h.pl, h.n, h.torn, h.bytes, h.keep.below hb⟩
theorem OkAct.low {w : World} {a : ActD} (h : OkAct w a) : ∀ k, a.vk.ownBlock = some k → a.keep ≠ [] → k < w.heap.size := by
  intro k hk hne
  obtain ⟨A, c, e, h1, h2, h3⟩ := h.keep
  rcases h3 with h3 | ⟨b, off, rfl, hb, _⟩
  · exact absurd (List.map_eq_nil_iff.1 h3) hne
  · rw [e] at hk
    simp [Value.ownBlock] at hk
    exact hk ▸ hb
/-- The slice value v has n acts. -/
def Acts (w : World) (v : Value) (n : Nat) (f : Nat → ActD) : Prop :=
  ∃ (A : Option Addr) (c : Nat), v = .slice A n c ∧ n ≤ c ∧ c ≤ 9223372036854775807 ∧
    (n = 0 ∨ ∃ b off, A = some ⟨b, off, none⟩ ∧ b < w.heap.size ∧ ∀ j, j < n → (∀ i x, (actL (f j))[i]? = some x → w.cell? ⟨b, off + j * 8 + i, none⟩ = some x) ∧ OkAct w (f j))
theorem Acts.below {w w' : World} {v : Value} {n : Nat} {f : Nat → ActD} (h : Acts w v n f) (hb : Below w.heap.size w w') : Acts w' v n f := by
  obtain ⟨A, c, rfl, h1, h2, h3⟩ := h
  refine ⟨A, c, rfl, h1, h2, ?_⟩
  rcases h3 with h3 | ⟨b, off, rfl, hlt, hc⟩
  · exact .inl h3
  · exact .inr ⟨b, off, rfl, Nat.lt_of_lt_of_le hlt hb.size, fun j hj => ⟨fun i x hx => by rw [← (hc j hj).1 i x hx]; exact hb.cell (p := ⟨b, off + j * 8 + i, none⟩) hlt, (hc j hj).2.below hb⟩⟩
theorem Acts.form {w : World} {v : Value} {n : Nat} {f : Nat → ActD} (h : Acts w v n f) : ∃ A c, v = .slice A n c ∧ n ≤ c ∧ c ≤ 9223372036854775807 := by
  obtain ⟨A, c, rfl, h1, h2, _⟩ := h
  exact ⟨A, c, rfl, h1, h2⟩
theorem Acts.at {w : World} {A : Option Addr} {m c n k : Nat} {f : Nat → ActD} (h : Acts w (.slice A m c) n f) (hk : k < n) :
    ∃ b off, A = some ⟨b, off, none⟩ ∧ b < w.heap.size ∧ (∀ i x, (actL (f k))[i]? = some x → w.cell? ⟨b, off + k * 8 + i, none⟩ = some x) ∧ OkAct w (f k) := by
  obtain ⟨A', c', hv, h1, h2, h3⟩ := h
  injection hv with e1 e2 e3
  subst e1
  rcases h3 with h3 | ⟨b, off, rfl, hb, hc⟩
  · omega
  · exact ⟨b, off, rfl, hb, hc k hk⟩

theorem list8 (cs : List Value) (h : cs.length = 8) : ∃ a b c d e f g i, cs = [a, b, c, d, e, f, g, i] := by
  match cs, h with
  | [a, b, c, d, e, f, g, i], _ => exact ⟨a, b, c, d, e, f, g, i, rfl⟩
section
variable {H : Type} {enc : TypeId × Value → H} {W : World}
theorem trod_struct6 {P : Program} {t : TypeId} {f0 f1 f2 f3 f4 f5 : Field} {fuel : Nat} {cs : List Value} {x : DataW H × List MemPlace} (ht : P.underlying t = some (.struct #[f0, f1, f2, f3, f4, f5])) (h : DataW.trod enc P W 0 (fun _ => true) true fuel t cs = some x) :
    ∃ y0 y1 y2 y3 y4 y5 n, cs.length = P.cellsOf t ∧ DataW.trod enc P W 0 (fun _ => true) true n f0.type ((cs.drop f0.offset).take (P.cellsOf f0.type)) = some y0 ∧ DataW.trod enc P W 0 (fun _ => true) true n f1.type ((cs.drop f1.offset).take (P.cellsOf f1.type)) = some y1 ∧
      DataW.trod enc P W 0 (fun _ => true) true n f2.type ((cs.drop f2.offset).take (P.cellsOf f2.type)) = some y2 ∧ DataW.trod enc P W 0 (fun _ => true) true n f3.type ((cs.drop f3.offset).take (P.cellsOf f3.type)) = some y3 ∧
      DataW.trod enc P W 0 (fun _ => true) true n f4.type ((cs.drop f4.offset).take (P.cellsOf f4.type)) = some y4 ∧ DataW.trod enc P W 0 (fun _ => true) true n f5.type ((cs.drop f5.offset).take (P.cellsOf f5.type)) = some y5 := by
  obtain ⟨xs, n, _, rfl, hl, hlen, hf⟩ := DataW.trod_struct ht h
  match xs, hlen with
  | [y0, y1, y2, y3, y4, y5], _ => exact ⟨y0, y1, y2, y3, y4, y5, n, hl, by simpa using hf 0 f0 rfl, by simpa using hf 1 f1 rfl, by simpa using hf 2 f2 rfl, by simpa using hf 3 f3 rfl, by simpa using hf 4 f4 rfl, by simpa using hf 5 f5 rfl⟩
end
end Go.Proofs.YtagchbpofoidmaaDoor
