/-
  Calls that came in (a slice of Act), opened; an act's bytes; are calls gone through. Conditions: none.
-/
import Derived.Test.YtmdppdpoogbeaaaSecO
namespace Go.Proofs.Ytmdppdpoogbeaaa
open Go.ChangeShapes Go.WideShapes Go.ChangeAt Go.RowKit Go.Deep Go.Maps

structure ActD where
  kind : Int
  pl : Int
  v : UInt8
  b : UInt8
  n : Int
  vk : Value
  keep : List Bool
  torn : Int
  bytes : Int
def actL (a : ActD) : List Value := [.int .i64 a.kind, .int .i64 a.pl, .int .u8 (a.v.toNat : Int), .int .u8 (a.b.toNat : Int), .int .i64 a.n, a.vk, .int .i64 a.torn, .int .i64 a.bytes]
def actV (a : ActD) : Array Value := (actL a).toArray
instance : Inhabited ActD := ⟨⟨0, 0, 0, 0, 0, .slice none 0 0, [], 0, 0⟩⟩
/-- Numbers are ints; Keep lies there. -/
structure OkAct (w : World) (a : ActD) : Prop where
  kind : -9223372036854775808 ≤ a.kind ∧ a.kind ≤ 9223372036854775807
  pl : -9223372036854775808 ≤ a.pl ∧ a.pl ≤ 9223372036854775807
  n : -9223372036854775808 ≤ a.n ∧ a.n ≤ 9223372036854775807
  torn : -9223372036854775808 ≤ a.torn ∧ a.torn ≤ 9223372036854775807
  bytes : -9223372036854775808 ≤ a.bytes ∧ a.bytes ≤ 9223372036854775807
  keep : Rowz w a.vk (a.keep.map Value.bool)
theorem OkAct.below {w w' : World} {a : ActD} (h : OkAct w a) (hb : Below w.heap.size w w') : OkAct w' a := ⟨h.kind, h.pl, h.n, h.torn, h.bytes, h.keep.below hb⟩
theorem OkAct.low {w : World} {a : ActD} (h : OkAct w a) : ∀ k, a.vk.ownBlock = some k → a.keep ≠ [] → k < w.heap.size := by
  intro k hk hne
  obtain ⟨A, c, e, h1, h2, h3⟩ := h.keep
  rcases h3 with h3 | ⟨b, off, rfl, hb, _⟩
  · exact absurd (List.map_eq_nil_iff.1 h3) hne
  · rw [e] at hk
    simp [Value.ownBlock] at hk
    exact hk ▸ hb
/-- The slice value v has n acts. -/
def Acts (w : World) (v : Value) (n : Nat) (f : Nat → ActD) : Prop :=
  ∃ (A : Option Addr) (c : Nat), v = .slice A n c ∧ n ≤ c ∧ c ≤ 9223372036854775807 ∧
    (n = 0 ∨ ∃ b off, A = some ⟨b, off, none⟩ ∧ b < w.heap.size ∧ ∀ j, j < n → (∀ i x, (actL (f j))[i]? = some x → w.cell? ⟨b, off + j * 8 + i, none⟩ = some x) ∧ OkAct w (f j))
theorem Acts.below {w w' : World} {v : Value} {n : Nat} {f : Nat → ActD} (h : Acts w v n f) (hb : Below w.heap.size w w') : Acts w' v n f := by
  obtain ⟨A, c, rfl, h1, h2, h3⟩ := h
  refine ⟨A, c, rfl, h1, h2, ?_⟩
  rcases h3 with h3 | ⟨b, off, rfl, hlt, hc⟩
  · exact .inl h3
  · exact .inr ⟨b, off, rfl, Nat.lt_of_lt_of_le hlt hb.size, fun j hj => ⟨fun i x hx => by rw [← (hc j hj).1 i x hx]; exact hb.cell (p := ⟨b, off + j * 8 + i, none⟩) hlt, (hc j hj).2.below hb⟩⟩
theorem Acts.form {w : World} {v : Value} {n : Nat} {f : Nat → ActD} (h : Acts w v n f) : ∃ A c, v = .slice A n c ∧ n ≤ c ∧ c ≤ 9223372036854775807 := by
  obtain ⟨A, c, rfl, h1, h2, _⟩ := h
  exact ⟨A, c, rfl, h1, h2⟩
theorem Acts.at {w : World} {A : Option Addr} {m c n k : Nat} {f : Nat → ActD} (h : Acts w (.slice A m c) n f) (hk : k < n) :
    ∃ b off, A = some ⟨b, off, none⟩ ∧ b < w.heap.size ∧ (∀ i x, (actL (f k))[i]? = some x → w.cell? ⟨b, off + k * 8 + i, none⟩ = some x) ∧ OkAct w (f k) := by
  obtain ⟨A', c', hv, h1, h2, h3⟩ := h
  injection hv with e1 e2 e3
  subst e1
  rcases h3 with h3 | ⟨b, off, rfl, hb, hc⟩
  · omega
  · exact ⟨b, off, rfl, hb, hc k hk⟩

theorem cellAct : Try.prog.cellsOf 36 = 8 := by kernel_rfl
theorem list8 (cs : List Value) (h : cs.length = 8) : ∃ a b c d e f g i, cs = [a, b, c, d, e, f, g, i] := by
  match cs, h with
  | [a, b, c, d, e, f, g, i], _ => exact ⟨a, b, c, d, e, f, g, i, rfl⟩
section
variable {H : Type} {enc : TypeId × Value → H} {W : World}
theorem trod_struct6 {P : Program} {t : TypeId} {f0 f1 f2 f3 f4 f5 : Field} {fuel : Nat} {cs : List Value} {x : DataW H × List MemPlace} (ht : P.underlying t = some (.struct #[f0, f1, f2, f3, f4, f5])) (h : DataW.trod enc P W 0 (fun _ => true) true fuel t cs = some x) :
    ∃ y0 y1 y2 y3 y4 y5 n, cs.length = P.cellsOf t ∧ DataW.trod enc P W 0 (fun _ => true) true n f0.type ((cs.drop f0.offset).take (P.cellsOf f0.type)) = some y0 ∧ DataW.trod enc P W 0 (fun _ => true) true n f1.type ((cs.drop f1.offset).take (P.cellsOf f1.type)) = some y1 ∧
      DataW.trod enc P W 0 (fun _ => true) true n f2.type ((cs.drop f2.offset).take (P.cellsOf f2.type)) = some y2 ∧ DataW.trod enc P W 0 (fun _ => true) true n f3.type ((cs.drop f3.offset).take (P.cellsOf f3.type)) = some y3 ∧
      DataW.trod enc P W 0 (fun _ => true) true n f4.type ((cs.drop f4.offset).take (P.cellsOf f4.type)) = some y4 ∧ DataW.trod enc P W 0 (fun _ => true) true n f5.type ((cs.drop f5.offset).take (P.cellsOf f5.type)) = some y5 := by
  obtain ⟨xs, n, _, rfl, hl, hlen, hf⟩ := DataW.trod_struct ht h
  match xs, hlen with
  | [y0, y1, y2, y3, y4, y5], _ => exact ⟨y0, y1, y2, y3, y4, y5, n, hl, by simpa using hf 0 f0 rfl, by simpa using hf 1 f1 rfl, by simpa using hf 2 f2 rfl, by simpa using hf 3 f3 rfl, by simpa using hf 4 f4 rfl, by simpa using hf 5 f5 rfl⟩
theorem open_actF {fuel : Nat} {cs : List Value} {x : DataW H × List MemPlace} (h : DataW.trod enc Try.prog W 0 (fun _ => true) true fuel 36 cs = some x) : ∃ a, cs = actL a ∧ OkAct W a := by
  obtain ⟨y0, y1, y2, y3, y4, y5, n, hl, g0, g1, g2, g3, g4, g5⟩ := trod_struct6 Try.underlying36 h
  rw [cellAct] at hl
  obtain ⟨c0, c1, c2, c3, c4, c5, c6, c7, rfl⟩ := list8 cs hl
  simp only [cellInt, cellByte, cellCrash] at g0 g1 g2 g3 g4 g5
  obtain ⟨kind, q0, _, w0⟩ := DataW.trod_int Try.underlying3 g0
  obtain ⟨pl, q1, _, w1⟩ := DataW.trod_int Try.underlying3 g1
  obtain ⟨v, q2, _, w2⟩ := DataW.trod_int Try.underlying5 g2
  obtain ⟨b, q3, _, w3⟩ := DataW.trod_int Try.underlying5 g3
  obtain ⟨m, q4, _, w4⟩ := DataW.trod_int Try.underlying3 g4
  obtain ⟨vk, keep, torn, bytes, q5, hk, b5, b6⟩ := open_crashF g5
  obtain ⟨v', rfl⟩ := open_u8 w2
  obtain ⟨b', rfl⟩ := open_u8 w3
  simp at q0 q1 q2 q3 q4 q5
  obtain ⟨rfl, rfl, rfl⟩ := q5
  subst q0 q1 q2 q3 q4
  exact ⟨⟨kind, pl, v', b', m, c5, keep, torn, bytes⟩, rfl, open_i64 w0, open_i64 w1, open_i64 w4, b5, b6, hk⟩
theorem open_acts {base : Nat} {v : Value} {d : DataW H} {p : List MemPlace}
    (hv : Value.okWide Try.prog W .any base 22 v) (h : DataW.Trod enc Try.prog W 0 (fun _ => true) true 22 v d p) : ∃ n f, Acts W v n f := by
  obtain ⟨a, len, cap, rfl⟩ := okWide_slice Try.underlying22 hv
  obtain ⟨fuel, hf⟩ := h
  rcases open_slice Try.underlying22 hf with ⟨hcs, _⟩ | ⟨ad, l, c, m, k, D, Pl, hcs, _, hl, hm, hmm, _, hat⟩
  · simp [Value.cells] at hcs
    obtain ⟨rfl, rfl, rfl⟩ := hcs
    exact ⟨0, fun _ => default, none, 0, rfl, by omega, by omega, .inl rfl⟩
  · simp [Value.cells] at hcs
    obtain ⟨rfl, rfl, rfl⟩ := hcs
    have hmc : m = cap := by simpa using hmm
    subst hmc
    rw [cellAct] at hat
    obtain ⟨f, hf⟩ := choose_lt (α := ActD) (n := len) (p := fun j a => (∀ i x, (actL a)[i]? = some x → W.cell? ((ad.add (j * 8)).add i) = some x) ∧ OkAct W a) (fun j hj => by
      obtain ⟨cs', hc, htr⟩ := hat j (by omega)
      obtain ⟨_, hcl, hcell⟩ := World.cells?_some hc
      obtain ⟨a, rfl, ha⟩ := open_actF htr
      refine ⟨a, fun i x hx => ?_, ha⟩
      have hi : i < 8 := by
        have := (List.getElem?_eq_some_iff.1 hx).1
        rw [hcl] at this
        exact this
      rw [hcell i hi, hx])
    unfold maxLen at hm
    refine ⟨len, f, some ad, m, rfl, hl, by omega, ?_⟩
    by_cases hz : len = 0
    · exact .inl hz
    · have hsp : ad.spot = none := by
        have := World.cell?_spot ((hf 0 (by omega)).1 0 _ rfl)
        simpa [Addr.add] using this
      obtain ⟨b, off, spot⟩ := ad
      simp only at hsp
      subst hsp
      refine .inr ⟨b, off, rfl, ?_, fun j hj => ⟨fun i x hx => ?_, (hf j hj).2⟩⟩
      · have hx := (hf 0 (by omega)).1 0 _ rfl
        rcases Nat.lt_or_ge b W.heap.size with h' | h'
        · exact h'
        · rw [plainAdd, plainAdd] at hx
          simp [World.cell?, Array.getElem?_eq_none h'] at hx
      · have := (hf j hj).1 i x hx
        rw [plainAdd, plainAdd] at this
        exact this
end
end Go.Proofs.Ytmdppdpoogbeaaa
