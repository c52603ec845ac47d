/-
  Package pool: New by its contract, and the calls of a pool that nobody made. Conditions: none but that the disk lies there.
-/
import Derived.Test.YtknagdbhhfelnaaDoorCPlH
namespace Go.Proofs.YtknagdbhhfelnaaDoor
open Go.RowKit Go.Maps
set_option maxRecDepth 100000

theorem frInfo3 : (Tryd.prog.info? 81).map (fun i => (i.zero, i.size, i.bytes)) = some (some (.agg (frL zeroF (.slice none 0 0)).toArray), 6, 56) := by kernel_rfl
theorem plInfo : (Tryd.prog.info? 76).map (fun i => (i.zero, i.size)) = some (some (.agg #[.pointer none, .slice none 0 0, .int .i64 0]), 3) := by kernel_rfl
theorem plZero : ∀ w, (zeroValue 76).run Tryd.prog w = .ok (.agg #[.pointer none, .slice none 0 0, .int .i64 0]) w := (zero_of_info plInfo).1
/-- What New leaves. -/
def Newed (w : World) (S : Nat → Prop) (d : Nat) (P : PSt) (e : Ending) (w' : World) : Prop := ∃ p fb, e = .returned (.tuple #[.pointer (some ⟨p, 0, none⟩), .int .i64 0]) ∧ PAt w' (more S w w') p d fb P ∧ Below w.heap.size w w'
section
variable {w w' : World} {S T : Nat → Prop} {p d fb hand : Nat} {l : List (Fr × Value)} {s : St}
set_option maxHeartbeats 1000000 in
theorem pnew_is (w : World) (S : Nat → Prop) (d : Nat) (s : St) (n : Nat) (h : Dsk w S d s) (hp : 8 ≤ secs s) (h8 : 8 ≤ n) (h256 : n ≤ 256) :
    Calls Tryd.prog 10 #[.pointer (some ⟨d, 0, none⟩), .int .i64 (n : Int)] w (Newed w S d (newQ s n)) := by
  obtain ⟨i0, hi0, hz0, hz1, hz2⟩ := info_parts frInfo3
  have HS := Lib.hid (sectors_any w S d s h)
  have HP := Lib.hid (pages_is w S d s h)
  have hz := plZero
  have H := Lib.hid h
  have hk : 0 < secs s := by omega
  have hk8 : 0 < secs s / 8 := by omega
  have hne1 : (((secs s : Nat) : Int) == 0) = false := by rw [beq_eq_false_iff_ne]; omega
  have hne2 : (((secs s / 8 : Nat) : Int) == 0) = false := by rw [beq_eq_false_iff_ne]; omega
  clear h hp hk hk8
  generalize secs s / 8 = k8 at *
  generalize secs s = k at *
  have h8i : ¬ (n : Int) < 8 := by omega
  have h256i : ¬ (256 : Int) < (n : Int) := by omega
  go_enter Tryd.func10, Tryd.ntmps10
  go_wp2_with fail
  refine HS.out.mono ?_
  rintro e w1 ⟨rfl, rfl⟩
  go_wp2_with fail
  refine HP.out.mono ?_
  rintro e w1 ⟨rfl, rfl⟩
  go_wp2_with (at_make; refine wpList_make_full _ rfl _ _ 74 rfl w.heap.size 81 i0 _ 6 Tryd.underlying74 hi0 hz0 hz1 _ _ _ _ n rfl rfl rfl rfl (by rw [hz2]; omega) (by simp only [maxLen]; omega) (Nat.le_refl _) ?_; intro w3 hown3 hg3)
  go_ret2
  have hr := own_row hown3
  rw [made_frames] at hr
  have hlt : w.heap.size < w3.heap.size := (Array.getElem?_eq_some_iff.1 hr).1
  have hb3 : Below w.heap.size w w3 := below_none hg3
  have hb4 := below_new w3 (.cells #[.pointer (some ⟨d, 0, none⟩), .slice (some ⟨w.heap.size, 0, none⟩) n n, .int .i64 0] 76 (0, 0))
  have hb : Below w.heap.size w (w3.alloc (.cells #[.pointer (some ⟨d, 0, none⟩), .slice (some ⟨w.heap.size, 0, none⟩) n n, .int .i64 0] 76 (0, 0))) := hb3.trans (hb4.mono hb3.size)
  have hln : (List.replicate n ((zeroF, .slice none 0 0) : Fr × Value)).length = n := List.length_replicate
  have hSl := H.out.lt
  refine ⟨w3.heap.size, w.heap.size, rfl, ⟨S, List.replicate n (zeroF, .slice none 0 0), ⟨?_, ?_, H.out.below hb, fun x hx => ?_, fun x hx k hk => ?_, fun k hk => .inl hk, .inr ⟨by omega, by simp⟩, .inr ⟨Nat.le_refl _, by simp; omega⟩, fun h => by have := hSl _ h; omega, fun h => by have := hSl _ h; omega, by omega, fun k hk => hk.elim (fun e => by have := hSl _ e; simp; omega) (fun e => e.2), by rw [hln]; exact h8, by rw [hln]; exact h256, by rw [hln]; show 0 < n; omega⟩, by rw [List.map_replicate]; rfl⟩, hb⟩
  · rw [hln]
    exact heap_alloc_new w3 _
  · exact (heap_alloc_old w3 _ hlt).trans hr
  · obtain ⟨_, rfl⟩ := List.mem_replicate.1 hx
    exact Byt.nil _
  · obtain ⟨_, rfl⟩ := List.mem_replicate.1 hx
    cases hk
theorem pnew_nil (w : World) (n : Int) : Calls Tryd.prog 10 #[.pointer none, .int .i64 n] w fun e w' => e = .returned (.tuple #[.pointer none, .int .i64 1]) ∧ w = w' := by
  go_enter Tryd.func10, Tryd.ntmps10
  go_wp2_with fail
  refine (sectors_nil w).mono ?_
  rintro e w1 ⟨rfl, rfl⟩
  go_wp2_with fail
  go_ret2
  exact ⟨rfl, rfl⟩
theorem pnew_bad (w : World) (S : Nat → Prop) (d : Nat) (s : St) (n : Int) (h : Dsk w S d s) (hn : secs s < 8 ∨ n < 8 ∨ 256 < n) : Calls Tryd.prog 10 #[.pointer (some ⟨d, 0, none⟩), .int .i64 n] w fun e w' => e = .returned (.tuple #[.pointer none, .int .i64 2]) ∧ w = w' := by
  have HS := Lib.hid (sectors_any w S d s h)
  have HP := Lib.hid (pages_is w S d s h)
  have hk : 0 < secs s := by have := h.ok.whole; have := h.ok.some_; omega
  have hne1 : (((secs s : Nat) : Int) == 0) = false := by rw [beq_eq_false_iff_ne]; omega
  have h8 : secs s < 8 → secs s / 8 = 0 := fun h => by omega
  clear h hk
  by_cases hs : secs s < 8
  · rw [h8 hs] at HP
    clear hn h8 hs
    generalize secs s = k at *
    go_enter Tryd.func10, Tryd.ntmps10
    go_wp2_with fail
    refine HS.out.mono ?_
    rintro e w1 ⟨rfl, rfl⟩
    go_wp2_with fail
    refine HP.out.mono ?_
    rintro e w1 ⟨rfl, rfl⟩
    go_wp2_with fail
    go_ret2
    exact ⟨rfl, rfl⟩
  · have hne2 : (((secs s / 8 : Nat) : Int) == 0) = false := by rw [beq_eq_false_iff_ne]; omega
    have hn' : n < 8 ∨ 256 < n := hn.elim (fun h => absurd h hs) id
    clear hn h8 hs
    generalize secs s / 8 = k8 at *
    generalize secs s = k at *
    by_cases h8 : n < 8
    · clear hn'
      go_enter Tryd.func10, Tryd.ntmps10
      go_wp2_with fail
      refine HS.out.mono ?_
      rintro e w1 ⟨rfl, rfl⟩
      go_wp2_with fail
      refine HP.out.mono ?_
      rintro e w1 ⟨rfl, rfl⟩
      go_wp2_with fail
      go_ret2
      exact ⟨rfl, rfl⟩
    · have h9 : 256 < n := hn'.elim (fun h => absurd h h8) id
      clear hn'
      go_enter Tryd.func10, Tryd.ntmps10
      go_wp2_with fail
      refine HS.out.mono ?_
      rintro e w1 ⟨rfl, rfl⟩
      go_wp2_with fail
      refine HP.out.mono ?_
      rintro e w1 ⟨rfl, rfl⟩
      go_wp2_with fail
      go_ret2
      exact ⟨rfl, rfl⟩
/-! A pool that nobody made. -/
theorem pfetch_nil (w : World) (x : Int) : Calls Tryd.prog 63 #[.pointer none, .int .i64 x] w fun e w' => e = .returned (.tuple #[.pointer none, .int .i64 1]) ∧ w = w' := by
  go_enter Tryd.func63, Tryd.ntmps63
  go_wp2_with fail
  refine (pmissing_nil w x).mono ?_
  rintro e w1 ⟨rfl, rfl⟩
  go_wp2_with fail
  go_ret2
  exact ⟨rfl, rfl⟩
theorem pget_nil (w : World) (x : Int) : Calls Tryd.prog 50 #[.pointer none, .int .i64 x] w fun e w' => e = .returned (.tuple #[.slice none 0 0, .int .i64 1]) ∧ w = w' := by
  go_enter Tryd.func50, Tryd.ntmps50
  go_wp2_with fail
  refine (pfetch_nil w x).mono ?_
  rintro e w1 ⟨rfl, rfl⟩
  go_wp2_with fail
  go_ret2
  exact ⟨rfl, rfl⟩
theorem pput_nil (w : World) (x : Int) (v : Value) : Calls Tryd.prog 18 #[.pointer none, .int .i64 x, v] w fun e w' => e = .returned (.int .i64 1) ∧ w = w' := by
  go_enter Tryd.func18, Tryd.ntmps18
  go_wp2_with fail
  refine (pmissing_nil w x).mono ?_
  rintro e w1 ⟨rfl, rfl⟩
  go_wp2_with fail
  go_ret
  exact ⟨rfl, rfl⟩
theorem pevict_nil (w : World) (x : Int) : Calls Tryd.prog 15 #[.pointer none, .int .i64 x] w fun e w' => e = .returned (.int .i64 1) ∧ w = w' := by
  go_enter Tryd.func15, Tryd.ntmps15
  go_wp2_with fail
  refine (pmade_nil w).mono ?_
  rintro e w1 ⟨rfl, rfl⟩
  go_wp2_with fail
  go_ret
  exact ⟨rfl, rfl⟩
theorem pframes_nil (w : World) : Calls Tryd.prog 48 #[.pointer none] w fun e w' => e = .returned (.slice none 0 0) ∧ w = w' := by
  go_enter Tryd.func48, Tryd.ntmps48
  go_wp2_with fail
  refine (pmade_nil w).mono ?_
  rintro e w1 ⟨rfl, rfl⟩
  go_wp2_with fail
  go_ret
  exact ⟨rfl, rfl⟩

end
end Go.Proofs.YtknagdbhhfelnaaDoor
