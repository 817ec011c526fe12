/-
  How the steps of TagsetSteps come in as arguments.
-/
import Derived.Test.YtkkpdgfllnbigaaGreatMg26
import Derived.Test.YtkkpdgfllnbigaaGreatTgStW
namespace Go.Proofs.YtkkpdgfllnbigaaGreat.Tg
open Go.ChangeShapes Go.WideShapes Go.ChangeAt Go.RowKit Go.Shelf
set_option linter.unusedSimpArgs false
theorem c45t : Tryz.prog.cellsOf 45 = 7 := by kernel_rfl
theorem l3t {α : Type} {l : List α} (h : l.length = 3) : ∃ a b c, l = [a, b, c] := by
  match l, h with
  | [a, b, c], _ => exact ⟨a, b, c, rfl⟩
theorem l7t {α : Type} {l : List α} (h : l.length = 7) : ∃ a b c d e f g, l = [a, b, c, d, e, f, g] := by
  match l, h with
  | [a, b, c, d, e, f, g], _ => exact ⟨a, b, c, d, e, f, g, rfl⟩
theorem open_stepT {H : Type} {enc : TypeId × Value → H} {W : World} {fuel : Nat} {u0 u1 u2 u3 u4 u5 u6 : Value} {x : DataW H × List MemPlace} (h : DataW.trod enc Tryz.prog W 0 (fun _ => true) true fuel 45 [u0, u1, u2, u3, u4, u5, u6] = some x) :
    ∃ y : Sq, [u0, u1, u2, u3, u4, u5, u6] = encQ y ∧ y.2.2.2.2.1.size ≤ maxLen := by
  obtain ⟨xs, n, _, hx, hl, hlen, hf⟩ := DataW.trod_struct Tryz.underlying45 h
  obtain ⟨y0, y1, y2, rfl⟩ := l3t (show xs.length = 3 from hlen)
  have e0 : DataW.trod enc Tryz.prog W 0 (fun _ => true) true n 3 (([u0, u1, u2, u3, u4, u5, u6].drop 0).take (Tryz.prog.cellsOf 3)) = some y0 := hf 0 _ rfl
  have e1 : DataW.trod enc Tryz.prog W 0 (fun _ => true) true n 9 (([u0, u1, u2, u3, u4, u5, u6].drop 1).take (Tryz.prog.cellsOf 9)) = some y1 := hf 1 _ rfl
  have e2 : DataW.trod enc Tryz.prog W 0 (fun _ => true) true n 43 (([u0, u1, u2, u3, u4, u5, u6].drop 2).take (Tryz.prog.cellsOf 43)) = some y2 := hf 2 _ rfl
  rw [c3o] at e0
  rw [c9o] at e1
  rw [c43o] at e2
  simp only [List.drop_zero, List.take_succ_cons, List.take_zero, List.drop_succ_cons] at e0 e1 e2
  obtain ⟨kk, r1, _, _⟩ := DataW.trod_int Tryz.underlying3 e0
  obtain ⟨t, r2, _, _⟩ := DataW.trod_string Tryz.underlying9 e1
  obtain ⟨g, r, s, m, i, rfl, rfl, rfl, rfl, rfl, hs⟩ := open_stampO e2
  simp only [List.cons.injEq, and_true] at r1 r2
  subst r1 r2
  exact ⟨(kk, t, (g, r, s, m, i)), rfl, hs⟩
/-- Such a row that came in. -/
theorem open_rowT {H : Type} {enc : TypeId × Value → H} {W : World} {fuel : Nat} {v : Value} {x : DataW H × List MemPlace} (h : DataW.trod enc Tryz.prog W 0 (fun _ => true) true fuel 23 [v] = some x) :
    ∃ ao c l, v = .slice ao (List.length l) c ∧ Rq W ao l ∧ ∀ y ∈ l, y.2.2.2.2.1.size ≤ 9223372036854775807 := by
  rcases Deep.open_slice Tryz.underlying23 h with ⟨hcs, _⟩ | ⟨a, len, cap, m, n, D, Pl, hcs, _, hl, hm, hmm, hx, hel⟩
  · simp only [List.cons.injEq, and_true] at hcs
    subst hcs
    exact ⟨none, 0, [], rfl, fun k x hx => by simp at hx, by simp⟩
  · simp only [List.cons.injEq, and_true] at hcs
    subst hcs
    simp only [if_true] at hmm
    rw [c45t] at hel
    obtain ⟨f, hf⟩ := Deep.choose_lt (n := len) (p := fun i (y : Sq) => (∀ j u, (encQ y)[j]? = some u → W.cell? (a.add (i * 7 + j)) = some u) ∧ y.2.2.2.2.1.size ≤ maxLen) (fun i hi => by
      obtain ⟨cs, h1, h2⟩ := hel i (by omega)
      obtain ⟨xs, n', _, _, hl', _, _⟩ := DataW.trod_struct Tryz.underlying45 h2
      rw [c45t] at hl'
      obtain ⟨c0, c1, c2, c3, c4, c5, c6, rfl⟩ := l7t hl'
      obtain ⟨y, hy, hs⟩ := open_stepT h2
      obtain ⟨_, _, hc⟩ := World.cells?_some h1
      refine ⟨y, fun j u hj => ?_, hs⟩
      rw [← hy] at hj
      have hj6 : j < 7 := by have := (List.getElem?_eq_some_iff.1 hj).1; simpa using this
      have := hc j (by simpa using hj6)
      rw [add_addO, hj] at this
      exact this)
    refine ⟨some a, cap, (List.range len).map f, by simp, ?_, ?_⟩
    · intro k x hx
      have hk : k < len := by have := (List.getElem?_eq_some_iff.1 hx).1; simpa using this
      rw [List.getElem?_map, List.getElem?_range hk] at hx
      simp only [Option.map_some, Option.some.injEq] at hx
      subst hx
      have h0 := (hf 0 (by omega)).1 0 _ rfl
      obtain ⟨b, off, sp⟩ := a
      simp only [Nat.zero_mul, Nat.add_zero, Addr.add, if_true] at h0
      have hsp : sp = none := World.cell?_spot h0
      subst hsp
      refine ⟨b, off, rfl, fun j u hj => ?_⟩
      have := (hf k hk).1 j u hj
      rw [add_lit, ← Nat.add_assoc] at this
      exact this
    · intro y hy
      simp only [List.mem_map, List.mem_range] at hy
      obtain ⟨i, hi, rfl⟩ := hy
      have := (hf i hi).2
      unfold maxLen at this
      omega
end Go.Proofs.YtkkpdgfllnbigaaGreat.Tg
