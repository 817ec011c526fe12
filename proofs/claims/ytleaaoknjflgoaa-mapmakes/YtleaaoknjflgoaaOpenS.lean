/-
  HOW THE ARGUMENTS OF MapPlays AND MapMakes COME IN: strings, numbers, steps in slices.
-/
import Derived.Test.YtleaaoknjflgoaaOpens
import Derived.Test.YtleaaoknjflgoaaRising
import Derived.SliceStrings
import Derived.Deep.Grids
namespace Go.Proofs.Ytleaaoknjflgoaa
open Go.ChangeShapes Go.WideShapes Go.ChangeAt Go.RowKit Go.Shelf

theorem Try.cells9 : Try.prog.cellsOf 9 = 1 := by kernel_rfl
theorem Try.cells31 : Try.prog.cellsOf 31 = 3 := by kernel_rfl
/-- Cells at an address that is plain where there is one. -/
theorem cs_at {W : World} {a : Addr} {l : List Value} {cap : Nat} (hc : l.length ≤ cap) (h : ∀ j u, l[j]? = some u → W.cell? (a.add j) = some u) : Cs W (.slice (some a) l.length cap) l := ⟨_, _, rfl, hc, fun j u hj => by
  have h1 := h j u hj
  obtain ⟨b, off, spot⟩ := a
  have hl := (List.getElem?_eq_some_iff.1 hj).1
  obtain ⟨u0, h0⟩ : ∃ u0, l[0]? = some u0 := ⟨l[0]'(by omega), List.getElem?_eq_getElem _⟩
  have hspot : spot = none := by simpa [Addr.add] using World.cell?_spot (h 0 u0 h0)
  subst hspot
  exact ⟨b, off, rfl, by rw [← Go.WideShapes.add_plain]; exact h1⟩⟩
/-- A slice of strings. -/
theorem open_strs {H : Type} {enc : TypeId × Value → H} {W : World} {fuel : Nat} {v : Value} {x : DataW H × List MemPlace} (h : DataW.trod enc Try.prog W 0 (fun _ => true) true fuel 50 [v] = some x) : ∃ ss : List ByteArray, Cs W v (ss.map .string) := by
  rcases open_strings Try.underlying50 Try.underlying9 Try.cells9 h with ⟨hcs, _⟩ | ⟨a, len, cap, ss, hcs, _, hl, hm, hz, hx, hcell, hwz⟩
  · simp only [List.cons.injEq, and_true] at hcs
    subst hcs
    exact ⟨[], none, 0, rfl, by simp, by simp⟩
  · simp only [List.cons.injEq, and_true] at hcs
    subst hcs
    simp only [if_true] at hz
    have hlen : ((ss.take len).map Value.string).length = len := by simp; omega
    refine ⟨ss.take len, ?_⟩
    have := cs_at (W := W) (a := a) (l := (ss.take len).map .string) (cap := cap) (by omega) (fun j u hj => by
      rw [List.getElem?_map, List.getElem?_take] at hj
      split at hj
      · obtain ⟨z, hz1, rfl⟩ := Option.map_eq_some_iff.1 hj
        have hjl : j < ss.length := (List.getElem?_eq_some_iff.1 hz1).1
        rw [hcell j hjl, List.getD, hz1]; rfl
      · cases hj)
    rw [hlen] at this
    exact this
/-- A slice of numbers. -/
theorem open_nums {H : Type} {enc : TypeId × Value → H} {W : World} {fuel : Nat} {v : Value} {x : DataW H × List MemPlace} (h : DataW.trod enc Try.prog W 0 (fun _ => true) true fuel 51 [v] = some x) : ∃ zs : List Int, Cs W v (zs.map (.int .i64)) := by
  rcases open_ints Try.underlying51 Try.underlying3 Try.cells3 h with ⟨hcs, _⟩ | ⟨a, len, cap, zs, hcs, _, hl, hm, hz, hx, hcell, hwz⟩
  · simp only [List.cons.injEq, and_true] at hcs
    subst hcs
    exact ⟨[], none, 0, rfl, by simp, by simp⟩
  · simp only [List.cons.injEq, and_true] at hcs
    subst hcs
    simp only [if_true] at hz
    have hlen : ((zs.take len).map (Value.int .i64)).length = len := by simp; omega
    refine ⟨zs.take len, ?_⟩
    have := cs_at (W := W) (a := a) (l := (zs.take len).map (.int .i64)) (cap := cap) (by omega) (fun j u hj => by
      rw [List.getElem?_map, List.getElem?_take] at hj
      split at hj
      · obtain ⟨z, hz1, rfl⟩ := Option.map_eq_some_iff.1 hj
        have hjl : j < zs.length := (List.getElem?_eq_some_iff.1 hz1).1
        rw [hcell j hjl, List.getD, hz1]; rfl
      · cases hj)
    rw [hlen] at this
    exact this
theorem list3s {α : Type} {l : List α} (h : l.length = 3) : ∃ a b c, l = [a, b, c] := by
  match l, h with
  | [a, b, c], _ => exact ⟨a, b, c, rfl⟩
/-- A step's three cells. -/
theorem open_step {H : Type} {enc : TypeId × Value → H} {W : World} {fuel : Nat} {u0 u1 u2 : Value} {x : DataW H × List MemPlace} (h : DataW.trod enc Try.prog W 0 (fun _ => true) true fuel 31 [u0, u1, u2] = some x) :
    ∃ k s n, u0 = .int .i64 k ∧ u1 = .string s ∧ u2 = .int .i64 n := by
  obtain ⟨xs, n, _, hx, hl, hlen, hf⟩ := DataW.trod_struct Try.underlying31 h
  obtain ⟨y0, y1, y2, rfl⟩ := list3s (show xs.length = 3 from hlen)
  have e0 : DataW.trod enc Try.prog W 0 (fun _ => true) true n 3 (([u0, u1, u2].drop 0).take (Try.prog.cellsOf 3)) = some y0 := hf 0 _ rfl
  have e1 : DataW.trod enc Try.prog W 0 (fun _ => true) true n 9 (([u0, u1, u2].drop 1).take (Try.prog.cellsOf 9)) = some y1 := hf 1 _ rfl
  have e2 : DataW.trod enc Try.prog W 0 (fun _ => true) true n 3 (([u0, u1, u2].drop 2).take (Try.prog.cellsOf 3)) = some y2 := hf 2 _ rfl
  rw [Try.cells3] at e0 e2
  rw [Try.cells9] at e1
  simp only [List.drop_zero, List.take_succ_cons, List.take_zero, List.drop_succ_cons] at e0 e1 e2
  obtain ⟨k, r1, _, _⟩ := DataW.trod_int Try.underlying3 e0
  obtain ⟨s, r2, _, _⟩ := DataW.trod_string Try.underlying9 e1
  obtain ⟨m, r3, _, _⟩ := DataW.trod_int Try.underlying3 e2
  simp only [List.cons.injEq, and_true] at r1 r2 r3
  exact ⟨k, s, m, r1, r2, r3⟩
/-- A slice that tells steps. -/
structure Ss (w : World) (v : Value) (l : List (Int × ByteArray × Int)) : Prop where
  ex : ∃ ao cap, v = .slice ao l.length cap ∧ ∀ j x, l[j]? = some x → ∃ b off, ao = some ⟨b, off, none⟩ ∧ w.cell? ⟨b, off + j * 3, none⟩ = some (.int .i64 x.1) ∧ w.cell? ⟨b, off + j * 3 + 1, none⟩ = some (.string x.2.1) ∧ w.cell? ⟨b, off + j * 3 + 2, none⟩ = some (.int .i64 x.2.2)
/-- Steps in a slice. -/
theorem open_steps {H : Type} {enc : TypeId × Value → H} {W : World} {fuel : Nat} {v : Value} {x : DataW H × List MemPlace} (h : DataW.trod enc Try.prog W 0 (fun _ => true) true fuel 22 [v] = some x) : ∃ l, Ss W v l := by
  rcases Deep.open_slice Try.underlying22 h with ⟨hcs, _⟩ | ⟨a, len, cap, m, n, D, Pl, hcs, _, hl, hm, hmm, hx, hel⟩
  · simp only [List.cons.injEq, and_true] at hcs
    subst hcs
    exact ⟨[], none, 0, rfl, by simp⟩
  · simp only [List.cons.injEq, and_true] at hcs
    subst hcs
    simp only [if_true] at hmm
    rw [Try.cells31] at hel
    have hsp : 0 < len → a.spot = none := fun h0 => by
      obtain ⟨cs, h1, h2⟩ := hel 0 (by omega)
      obtain ⟨xs, n', _, _, hl', _, _⟩ := DataW.trod_struct Try.underlying31 h2
      rw [Try.cells31] at hl'
      obtain ⟨c0, c1, c2, rfl⟩ := list3s hl'
      obtain ⟨_, _, hc⟩ := World.cells?_some h1
      have q0 := hc 0 (by omega)
      simpa [Addr.add] using World.cell?_spot q0
    obtain ⟨f, hf⟩ := Deep.choose_lt (n := len) (p := fun i (y : Int × ByteArray × Int) => ∃ b off, a = ⟨b, off, none⟩ ∧ W.cell? ⟨b, off + i * 3, none⟩ = some (.int .i64 y.1) ∧ W.cell? ⟨b, off + i * 3 + 1, none⟩ = some (.string y.2.1) ∧ W.cell? ⟨b, off + i * 3 + 2, none⟩ = some (.int .i64 y.2.2)) (fun i hi => by
      obtain ⟨cs, h1, h2⟩ := hel i (by omega)
      obtain ⟨xs, n', _, _, hl', _, _⟩ := DataW.trod_struct Try.underlying31 h2
      rw [Try.cells31] at hl'
      obtain ⟨c0, c1, c2, rfl⟩ := list3s hl'
      obtain ⟨r, s, k, rfl, rfl, rfl⟩ := open_step h2
      obtain ⟨_, _, hc⟩ := World.cells?_some h1
      have q0 := hc 0 (by omega)
      have q1 := hc 1 (by omega)
      have q2 := hc 2 (by omega)
      obtain ⟨b, off, spot⟩ := a
      have hspot : spot = none := hsp (by omega)
      subst hspot
      simp only [add_lit] at q0 q1 q2
      exact ⟨(r, s, k), b, off, rfl, by simpa using q0, by simpa using q1, by simpa using q2⟩)
    refine ⟨(List.range len).map f, some a, cap, by simp, fun j x hj => ?_⟩
    rw [List.getElem?_map] at hj
    obtain ⟨i, hi, rfl⟩ := Option.map_eq_some_iff.1 hj
    have hjl := (List.getElem?_eq_some_iff.1 hi).1
    rw [List.length_range] at hjl
    rw [List.getElem?_range hjl] at hi
    cases hi
    obtain ⟨b, off, e, q0, q1, q2⟩ := hf j hjl
    exact ⟨b, off, by rw [e], q0, q1, q2⟩
end Go.Proofs.Ytleaaoknjflgoaa
