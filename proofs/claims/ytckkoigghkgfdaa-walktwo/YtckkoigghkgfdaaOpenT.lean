/-
  HOW THREE COMES IN: a struct of five slices and three bools.
-/
import Derived.Test.YtckkoigghkgfdaaOpens
import Derived.Test.YtckkoigghkgfdaaUnW
import Derived.SliceStrings
import Derived.Deep.Grids
namespace Go.Proofs.Ytckkoigghkgfdaa
open Go.ChangeShapes Go.WideShapes Go.ChangeAt Go.RowKit Go.Shelf

theorem Try.cells9 : Try.prog.cellsOf 9 = 1 := by kernel_rfl
theorem Try.cells4 : Try.prog.cellsOf 4 = 1 := by kernel_rfl
theorem Try.cells22 : Try.prog.cellsOf 22 = 1 := by kernel_rfl
theorem Try.cells23 : Try.prog.cellsOf 23 = 1 := by kernel_rfl
theorem Try.cells25 : Try.prog.cellsOf 25 = 8 := by kernel_rfl
/-- Cells at an address that is plain where there is one. -/
theorem cs_at {W : World} {a : Addr} {l : List Value} {cap : Nat} (hc : l.length ≤ cap) (h : ∀ j u, l[j]? = some u → W.cell? (a.add j) = some u) : Cs W (.slice (some a) l.length cap) l := ⟨_, _, rfl, hc, fun j u hj => by
  have h1 := h j u hj
  obtain ⟨b, off, spot⟩ := a
  have hl := (List.getElem?_eq_some_iff.1 hj).1
  obtain ⟨u0, h0⟩ : ∃ u0, l[0]? = some u0 := ⟨l[0]'(by omega), List.getElem?_eq_getElem _⟩
  have hspot : spot = none := by simpa [Addr.add] using World.cell?_spot (h 0 u0 h0)
  subst hspot
  exact ⟨b, off, rfl, by rw [← Go.WideShapes.add_plain]; exact h1⟩⟩
/-- A slice of strings. -/
theorem open_strs {H : Type} {enc : TypeId × Value → H} {W : World} {fuel : Nat} {v : Value} {x : DataW H × List MemPlace} (h : DataW.trod enc Try.prog W 0 (fun _ => true) true fuel 22 [v] = some x) : ∃ ss : List ByteArray, Cs W v (ss.map .string) := by
  rcases open_strings Try.underlying22 Try.underlying9 Try.cells9 h with ⟨hcs, _⟩ | ⟨a, len, cap, ss, hcs, _, hl, hm, hz, hx, hcell, hwz⟩
  · simp only [List.cons.injEq, and_true] at hcs
    subst hcs
    exact ⟨[], none, 0, rfl, by simp, by simp⟩
  · simp only [List.cons.injEq, and_true] at hcs
    subst hcs
    simp only [if_true] at hz
    have hlen : ((ss.take len).map Value.string).length = len := by simp; omega
    refine ⟨ss.take len, ?_⟩
    have := cs_at (W := W) (a := a) (l := (ss.take len).map .string) (cap := cap) (by omega) (fun j u hj => by
      rw [List.getElem?_map, List.getElem?_take] at hj
      split at hj
      · obtain ⟨z, hz1, rfl⟩ := Option.map_eq_some_iff.1 hj
        have hjl : j < ss.length := (List.getElem?_eq_some_iff.1 hz1).1
        rw [hcell j hjl, List.getD, hz1]; rfl
      · cases hj)
    rw [hlen] at this
    exact this
/-- A slice of numbers. -/
theorem open_nums {H : Type} {enc : TypeId × Value → H} {W : World} {fuel : Nat} {v : Value} {x : DataW H × List MemPlace} (h : DataW.trod enc Try.prog W 0 (fun _ => true) true fuel 23 [v] = some x) : ∃ zs : List Int, Cs W v (zs.map (.int .i64)) := by
  rcases open_ints Try.underlying23 Try.underlying3 Try.cells3 h with ⟨hcs, _⟩ | ⟨a, len, cap, zs, hcs, _, hl, hm, hz, hx, hcell, hwz⟩
  · simp only [List.cons.injEq, and_true] at hcs
    subst hcs
    exact ⟨[], none, 0, rfl, by simp, by simp⟩
  · simp only [List.cons.injEq, and_true] at hcs
    subst hcs
    simp only [if_true] at hz
    have hlen : ((zs.take len).map (Value.int .i64)).length = len := by simp; omega
    refine ⟨zs.take len, ?_⟩
    have := cs_at (W := W) (a := a) (l := (zs.take len).map (.int .i64)) (cap := cap) (by omega) (fun j u hj => by
      rw [List.getElem?_map, List.getElem?_take] at hj
      split at hj
      · obtain ⟨z, hz1, rfl⟩ := Option.map_eq_some_iff.1 hj
        have hjl : j < zs.length := (List.getElem?_eq_some_iff.1 hz1).1
        rw [hcell j hjl, List.getD, hz1]; rfl
      · cases hj)
    rw [hlen] at this
    exact this
theorem cells_agg {v : Value} {n : Nat} (h : v.cells.toList.length = n) (hn : n ≠ 1) : ∃ cs : List Value, v = .agg cs.toArray ∧ cs.length = n ∧ v.cells.toList = cs := by
  cases v with
  | agg cs => exact ⟨cs.toList, by simp, by simpa [Value.cells] using h, rfl⟩
  | _ => simp [Value.cells] at h; exact absurd h.symm hn
theorem list8 {α : Type} {l : List α} (h : l.length = 8) : ∃ a b c d e f g i, l = [a, b, c, d, e, f, g, i] := by
  match l, h with
  | [a, b, c, d, e, f, g, i], _ => exact ⟨a, b, c, d, e, f, g, i, rfl⟩
/-- Three that came in. -/
theorem open_three {H : Type} {enc : TypeId × Value → H} {W : World} {v : Value} {d : DataW H} {p : List MemPlace} (h : DataW.Trod enc Try.prog W 0 (fun _ => true) true 25 v d p) :
    ∃ s0 s1 s2 s3 s4 x y z ks pa pb ta tb, v = .agg #[s0, s1, s2, s3, s4, .bool x, .bool y, .bool z] ∧ ThreeIs W s0 s1 s2 s3 s4 ks pa pb ta tb := by
  obtain ⟨fuel, hf⟩ := h
  obtain ⟨xs, n, _, hx, hl, hlen, hff⟩ := DataW.trod_struct Try.underlying25 hf
  rw [Try.cells25] at hl
  obtain ⟨cs, rfl, hcs, hcc⟩ := cells_agg hl (by decide)
  obtain ⟨u0, u1, u2, u3, u4, u5, u6, u7, rfl⟩ := list8 hcs
  rw [hcc] at hff
  obtain ⟨y0, y1, y2, y3, y4, y5, y6, y7, rfl⟩ := list8 (show xs.length = 8 from hlen)
  have e0 : DataW.trod enc Try.prog W 0 (fun _ => true) true n 22 (([u0, u1, u2, u3, u4, u5, u6, u7].drop 0).take (Try.prog.cellsOf 22)) = some y0 := hff 0 _ rfl
  have e1 : DataW.trod enc Try.prog W 0 (fun _ => true) true n 22 (([u0, u1, u2, u3, u4, u5, u6, u7].drop 1).take (Try.prog.cellsOf 22)) = some y1 := hff 1 _ rfl
  have e2 : DataW.trod enc Try.prog W 0 (fun _ => true) true n 22 (([u0, u1, u2, u3, u4, u5, u6, u7].drop 2).take (Try.prog.cellsOf 22)) = some y2 := hff 2 _ rfl
  have e3 : DataW.trod enc Try.prog W 0 (fun _ => true) true n 23 (([u0, u1, u2, u3, u4, u5, u6, u7].drop 3).take (Try.prog.cellsOf 23)) = some y3 := hff 3 _ rfl
  have e4 : DataW.trod enc Try.prog W 0 (fun _ => true) true n 23 (([u0, u1, u2, u3, u4, u5, u6, u7].drop 4).take (Try.prog.cellsOf 23)) = some y4 := hff 4 _ rfl
  have e5 : DataW.trod enc Try.prog W 0 (fun _ => true) true n 4 (([u0, u1, u2, u3, u4, u5, u6, u7].drop 5).take (Try.prog.cellsOf 4)) = some y5 := hff 5 _ rfl
  have e6 : DataW.trod enc Try.prog W 0 (fun _ => true) true n 4 (([u0, u1, u2, u3, u4, u5, u6, u7].drop 6).take (Try.prog.cellsOf 4)) = some y6 := hff 6 _ rfl
  have e7 : DataW.trod enc Try.prog W 0 (fun _ => true) true n 4 (([u0, u1, u2, u3, u4, u5, u6, u7].drop 7).take (Try.prog.cellsOf 4)) = some y7 := hff 7 _ rfl
  rw [Try.cells22] at e0 e1 e2
  rw [Try.cells23] at e3 e4
  rw [Try.cells4] at e5 e6 e7
  simp only [List.drop_zero, List.take_succ_cons, List.take_zero, List.drop_succ_cons] at e0 e1 e2 e3 e4 e5 e6 e7
  obtain ⟨ks, c0⟩ := open_strs e0
  obtain ⟨pa, c1⟩ := open_strs e1
  obtain ⟨pb, c2⟩ := open_strs e2
  obtain ⟨ta, c3⟩ := open_nums e3
  obtain ⟨tb, c4⟩ := open_nums e4
  obtain ⟨x, r5, _⟩ := DataW.trod_bool Try.underlying4 e5
  obtain ⟨y, r6, _⟩ := DataW.trod_bool Try.underlying4 e6
  obtain ⟨z, r7, _⟩ := DataW.trod_bool Try.underlying4 e7
  simp only [List.cons.injEq, and_true] at r5 r6 r7
  subst r5 r6 r7
  exact ⟨u0, u1, u2, u3, u4, x, y, z, ks, pa, pb, ta, tb, rfl, ⟨c0, c1, c2, c3, c4⟩⟩
end Go.Proofs.Ytckkoigghkgfdaa
