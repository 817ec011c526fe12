/-
  HOW ARGUMENTS ARE OPENED: slices of bytes, arrays of two and three.
  How elements and writes come in as arguments.
-/
import Derived.Test.YtkkpdgfllnbigaaGreatMg1
import Derived.ProofKit
import Derived.OpenShut
import Derived.Lib.SmallJoins
import Derived.SizedLaws
import Derived.ShutString
import Derived.ChangeOld
import Derived.Below
import Derived.Test.YtkkpdgfllnbigaaGreatMg10
import Derived.SliceStrings
import Derived.Deep.Grids
namespace Go.Proofs.YtkkpdgfllnbigaaGreat
open Go.ChangeShapes Go.WideShapes Go.ChangeAt Go.RowKit

theorem own : ownKnob Tryz.prog.godebug = none := by kernel_rfl
theorem laidOut : laidOutB Tryz.prog = true := by kernel_rfl
end Go.Proofs.YtkkpdgfllnbigaaGreat
namespace Go.Proofs.YtkkpdgfllnbigaaGreat
open Go.ChangeShapes Go.WideShapes Go.ChangeAt Go.RowKit Go.Shelf
set_option linter.unusedSimpArgs false
theorem c2o : Tryz.prog.cellsOf 2 = 1 := by kernel_rfl
theorem c3o : Tryz.prog.cellsOf 3 = 1 := by kernel_rfl
theorem c9o : Tryz.prog.cellsOf 9 = 1 := by kernel_rfl
theorem c39o : Tryz.prog.cellsOf 39 = 2 := by kernel_rfl
theorem c41o : Tryz.prog.cellsOf 41 = 3 := by kernel_rfl
theorem c43o : Tryz.prog.cellsOf 43 = 5 := by kernel_rfl
theorem c53o : Tryz.prog.cellsOf 53 = 6 := by kernel_rfl
theorem l2o {α : Type} {l : List α} (h : l.length = 2) : ∃ a b, l = [a, b] := by
  match l, h with
  | [a, b], _ => exact ⟨a, b, rfl⟩
theorem l3o {α : Type} {l : List α} (h : l.length = 3) : ∃ a b c, l = [a, b, c] := by
  match l, h with
  | [a, b, c], _ => exact ⟨a, b, c, rfl⟩
theorem l6o {α : Type} {l : List α} (h : l.length = 6) : ∃ a b c d e f, l = [a, b, c, d, e, f] := by
  match l, h with
  | [a, b, c, d, e, f], _ => exact ⟨a, b, c, d, e, f, rfl⟩
theorem add_addO (a : Addr) (k j : Nat) : (a.add k).add j = a.add (k + j) := by
  unfold Addr.add
  by_cases hk : k = 0
  · subst hk; simp
  · by_cases hj : j = 0
    · subst hj; simp [hk]
    · simp [hk, hj]; omega
theorem open_branchO {H : Type} {enc : TypeId × Value → H} {W : World} {fuel : Nat} {u0 u1 : Value} {x : DataW H × List MemPlace} (h : DataW.trod enc Tryz.prog W 0 (fun _ => true) true fuel 39 [u0, u1] = some x) :
    ∃ r s, u0 = .int .i64 r ∧ u1 = .string s ∧ s.size ≤ maxLen := by
  obtain ⟨xs, n, _, hx, hl, hlen, hf⟩ := DataW.trod_struct Tryz.underlying39 h
  obtain ⟨y0, y1, rfl⟩ := l2o (show xs.length = 2 from hlen)
  have e0 : DataW.trod enc Tryz.prog W 0 (fun _ => true) true n 3 (([u0, u1].drop 0).take (Tryz.prog.cellsOf 3)) = some y0 := hf 0 _ rfl
  have e1 : DataW.trod enc Tryz.prog W 0 (fun _ => true) true n 9 (([u0, u1].drop 1).take (Tryz.prog.cellsOf 9)) = some y1 := hf 1 _ rfl
  rw [c3o] at e0
  rw [c9o] at e1
  simp only [List.drop_zero, List.take_succ_cons, List.take_zero, List.drop_succ_cons] at e0 e1
  obtain ⟨k, r1, _, _⟩ := DataW.trod_int Tryz.underlying3 e0
  obtain ⟨s, r2, _, hs⟩ := DataW.trod_string Tryz.underlying9 e1
  simp only [List.cons.injEq, and_true] at r1 r2
  exact ⟨k, s, r1, r2, hs⟩
theorem open_nameO {H : Type} {enc : TypeId × Value → H} {W : World} {fuel : Nat} {u0 u1 u2 : Value} {x : DataW H × List MemPlace} (h : DataW.trod enc Tryz.prog W 0 (fun _ => true) true fuel 41 [u0, u1, u2] = some x) :
    ∃ r s n, u0 = .int .i64 r ∧ u1 = .string s ∧ u2 = .int .i64 n ∧ s.size ≤ maxLen := by
  obtain ⟨xs, n, _, hx, hl, hlen, hf⟩ := DataW.trod_struct Tryz.underlying41 h
  obtain ⟨y0, y1, rfl⟩ := l2o (show xs.length = 2 from hlen)
  have e0 : DataW.trod enc Tryz.prog W 0 (fun _ => true) true n 39 (([u0, u1, u2].drop 0).take (Tryz.prog.cellsOf 39)) = some y0 := hf 0 _ rfl
  have e1 : DataW.trod enc Tryz.prog W 0 (fun _ => true) true n 2 (([u0, u1, u2].drop 2).take (Tryz.prog.cellsOf 2)) = some y1 := hf 1 _ rfl
  rw [c39o] at e0
  rw [c2o] at e1
  simp only [List.drop_zero, List.take_succ_cons, List.take_zero, List.drop_succ_cons] at e0 e1
  obtain ⟨r, s, h0, h1, hs⟩ := open_branchO e0
  obtain ⟨k, r1, _, _⟩ := DataW.trod_int Tryz.underlying2 e1
  simp only [List.cons.injEq, and_true] at r1
  exact ⟨r, s, k, h0, h1, r1, hs⟩
theorem open_stampO {H : Type} {enc : TypeId × Value → H} {W : World} {fuel : Nat} {u0 u1 u2 u3 u4 : Value} {x : DataW H × List MemPlace} (h : DataW.trod enc Tryz.prog W 0 (fun _ => true) true fuel 43 [u0, u1, u2, u3, u4] = some x) :
    ∃ g r s n i, u0 = .int .i64 g ∧ u1 = .int .i64 r ∧ u2 = .string s ∧ u3 = .int .i64 n ∧ u4 = .int .i64 i ∧ s.size ≤ maxLen := by
  obtain ⟨xs, n, _, hx, hl, hlen, hf⟩ := DataW.trod_struct Tryz.underlying43 h
  obtain ⟨y0, y1, y2, rfl⟩ := l3o (show xs.length = 3 from hlen)
  have e0 : DataW.trod enc Tryz.prog W 0 (fun _ => true) true n 2 (([u0, u1, u2, u3, u4].drop 0).take (Tryz.prog.cellsOf 2)) = some y0 := hf 0 _ rfl
  have e1 : DataW.trod enc Tryz.prog W 0 (fun _ => true) true n 41 (([u0, u1, u2, u3, u4].drop 1).take (Tryz.prog.cellsOf 41)) = some y1 := hf 1 _ rfl
  have e2 : DataW.trod enc Tryz.prog W 0 (fun _ => true) true n 3 (([u0, u1, u2, u3, u4].drop 4).take (Tryz.prog.cellsOf 3)) = some y2 := hf 2 _ rfl
  rw [c2o] at e0
  rw [c41o] at e1
  rw [c3o] at e2
  simp only [List.drop_zero, List.take_succ_cons, List.take_zero, List.drop_succ_cons] at e0 e1 e2
  obtain ⟨k, r1, _, _⟩ := DataW.trod_int Tryz.underlying2 e0
  obtain ⟨r, s, m, h0, h1, h2, hs⟩ := open_nameO e1
  obtain ⟨i, r3, _, _⟩ := DataW.trod_int Tryz.underlying3 e2
  simp only [List.cons.injEq, and_true] at r1 r3
  exact ⟨k, r, s, m, i, r1, h0, h1, h2, r3, hs⟩
theorem open_elE {H : Type} {enc : TypeId × Value → H} {W : World} {fuel : Nat} {u0 u1 u2 u3 u4 u5 : Value} {x : DataW H × List MemPlace} (h : DataW.trod enc Tryz.prog W 0 (fun _ => true) true fuel 53 [u0, u1, u2, u3, u4, u5] = some x) :
    ∃ y : El, [u0, u1, u2, u3, u4, u5] = encE y ∧ y.1.2.2.1.size ≤ maxLen := by
  obtain ⟨xs, n, _, hx, hl, hlen, hf⟩ := DataW.trod_struct Tryz.underlying53 h
  obtain ⟨y0, y1, rfl⟩ := l2o (show xs.length = 2 from hlen)
  have e0 : DataW.trod enc Tryz.prog W 0 (fun _ => true) true n 43 (([u0, u1, u2, u3, u4, u5].drop 0).take (Tryz.prog.cellsOf 43)) = some y0 := hf 0 _ rfl
  have e1 : DataW.trod enc Tryz.prog W 0 (fun _ => true) true n 9 (([u0, u1, u2, u3, u4, u5].drop 5).take (Tryz.prog.cellsOf 9)) = some y1 := hf 1 _ rfl
  rw [c43o] at e0
  rw [c9o] at e1
  simp only [List.drop_zero, List.take_succ_cons, List.take_zero, List.drop_succ_cons] at e0 e1
  obtain ⟨g, r, s, m, i, rfl, rfl, rfl, rfl, rfl, hs⟩ := open_stampO e0
  obtain ⟨t, r2, _, _⟩ := DataW.trod_string Tryz.underlying9 e1
  simp only [List.cons.injEq, and_true] at r2
  subst r2
  exact ⟨((g, r, s, m, i), t), rfl, hs⟩
/-- Such a row that came in. -/
theorem open_rowE {H : Type} {enc : TypeId × Value → H} {W : World} {fuel : Nat} {v : Value} {x : DataW H × List MemPlace} (h : DataW.trod enc Tryz.prog W 0 (fun _ => true) true fuel 22 [v] = some x) :
    ∃ ao c l, v = .slice ao (List.length l) c ∧ Re W ao l ∧ ∀ y ∈ l, y.1.2.2.1.size ≤ 9223372036854775807 := by
  rcases Deep.open_slice Tryz.underlying22 h with ⟨hcs, _⟩ | ⟨a, len, cap, m, n, D, Pl, hcs, _, hl, hm, hmm, hx, hel⟩
  · simp only [List.cons.injEq, and_true] at hcs
    subst hcs
    exact ⟨none, 0, [], rfl, Re.nil _ _, by simp⟩
  · simp only [List.cons.injEq, and_true] at hcs
    subst hcs
    simp only [if_true] at hmm
    rw [c53o] at hel
    obtain ⟨f, hf⟩ := Deep.choose_lt (n := len) (p := fun i (y : El) => (∀ j u, (encE y)[j]? = some u → W.cell? (a.add (i * 6 + j)) = some u) ∧ y.1.2.2.1.size ≤ maxLen) (fun i hi => by
      obtain ⟨cs, h1, h2⟩ := hel i (by omega)
      obtain ⟨xs, n', _, _, hl', _, _⟩ := DataW.trod_struct Tryz.underlying53 h2
      rw [c53o] at hl'
      obtain ⟨c0, c1, c2, c3, c4, c5, rfl⟩ := l6o hl'
      obtain ⟨y, hy, hs⟩ := open_elE h2
      obtain ⟨_, _, hc⟩ := World.cells?_some h1
      refine ⟨y, fun j u hj => ?_, hs⟩
      rw [← hy] at hj
      have hj6 : j < 6 := by have := (List.getElem?_eq_some_iff.1 hj).1; simpa using this
      have := hc j (by simpa using hj6)
      rw [add_addO, hj] at this
      exact this)
    refine ⟨some a, cap, (List.range len).map f, by simp, ⟨by simp, ?_⟩, ?_⟩
    · intro a' ha' j u hj
      cases ha'
      have hjl := (List.getElem?_eq_some_iff.1 hj).1
      rw [flatE_len, List.length_map, List.length_range] at hjl
      have hi : j / 6 < len := by omega
      have hg : ((List.range len).map f)[j / 6]? = some (f (j / 6)) := by rw [List.getElem?_map, List.getElem?_range hi]; rfl
      have he := flatE_get _ (j / 6) (j % 6) _ hg (by omega)
      rw [show j / 6 * 6 + j % 6 = j by omega, hj] at he
      have := (hf (j / 6) hi).1 (j % 6) u he.symm
      rwa [show j / 6 * 6 + j % 6 = j by omega] at this
    · intro y hy
      simp only [List.mem_map, List.mem_range] at hy
      obtain ⟨i, hi, rfl⟩ := hy
      have := (hf i hi).2
      unfold maxLen at this
      omega
end Go.Proofs.YtkkpdgfllnbigaaGreat
