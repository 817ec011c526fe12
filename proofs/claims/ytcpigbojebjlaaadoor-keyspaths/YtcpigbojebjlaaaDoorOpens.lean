/-
  HOW ARGUMENTS ARE OPENED: slices of bytes, arrays of two and three.
-/
import Derived.Test.YtcpigbojebjlaaaDoorBytes
import Derived.ProofKit
import Derived.OpenShut
import Derived.Lib.SmallJoins
import Derived.SizedLaws
import Derived.ShutString
import Derived.ChangeOld
import Derived.Below
namespace Go.Proofs.YtcpigbojebjlaaaDoor
open Go.ChangeShapes Go.WideShapes Go.ChangeAt Go.RowKit

theorem own : ownKnob Tryd.prog.godebug = none := by kernel_rfl
theorem laidOut : laidOutB Tryd.prog = true := by kernel_rfl
theorem Tryd.cells5 : Tryd.prog.cellsOf 5 = 1 := by kernel_rfl
theorem Tryd.cells3 : Tryd.prog.cellsOf 3 = 1 := by kernel_rfl
theorem Tryd.bytes5 : Tryd.prog.bytesOf 5 = 1 := by kernel_rfl

/-- A slice of bytes that came in, as the walks take it. -/
theorem open_bytes {H : Type} {enc : TypeId × Value → H} {W : World} {fuel : Nat} {v : Value} {x : DataW H × List MemPlace} (h : DataW.trod enc Tryd.prog W 0 (fun _ => true) true fuel 59 [v] = some x) :
    ∃ ao cap l, v = .slice ao l.length cap ∧ Rd W ao l ∧ (ao = none → cap = 0) ∧ l.length ≤ cap ∧ U8 l ∧ (x.1 = .nil ∧ cap = 0 ∨ ∃ elems spare, x.1 = .slice elems spare ∧ cap = elems.length + spare.length) := by
  rcases open_ints Tryd.underlying59 Tryd.underlying5 Tryd.cells5 h with ⟨hcs, hx⟩ | ⟨a, len, cap, zs, hcs, _, hl, hm, hz, hx, hcell, hwz⟩
  · simp only [List.cons.injEq, and_true] at hcs
    subst hcs
    refine ⟨none, 0, [], rfl, Rd.nil _ _, fun _ => rfl, by simp, fun y hy => by simp at hy, .inl ⟨by rw [hx], rfl⟩⟩
  · simp only [List.cons.injEq, and_true] at hcs
    subst hcs
    simp only [if_true] at hz
    have hlen : (zs.take len).length = len := by simp; omega
    refine ⟨some a, cap, zs.take len, by rw [hlen], ⟨by simp, ?_⟩, by simp, by omega, fun y hy => bounds_u8 (hwz y (List.mem_of_mem_take hy)), .inr ⟨_, _, by rw [hx], by simp [lits]; omega⟩⟩
    intro a' ha' j u hj
    cases ha'
    rw [u8s_get] at hj
    rcases hg : (zs.take len)[j]? with _ | z
    · rw [hg] at hj; simp at hj
    · rw [hg] at hj
      simp only [Option.map_some, Option.some.injEq] at hj
      subst hj
      rw [List.getElem?_take] at hg
      split at hg
      · have hjl : j < zs.length := (List.getElem?_eq_some_iff.1 hg).1
        rw [hcell j hjl, List.getD, hg]; rfl
      · cases hg

/-- Its size, by what a reading weighs. -/
theorem cap_le {H : Type} {d : DataW H} {cap n : Nat} (h : d = .nil ∧ cap = 0 ∨ ∃ elems spare, d = .slice elems spare ∧ cap = elems.length + spare.length) (hw : (d.weights Tryd.prog 59).all (· ≤ n) = true) : cap ≤ n := by
  rcases h with ⟨_, rfl⟩ | ⟨elems, spare, rfl, rfl⟩
  · omega
  · simp only [DataW.weights, Tryd.underlying59, Tryd.bytes5, List.all_cons, Bool.and_eq_true, decide_eq_true_eq] at hw
    omega

theorem cells_agg {v : Value} {n : Nat} (h : v.cells.toList.length = n) (hn : n ≠ 1) : ∃ cs : List Value, v = .agg cs.toArray ∧ cs.length = n ∧ v.cells.toList = cs := by
  cases v with
  | agg cs => exact ⟨cs.toList, by simp, by simpa [Value.cells] using h, rfl⟩
  | _ => simp [Value.cells] at h; exact absurd h.symm hn


/-- An array of two that came in. -/
theorem open_arr2 {H : Type} {enc : TypeId × Value → H} {W : World} {t e : TypeId} {v : Value} {d : DataW H} {p : List MemPlace} (ht : Tryd.prog.underlying t = some (.array 2 e)) (hC : Tryd.prog.cellsOf t = 2) (hE : Tryd.prog.cellsOf e = 1)
    (h : DataW.Trod enc Tryd.prog W 0 (fun _ => true) true t v d p) :
    ∃ (v0 v1 : Value) (y0 y1 : DataW H × List MemPlace) (n : Nat), v = .agg #[v0, v1] ∧ d = .agg [y0.1, y1.1] ∧
      DataW.trod enc Tryd.prog W 0 (fun _ => true) true n e [v0] = some y0 ∧ DataW.trod enc Tryd.prog W 0 (fun _ => true) true n e [v1] = some y1 := by
  obtain ⟨fuel, hf⟩ := h
  obtain ⟨xs, n, _, hx, hlen, hl2, hea⟩ := DataW.trod_array ht hf
  rw [hC] at hlen
  obtain ⟨cs, rfl, hcs, hcc⟩ := cells_agg hlen (by decide)
  rw [hcc] at hea
  match cs, hcs, xs, hl2 with
  | [c0, c1], _, [y0, y1], _ =>
    have e0 := hea 0 (by omega)
    have e1 := hea 1 (by omega)
    simp only [hE, Nat.zero_mul, Nat.one_mul, List.drop_zero, List.take_succ_cons, List.take_zero, List.drop_succ_cons, List.getElem?_cons_zero, List.getElem?_cons_succ] at e0 e1
    exact ⟨c0, c1, y0, y1, n, rfl, (Prod.mk.injEq _ _ _ _ ▸ hx).1, e0, e1⟩
/-- An array of three that came in. -/
theorem open_arr3 {H : Type} {enc : TypeId × Value → H} {W : World} {t e : TypeId} {v : Value} {d : DataW H} {p : List MemPlace} (ht : Tryd.prog.underlying t = some (.array 3 e)) (hC : Tryd.prog.cellsOf t = 3) (hE : Tryd.prog.cellsOf e = 1)
    (h : DataW.Trod enc Tryd.prog W 0 (fun _ => true) true t v d p) :
    ∃ (v0 v1 v2 : Value) (y0 y1 y2 : DataW H × List MemPlace) (n : Nat), v = .agg #[v0, v1, v2] ∧
      DataW.trod enc Tryd.prog W 0 (fun _ => true) true n e [v0] = some y0 ∧ DataW.trod enc Tryd.prog W 0 (fun _ => true) true n e [v1] = some y1 ∧ DataW.trod enc Tryd.prog W 0 (fun _ => true) true n e [v2] = some y2 := by
  obtain ⟨fuel, hf⟩ := h
  obtain ⟨xs, n, _, hx, hlen, hl2, hea⟩ := DataW.trod_array ht hf
  rw [hC] at hlen
  obtain ⟨cs, rfl, hcs, hcc⟩ := cells_agg hlen (by decide)
  rw [hcc] at hea
  match cs, hcs, xs, hl2 with
  | [c0, c1, c2], _, [y0, y1, y2], _ =>
    have e0 := hea 0 (by omega)
    have e1 := hea 1 (by omega)
    have e2 := hea 2 (by omega)
    simp only [hE, Nat.mul_one, List.drop_zero, List.take_succ_cons, List.take_zero, List.drop_succ_cons, List.getElem?_cons_zero, List.getElem?_cons_succ] at e0 e1 e2
    exact ⟨c0, c1, c2, y0, y1, y2, n, rfl, e0, e1, e2⟩
end Go.Proofs.YtcpigbojebjlaaaDoor
