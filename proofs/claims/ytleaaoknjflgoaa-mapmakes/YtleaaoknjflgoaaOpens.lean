/-
  HOW ARGUMENTS ARE OPENED: slices of bytes, arrays of two and three.
-/
import Derived.Test.YtleaaoknjflgoaaBytes
import Derived.ProofKit
import Derived.OpenShut
import Derived.Lib.SmallJoins
import Derived.SizedLaws
import Derived.ShutString
import Derived.ChangeOld
import Derived.Below
namespace Go.Proofs.Ytleaaoknjflgoaa
open Go.ChangeShapes Go.WideShapes Go.ChangeAt Go.RowKit

theorem own : ownKnob Try.prog.godebug = none := by kernel_rfl
theorem laidOut : laidOutB Try.prog = true := by kernel_rfl
theorem Try.cells5 : Try.prog.cellsOf 5 = 1 := by kernel_rfl
theorem Try.cells3 : Try.prog.cellsOf 3 = 1 := by kernel_rfl
theorem Try.bytes5 : Try.prog.bytesOf 5 = 1 := by kernel_rfl

/-- A slice of bytes that came in, as the walks take it. -/
theorem open_bytes {H : Type} {enc : TypeId × Value → H} {W : World} {fuel : Nat} {v : Value} {x : DataW H × List MemPlace} (h : DataW.trod enc Try.prog W 0 (fun _ => true) true fuel 61 [v] = some x) :
    ∃ ao cap l, v = .slice ao l.length cap ∧ Rd W ao l ∧ (ao = none → cap = 0) ∧ l.length ≤ cap ∧ U8 l ∧ (x.1 = .nil ∧ cap = 0 ∨ ∃ elems spare, x.1 = .slice elems spare ∧ cap = elems.length + spare.length) := by
  rcases open_ints Try.underlying61 Try.underlying5 Try.cells5 h with ⟨hcs, hx⟩ | ⟨a, len, cap, zs, hcs, _, hl, hm, hz, hx, hcell, hwz⟩
  · simp only [List.cons.injEq, and_true] at hcs
    subst hcs
    refine ⟨none, 0, [], rfl, Rd.nil _ _, fun _ => rfl, by simp, fun y hy => by simp at hy, .inl ⟨by rw [hx], rfl⟩⟩
  · simp only [List.cons.injEq, and_true] at hcs
    subst hcs
    simp only [if_true] at hz
    have hlen : (zs.take len).length = len := by simp; omega
    refine ⟨some a, cap, zs.take len, by rw [hlen], ⟨by simp, ?_⟩, by simp, by omega, fun y hy => bounds_u8 (hwz y (List.mem_of_mem_take hy)), .inr ⟨_, _, by rw [hx], by simp [lits]; omega⟩⟩
    intro a' ha' j u hj
    cases ha'
    rw [u8s_get] at hj
    rcases hg : (zs.take len)[j]? with _ | z
    · rw [hg] at hj; simp at hj
    · rw [hg] at hj
      simp only [Option.map_some, Option.some.injEq] at hj
      subst hj
      rw [List.getElem?_take] at hg
      split at hg
      · have hjl : j < zs.length := (List.getElem?_eq_some_iff.1 hg).1
        rw [hcell j hjl, List.getD, hg]; rfl
      · cases hg

/-- Its size, by what a reading weighs. -/
theorem cap_le {H : Type} {d : DataW H} {cap n : Nat} (h : d = .nil ∧ cap = 0 ∨ ∃ elems spare, d = .slice elems spare ∧ cap = elems.length + spare.length) (hw : (d.weights Try.prog 61).all (· ≤ n) = true) : cap ≤ n := by
  rcases h with ⟨_, rfl⟩ | ⟨elems, spare, rfl, rfl⟩
  · omega
  · simp only [DataW.weights, Try.underlying61, Try.bytes5, List.all_cons, Bool.and_eq_true, decide_eq_true_eq] at hw
    omega

end Go.Proofs.Ytleaaoknjflgoaa
