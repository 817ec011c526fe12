/-
  HOW ARGUMENTS ARE OPENED: numbers, slices of numbers, arrays of two numbers.
-/
import Derived.Test.YtlhfkdgdbjinoaaTogW
import Derived.ProofKit
import Derived.OpenShut
import Derived.SizedLaws
import Derived.ShutString
import Derived.ChangeOld
import Derived.Below
namespace Go.Proofs.Ytlhfkdgdbjinoaa
open Go.ChangeShapes Go.WideShapes Go.ChangeAt Go.RowKit

theorem own : ownKnob Try.prog.godebug = none := by kernel_rfl
theorem laidOut : laidOutB Try.prog = true := by kernel_rfl
theorem Try.cells2 : Try.prog.cellsOf 2 = 1 := by kernel_rfl

theorem in64_wf {n : Int} (h : (Lit.int .i64 n).wf = true) : In64 n := by
  have : IntKind.i64.min ≤ n ∧ n ≤ IntKind.i64.max := by simpa [Lit.wf] using h
  unfold In64
  simpa [IntKind.min, IntKind.max, IntKind.signed, IntKind.bits] using this

/-- A slice of numbers that came in. -/
theorem open_nums {H : Type} {enc : TypeId × Value → H} {W : World} {v : Value} {d : DataW H} {p : List MemPlace} {r : Reach} {b0 : Nat} (hv : Value.okWide Try.prog W r b0 23 v) (h : DataW.Trod enc Try.prog W 0 (fun _ => true) true 23 v d p) :
    ∃ ao cap l, v = .slice ao l.length cap ∧ Nd W ao l ∧ (ao = none → cap = 0) ∧ l.length ≤ cap ∧ ∀ y ∈ l, In64 y := by
  obtain ⟨fuel, h⟩ := h
  obtain ⟨ao1, len1, cap1, rfl⟩ := okWide_slice Try.underlying23 hv
  have h : DataW.trod enc Try.prog W 0 (fun _ => true) true fuel 23 [.slice ao1 len1 cap1] = some (d, p) := h
  rcases open_ints Try.underlying23 Try.underlying2 Try.cells2 h with ⟨hcs, hx⟩ | ⟨a, len, cap, zs, hcs, _, hl, hm, hz, hx, hcell, hwz⟩
  · simp only [List.cons.injEq, and_true] at hcs
    cases hcs
    exact ⟨none, 0, [], rfl, Nd.nil _ _, fun _ => rfl, by simp, fun y hy => by simp at hy⟩
  · simp only [List.cons.injEq, and_true] at hcs
    cases hcs
    simp only [if_true] at hz
    have hlen : (zs.take len1).length = len1 := by simp; omega
    refine ⟨some a, cap1, zs.take len1, by rw [hlen], ⟨by simp, ?_⟩, by simp, by omega, fun y hy => in64_wf (hwz y (List.mem_of_mem_take hy))⟩
    intro a' ha' j u hj
    cases ha'
    rw [n64s_get] at hj
    rcases hg : (zs.take len1)[j]? with _ | z
    · rw [hg] at hj; simp at hj
    · rw [hg] at hj
      simp only [Option.map_some, Option.some.injEq] at hj
      subst hj
      rw [List.getElem?_take] at hg
      split at hg
      · have hjl : j < zs.length := (List.getElem?_eq_some_iff.1 hg).1
        rw [hcell j hjl, List.getD, hg]; rfl
      · cases hg
end Go.Proofs.Ytlhfkdgdbjinoaa
