/-
  KindsThree's region 3: three copies in a row, and boxes that may be made at any time.
  KindsThree 5: the walk.
-/
import Derived.Test.YtkdgageljgfgoaaGreatDoorLeft
import Derived.Test.YtkdgageljgfgoaaGreatDoorDone9
import Derived.Test.YtkdgageljgfgoaaGreatDoorRefThree
import Derived.Test.YtkdgageljgfgoaaGreatDoorTogC
import Derived.Test.YtkdgageljgfgoaaGreatDoorOpenV
import Derived.BigCall
import Derived.BigGuard
import Derived.BigGuardPart
import Derived.BigRegion
namespace Go.Proofs.YtkdgageljgfgoaaGreatDoor
open Go.RowKit Go.Shelf
set_option linter.unusedSimpArgs false

/-- The row of a value is ahead of D. -/
def Lt (v : Value) (D : Nat) : Prop := ∀ (k n : Int) (g m c : Nat), v = vv k n (some ⟨g, 0, none⟩) m c → g < D
def CopC (k n : Int) (N : Nat) (l : List El) (D : Nat) (v : Value) (W : World) : Prop := ∃ g c', v = vv k n (some ⟨g, 0, none⟩) N c' ∧ Oe W D (.slice (some ⟨g, 0, none⟩) (N + 1) c') (l ++ [markE])
theorem Oe.blk {W : World} {B g n c : Nat} {L : List El} (h : Oe W B (.slice (some ⟨g, 0, none⟩) n c) L) : B ≤ g ∧ g < W.heap.size := by
  obtain ⟨a', c', e, _, _, _, h4⟩ := h.form
  simp only [Value.slice.injEq] at e
  obtain ⟨e1, _, _⟩ := e
  have := h4 _ e1.symm
  exact ⟨this.1, this.2.1⟩
theorem CopC.below {k n : Int} {N : Nat} {l : List El} {D : Nat} {v : Value} {W W' : World} (h : CopC k n N l D v W) (hb : Below W.heap.size W W') : CopC k n N l D v W' := by
  obtain ⟨g, c', e, hO⟩ := h
  exact ⟨g, c', e, hO.below hb⟩
theorem CopC.lt {k n : Int} {N : Nat} {l : List El} {D : Nat} {v : Value} {W : World} (h : CopC k n N l D v W) : Lt v W.heap.size := fun k' n' g' m' c' e' => by
  obtain ⟨g, c', e, hO⟩ := h
  rw [e] at e'
  simp only [Value.agg.injEq, Array.mk.injEq, List.cons.injEq, Value.slice.injEq, Option.some.injEq, Addr.mk.injEq] at e'
  have := hO.blk.2
  omega
end Go.Proofs.YtkdgageljgfgoaaGreatDoor
namespace Go.Proofs.YtkdgageljgfgoaaGreatDoor
open Go.RowKit Go.Shelf
set_option linter.unusedSimpArgs false
attribute [local go_sem] Oper.semAt_some

theorem Re.only {w w' : World} {D : Nat → Prop} {ao : Option Addr} {l : List El} (h : Re w ao l) (ho : Only D w w') (hD : ∀ a, ao = some a → ¬ D a.block) : Re w' ao l := ⟨h.1, fun a ha j u hj => by
  have hbl : (a.add j).block = a.block := by unfold Addr.add; split <;> rfl
  exact ho.cell (h.2 a ha j u hj) (by rw [hbl]; exact hD a ha)⟩
theorem Re.lt {w : World} {ao : Option Addr} {l : List El} (h : Re w ao l) (hl : l ≠ []) : ∀ a, ao = some a → a.block < w.heap.size := fun a ha => by
  have h0 : 0 < (flatE l).length := by rw [flatE_len]; have := List.length_pos_iff.2 hl; omega
  have := h.2 a ha 0 _ (List.getElem?_eq_getElem h0)
  have hbl : (a.add 0).block = a.block := by unfold Addr.add; split <;> rfl
  rw [← hbl]
  exact World.block_lt_of_cell? _ _ this
/-- Elements stay where only rows that are theirs not are written. -/
theorem Re.onlyN {w w' : World} {D : Nat → Prop} {ao : Option Addr} {l : List El} (h : Re w ao l) (ho : Only D w w') (hD : l ≠ [] → ∀ a, ao = some a → ¬ D a.block) : Re w' ao l := by
  cases l with
  | nil => exact Re.nil _ _
  | cons x t => exact h.only ho (hD (by simp))
theorem copy_rv {W : World} {B g N d : Nat} {l : List El} (hN : N = l.length) (h : Oe W B (.slice (some ⟨g, 0, none⟩) (N + 1) d) (l ++ [markE])) : Rv W (some ⟨g, 0, none⟩) d l := by
  have h1 := h.re.take l.length
  rw [List.take_left'] at h1
  · obtain ⟨a', c', e, _, _, h3, _⟩ := h.form
    simp only [Value.slice.injEq] at e
    obtain ⟨_, e2, e3⟩ := e
    exact ⟨h1, by omega, by simp, fun a ha => by cases ha; rfl⟩
  · rfl
theorem row_ne {w : World} {g S B : Nat} {cs : Array Value} {t : TypeId} (h : RowE w g S) (hB : w.heap[B]? = some (.cells cs t (0, 0))) (ht : t ≠ 77) : g ≠ B := fun e => by
  obtain ⟨cur, hc, _⟩ := h
  rw [e, hB] at hc
  simp only [Option.some.injEq, Obj.cells.injEq] at hc
  exact ht hc.2.1
end Go.Proofs.YtkdgageljgfgoaaGreatDoor
