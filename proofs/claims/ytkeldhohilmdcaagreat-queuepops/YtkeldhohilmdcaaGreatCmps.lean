/-
  TEXTS HELD AGAINST EACH OTHER: plainly (cmpB, cmpP), and what the program's and the document's functions answer.
-/
import Derived.Test.YtkeldhohilmdcaaGreatValid
import Derived.Test.YtkeldhohilmdcaaGreatKeep
namespace Go.Proofs.YtkeldhohilmdcaaGreat
open Go.RowKit Go.Shelf
set_option linter.unusedSimpArgs false

/-- Behind this address lie the texts l. -/
def Rs (w : World) (ao : Option Addr) (l : List ByteArray) : Prop :=
  (ao = none → l = []) ∧ ∀ a, ao = some a → ∀ j s, l[j]? = some s → w.cell? (a.add j) = some (.string s)
theorem Rs.at {w : World} {ao : Option Addr} {l : List ByteArray} (h : Rs w ao l) {k : Nat} {s : ByteArray} (hs : l[k]? = some s) : ∃ ab off, ao = some ⟨ab, off, none⟩ ∧ w.cell? ⟨ab, off + k, none⟩ = some (.string s) := by
  cases ao with
  | none => have := h.1 rfl; subst this; simp at hs
  | some a =>
    obtain ⟨ab, off, sp⟩ := a
    have hl : 0 < l.length := by have := (List.getElem?_eq_some_iff.1 hs).1; omega
    have h0 := h.2 _ rfl 0 l[0] (List.getElem?_eq_getElem hl)
    simp only [Addr.add, if_true] at h0
    have e : sp = none := World.cell?_spot h0
    subst e
    have hk := h.2 _ rfl k s hs
    rw [add_lit] at hk
    exact ⟨ab, off, rfl, hk⟩
theorem Rs.only {C : Nat → Prop} {w w' : World} {ao : Option Addr} {l : List ByteArray} (hr : Rs w ao l) (h : Only C w w') (hC : ∀ a, ao = some a → ¬ C a.block) : Rs w' ao l :=
  ⟨hr.1, fun a ha j u hj => h.cell (hr.2 a ha j u hj) (by
    have : (a.add j).block = a.block := by unfold Addr.add; split <;> rfl
    rw [this]; exact hC a ha)⟩
theorem Rs.below {w w' : World} {ao : Option Addr} {l : List ByteArray} (h : Rs w ao l) (hb : Below w.heap.size w w') : Rs w' ao l := h.only (Only.ofBelow hb) (fun _ _ d => d.elim)
theorem Rs.drew {w : World} {ao : Option Addr} {l : List ByteArray} (h : Rs w ao l) : Rs w.drew ao l := h.below (Below.refl _ w).drew
theorem Rs.nil (w : World) (ao : Option Addr) : Rs w ao [] := ⟨fun _ => rfl, by simp⟩
theorem Rs.take {w : World} {ao : Option Addr} {l : List ByteArray} (h : Rs w ao l) (k : Nat) : Rs w ao (l.take k) :=
  ⟨fun ha => by rw [h.1 ha]; simp, fun a ha j u hj => h.2 a ha j u (by
    rw [List.getElem?_take] at hj
    split at hj
    · exact hj
    · cases hj)⟩

end Go.Proofs.YtkeldhohilmdcaaGreat
