/-
  SLICES THAT TELL VALUES OF ONE CELL.
-/
import Derived.Test.YtckkoigghkgfdaaMaps3
namespace Go.Proofs.Ytckkoigghkgfdaa
open Go.RowKit Go.Shelf
set_option linter.unusedSimpArgs false

/-- A slice that tells values of one cell. -/
structure Cs (w : World) (v : Value) (l : List Value) : Prop where
  ex : ∃ ao cap, v = .slice ao l.length cap ∧ l.length ≤ cap ∧ ∀ j u, l[j]? = some u → ∃ b off, ao = some ⟨b, off, none⟩ ∧ w.cell? ⟨b, off + j, none⟩ = some u
theorem Cs.below {w w' : World} {v : Value} {l : List Value} (h : Cs w v l) (hb : Below w.heap.size w w') : Cs w' v l := by
  obtain ⟨ao, cap, e, hc, hr⟩ := h.ex
  exact ⟨ao, cap, e, hc, fun j u hj => by obtain ⟨b, off, e2, h2⟩ := hr j u hj; exact ⟨b, off, e2, cell_stays h2 hb⟩⟩
end Go.Proofs.Ytckkoigghkgfdaa
