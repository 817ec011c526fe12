/-
  RUNES, plainly: the document's reading of UTF-8, step by step, is the library's.
  THE DOCUMENT's runes, Key, Path: what they answer.
-/
import Derived.Test.YtkdgageljgfgoaaGreatDoorKey
import Derived.Deep.DeepCutAuto
import Derived.Deep.CutBlock
namespace Go.Proofs.YtkdgageljgfgoaaGreatDoor

def badRune (r least : Nat) : Prop := r < least ∨ 1114111 < r ∨ (55296 ≤ r ∧ r ≤ 57343)
instance (r least : Nat) : Decidable (badRune r least) := by unfold badRune; infer_instance
def kr (r : Nat) : Bool := decide (32 ≤ r) && decide (r ≠ 47)
end Go.Proofs.YtkdgageljgfgoaaGreatDoor
namespace Go.Proofs.YtkdgageljgfgoaaGreatDoor
open Go.RowKit Go.Shelf
set_option linter.unusedSimpArgs false

/-- The slice value v owns the numbers L, in a block from B on. -/
def Oi (w : World) (B : Nat) (v : Value) (L : List Nat) : Prop := w.ownsRow B 3 1 v L.length (L.map (fun (n : Nat) => Value.int .i64 (n : Int)))
theorem Oi.nil (w : World) (B : Nat) : Oi w B (.slice none 0 0) [] := World.ownsRow_nil _ _ _ _
theorem Oi.shape {w : World} {B : Nat} {v : Value} {L : List Nat} (h : Oi w B v L) : ∃ ao c, v = .slice ao L.length c ∧ ∀ (j n : Nat), L[j]? = some n → ∃ g off, ao = some ⟨g, off, none⟩ ∧ w.cell? ⟨g, off + j, none⟩ = some (.int .i64 (n : Int)) := by
  have hcells := fun g => World.ownsRow.cells h (g := g)
  rcases h.2 with ⟨rfl, hn⟩ | ⟨g, cap, cur, rfl, hb, hg, hnc, rest⟩
  · refine ⟨none, 0, by rw [hn], fun j n hj => ?_⟩
    rw [List.eq_nil_of_length_eq_zero hn] at hj
    cases hj
  · refine ⟨some ⟨g, 0, none⟩, cap, rfl, fun j n hj => ⟨g, 0, rfl, ?_⟩⟩
    have := hcells g rfl j (.int .i64 (n : Int)) (by rw [List.getElem?_map, hj]; rfl)
    rw [add_lit] at this
    exact this

/-- What runes answers: V: is it right UTF-8; A: may its bytes stand in a key. -/
def RunesE (w w' : World) (V A : Bool) (e : Ending) : Prop := ∃ v L, e = .returned (.tuple #[v, .bool V]) ∧ Oi w' w.heap.size v L ∧ (V = true → L.all kr = A ∧ L.length ≤ 1000000) ∧ (V = false → L = [])
theorem RunesE.no {w w' : World} {V A : Bool} (h : V = false) : RunesE w w' V A (.returned (.tuple #[.slice none 0 0, .bool false])) := ⟨_, [], by rw [h], Oi.nil _ _, by rw [h]; simp, fun _ => rfl⟩
end Go.Proofs.YtkdgageljgfgoaaGreatDoor
