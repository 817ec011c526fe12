/-
  SMALL LAWS for walks over slices of bytes: a slice that the call owns ('Own'), one that can be read ('Rd'), what a law on append leaves, strings of bytes. It names no function of the program.
-/
import Derived.WalkKit
import Derived.WalkSpells
import Derived.WalkLawsBesides
import Derived.Laws.AppendOwnNone
import Derived.Laws.BytesArg
namespace Go.Proofs.YtkeldhohilmdcaaGreat
open Go.RowKit

/-- Bytes as cells. -/
def u8s (l : List Int) : List Value := l.map (Value.int .u8)
theorem u8s_length (l : List Int) : (u8s l).length = l.length := by simp [u8s]
theorem u8s_get (l : List Int) (j : Nat) : (u8s l)[j]? = l[j]?.map (Value.int .u8) := by simp [u8s]
/-- The slice value v owns the bytes l, in a block from B on. -/
def Own (e : TypeId) (w : World) (B : Nat) (v : Value) (l : List Int) : Prop := w.ownsRow B e 1 v l.length (u8s l)

/-- Behind this address lie the bytes l. -/
def Rd (w : World) (ao : Option Addr) (l : List Int) : Prop :=
  (ao = none → l = []) ∧ ∀ a, ao = some a → ∀ j u, (u8s l)[j]? = some u → w.cell? (a.add j) = some u

theorem add_lit (g off j : Nat) : (⟨g, off, none⟩ : Addr).add j = ⟨g, off + j, none⟩ := by
  unfold Addr.add; split <;> simp_all

theorem Own.shape {e : TypeId} {w : World} {B : Nat} {v : Value} {l : List Int} (h : Own e w B v l) : ∃ ao cap, v = .slice ao l.length cap ∧ Rd w ao l ∧ (∀ a, ao = some a → B ≤ a.block ∧ a.block < w.heap.size) := by
  have hlt := World.ownsRow.lt h
  have hcells := fun g => World.ownsRow.cells h (g := g)
  rcases h.2 with ⟨rfl, hn⟩ | ⟨g, cap, cur, rfl, hb, hg, rest⟩
  · refine ⟨none, 0, by rw [hn], ⟨fun _ => List.eq_nil_of_length_eq_zero hn, by simp⟩, by simp⟩
  · refine ⟨some ⟨g, 0, none⟩, cap, rfl, ⟨by simp, ?_⟩, ?_⟩
    · intro a ha j u hj
      cases ha
      exact hcells g rfl j u hj
    · intro a ha
      cases ha
      exact hlt g rfl

theorem Own.blk {e : TypeId} {w : World} {B n cap : Nat} {ao : Option Addr} {l : List Int} (h : Own e w B (.slice ao n cap) l) : ∀ a, ao = some a → B ≤ a.block ∧ a.block < w.heap.size := by
  obtain ⟨ao', cap', hv, _, hr⟩ := h.shape
  simp only [Value.slice.injEq] at hv
  rw [hv.1]; exact hr

theorem Rd.below {w w' : World} {ao : Option Addr} {l : List Int} (h : Rd w ao l) (hb : Below w.heap.size w w') : Rd w' ao l :=
  ⟨h.1, fun a ha j u hj => by
    have hc := h.2 a ha j u hj
    rw [hb.cell (World.block_lt_of_cell? w _ hc)]
    exact hc⟩

/-- Bytes stay where a block is written that is not theirs. -/
theorem Rd.grown {w w' : World} {ao : Option Addr} {l : List Int} {row : Option Nat} (h : Rd w ao l) (hg : w.grownBy w' row) (hne : ∀ a, ao = some a → some a.block ≠ row) : Rd w' ao l :=
  ⟨h.1, fun a ha j u hj => by
    refine hg.cell (h.2 a ha j u hj) ?_
    have : (a.add j).block = a.block := by unfold Addr.add; split <;> rfl
    rw [this]
    exact hne a ha⟩

theorem Rd.nil (w : World) (ao : Option Addr) : Rd w ao [] := ⟨fun _ => rfl, by simp [u8s]⟩

theorem Rd.take {w : World} {ao : Option Addr} {l : List Int} (h : Rd w ao l) (k : Nat) : Rd w ao (l.take k) :=
  ⟨fun ha => by rw [h.1 ha]; simp, fun a ha j u hj => h.2 a ha j u (by
    rw [u8s_get] at hj ⊢
    rw [List.getElem?_take] at hj
    split at hj
    · exact hj
    · cases hj)⟩

theorem Own.alloc {e : TypeId} {w : World} {B : Nat} {v : Value} {l : List Int} (h : Own e w B v l) (o : Obj) : Own e (w.alloc o) B v l := World.ownsRow.alloc h o
theorem Own.drew {e : TypeId} {w : World} {B : Nat} {v : Value} {l : List Int} (h : Own e w B v l) : Own e w.drew B v l := h
theorem Own.nil (e : TypeId) (w : World) (B : Nat) : Own e w B (.slice none 0 0) [] := World.ownsRow_nil _ _ _ _

/-- What is owned stays so while another block is written. -/
theorem Own.kept {e : TypeId} {w w' : World} {B : Nat} {v : Value} {l : List Int} {row : Option Nat} (h : Own e w B v l) (hg : w.grownBy w' row) (hne : v.ownBlock = none ∨ v.ownBlock ≠ row) : Own e w' B v l := World.ownsRow.kept h hg hne
theorem Own.below {e : TypeId} {w w' : World} {B : Nat} {v : Value} {l : List Int} (h : Own e w B v l) (hb : Below w.heap.size w w') : Own e w' B v l :=
  h.kept (row := none) ⟨hb.os, hb.tape, hb.output, hb.size, fun k hk _ => hb.block k hk⟩ (by cases v.ownBlock <;> simp)
theorem Own.lift {e : TypeId} {w : World} {B B' : Nat} {v : Value} {l : List Int} (h : Own e w B v l) (hB : B' ≤ B) : Own e w B' v l := by
  refine ⟨h.1, ?_⟩
  rcases h.2 with h2 | ⟨g, cap, cur, h1, h2, h3⟩
  · exact .inl h2
  · exact .inr ⟨g, cap, cur, h1, by omega, h3⟩

end Go.Proofs.YtkeldhohilmdcaaGreat
