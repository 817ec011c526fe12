/-
  SMALL LAWS for walks over slices of bytes: a slice that the call owns ('Own'), one that can be read ('Rd'), what a law on append leaves, strings of bytes. It names no function of the program.
-/
import Derived.WalkKit
import Derived.WalkSpells
import Derived.WalkLawsBesides
import Derived.Laws.AppendOwnNone
import Derived.Laws.BytesArg
namespace Go.Proofs.YtkeldhohilmdcaaGreat
open Go.RowKit

/-- Bytes as cells. -/
def u8s (l : List Int) : List Value := l.map (Value.int .u8)
theorem u8s_length (l : List Int) : (u8s l).length = l.length := by simp [u8s]
theorem u8s_append (a b : List Int) : u8s (a ++ b) = u8s a ++ u8s b := by simp [u8s]
theorem u8s_get (l : List Int) (j : Nat) : (u8s l)[j]? = l[j]?.map (Value.int .u8) := by simp [u8s]
theorem u8s_one {l : List Int} : ∀ u ∈ u8s l, u.oneCell' = true := by
  intro u hu; simp [u8s] at hu; obtain ⟨x, _, rfl⟩ := hu; rfl

/-- The slice value v owns the bytes l, in a block from B on. -/
def Own (e : TypeId) (w : World) (B : Nat) (v : Value) (l : List Int) : Prop := w.ownsRow B e 1 v l.length (u8s l)

/-- Behind this address lie the bytes l. -/
def Rd (w : World) (ao : Option Addr) (l : List Int) : Prop :=
  (ao = none → l = []) ∧ ∀ a, ao = some a → ∀ j u, (u8s l)[j]? = some u → w.cell? (a.add j) = some u

theorem add_lit (g off j : Nat) : (⟨g, off, none⟩ : Addr).add j = ⟨g, off + j, none⟩ := by
  unfold Addr.add; split <;> simp_all

theorem Own.shape {e : TypeId} {w : World} {B : Nat} {v : Value} {l : List Int} (h : Own e w B v l) : ∃ ao cap, v = .slice ao l.length cap ∧ Rd w ao l ∧ (∀ a, ao = some a → B ≤ a.block ∧ a.block < w.heap.size) := by
  have hlt := World.ownsRow.lt h
  have hcells := fun g => World.ownsRow.cells h (g := g)
  rcases h.2 with ⟨rfl, hn⟩ | ⟨g, cap, cur, rfl, hb, hg, rest⟩
  · refine ⟨none, 0, by rw [hn], ⟨fun _ => List.eq_nil_of_length_eq_zero hn, by simp⟩, by simp⟩
  · refine ⟨some ⟨g, 0, none⟩, cap, rfl, ⟨by simp, ?_⟩, ?_⟩
    · intro a ha j u hj
      cases ha
      exact hcells g rfl j u hj
    · intro a ha
      cases ha
      exact hlt g rfl

theorem Own.rd {e : TypeId} {w : World} {B n cap : Nat} {ao : Option Addr} {l : List Int} (h : Own e w B (.slice ao n cap) l) : Rd w ao l := by
  obtain ⟨ao', cap', hv, hr, _⟩ := h.shape
  simp only [Value.slice.injEq] at hv
  rw [hv.1]; exact hr
theorem Own.blk {e : TypeId} {w : World} {B n cap : Nat} {ao : Option Addr} {l : List Int} (h : Own e w B (.slice ao n cap) l) : ∀ a, ao = some a → B ≤ a.block ∧ a.block < w.heap.size := by
  obtain ⟨ao', cap', hv, _, hr⟩ := h.shape
  simp only [Value.slice.injEq] at hv
  rw [hv.1]; exact hr

theorem Rd.below {w w' : World} {ao : Option Addr} {l : List Int} (h : Rd w ao l) (hb : Below w.heap.size w w') : Rd w' ao l :=
  ⟨h.1, fun a ha j u hj => by
    have hc := h.2 a ha j u hj
    rw [hb.cell (World.block_lt_of_cell? w _ hc)]
    exact hc⟩

/-- Bytes stay where a block is written that is not theirs. -/
theorem Rd.grown {w w' : World} {ao : Option Addr} {l : List Int} {row : Option Nat} (h : Rd w ao l) (hg : w.grownBy w' row) (hne : ∀ a, ao = some a → some a.block ≠ row) : Rd w' ao l :=
  ⟨h.1, fun a ha j u hj => by
    refine hg.cell (h.2 a ha j u hj) ?_
    have : (a.add j).block = a.block := by unfold Addr.add; split <;> rfl
    rw [this]
    exact hne a ha⟩

theorem Rd.nil (w : World) (ao : Option Addr) : Rd w ao [] := ⟨fun _ => rfl, by simp [u8s]⟩

theorem Rd.take {w : World} {ao : Option Addr} {l : List Int} (h : Rd w ao l) (k : Nat) : Rd w ao (l.take k) :=
  ⟨fun ha => by rw [h.1 ha]; simp, fun a ha j u hj => h.2 a ha j u (by
    rw [u8s_get] at hj ⊢
    rw [List.getElem?_take] at hj
    split at hj
    · exact hj
    · cases hj)⟩

/-- Bytes that are read, laid on what is owned, at a call of append. -/
theorem wpList_append_rd {P : Program} {w : World} {ops : Array Oper} {rest : List Oper} {o : Oper} {a : Act} {Q : Exit → Act → World → Prop} (hgd : o.guard = none) (s x : Operand) (t : TypeId)
    (ho : o.op = .call { callee := .builtin .append, args := #[s, x], argTypes := #[t, t] })
    (B : Nat) (e : TypeId) (i : TypeInfo) (ht : P.underlying t = some (.slice e)) (hi : P.info? e = some i) (hz : i.zero = some (.int .u8 0))
    (hsize : i.size = 1) (hby : i.bytes = 1)
    (v : Value) (p : List Int) (hs : a.eval s = v) (hown : Own e w B v p)
    (ao : Option Addr) (c : Nat) (l : List Int) (hx : a.eval x = .slice ao l.length c) (hc : ao = none → c = 0) (hrd : Rd w ao l)
    (hbytes : p.length + l.length ≤ 140737488355328) (hbase : B ≤ w.heap.size)
    (h : ∀ ao' cap' w', Own e w' B (.slice ao' (p.length + l.length) cap') (p ++ l) → w.grownBy w' v.ownBlock → (ao' = none → cap' = 0) →
      wpList P ops Q rest (a.put o.dst (.slice ao' (p.length + l.length) cap')) w') : wpList P ops Q (o :: rest) a w := by
  cases ao with
  | none =>
    have hl := hrd.1 rfl
    subst hl
    have hc0 := hc rfl
    subst hc0
    obtain ⟨ao', cap', rfl, _, _⟩ := hown.shape
    refine wpList_append_own_none hgd s x t ho B e i 1 ht hi _ _ _ hs hown hx ?_
    have := h ao' cap' w (by simpa [Own] using hown) (World.grownBy.refl _ _) (by
      intro hn; subst hn
      rcases hown.2 with ⟨h1, _⟩ | ⟨g, cap, cur, h1, _⟩
      · simp at h1; exact h1.2
      · simp at h1)
    simpa using this
  | some ad =>
    refine wpList_append_own w hgd s x t ho B e i (.int .u8 0) 1 1 ht hi hz hsize hby rfl (by decide) v _ _ hs hown ad l.length c (u8s l) hx (by simp [u8s]) (fun j u hj => hrd.2 ad rfl j u hj) u8s_one
      (by unfold maxLen; omega) (by omega) hbase ?_
    intro v' w' hown' hg _
    have hown2 : Own e w' B v' (p ++ l) := by
      unfold Own; rw [u8s_append, List.length_append]; exact hown'
    obtain ⟨ao', cap', rfl, _, _⟩ := hown2.shape
    have hown3 := hown2
    have := h ao' cap' w' (by simpa using hown3) hg (by
      intro hn; subst hn
      rcases hown2.2 with ⟨h1, _⟩ | ⟨g, cap, cur, h1, _⟩
      · simp at h1; exact h1.2
      · simp at h1)
    simpa using this

/-- One byte more on what is owned: 'append(out, x)', where x has been laid at ad. -/
theorem wpList_push {P : Program} {w : World} {ops : Array Oper} {rest : List Oper} {o : Oper} {a : Act} {Q : Exit → Act → World → Prop} (hgd : o.guard = none) (s x : Operand) (t : TypeId)
    (ho : o.op = .call { callee := .builtin .append, args := #[s, x], argTypes := #[t, t] })
    (B : Nat) (e : TypeId) (i : TypeInfo) (ht : P.underlying t = some (.slice e)) (hi : P.info? e = some i) (hz : i.zero = some (.int .u8 0))
    (hsize : i.size = 1) (hby : i.bytes = 1)
    (v : Value) (p : List Int) (hs : a.eval s = v) (hown : Own e w B v p)
    (ad : Addr) (c : Nat) (b : Int) (hx : a.eval x = .slice (some ad) 1 c) (hcell : w.cell? ad = some (.int .u8 b))
    (hbytes : p.length + 1 ≤ 140737488355328) (hbase : B ≤ w.heap.size)
    (h : ∀ ao' cap' w', Own e w' B (.slice ao' (p.length + 1) cap') (p ++ [b]) → w.grownBy w' v.ownBlock → (ao' = none → cap' = 0) →
      wpList P ops Q rest (a.put o.dst (.slice ao' (p.length + 1) cap')) w') : wpList P ops Q (o :: rest) a w := by
  refine wpList_append_rd hgd s x t ho B e i ht hi hz hsize hby v p hs hown (some ad) c [b] hx (by simp) ⟨by simp, ?_⟩ (by simpa using hbytes) hbase ?_
  · intro a' ha' j u hj
    cases ha'
    match j, hj with
    | 0, hj => simp [u8s] at hj; subst hj; simpa [Addr.add] using hcell
  · intro ao' cap' w' h1 h2 h3
    exact h ao' cap' w' h1 h2 h3

theorem Own.alloc {e : TypeId} {w : World} {B : Nat} {v : Value} {l : List Int} (h : Own e w B v l) (o : Obj) : Own e (w.alloc o) B v l := World.ownsRow.alloc h o
theorem Own.drew {e : TypeId} {w : World} {B : Nat} {v : Value} {l : List Int} (h : Own e w B v l) : Own e w.drew B v l := h
theorem Own.nil (e : TypeId) (w : World) (B : Nat) : Own e w B (.slice none 0 0) [] := World.ownsRow_nil _ _ _ _

/-- What is owned stays so while another block is written. -/
theorem Own.kept {e : TypeId} {w w' : World} {B : Nat} {v : Value} {l : List Int} {row : Option Nat} (h : Own e w B v l) (hg : w.grownBy w' row) (hne : v.ownBlock = none ∨ v.ownBlock ≠ row) : Own e w' B v l := World.ownsRow.kept h hg hne
theorem Own.below {e : TypeId} {w w' : World} {B : Nat} {v : Value} {l : List Int} (h : Own e w B v l) (hb : Below w.heap.size w w') : Own e w' B v l :=
  h.kept (row := none) ⟨hb.os, hb.tape, hb.output, hb.size, fun k hk _ => hb.block k hk⟩ (by cases v.ownBlock <;> simp)
theorem Own.lift {e : TypeId} {w : World} {B B' : Nat} {v : Value} {l : List Int} (h : Own e w B v l) (hB : B' ≤ B) : Own e w B' v l := by
  refine ⟨h.1, ?_⟩
  rcases h.2 with h2 | ⟨g, cap, cur, h1, h2, h3⟩
  · exact .inl h2
  · exact .inr ⟨g, cap, cur, h1, by omega, h3⟩

/-- What a call that answers new bytes leaves. -/
def Made (e : TypeId) (w w' : World) (x : Ending) (l : List Int) : Prop :=
  ∃ ao cap, x = .returned (.slice ao l.length cap) ∧ Own e w' w.heap.size (.slice ao l.length cap) l ∧ (ao = none → cap = 0) ∧ Below w.heap.size w w'

end Go.Proofs.YtkeldhohilmdcaaGreat
