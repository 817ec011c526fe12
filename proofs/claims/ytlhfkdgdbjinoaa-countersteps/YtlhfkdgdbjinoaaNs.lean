/-
  NUMBERS IN A ROW: slices of int64 that the call owns ('Nw'), that can be read ('Nd'), the laws on append over them.
-/
import Derived.Test.YtlhfkdgdbjinoaaMoves
namespace Go.Proofs.Ytlhfkdgdbjinoaa
open Go.RowKit
set_option linter.unusedSimpArgs false

/-- Bytes as cells. -/
def n64s (l : List Int) : List Value := l.map (Value.int .i64)
theorem n64s_length (l : List Int) : (n64s l).length = l.length := by simp [n64s]
theorem n64s_append (a b : List Int) : n64s (a ++ b) = n64s a ++ n64s b := by simp [n64s]
theorem n64s_get (l : List Int) (j : Nat) : (n64s l)[j]? = l[j]?.map (Value.int .i64) := by simp [n64s]
theorem n64s_one {l : List Int} : ∀ u ∈ n64s l, u.oneCell' = true := by
  intro u hu; simp [n64s] at hu; obtain ⟨x, _, rfl⟩ := hu; rfl

/-- The slice value v owns the bytes l, in a block from B on. -/
def Nw (e : TypeId) (w : World) (B : Nat) (v : Value) (l : List Int) : Prop := w.ownsRow B e 1 v l.length (n64s l)

/-- Behind this address lie the bytes l. -/
def Nd (w : World) (ao : Option Addr) (l : List Int) : Prop :=
  (ao = none → l = []) ∧ ∀ a, ao = some a → ∀ j u, (n64s l)[j]? = some u → w.cell? (a.add j) = some u

theorem Nw.shape {e : TypeId} {w : World} {B : Nat} {v : Value} {l : List Int} (h : Nw e w B v l) : ∃ ao cap, v = .slice ao l.length cap ∧ Nd w ao l ∧ (∀ a, ao = some a → B ≤ a.block ∧ a.block < w.heap.size) := by
  have hlt := World.ownsRow.lt h
  have hcells := fun g => World.ownsRow.cells h (g := g)
  rcases h.2 with ⟨rfl, hn⟩ | ⟨g, cap, cur, rfl, hb, hg, rest⟩
  · refine ⟨none, 0, by rw [hn], ⟨fun _ => List.eq_nil_of_length_eq_zero hn, by simp⟩, by simp⟩
  · refine ⟨some ⟨g, 0, none⟩, cap, rfl, ⟨by simp, ?_⟩, ?_⟩
    · intro a ha j u hj
      cases ha
      exact hcells g rfl j u hj
    · intro a ha
      cases ha
      exact hlt g rfl

theorem Nw.rd {e : TypeId} {w : World} {B n cap : Nat} {ao : Option Addr} {l : List Int} (h : Nw e w B (.slice ao n cap) l) : Nd w ao l := by
  obtain ⟨ao', cap', hv, hr, _⟩ := h.shape
  simp only [Value.slice.injEq] at hv
  rw [hv.1]; exact hr
theorem Nw.blk {e : TypeId} {w : World} {B n cap : Nat} {ao : Option Addr} {l : List Int} (h : Nw e w B (.slice ao n cap) l) : ∀ a, ao = some a → B ≤ a.block ∧ a.block < w.heap.size := by
  obtain ⟨ao', cap', hv, _, hr⟩ := h.shape
  simp only [Value.slice.injEq] at hv
  rw [hv.1]; exact hr

theorem Nd.below {w w' : World} {ao : Option Addr} {l : List Int} (h : Nd w ao l) (hb : Below w.heap.size w w') : Nd w' ao l :=
  ⟨h.1, fun a ha j u hj => by
    have hc := h.2 a ha j u hj
    rw [hb.cell (World.block_lt_of_cell? w _ hc)]
    exact hc⟩

/-- Bytes stay where a block is written that is not theirs. -/
theorem Nd.grown {w w' : World} {ao : Option Addr} {l : List Int} {row : Option Nat} (h : Nd w ao l) (hg : w.grownBy w' row) (hne : ∀ a, ao = some a → some a.block ≠ row) : Nd w' ao l :=
  ⟨h.1, fun a ha j u hj => by
    refine hg.cell (h.2 a ha j u hj) ?_
    have : (a.add j).block = a.block := by unfold Addr.add; split <;> rfl
    rw [this]
    exact hne a ha⟩

theorem Nd.nil (w : World) (ao : Option Addr) : Nd w ao [] := ⟨fun _ => rfl, by simp [n64s]⟩

theorem Nd.take {w : World} {ao : Option Addr} {l : List Int} (h : Nd w ao l) (k : Nat) : Nd w ao (l.take k) :=
  ⟨fun ha => by rw [h.1 ha]; simp, fun a ha j u hj => h.2 a ha j u (by
    rw [n64s_get] at hj ⊢
    rw [List.getElem?_take] at hj
    split at hj
    · exact hj
    · cases hj)⟩

/-- Bytes that are read, laid on what is owned, at a call of append. -/
theorem wpList_append_nd {P : Program} {w : World} {ops : Array Oper} {rest : List Oper} {o : Oper} {a : Act} {Q : Exit → Act → World → Prop} (hgd : o.guard = none) (s x : Operand) (t : TypeId)
    (ho : o.op = .call { callee := .builtin .append, args := #[s, x], argTypes := #[t, t] })
    (B : Nat) (e : TypeId) (i : TypeInfo) (ht : P.underlying t = some (.slice e)) (hi : P.info? e = some i) (hz : i.zero = some (.int .i64 0))
    (hsize : i.size = 1) (hby : i.bytes = 8)
    (v : Value) (p : List Int) (hs : a.eval s = v) (hown : Nw e w B v p)
    (ao : Option Addr) (c : Nat) (l : List Int) (hx : a.eval x = .slice ao l.length c) (hc : ao = none → c = 0) (hrd : Nd w ao l)
    (hbytes : p.length + l.length ≤ 17592186044416) (hbase : B ≤ w.heap.size)
    (h : ∀ ao' cap' w', Nw e w' B (.slice ao' (p.length + l.length) cap') (p ++ l) → w.grownBy w' v.ownBlock → (ao' = none → cap' = 0) →
      wpList P ops Q rest (a.put o.dst (.slice ao' (p.length + l.length) cap')) w') : wpList P ops Q (o :: rest) a w := by
  cases ao with
  | none =>
    have hl := hrd.1 rfl
    subst hl
    have hc0 := hc rfl
    subst hc0
    obtain ⟨ao', cap', rfl, _, _⟩ := hown.shape
    refine wpList_append_own_none hgd s x t ho B e i 1 ht hi _ _ _ hs hown hx ?_
    have := h ao' cap' w (by simpa [Nw] using hown) (World.grownBy.refl _ _) (by
      intro hn; subst hn
      rcases hown.2 with ⟨h1, _⟩ | ⟨g, cap, cur, h1, _⟩
      · simp at h1; exact h1.2
      · simp at h1)
    simpa using this
  | some ad =>
    refine wpList_append_own w hgd s x t ho B e i (.int .i64 0) 1 8 ht hi hz hsize hby rfl (by decide) v _ _ hs hown ad l.length c (n64s l) hx (by simp [n64s]) (fun j u hj => hrd.2 ad rfl j u hj) n64s_one
      (by unfold maxLen; omega) (by omega) hbase ?_
    intro v' w' hown' hg _
    have hown2 : Nw e w' B v' (p ++ l) := by
      unfold Nw; rw [n64s_append, List.length_append]; exact hown'
    obtain ⟨ao', cap', rfl, _, _⟩ := hown2.shape
    have hown3 := hown2
    have := h ao' cap' w' (by simpa using hown3) hg (by
      intro hn; subst hn
      rcases hown2.2 with ⟨h1, _⟩ | ⟨g, cap, cur, h1, _⟩
      · simp at h1; exact h1.2
      · simp at h1)
    simpa using this

/-- One byte more on what is owned: 'append(out, x)', where x has been laid at ad. -/
theorem wpList_pushN {P : Program} {w : World} {ops : Array Oper} {rest : List Oper} {o : Oper} {a : Act} {Q : Exit → Act → World → Prop} (hgd : o.guard = none) (s x : Operand) (t : TypeId)
    (ho : o.op = .call { callee := .builtin .append, args := #[s, x], argTypes := #[t, t] })
    (B : Nat) (e : TypeId) (i : TypeInfo) (ht : P.underlying t = some (.slice e)) (hi : P.info? e = some i) (hz : i.zero = some (.int .i64 0))
    (hsize : i.size = 1) (hby : i.bytes = 8)
    (v : Value) (p : List Int) (hs : a.eval s = v) (hown : Nw e w B v p)
    (ad : Addr) (c : Nat) (b : Int) (hx : a.eval x = .slice (some ad) 1 c) (hcell : w.cell? ad = some (.int .i64 b))
    (hbytes : p.length + 1 ≤ 17592186044416) (hbase : B ≤ w.heap.size)
    (h : ∀ ao' cap' w', Nw e w' B (.slice ao' (p.length + 1) cap') (p ++ [b]) → w.grownBy w' v.ownBlock → (ao' = none → cap' = 0) →
      wpList P ops Q rest (a.put o.dst (.slice ao' (p.length + 1) cap')) w') : wpList P ops Q (o :: rest) a w := by
  refine wpList_append_nd hgd s x t ho B e i ht hi hz hsize hby v p hs hown (some ad) c [b] hx (by simp) ⟨by simp, ?_⟩ (by simpa using hbytes) hbase ?_
  · intro a' ha' j u hj
    cases ha'
    match j, hj with
    | 0, hj => simp [n64s] at hj; subst hj; simpa [Addr.add] using hcell
  · intro ao' cap' w' h1 h2 h3
    exact h ao' cap' w' h1 h2 h3

theorem Nw.alloc {e : TypeId} {w : World} {B : Nat} {v : Value} {l : List Int} (h : Nw e w B v l) (o : Obj) : Nw e (w.alloc o) B v l := World.ownsRow.alloc h o
theorem Nw.drew {e : TypeId} {w : World} {B : Nat} {v : Value} {l : List Int} (h : Nw e w B v l) : Nw e w.drew B v l := h
theorem Nw.nil (e : TypeId) (w : World) (B : Nat) : Nw e w B (.slice none 0 0) [] := World.ownsRow_nil _ _ _ _

/-- What is owned stays so while another block is written. -/
theorem Nw.kept {e : TypeId} {w w' : World} {B : Nat} {v : Value} {l : List Int} {row : Option Nat} (h : Nw e w B v l) (hg : w.grownBy w' row) (hne : v.ownBlock = none ∨ v.ownBlock ≠ row) : Nw e w' B v l := World.ownsRow.kept h hg hne
theorem Nw.below {e : TypeId} {w w' : World} {B : Nat} {v : Value} {l : List Int} (h : Nw e w B v l) (hb : Below w.heap.size w w') : Nw e w' B v l :=
  h.kept (row := none) ⟨hb.os, hb.tape, hb.output, hb.size, fun k hk _ => hb.block k hk⟩ (by cases v.ownBlock <;> simp)
theorem Nw.lift {e : TypeId} {w : World} {B B' : Nat} {v : Value} {l : List Int} (h : Nw e w B v l) (hB : B' ≤ B) : Nw e w B' v l := by
  refine ⟨h.1, ?_⟩
  rcases h.2 with h2 | ⟨g, cap, cur, h1, h2, h3⟩
  · exact .inl h2
  · exact .inr ⟨g, cap, cur, h1, by omega, h3⟩

/-- What a law that ends in 'grownBy' leaves of 'Below'. -/
theorem below_nw {B : Nat} {w wr w1 : World} {e : TypeId} {v : Value} {l : List Int} (hb : Below B w wr) (hBw : B ≤ wr.heap.size)
    (hown : Nw e wr B v l) (hg : wr.grownBy w1 v.ownBlock) : Below B w w1 :=
  hb.grown hg hBw (fun k hk => by have := (World.ownsRow.lt hown k hk).1; omega)

/-- What a call that answers new bytes leaves. -/
def MadeN (e : TypeId) (w w' : World) (x : Ending) (l : List Int) : Prop :=
  ∃ ao cap, x = .returned (.slice ao l.length cap) ∧ Nw e w' w.heap.size (.slice ao l.length cap) l ∧ (ao = none → cap = 0) ∧ Below w.heap.size w w'

theorem Only.nd {C : Nat → Prop} {w w' : World} {ao : Option Addr} {l : List Int} (h : Only C w w') (hr : Nd w ao l) (hC : ∀ a, ao = some a → ¬ C a.block) : Nd w' ao l :=
  ⟨hr.1, fun a ha j u hj => h.cell (hr.2 a ha j u hj) (by
    have : (a.add j).block = a.block := by unfold Addr.add; split <;> rfl
    rw [this]; exact hC a ha)⟩
theorem Only.nw {C : Nat → Prop} {w w' : World} {B : Nat} {e : TypeId} {v : Value} {l : List Int} (h : Only C w w') (ho : Nw e w B v l) (hC : ∀ k, v.ownBlock = some k → ¬ C k) : Nw e w' B v l := h.row ho hC
/-- A byte of what can be read. -/
theorem Nd.at {w : World} {ao : Option Addr} {l : List Int} (h : Nd w ao l) {k : Nat} {b : Int} (hb : l[k]? = some b) : ∃ ab off, ao = some ⟨ab, off, none⟩ ∧ w.cell? ⟨ab, off + k, none⟩ = some (.int .i64 b) := by
  cases ao with
  | none => have := h.1 rfl; subst this; simp at hb
  | some a =>
    obtain ⟨ab, off, sp⟩ := a
    have hl : 0 < l.length := by have := (List.getElem?_eq_some_iff.1 hb).1; omega
    have h0 := h.2 _ rfl 0 (.int .i64 l[0]) (by rw [n64s_get, List.getElem?_eq_getElem hl]; rfl)
    simp only [Addr.add, if_true] at h0
    have hs : sp = none := World.cell?_spot h0
    subst hs
    have hk := h.2 _ rfl k (.int .i64 b) (by rw [n64s_get, hb]; rfl)
    rw [add_lit] at hk
    exact ⟨ab, off, rfl, hk⟩

end Go.Proofs.Ytlhfkdgdbjinoaa
