/-
  SMALL LAWS for walks over slices of bytes: a slice that the call owns ('Own'), one that can be read ('Rd'), what a law on append leaves, strings of bytes. It names no function of the program.
  FRAMES BY SETS OF BLOCKS: what a call leaves that turns several blocks at once ('Only C': of the old blocks none has turned but those in C), and what that leaves of bytes that can be read, of rows that are owned, of whole blocks. It names no function of the program.
-/
import Derived.WalkKit
import Derived.WalkSpells
import Derived.WalkLawsBesides
import Derived.Laws.AppendOwnNone
import Derived.Laws.BytesArg
namespace Go.Proofs.YtkdgageljgfgoaaDoor
open Go.RowKit

/-- Bytes as cells. -/
def u8s (l : List Int) : List Value := l.map (Value.int .u8)
theorem u8s_get (l : List Int) (j : Nat) : (u8s l)[j]? = l[j]?.map (Value.int .u8) := by simp [u8s]
/-- The slice value v owns the bytes l, in a block from B on. -/
def Own (e : TypeId) (w : World) (B : Nat) (v : Value) (l : List Int) : Prop := w.ownsRow B e 1 v l.length (u8s l)

/-- Behind this address lie the bytes l. -/
def Rd (w : World) (ao : Option Addr) (l : List Int) : Prop :=
  (ao = none → l = []) ∧ ∀ a, ao = some a → ∀ j u, (u8s l)[j]? = some u → w.cell? (a.add j) = some u

theorem add_lit (g off j : Nat) : (⟨g, off, none⟩ : Addr).add j = ⟨g, off + j, none⟩ := by
  unfold Addr.add; split <;> simp_all

theorem Own.shape {e : TypeId} {w : World} {B : Nat} {v : Value} {l : List Int} (h : Own e w B v l) : ∃ ao cap, v = .slice ao l.length cap ∧ Rd w ao l ∧ (∀ a, ao = some a → B ≤ a.block ∧ a.block < w.heap.size) := by
  have hlt := World.ownsRow.lt h
  have hcells := fun g => World.ownsRow.cells h (g := g)
  rcases h.2 with ⟨rfl, hn⟩ | ⟨g, cap, cur, rfl, hb, hg, rest⟩
  · refine ⟨none, 0, by rw [hn], ⟨fun _ => List.eq_nil_of_length_eq_zero hn, by simp⟩, by simp⟩
  · refine ⟨some ⟨g, 0, none⟩, cap, rfl, ⟨by simp, ?_⟩, ?_⟩
    · intro a ha j u hj
      cases ha
      exact hcells g rfl j u hj
    · intro a ha
      cases ha
      exact hlt g rfl

theorem Own.blk {e : TypeId} {w : World} {B n cap : Nat} {ao : Option Addr} {l : List Int} (h : Own e w B (.slice ao n cap) l) : ∀ a, ao = some a → B ≤ a.block ∧ a.block < w.heap.size := by
  obtain ⟨ao', cap', hv, _, hr⟩ := h.shape
  simp only [Value.slice.injEq] at hv
  rw [hv.1]; exact hr

theorem Rd.below {w w' : World} {ao : Option Addr} {l : List Int} (h : Rd w ao l) (hb : Below w.heap.size w w') : Rd w' ao l :=
  ⟨h.1, fun a ha j u hj => by
    have hc := h.2 a ha j u hj
    rw [hb.cell (World.block_lt_of_cell? w _ hc)]
    exact hc⟩

/-- Bytes stay where a block is written that is not theirs. -/
theorem Rd.grown {w w' : World} {ao : Option Addr} {l : List Int} {row : Option Nat} (h : Rd w ao l) (hg : w.grownBy w' row) (hne : ∀ a, ao = some a → some a.block ≠ row) : Rd w' ao l :=
  ⟨h.1, fun a ha j u hj => by
    refine hg.cell (h.2 a ha j u hj) ?_
    have : (a.add j).block = a.block := by unfold Addr.add; split <;> rfl
    rw [this]
    exact hne a ha⟩

theorem Rd.nil (w : World) (ao : Option Addr) : Rd w ao [] := ⟨fun _ => rfl, by simp [u8s]⟩

theorem Rd.take {w : World} {ao : Option Addr} {l : List Int} (h : Rd w ao l) (k : Nat) : Rd w ao (l.take k) :=
  ⟨fun ha => by rw [h.1 ha]; simp, fun a ha j u hj => h.2 a ha j u (by
    rw [u8s_get] at hj ⊢
    rw [List.getElem?_take] at hj
    split at hj
    · exact hj
    · cases hj)⟩

theorem Own.alloc {e : TypeId} {w : World} {B : Nat} {v : Value} {l : List Int} (h : Own e w B v l) (o : Obj) : Own e (w.alloc o) B v l := World.ownsRow.alloc h o
theorem Own.drew {e : TypeId} {w : World} {B : Nat} {v : Value} {l : List Int} (h : Own e w B v l) : Own e w.drew B v l := h
theorem Own.nil (e : TypeId) (w : World) (B : Nat) : Own e w B (.slice none 0 0) [] := World.ownsRow_nil _ _ _ _

/-- What is owned stays so while another block is written. -/
theorem Own.kept {e : TypeId} {w w' : World} {B : Nat} {v : Value} {l : List Int} {row : Option Nat} (h : Own e w B v l) (hg : w.grownBy w' row) (hne : v.ownBlock = none ∨ v.ownBlock ≠ row) : Own e w' B v l := World.ownsRow.kept h hg hne
theorem Own.below {e : TypeId} {w w' : World} {B : Nat} {v : Value} {l : List Int} (h : Own e w B v l) (hb : Below w.heap.size w w') : Own e w' B v l :=
  h.kept (row := none) ⟨hb.os, hb.tape, hb.output, hb.size, fun k hk _ => hb.block k hk⟩ (by cases v.ownBlock <;> simp)
theorem Own.lift {e : TypeId} {w : World} {B B' : Nat} {v : Value} {l : List Int} (h : Own e w B v l) (hB : B' ≤ B) : Own e w B' v l := by
  refine ⟨h.1, ?_⟩
  rcases h.2 with h2 | ⟨g, cap, cur, h1, h2, h3⟩
  · exact .inl h2
  · exact .inr ⟨g, cap, cur, h1, by omega, h3⟩

end Go.Proofs.YtkdgageljgfgoaaDoor
namespace Go.Proofs.YtkdgageljgfgoaaDoor
open Go.RowKit

/-- Of the old blocks none has turned but those in C. -/
structure Only (C : Nat → Prop) (w w' : World) : Prop where
  os : w'.os = w.os
  tape : w'.tape = w.tape
  output : w'.output = w.output
  size : w.heap.size ≤ w'.heap.size
  block : ∀ k, k < w.heap.size → ¬ C k → w'.heap[k]? = w.heap[k]?

def None : Nat → Prop := fun _ => False
theorem Only.refl (C : Nat → Prop) (w : World) : Only C w w := ⟨rfl, rfl, rfl, Nat.le_refl _, fun _ _ _ => rfl⟩
theorem Only.mono {C D : Nat → Prop} {w w' : World} (h : Only C w w') (hCD : ∀ k, k < w.heap.size → C k → D k) : Only D w w' :=
  ⟨h.os, h.tape, h.output, h.size, fun k hk hD => h.block k hk (fun hC => hD (hCD k hk hC))⟩
/-- One behind the other: what the second turns is new, or in the set. -/
theorem Only.trans {C D : Nat → Prop} {w w1 w2 : World} (h : Only C w w1) (k : Only D w1 w2) (hD : ∀ j, j < w.heap.size → D j → C j) : Only C w w2 :=
  ⟨k.os.trans h.os, k.tape.trans h.tape, k.output.trans h.output, Nat.le_trans h.size k.size, fun j hj hC => (k.block j (Nat.lt_of_lt_of_le hj h.size) (fun hd => hC (hD j hj hd))).trans (h.block j hj hC)⟩
theorem Only.ofBelow {w w' : World} (h : Below w.heap.size w w') : Only None w w' := ⟨h.os, h.tape, h.output, h.size, fun k hk _ => h.block k hk⟩
theorem Only.ofGrown {w w' : World} {row : Option Nat} (h : w.grownBy w' row) : Only (fun k => row = some k) w w' := ⟨h.os, h.tape, h.output, h.size, fun k hk hr => h.block k hk (fun e => hr e.symm)⟩
theorem Only.below {C : Nat → Prop} {w w' : World} {B : Nat} (h : Only C w w') (hB : B ≤ w.heap.size) (hC : ∀ k, C k → B ≤ k) : Below B w w' :=
  ⟨h.os, h.tape, h.output, h.size, fun k hk => h.block k (Nat.lt_of_lt_of_le hk hB) (fun c => absurd (hC k c) (Nat.not_le.2 hk))⟩
/-- A call that turns old blocks, seen from an elder world to which they are new. -/
theorem Below.only {C : Nat → Prop} {B : Nat} {w w1 w2 : World} (h : Below B w w1) (k : Only C w1 w2) (hB : B ≤ w1.heap.size) (hC : ∀ j, C j → B ≤ j) : Below B w w2 := h.trans (k.below hB hC)
theorem Only.alloc {C : Nat → Prop} {w w' : World} (h : Only C w w') (o : Obj) : Only C w (w'.alloc o) :=
  ⟨h.os, h.tape, h.output, Nat.le_trans h.size (by simp), fun k hk hC => (Below.heap_alloc w' o k (Nat.lt_of_lt_of_le hk h.size)).trans (h.block k hk hC)⟩
theorem Only.drew {C : Nat → Prop} {w w' : World} (h : Only C w w') : Only C w w'.drew := ⟨h.os, h.tape, h.output, h.size, h.block⟩
theorem Only.drewN {C : Nat → Prop} {w w' : World} (h : Only C w w') (n : Nat) : Only C w (w'.drewN n) := ⟨h.os, h.tape, h.output, h.size, h.block⟩
theorem Only.setCell {C : Nat → Prop} {w w' : World} (h : Only C w w') (a : Addr) (v : Value) (ha : a.block < w.heap.size → C a.block) : Only C w (w'.setCell a v) :=
  ⟨h.os, h.tape, h.output, by simpa using h.size, fun k hk hC => (Below.heap_setCell w' a v k (fun e => hC (by rw [e]; exact ha (by rw [← e]; exact hk)))).trans (h.block k hk hC)⟩

theorem Only.cell {C : Nat → Prop} {w w' : World} (h : Only C w w') {a : Addr} {v : Value} (hc : w.cell? a = some v) (hC : ¬ C a.block) : w'.cell? a = some v := by
  rw [World.cell?_of_block (h.block a.block (World.block_lt_of_cell? w a hc) hC)]; exact hc
theorem Only.row {C : Nat → Prop} {w w' : World} {B : Nat} {e : TypeId} {size n : Nat} {v : Value} {xs : List Value} (h : Only C w w') (ho : w.ownsRow B e size v n xs) (hC : ∀ k, v.ownBlock = some k → ¬ C k) : w'.ownsRow B e size v n xs := by
  have hlt := World.ownsRow.lt ho
  refine ⟨ho.1, ?_⟩
  rcases ho.2 with hn | ⟨g, cap, cur, rfl, hb, hg, rest⟩
  · exact .inl hn
  · exact .inr ⟨g, cap, cur, rfl, hb, by rw [h.block g (hlt g rfl).2 (hC g rfl)]; exact hg, rest⟩
theorem Only.own {C : Nat → Prop} {w w' : World} {B : Nat} {e : TypeId} {v : Value} {l : List Int} (h : Only C w w') (ho : Own e w B v l) (hC : ∀ k, v.ownBlock = some k → ¬ C k) : Own e w' B v l := h.row ho hC
end Go.Proofs.YtkdgageljgfgoaaDoor
