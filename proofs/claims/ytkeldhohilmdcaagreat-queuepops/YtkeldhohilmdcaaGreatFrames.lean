/-
  FRAMES BY SETS OF BLOCKS: what a call leaves that turns several blocks at once ('Only C': of the old blocks none has turned but those in C), and what that leaves of bytes that can be read, of rows that are owned, of whole blocks. It names no function of the program.
-/
import Derived.Test.YtkeldhohilmdcaaGreatKit
namespace Go.Proofs.YtkeldhohilmdcaaGreat
open Go.RowKit

/-- Of the old blocks none has turned but those in C. -/
structure Only (C : Nat → Prop) (w w' : World) : Prop where
  os : w'.os = w.os
  tape : w'.tape = w.tape
  output : w'.output = w.output
  size : w.heap.size ≤ w'.heap.size
  block : ∀ k, k < w.heap.size → ¬ C k → w'.heap[k]? = w.heap[k]?

def None : Nat → Prop := fun _ => False
theorem Only.refl (C : Nat → Prop) (w : World) : Only C w w := ⟨rfl, rfl, rfl, Nat.le_refl _, fun _ _ _ => rfl⟩
theorem Only.mono {C D : Nat → Prop} {w w' : World} (h : Only C w w') (hCD : ∀ k, k < w.heap.size → C k → D k) : Only D w w' :=
  ⟨h.os, h.tape, h.output, h.size, fun k hk hD => h.block k hk (fun hC => hD (hCD k hk hC))⟩
/-- One behind the other: what the second turns is new, or in the set. -/
theorem Only.trans {C D : Nat → Prop} {w w1 w2 : World} (h : Only C w w1) (k : Only D w1 w2) (hD : ∀ j, j < w.heap.size → D j → C j) : Only C w w2 :=
  ⟨k.os.trans h.os, k.tape.trans h.tape, k.output.trans h.output, Nat.le_trans h.size k.size, fun j hj hC => (k.block j (Nat.lt_of_lt_of_le hj h.size) (fun hd => hC (hD j hj hd))).trans (h.block j hj hC)⟩
theorem Only.ofBelow {w w' : World} (h : Below w.heap.size w w') : Only None w w' := ⟨h.os, h.tape, h.output, h.size, fun k hk _ => h.block k hk⟩
theorem Only.ofGrown {w w' : World} {row : Option Nat} (h : w.grownBy w' row) : Only (fun k => row = some k) w w' := ⟨h.os, h.tape, h.output, h.size, fun k hk hr => h.block k hk (fun e => hr e.symm)⟩
theorem Only.below {C : Nat → Prop} {w w' : World} {B : Nat} (h : Only C w w') (hB : B ≤ w.heap.size) (hC : ∀ k, C k → B ≤ k) : Below B w w' :=
  ⟨h.os, h.tape, h.output, h.size, fun k hk => h.block k (Nat.lt_of_lt_of_le hk hB) (fun c => absurd (hC k c) (Nat.not_le.2 hk))⟩
/-- A call that turns old blocks, seen from an elder world to which they are new. -/
theorem Below.only {C : Nat → Prop} {B : Nat} {w w1 w2 : World} (h : Below B w w1) (k : Only C w1 w2) (hB : B ≤ w1.heap.size) (hC : ∀ j, C j → B ≤ j) : Below B w w2 := h.trans (k.below hB hC)
theorem Only.alloc {C : Nat → Prop} {w w' : World} (h : Only C w w') (o : Obj) : Only C w (w'.alloc o) :=
  ⟨h.os, h.tape, h.output, Nat.le_trans h.size (by simp), fun k hk hC => (Below.heap_alloc w' o k (Nat.lt_of_lt_of_le hk h.size)).trans (h.block k hk hC)⟩
theorem Only.drew {C : Nat → Prop} {w w' : World} (h : Only C w w') : Only C w w'.drew := ⟨h.os, h.tape, h.output, h.size, h.block⟩
theorem Only.drewN {C : Nat → Prop} {w w' : World} (h : Only C w w') (n : Nat) : Only C w (w'.drewN n) := ⟨h.os, h.tape, h.output, h.size, h.block⟩
theorem Only.setCell {C : Nat → Prop} {w w' : World} (h : Only C w w') (a : Addr) (v : Value) (ha : a.block < w.heap.size → C a.block) : Only C w (w'.setCell a v) :=
  ⟨h.os, h.tape, h.output, by simpa using h.size, fun k hk hC => (Below.heap_setCell w' a v k (fun e => hC (by rw [e]; exact ha (by rw [← e]; exact hk)))).trans (h.block k hk hC)⟩

theorem Only.cell {C : Nat → Prop} {w w' : World} (h : Only C w w') {a : Addr} {v : Value} (hc : w.cell? a = some v) (hC : ¬ C a.block) : w'.cell? a = some v := by
  rw [World.cell?_of_block (h.block a.block (World.block_lt_of_cell? w a hc) hC)]; exact hc
theorem Only.row {C : Nat → Prop} {w w' : World} {B : Nat} {e : TypeId} {size n : Nat} {v : Value} {xs : List Value} (h : Only C w w') (ho : w.ownsRow B e size v n xs) (hC : ∀ k, v.ownBlock = some k → ¬ C k) : w'.ownsRow B e size v n xs := by
  have hlt := World.ownsRow.lt ho
  refine ⟨ho.1, ?_⟩
  rcases ho.2 with hn | ⟨g, cap, cur, rfl, hb, hg, rest⟩
  · exact .inl hn
  · exact .inr ⟨g, cap, cur, rfl, hb, by rw [h.block g (hlt g rfl).2 (hC g rfl)]; exact hg, rest⟩
theorem Only.own {C : Nat → Prop} {w w' : World} {B : Nat} {e : TypeId} {v : Value} {l : List Int} (h : Only C w w') (ho : Own e w B v l) (hC : ∀ k, v.ownBlock = some k → ¬ C k) : Own e w' B v l := h.row ho hC
end Go.Proofs.YtkeldhohilmdcaaGreat
