/-
  NODES IN MEMORY: what it is that a tree lies in a world; what the program's functions on one node answer; a new node.
-/
import Derived.Test.YtkeldhohilmdcaaGreatPAvl
import Derived.Test.YtkeldhohilmdcaaGreatShelf
import Derived.Test.YtkeldhohilmdcaaGreatMoves
import Derived.Deep.QuietTactic
import Derived.BigQuiet
import Derived.Sort.Grow
namespace Go.Proofs.YtkeldhohilmdcaaGreat.Pm
open Go.RowKit Go.Shelf
set_option linter.unusedSimpArgs false

def T.ptr : T → Value
  | .nil => .pointer none
  | .node p _ _ _ _ => .pointer (some ⟨p, 0, none⟩)
/-- A tree lies in a world. -/
def In (w : World) : T → Prop
  | .nil => True
  | .node p k v l r => w.heap[p]? = some (.cells #[.string k, .string v, l.ptr, r.ptr, .int .i64 (((T.node p k v l r).h : Nat) : Int), .int .i64 (((T.node p k v l r).n : Nat) : Int)] 154 (0, 0)) ∧ In w l ∧ In w r
theorem In.below {w w' : World} (hb : Below w.heap.size w w') : ∀ {t : T}, In w t → In w' t
  | .nil, _ => trivial
  | .node p _ _ _ _, ⟨h1, h2, h3⟩ => ⟨(hb.block p (Array.getElem?_eq_some_iff.1 h1).1).trans h1, In.below hb h2, In.below hb h3⟩
theorem In.lt {w : World} {p k v l r} (h : In w (.node p k v l r)) : p < w.heap.size := (Array.getElem?_eq_some_iff.1 h.1).1
/-- What a node's cells hold. -/
structure Cells6 (w : World) (p : Nat) (k : ByteArray) (v : ByteArray) (lp rp : Value) (h n : Int) : Prop where
  c0 : w.cell? ⟨p, 0, none⟩ = some (.string k)
  c1 : w.cell? ⟨p, 1, none⟩ = some (.string v)
  c2 : w.cell? ⟨p, 2, none⟩ = some lp
  c3 : w.cell? ⟨p, 3, none⟩ = some rp
  c4 : w.cell? ⟨p, 4, none⟩ = some (.int .i64 h)
  c5 : w.cell? ⟨p, 5, none⟩ = some (.int .i64 n)
theorem In.cells {w : World} {p k v l r} (h : In w (.node p k v l r)) : Cells6 w p k v l.ptr r.ptr ((T.node p k v l r).h : Nat) ((T.node p k v l r).n : Nat) := by
  have := h.1
  exact ⟨by rw [cell_of_row _ _ 0 _ 154 (0, 0) this]; rfl, by rw [cell_of_row _ _ 1 _ 154 (0, 0) this]; rfl, by rw [cell_of_row _ _ 2 _ 154 (0, 0) this]; rfl, by rw [cell_of_row _ _ 3 _ 154 (0, 0) this]; rfl, by rw [cell_of_row _ _ 4 _ 154 (0, 0) this]; rfl, by rw [cell_of_row _ _ 5 _ 154 (0, 0) this]; rfl⟩
theorem T.h_le_n : ∀ t : T, t.h ≤ t.n
  | .nil => Nat.le_refl _
  | .node _ _ _ l r => by have := T.h_le_n l; have := T.h_le_n r; simp only [T.h, T.n]; omega
theorem T.ptr_shape (t : T) : ∃ a, t.ptr = .pointer a := by cases t <;> exact ⟨_, rfl⟩

theorem height_any (t : T) (w : World) (h : In w t) : Calls Tryz.prog 163 #[t.ptr] w fun e w' => e = .returned (.int .i64 (t.h : Nat)) ∧ w' = w := by
  cases t with
  | nil =>
    go_enter Tryz.func163, Tryz.ntmps163
    simp only [T.ptr]
    go_wp2
    go_ret
    exact ⟨rfl, rfl⟩
  | node p k v l r =>
    have hc := h.cells.c4
    generalize ((T.node p k v l r).h : Nat) = H at hc ⊢
    go_enter Tryz.func163, Tryz.ntmps163
    simp only [T.ptr]
    go_wp2
    go_ret
    exact ⟨rfl, rfl⟩
theorem len_any (t : T) (w : World) (h : In w t) : Calls Tryz.prog 85 #[t.ptr] w fun e w' => e = .returned (.int .i64 (t.n : Nat)) ∧ w' = w := by
  cases t with
  | nil =>
    go_enter Tryz.func85, Tryz.ntmps85
    simp only [T.ptr]
    go_wp2
    go_ret
    exact ⟨rfl, rfl⟩
  | node p k v l r =>
    have hc := h.cells.c5
    generalize ((T.node p k v l r).n : Nat) = H at hc ⊢
    go_enter Tryz.func85, Tryz.ntmps85
    simp only [T.ptr]
    go_wp2
    go_ret
    exact ⟨rfl, rfl⟩
theorem In.left {w : World} {t : T} (h : In w t) : In w t.left := by cases t with | nil => trivial | node => exact h.2.1
theorem In.right {w : World} {t : T} (h : In w t) : In w t.right := by cases t with | nil => trivial | node => exact h.2.2
theorem key_any (t : T) (w : World) (h : In w t) : Calls Tryz.prog 192 #[t.ptr] w fun e w' => e = .returned (.string t.key) ∧ w' = w := by
  cases t with
  | nil =>
    go_enter Tryz.func192, Tryz.ntmps192
    simp only [T.ptr]
    go_wp2
    go_ret
    exact ⟨rfl, rfl⟩
  | node p k v l r =>
    have hc := h.cells.c0
    go_enter Tryz.func192, Tryz.ntmps192
    simp only [T.ptr]
    go_wp2
    go_ret
    exact ⟨rfl, rfl⟩
theorem value_any (t : T) (w : World) (h : In w t) : Calls Tryz.prog 92 #[t.ptr] w fun e w' => e = .returned (.string t.val) ∧ w' = w := by
  cases t with
  | nil =>
    go_enter Tryz.func92, Tryz.ntmps92
    simp only [T.ptr]
    go_wp2
    go_ret
    exact ⟨rfl, rfl⟩
  | node p k v l r =>
    have hc := h.cells.c1
    go_enter Tryz.func92, Tryz.ntmps92
    simp only [T.ptr]
    go_wp2
    go_ret
    exact ⟨rfl, rfl⟩
theorem left_any (t : T) (w : World) (h : In w t) : Calls Tryz.prog 157 #[t.ptr] w fun e w' => e = .returned t.left.ptr ∧ w' = w := by
  cases t with
  | nil =>
    go_enter Tryz.func157, Tryz.ntmps157
    simp only [T.ptr]
    go_wp2
    go_ret
    exact ⟨rfl, rfl⟩
  | node p k v l r =>
    have hc := h.cells.c2
    simp only [T.left]
    obtain ⟨a, ha⟩ := l.ptr_shape
    rw [ha] at hc ⊢
    go_enter Tryz.func157, Tryz.ntmps157
    simp only [T.ptr]
    go_wp2
    go_ret
    exact ⟨rfl, rfl⟩
theorem right_any (t : T) (w : World) (h : In w t) : Calls Tryz.prog 154 #[t.ptr] w fun e w' => e = .returned t.right.ptr ∧ w' = w := by
  cases t with
  | nil =>
    go_enter Tryz.func154, Tryz.ntmps154
    simp only [T.ptr]
    go_wp2
    go_ret
    exact ⟨rfl, rfl⟩
  | node p k v l r =>
    have hc := h.cells.c3
    simp only [T.right]
    obtain ⟨a, ha⟩ := r.ptr_shape
    rw [ha] at hc ⊢
    go_enter Tryz.func154, Tryz.ntmps154
    simp only [T.ptr]
    go_wp2
    go_ret
    exact ⟨rfl, rfl⟩

/-- What a call that makes a tree leaves. -/
def Gives (w : World) (e : Ending) (w' : World) (t : T) : Prop := e = .returned t.ptr ∧ In w' t ∧ Below w.heap.size w w'

theorem made_any (l r : T) (k : ByteArray) (v : ByteArray) (w : World) (hl : In w l) (hr : In w r) (hn : l.n + r.n ≤ 1000000) :
    Calls Tryz.prog 130 #[l.ptr, .string k, .string v, r.ptr] w fun e w' => Gives w e w' (.node w.heap.size k v l r) := by
  have h1 := height_any l w hl
  have h2 := height_any r w hr
  have h3 := len_any l w hl
  have h4 := len_any r w hr
  have hG : Gives w (.returned (.pointer (some ⟨w.heap.size, 0, none⟩))) (w.alloc (.cells #[.string k, .string v, l.ptr, r.ptr, .int .i64 (1 + max (l.h : Int) (r.h : Int)), .int .i64 (1 + (l.n : Int) + (r.n : Int))] 154)) (.node w.heap.size k v l r) := by
    have hb : Below w.heap.size w (w.alloc (.cells #[.string k, .string v, l.ptr, r.ptr, .int .i64 (1 + max (l.h : Int) (r.h : Int)), .int .i64 (1 + (l.n : Int) + (r.n : Int))] 154)) := (Below.refl _ w).alloc (Nat.le_refl _) _
    refine ⟨rfl, ⟨?_, In.below hb hl, In.below hb hr⟩, hb⟩
    rw [heap_alloc_new]
    have e1 : (1 + max (l.h : Int) (r.h : Int)) = (((T.node w.heap.size k v l r).h : Nat) : Int) := by simp only [T.h]; omega
    have e2 : (1 + (l.n : Int) + (r.n : Int)) = (((T.node w.heap.size k v l r).n : Nat) : Int) := by simp only [T.n]; omega
    rw [e1, e2]
  have b1 := l.h_le_n
  have b2 := r.h_le_n
  have HG := hide hG
  clear hG
  obtain ⟨a, ha⟩ := l.ptr_shape
  obtain ⟨b, hb⟩ := r.ptr_shape
  rw [ha] at h1 h3 HG ⊢
  rw [hb] at h2 h4 HG ⊢
  generalize l.h = L at *
  generalize r.h = R at *
  generalize l.n = N at *
  generalize r.n = M at *
  clear hl hr ha hb
  have w1 : IntKind.i64.wrap (1 + (N : Int)) = 1 + (N : Int) := by rw [IntKind.wrap_i64]; omega
  go_enter Tryz.func130, Tryz.ntmps130
  go_wp2_with (first
    | (go_at_call 163; refine h1.mono ?_; rintro e w' ⟨rfl, rfl⟩; clear h1)
    | (go_at_call 163; refine h2.mono ?_; rintro e w' ⟨rfl, rfl⟩)
    | (go_at_call 85; refine h3.mono ?_; rintro e w' ⟨rfl, rfl⟩; clear h3)
    | (go_at_call 85; refine h4.mono ?_; rintro e w' ⟨rfl, rfl⟩))
  go_ret
  exact HG.out
end Go.Proofs.YtkeldhohilmdcaaGreat.Pm
