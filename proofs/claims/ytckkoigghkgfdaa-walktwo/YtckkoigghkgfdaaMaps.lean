/-
  MAPS, as the program has them: Len, Height, Root, Same, Map, Get, First, Last, Put, Take, Split, Join, Make.
-/
import Derived.Test.YtckkoigghkgfdaaFind
import Derived.Test.YtckkoigghkgfdaaTake
import Derived.Test.YtckkoigghkgfdaaSplit
namespace Go.Proofs.Ytckkoigghkgfdaa
open Go.RowKit Go.Shelf
set_option linter.unusedSimpArgs false

theorem find_any (t : T) (k : ByteArray) (w : World) (h : In w t) : Calls Try.prog 28 #[t.ptr, .string k] w fun e w' => e = .returned (t.find k).ptr ∧ Below w.heap.size w w' := by
  have hb : Below w.heap.size w (w.alloc (.cells #[.string k] 9)) := (Below.refl _ w).alloc (Nat.le_refl _) _
  have hs := seek_find t w.heap.size k (w.alloc (.cells #[.string k] 9)) (In.below hb h) (by rw [cell_of_row _ _ 0 _ 9 (0, 0) (heap_alloc_new w _)]; rfl)
  obtain ⟨a, ha⟩ := t.ptr_shape
  obtain ⟨b, hb'⟩ := (t.find k).ptr_shape
  rw [hb', ha] at hs
  rw [hb', ha]
  clear h ha hb'
  go_enter Try.func28, Try.ntmps28
  go_wp2_with (go_at_call 45; refine hs.mono ?_; rintro e w' ⟨rfl, n, rfl⟩)
  go_ret
  exact ⟨rfl, hb.trans ((below_drew _ n).mono hb.size)⟩

/-- A map's value. -/
def mv (t : T) : Value := .agg #[t.ptr]
theorem mLen_any (t : T) (w : World) (h : In w t) : Calls Try.prog 16 #[mv t] w fun e w' => e = .returned (.int .i64 (t.n : Nat)) ∧ Below w.heap.size w w' := by
  have hb : Below w.heap.size w (w.alloc (.cells #[t.ptr] 29)) := (Below.refl _ w).alloc (Nat.le_refl _) _
  have hs := len_any t _ (In.below hb h)
  unfold mv
  obtain ⟨a, ha⟩ := t.ptr_shape
  rw [ha] at hb hs ⊢
  generalize t.n = N at *
  clear h ha
  go_enter Try.func16, Try.ntmps16
  go_wp2_with (go_at_call 30; refine hs.mono ?_; rintro e w' ⟨rfl, rfl⟩)
  go_ret
  exact ⟨rfl, hb⟩
theorem mRoot_any (t : T) (w : World) : Calls Try.prog 50 #[mv t] w fun e w' => e = .returned t.ptr ∧ Below w.heap.size w w' := by
  have hb : Below w.heap.size w (w.alloc (.cells #[t.ptr] 29)) := (Below.refl _ w).alloc (Nat.le_refl _) _
  unfold mv
  obtain ⟨a, ha⟩ := t.ptr_shape
  rw [ha] at hb ⊢
  clear ha
  go_enter Try.func50, Try.ntmps50
  go_wp2
  go_ret
  exact ⟨rfl, hb⟩
theorem mSame_any (s t : T) (w : World) (hs : In w s) (ht : In w t) : Calls Try.prog 19 #[mv s, mv t] w fun e w' => e = .returned (.bool (decide (s = t))) ∧ Below w.heap.size w w' := by
  have hb : Below w.heap.size w ((w.alloc (.cells #[s.ptr] 29)).alloc (.cells #[t.ptr] 29)) := ((Below.refl _ w).alloc (Nat.le_refl _) _).alloc (by simp) _
  have hq : (binOp .eql 27 s.ptr t.ptr).run Try.prog ((w.alloc (.cells #[s.ptr] 29)).alloc (.cells #[t.ptr] 29)) = .ok (.bool (decide (s = t))) ((w.alloc (.cells #[s.ptr] 29)).alloc (.cells #[t.ptr] 29)) := by
    by_cases e : s = t
    · subst e; simp only [decide_true]; exact eql_same s _
    · rw [decide_eq_false e]; exact eql_other (In.below hb hs) (In.below hb ht) e
  unfold mv
  obtain ⟨a, ha⟩ := s.ptr_shape
  obtain ⟨b, hb'⟩ := t.ptr_shape
  rw [ha, hb'] at hb hq ⊢
  generalize decide (s = t) = D at *
  clear ha hb' hs ht
  go_enter Try.func19, Try.ntmps19
  go_wp2
  go_ret
  exact ⟨rfl, hb⟩
theorem cell_new (w : World) (x : Value) (t : TypeId) : (w.alloc (.cells #[x] t)).cell? ⟨w.heap.size, 0, none⟩ = some x := by
  rw [cell_of_row _ _ 0 _ t (0, 0) (heap_alloc_new w _)]; rfl
theorem Try.info29 : (Try.prog.info? 29).map (·.size) = some 1 := by kernel_rfl
end Go.Proofs.Ytckkoigghkgfdaa
