/-
  MAPS, as the program has them: Len, Height, Root, Same, Map, Get, First, Last, Put, Take, Split, Join, Make.
-/
import Derived.Test.YtleaaoknjflgoaaFind
import Derived.Test.YtleaaoknjflgoaaTake
import Derived.Test.YtleaaoknjflgoaaSplit
namespace Go.Proofs.Ytleaaoknjflgoaa
open Go.RowKit Go.Shelf
set_option linter.unusedSimpArgs false

theorem find_any (t : T) (k : ByteArray) (w : World) (h : In w t) : Calls Try.prog 48 #[t.ptr, .string k] w fun e w' => e = .returned (t.find k).ptr ∧ Below w.heap.size w w' := by
  have hb : Below w.heap.size w (w.alloc (.cells #[.string k] 9)) := (Below.refl _ w).alloc (Nat.le_refl _) _
  have hs := seek_find t w.heap.size k (w.alloc (.cells #[.string k] 9)) (In.below hb h) (by rw [cell_of_row _ _ 0 _ 9 (0, 0) (heap_alloc_new w _)]; rfl)
  obtain ⟨a, ha⟩ := t.ptr_shape
  obtain ⟨b, hb'⟩ := (t.find k).ptr_shape
  rw [hb', ha] at hs
  rw [hb', ha]
  clear h ha hb'
  go_enter Try.func48, Try.ntmps48
  go_wp2_with (go_at_call 50; refine hs.mono ?_; rintro e w' ⟨rfl, n, rfl⟩)
  go_ret
  exact ⟨rfl, hb.trans ((below_drew _ n).mono hb.size)⟩

/-- A map's value. -/
def mv (t : T) : Value := .agg #[t.ptr]
theorem mLen_any (t : T) (w : World) (h : In w t) : Calls Try.prog 19 #[mv t] w fun e w' => e = .returned (.int .i64 (t.n : Nat)) ∧ Below w.heap.size w w' := by
  have hb : Below w.heap.size w (w.alloc (.cells #[t.ptr] 26)) := (Below.refl _ w).alloc (Nat.le_refl _) _
  have hs := len_any t _ (In.below hb h)
  unfold mv
  obtain ⟨a, ha⟩ := t.ptr_shape
  rw [ha] at hb hs ⊢
  generalize t.n = N at *
  clear h ha
  go_enter Try.func19, Try.ntmps19
  go_wp2_with (go_at_call 29; refine hs.mono ?_; rintro e w' ⟨rfl, rfl⟩)
  go_ret
  exact ⟨rfl, hb⟩
theorem mHeight_any (t : T) (w : World) (h : In w t) : Calls Try.prog 12 #[mv t] w fun e w' => e = .returned (.int .i64 (t.h : Nat)) ∧ Below w.heap.size w w' := by
  have hb : Below w.heap.size w (w.alloc (.cells #[t.ptr] 26)) := (Below.refl _ w).alloc (Nat.le_refl _) _
  have hs := height_any t _ (In.below hb h)
  unfold mv
  obtain ⟨a, ha⟩ := t.ptr_shape
  rw [ha] at hb hs ⊢
  generalize t.h = N at *
  clear h ha
  go_enter Try.func12, Try.ntmps12
  go_wp2_with (go_at_call 28; refine hs.mono ?_; rintro e w' ⟨rfl, rfl⟩)
  go_ret
  exact ⟨rfl, hb⟩
theorem mRoot_any (t : T) (w : World) : Calls Try.prog 23 #[mv t] w fun e w' => e = .returned t.ptr ∧ Below w.heap.size w w' := by
  have hb : Below w.heap.size w (w.alloc (.cells #[t.ptr] 26)) := (Below.refl _ w).alloc (Nat.le_refl _) _
  unfold mv
  obtain ⟨a, ha⟩ := t.ptr_shape
  rw [ha] at hb ⊢
  clear ha
  go_enter Try.func23, Try.ntmps23
  go_wp2
  go_ret
  exact ⟨rfl, hb⟩
theorem mSame_any (s t : T) (w : World) (hs : In w s) (ht : In w t) : Calls Try.prog 15 #[mv s, mv t] w fun e w' => e = .returned (.bool (decide (s = t))) ∧ Below w.heap.size w w' := by
  have hb : Below w.heap.size w ((w.alloc (.cells #[s.ptr] 26)).alloc (.cells #[t.ptr] 26)) := ((Below.refl _ w).alloc (Nat.le_refl _) _).alloc (by simp) _
  have hq : (binOp .eql 24 s.ptr t.ptr).run Try.prog ((w.alloc (.cells #[s.ptr] 26)).alloc (.cells #[t.ptr] 26)) = .ok (.bool (decide (s = t))) ((w.alloc (.cells #[s.ptr] 26)).alloc (.cells #[t.ptr] 26)) := by
    by_cases e : s = t
    · subst e; simp only [decide_true]; exact eql_same s _
    · rw [decide_eq_false e]; exact eql_other (In.below hb hs) (In.below hb ht) e
  unfold mv
  obtain ⟨a, ha⟩ := s.ptr_shape
  obtain ⟨b, hb'⟩ := t.ptr_shape
  rw [ha, hb'] at hb hq ⊢
  generalize decide (s = t) = D at *
  clear ha hb' hs ht
  go_enter Try.func15, Try.ntmps15
  go_wp2
  go_ret
  exact ⟨rfl, hb⟩
theorem own_any (t : T) (w : World) (h : In w t) : Calls Try.prog 47 #[t.ptr] w fun e w' => e = .returned t.ptr ∧ w' = w := by
  have hs := len_any t w h
  cases t with
  | nil =>
    simp only [T.ptr, T.n] at hs ⊢
    go_enter Try.func47, Try.ntmps47
    go_wp2_with (go_at_call 29; refine hs.mono ?_; rintro e w' ⟨rfl, rfl⟩)
    go_ret
    exact ⟨rfl, rfl⟩
  | node p k v l r =>
    have hn : ¬ ((((T.node p k v l r).n : Nat) : Int) = 0) := by simp only [T.n]; omega
    have hn2 : ((((T.node p k v l r).n : Nat) : Int) == 0) = false := by simpa using hn
    have hn3 : (((T.node p k v l r).n) == 0) = false := by simpa using hn
    generalize (T.node p k v l r).n = N at *
    rw [node_ptr] at hs ⊢
    clear h
    go_enter Try.func47, Try.ntmps47
    go_wp2_with (go_at_call 29; refine hs.mono ?_; rintro e w' ⟨rfl, rfl⟩)
    go_ret
    exact ⟨rfl, rfl⟩
theorem cell_new (w : World) (x : Value) (t : TypeId) : (w.alloc (.cells #[x] t)).cell? ⟨w.heap.size, 0, none⟩ = some x := by
  rw [cell_of_row _ _ 0 _ t (0, 0) (heap_alloc_new w _)]; rfl
theorem Try.info26 : (Try.prog.info? 26).map (·.size) = some 1 := by kernel_rfl
theorem nMap_any (t : T) (w : World) (h : In w t) : Calls Try.prog 30 #[t.ptr] w fun e w' => e = .returned (mv t) ∧ Below w.heap.size w w' := by
  have hb0 : Below w.heap.size w (w.alloc (.cells #[.pointer none] 26)) := (Below.refl _ w).alloc (Nat.le_refl _) _
  have hb : Below w.heap.size w (w.alloc (.cells #[t.ptr] 26)) := (Below.refl _ w).alloc (Nat.le_refl _) _
  have hs := own_any t _ (In.below hb0 h)
  have hr := heap_alloc_new w (.cells #[t.ptr] 26)
  unfold mv
  obtain ⟨a, ha⟩ := t.ptr_shape
  rw [ha] at hs hb hr ⊢
  clear h ha
  go_enter Try.func30, Try.ntmps30
  go_wp2_with (go_at_call 47; refine hs.mono ?_; rintro e w' ⟨rfl, rfl⟩)
  refine ret_row w.heap.size [.pointer a] rfl rfl Try.underlying26 rfl Try.info26 hr rfl ⟨rfl, hb⟩
end Go.Proofs.Ytleaaoknjflgoaa
