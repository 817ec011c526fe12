/-
  counter: Sum 7.
-/
import Derived.Test.YtlhfkdgdbjinoaaOver
namespace Go.Proofs.Ytlhfkdgdbjinoaa
open Go.RowKit Go.Shelf
set_option linter.unusedSimpArgs false
attribute [local go_sem] Oper.semAt_some

theorem ret_leave {fn : Func} {R : Ending → World → Prop} {a : Act} {w : World} (h : LeavesInM Fence.wide 6 Try.prog fn a.tmps R a.defers .returning w) : noPanic (bodyPostM Fence.wide 6 Try.prog fn R) .ret a w := h
theorem new3 (w : World) (o1 o2 o3 : Obj) : (((w.alloc o1).alloc o2).alloc o3).heap[w.heap.size]? = some o1 ∧ (((w.alloc o1).alloc o2).alloc o3).heap[w.heap.size + 1]? = some o2 ∧ (((w.alloc o1).alloc o2).alloc o3).heap[w.heap.size + 2]? = some o3 ∧ Below w.heap.size w (((w.alloc o1).alloc o2).alloc o3) := by
  obtain ⟨a, b⟩ := new2 w o1 o2
  have h3 := heap_alloc_new ((w.alloc o1).alloc o2) o3
  have hs : ((w.alloc o1).alloc o2).heap.size = w.heap.size + 2 := by simp
  have hb : Below ((w.alloc o1).alloc o2).heap.size ((w.alloc o1).alloc o2) (((w.alloc o1).alloc o2).alloc o3) := (Below.refl _ _).alloc (Nat.le_refl _) _
  rw [hs] at h3
  exact ⟨(hb.block _ (by omega)).trans a, (hb.block _ (by omega)).trans b, h3, (((Below.refl _ w).alloc (Nat.le_refl _) _).alloc (by simp) _).alloc (by simp; omega) _⟩

set_option maxHeartbeats 4000000 in
set_option maxRecDepth 100000 in
theorem sum_any {w : World} {ao : Option Addr} {c : Nat} {l : List Int} (h : Nd w ao l) (hl : l.length ≤ 1000000) : Calls Try.prog 7 #[.slice ao l.length c] w fun e w' => e = .returned (.int .i64 (sumN 0 l)) ∧ Below w.heap.size w w' := by
  obtain ⟨wA, hwA⟩ : ∃ wA, wA = ((w.alloc (.cells #[.int .i64 0] 2)).alloc (.cells #[.int .i64 0] 2)).alloc (.cells #[.slice ao l.length c] 23) := ⟨_, rfl⟩
  obtain ⟨m0, m1, m2, hb⟩ := new3 w (.cells #[.int .i64 0] 2) (.cells #[.int .i64 0] 2) (.cells #[.slice ao l.length c] 23)
  have hov := over_any 0 (.slice ao l.length c) ao l.length c rfl (w.alloc (.cells #[.int .i64 0] 2))
  rw [← hwA] at m0 m1 m2 hb hov
  rw [show (w.alloc (.cells #[.int .i64 0] 2)).heap.size = w.heap.size + 1 by simp] at hov
  have hsA : wA.heap.size = w.heap.size + 3 := by rw [hwA]; simp
  have hit := steps_iter 0 l ao c (w.heap.size + 1) (w.heap.size + 2) wA hl (by rw [cell_of_row _ _ 0 _ 2 (0, 0) m1]; rfl) (by rw [cell_of_row _ _ 0 _ 23 (0, 0) m2]; rfl) (h.below hb)
  have hKw : ∀ j, KS ao l (w.heap.size + 1) (w.heap.size + 2) j → j < wA.heap.size ∧ j ≠ w.heap.size := fun j hj => by
    rcases hj with rfl | rfl | ⟨a, e, hne, rfl⟩
    · omega
    · omega
    · have := h.blk_lt hne a e; omega
  have HW := hide hwA
  have HH := hide h
  clear hwA m1 m2 h
  refine calls_marks Try.func7 rfl ?_
  simp only [Try.ntmps7, List.size_toArray, List.length_cons, List.length_nil, Nat.reduceAdd, Nat.reduceSub, Array.replicate_succ, Array.replicate_zero, List.push_toArray, List.append_toArray, List.nil_append, List.cons_append]
  go_wp2_with (go_at_call 19; refine hov.mono ?_; rintro e w' ⟨rfl, hw'⟩; obtain rfl : wA = w' := hw'.symm; clear hw')
  refine range_it 22 enters22 _ (stepsL 0 l) encS _ hit rfl (fun _ _ => rfl) (fun j hj => (hKw j hj).1) (fun j => j = w.heap.size) (fun j e hj => (hKw j hj).2 e) (by intro j e; omega)
    (fun k W => Below w.heap.size w W ∧ W.heap[w.heap.size]? = some (.cells #[.int .i64 (sumN 0 (l.take k))] 2 (0, 0))) (fun _ _ => False)
    (fun k W W' hi ho => ⟨Below.only hi.1 ho hi.1.size (fun j e => by omega), (ho.block _ (Array.getElem?_eq_some_iff.1 hi.2).1 (by omega)).trans hi.2⟩) (fun _ _ _ h => h.elim) ⟨hb, m0⟩ ?hround ?hdone (fun _ _ h => h.elim)
  case hround =>
    rintro k x W hx ⟨hbW, hcW⟩ hSame hsz
    obtain ⟨hk, rfl⟩ := stepsL_at hx
    clear hSame hit hKw hov hx
    dsimp only [encS]
    gi_wp2
    refine ⟨Only.refl _ _, fun W2 ho2 => ?_⟩
    have c2 := (ho2.block _ (Array.getElem?_eq_some_iff.1 hcW).1 (by omega)).trans hcW
    have r1 := (cell_of_row _ _ 0 _ 2 (0, 0) c2).trans rfl
    have r2 := frozen_of_row _ _ 0 _ 2 c2
    obtain ⟨s1, s2⟩ := set_one (i := 0) (.int .i64 (sumN 0 (l.take (k + 1)))) c2
    have HB := hide (Below.only hbW ho2 hbW.size (fun j e => by omega))
    clear hcW hbW c2
    gi_wp2
    exact ⟨s2, Below.only HB.out s2 HB.out.size (fun j e => by omega), by simpa using s1⟩
  case hdone =>
    rintro W ⟨hbW, hcW⟩ hlt hk
    rw [stepsL_len, List.take_length] at hcW
    have r1 : W.cell? ⟨w.heap.size, 0, none⟩ = some (.int .i64 (sumN 0 l)) := (cell_of_row _ _ 0 _ 2 (0, 0) hcW).trans rfl
    clear hit hKw hov
    go_wp2
    refine ret_leave ?_
    dsimp only
    refine leave_mark hk (leave_none (results_tmp rfl _ _ _) ⟨rfl, ?_⟩)
    exact Below.only hbW (only_putObj W _ _) hbW.size (fun j e => by omega)
end Go.Proofs.Ytlhfkdgdbjinoaa
