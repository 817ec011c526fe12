/-
  Make: A MAP OUT OF TWO NODES AND A KEY BETWEEN THEM.
-/
import Derived.Test.YtleaaoknjflgoaaMaps3
namespace Go.Proofs.Ytleaaoknjflgoaa
open Go.RowKit Go.Shelf
set_option linter.unusedSimpArgs false

/-- When Make answers with a map. -/
def makesB (l : T) (k : ByteArray) (r : T) : Bool := fitsB l k r && decide (l.h ≤ r.h + 1) && decide (r.h ≤ l.h + 1)

set_option maxHeartbeats 4000000 in
theorem mMake_any (l r : T) (k : ByteArray) (v : Int) (w : World) (hl : In w l) (hr : In w r) (hn : l.n + r.n ≤ 700000) (hh : l.h ≤ 100) (hh2 : r.h ≤ 100) : Calls Try.prog 22 #[l.ptr, .string k, .int .i64 v, r.ptr] w fun e w' => ∃ t, e = .returned (.tuple #[mv t, .int .i64 (if makesB l k r then 0 else 2)]) ∧ (makesB l k r = false → t = .nil) ∧ (makesB l k r = true → ∃ p, w.heap.size ≤ p ∧ t = .node p k v l r) ∧ In w' t ∧ Below w.heap.size w w' := by
  have hb : Below w.heap.size w (w.alloc (.cells #[.pointer none] 26)) := (Below.refl _ w).alloc (Nat.le_refl _) _
  have m2 := heap_alloc_new w (.cells #[.pointer none] 26)
  have ho1 := fun (W : World) (hW : Below w.heap.size w W) => own_any l W (In.below hW hl)
  have ho2 := fun (W : World) (hW : Below w.heap.size w W) => own_any r W (In.below hW hr)
  have hh1 := height_any l _ (In.below hb hl)
  have hh3 := height_any r _ (In.below hb hr)
  have hf := fits_any l r k _ (In.below hb hl) (In.below hb hr)
  have hj := made_any l r k v _ (In.below hb hl) (In.below hb hr) (by omega)
  have o1 := ho1 _ hb
  have o2 := ho2 _ hb
  have key : ∀ w1, Gives (w.alloc (.cells #[.pointer none] 26)) (.returned (T.node (w.alloc (.cells #[.pointer none] 26)).heap.size k v l r).ptr) w1 (.node (w.alloc (.cells #[.pointer none] 26)).heap.size k v l r) →
      w1.cell? ⟨w.heap.size, 0, none⟩ = some (.pointer none) ∧ w1.frozen? ⟨w.heap.size, 0, none⟩ = false ∧ Hid ((w1.setCell ⟨w.heap.size, 0, none⟩ (T.node (w.alloc (.cells #[.pointer none] 26)).heap.size k v l r).ptr).heap[w.heap.size]? = some (.cells #[(T.node (w.alloc (.cells #[.pointer none] 26)).heap.size k v l r).ptr] 26 (0, 0)) ∧ In (w1.setCell ⟨w.heap.size, 0, none⟩ (T.node (w.alloc (.cells #[.pointer none] 26)).heap.size k v l r).ptr) (.node (w.alloc (.cells #[.pointer none] 26)).heap.size k v l r) ∧ Below w.heap.size w (w1.setCell ⟨w.heap.size, 0, none⟩ (T.node (w.alloc (.cells #[.pointer none] 26)).heap.size k v l r).ptr)) := fun w1 hg => by
    have hw1 := (hg.2.2.block w.heap.size (by simp)).trans m2
    have hb1 := hb.trans (hg.2.2.mono hb.size)
    obtain ⟨o1, o2, o3⟩ := out_box (y := (T.node (w.alloc (.cells #[.pointer none] 26)).heap.size k v l r).ptr) hw1 (Nat.le_refl _) hb1
    exact ⟨by rw [cell_of_row _ _ 0 _ 26 (0, 0) hw1]; rfl, frozen_of_row _ _ 0 _ 26 hw1, hide ⟨o1, In.aside hw1 o3 hg.2.1, o2⟩⟩
  have hge : w.heap.size ≤ (w.alloc (.cells #[.pointer none] 26)).heap.size := hb.size
  have hps : (w.alloc (.cells #[.pointer none] 26)).heap.size = w.heap.size + 1 := by simp
  have HK := hide key
  have HGE := hide (And.intro hge hps)
  obtain ⟨x, hx⟩ := l.ptr_shape
  obtain ⟨y, hy⟩ := r.ptr_shape
  rw [hx, hy] at hj ⊢
  rw [hx, hy] at hf
  rw [hx] at hh1 o1
  rw [hy] at hh3 o2
  have HB := hide (And.intro hb m2)
  have w1 : IntKind.i64.wrap ((l.h : Int) - (r.h : Int)) = (l.h : Int) - (r.h : Int) := by rw [IntKind.wrap_i64]; omega
  have w2 : wrap64 ((l.h : Int) - (r.h : Int)) = (l.h : Int) - (r.h : Int) := by unfold wrap64; omega
  clear key hge hps ho1 ho2 hb m2 hl hr hx hy hn
  by_cases hfit : fitsB l k r = true
  · rw [hfit] at hf
    by_cases hd1 : (l.h : Int) - (r.h : Int) < -1
    · have hm : makesB l k r = false := by unfold makesB; rw [decide_eq_false (show ¬ r.h ≤ l.h + 1 by omega)]; simp
      have z1 : decide ((l.h : Int) - (r.h : Int) < -1) = true := by simpa using hd1
      rw [hm]
      clear hj
      generalize l.h = L at *
      generalize r.h = R at *
      go_enter Try.func22, Try.ntmps22
      go_wp2_with (first
        | (go_at_call_of 47 x; refine o1.mono ?_; rintro e w' ⟨rfl, hw⟩; replace hw := hw.symm; subst hw)
        | (go_at_call 47; refine o2.mono ?_; rintro e w' ⟨rfl, hw⟩; replace hw := hw.symm; subst hw)
        | (go_at_call_of 28 x; refine hh1.mono ?_; rintro e w' ⟨rfl, hw⟩; replace hw := hw.symm; subst hw)
        | (go_at_call 28; refine hh3.mono ?_; rintro e w' ⟨rfl, hw⟩; replace hw := hw.symm; subst hw)
        | (go_at_call 41; refine hf.mono ?_; rintro e w' ⟨rfl, hw⟩; replace hw := hw.symm; subst hw))
      refine ret_row_tmp w.heap.size [.pointer none] rfl rfl rfl Try.underlying26 rfl Try.info26 HB.out.2 rfl ?_
      exact ⟨.nil, rfl, rfl, trivial, HB.out.1⟩
    · have z1 : decide ((l.h : Int) - (r.h : Int) < -1) = false := by simpa using hd1
      by_cases hd2 : 1 < (l.h : Int) - (r.h : Int)
      · have hm : makesB l k r = false := by unfold makesB; rw [decide_eq_false (show ¬ l.h ≤ r.h + 1 by omega)]; simp
        have z2 : decide (1 < (l.h : Int) - (r.h : Int)) = true := by simpa using hd2
        rw [hm]
        clear hj
        generalize l.h = L at *
        generalize r.h = R at *
        go_enter Try.func22, Try.ntmps22
        go_wp2_with (first
          | (go_at_call_of 47 x; refine o1.mono ?_; rintro e w' ⟨rfl, hw⟩; replace hw := hw.symm; subst hw)
          | (go_at_call 47; refine o2.mono ?_; rintro e w' ⟨rfl, hw⟩; replace hw := hw.symm; subst hw)
          | (go_at_call_of 28 x; refine hh1.mono ?_; rintro e w' ⟨rfl, hw⟩; replace hw := hw.symm; subst hw)
          | (go_at_call 28; refine hh3.mono ?_; rintro e w' ⟨rfl, hw⟩; replace hw := hw.symm; subst hw)
          | (go_at_call 41; refine hf.mono ?_; rintro e w' ⟨rfl, hw⟩; replace hw := hw.symm; subst hw))
        refine ret_row_tmp w.heap.size [.pointer none] rfl rfl rfl Try.underlying26 rfl Try.info26 HB.out.2 rfl ?_
        exact ⟨.nil, rfl, rfl, trivial, HB.out.1⟩
      · have hm : makesB l k r = true := by unfold makesB; rw [hfit, decide_eq_true (show l.h ≤ r.h + 1 by omega), decide_eq_true (show r.h ≤ l.h + 1 by omega)]; rfl
        have z2 : decide (1 < (l.h : Int) - (r.h : Int)) = false := by simpa using hd2
        rw [hm]
        generalize l.h = L at *
        generalize r.h = R at *
        go_enter Try.func22, Try.ntmps22
        go_wp2_with (first
          | (go_at_call_of 47 x; refine o1.mono ?_; rintro e w' ⟨rfl, hw⟩; replace hw := hw.symm; subst hw)
          | (go_at_call 47; refine o2.mono ?_; rintro e w' ⟨rfl, hw⟩; replace hw := hw.symm; subst hw)
          | (go_at_call_of 28 x; refine hh1.mono ?_; rintro e w' ⟨rfl, hw⟩; replace hw := hw.symm; subst hw)
          | (go_at_call 28; refine hh3.mono ?_; rintro e w' ⟨rfl, hw⟩; replace hw := hw.symm; subst hw)
          | (go_at_call 41; refine hf.mono ?_; rintro e w' ⟨rfl, hw⟩; replace hw := hw.symm; subst hw)
          | (go_at_call 46; refine hj.mono ?_; rintro e w1 hg; have he := hg.1; subst he; obtain ⟨q1, q2, HQ⟩ := HK.out w1 hg; clear hg; rw [HGE.out.2] at HQ ⊢; simp only [T.ptr] at HQ ⊢))
        refine ret_row_tmp w.heap.size [.pointer (some ⟨w.heap.size + 1, 0, none⟩)] rfl rfl rfl Try.underlying26 rfl Try.info26 HQ.out.1 rfl ?_
        exact ⟨.node (w.heap.size + 1) k v l r, rfl, ⟨_, by omega, rfl⟩, HQ.out.2.1, HQ.out.2.2⟩
  · have hff : fitsB l k r = false := by simpa using hfit
    rw [hff] at hf
    have hm : makesB l k r = false := by unfold makesB; rw [hff]; rfl
    rw [hm]
    clear hj
    generalize l.h = L at *
    generalize r.h = R at *
    go_enter Try.func22, Try.ntmps22
    go_wp2_with (first
      | (go_at_call_of 47 x; refine o1.mono ?_; rintro e w' ⟨rfl, hw⟩; replace hw := hw.symm; subst hw)
      | (go_at_call 47; refine o2.mono ?_; rintro e w' ⟨rfl, hw⟩; replace hw := hw.symm; subst hw)
      | (go_at_call_of 28 x; refine hh1.mono ?_; rintro e w' ⟨rfl, hw⟩; replace hw := hw.symm; subst hw)
      | (go_at_call 28; refine hh3.mono ?_; rintro e w' ⟨rfl, hw⟩; replace hw := hw.symm; subst hw)
      | (go_at_call 41; refine hf.mono ?_; rintro e w' ⟨rfl, hw⟩; replace hw := hw.symm; subst hw))
    refine ret_row_tmp w.heap.size [.pointer none] rfl rfl rfl Try.underlying26 rfl Try.info26 HB.out.2 rfl ?_
    exact ⟨.nil, rfl, rfl, trivial, HB.out.1⟩
end Go.Proofs.Ytleaaoknjflgoaa
