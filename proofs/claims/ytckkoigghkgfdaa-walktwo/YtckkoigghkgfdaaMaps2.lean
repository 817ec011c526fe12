/-
  MAPS, as the program has them: Get, First, Last, Put, Take, Split, Join, Make.
-/
import Derived.Test.YtckkoigghkgfdaaMaps
namespace Go.Proofs.Ytckkoigghkgfdaa
open Go.RowKit Go.Shelf
set_option linter.unusedSimpArgs false

theorem In.find {w : World} (k : ByteArray) : ∀ {t : T}, In w t → In w (t.find k)
  | .nil, _ => trivial
  | .node p nk nv l r, h => by
    rw [find_node]
    split
    · exact In.find k h.2.1
    · split
      · exact In.find k h.2.2
      · exact h
def T.isSome : T → Bool
  | .nil => false
  | .node .. => true
theorem isSome_ptr {t : T} {a : Option Addr} (h : t.ptr = .pointer a) : a.isSome = t.isSome ∧ a.isNone = !t.isSome := by
  cases t with
  | nil => simp only [T.ptr, Value.pointer.injEq] at h; subst h; exact ⟨rfl, rfl⟩
  | node => simp only [T.ptr, Value.pointer.injEq] at h; subst h; exact ⟨rfl, rfl⟩
set_option maxHeartbeats 1000000 in
theorem get_any (t : T) (k : ByteArray) (w : World) (h : In w t) : Calls Try.prog 13 #[mv t, .string k] w fun e w' => e = .returned (.tuple #[.int .i64 (t.find k).val, .bool (t.find k).isSome]) ∧ Below w.heap.size w w' := by
  have hb : Below w.heap.size w (w.alloc (.cells #[t.ptr] 29)) := (Below.refl _ w).alloc (Nat.le_refl _) _
  have hf := find_any t k _ (In.below hb h)
  have hv : ∀ W, Below w.heap.size w W → Calls Try.prog 29 #[(t.find k).ptr] W fun e w' => e = .returned (.int .i64 (t.find k).val) ∧ w' = W := fun W hW => value_any _ W (In.below hW (In.find k h))
  unfold mv
  obtain ⟨a, ha⟩ := t.ptr_shape
  obtain ⟨b, hb'⟩ := (t.find k).ptr_shape
  have hd := isSome_ptr hb'
  rw [ha] at hb hf ⊢
  rw [hb'] at hf
  simp only [hb'] at hv
  generalize (t.find k).val = V at *
  generalize (t.find k).isSome = D at *
  have hi := hd.2
  clear h ha hb' hd
  go_enter Try.func13, Try.ntmps13
  go_wp2_with (first
    | (go_at_call 28; refine hf.mono ?_; rintro e w1 ⟨rfl, b1⟩; have hb1 := hb.trans (b1.mono hb.size); have hv1 := hv w1 hb1)
    | (go_at_call 29; refine hv1.mono ?_; rintro e w' ⟨rfl, hw⟩; replace hw := hw.symm; subst hw))
  go_ret2
  exact ⟨by simp, hb1⟩
theorem told_any (t : T) (w : World) (h : In w t) : Calls Try.prog 44 #[t.ptr] w fun e w' => e = .returned (.tuple #[.string t.key, .int .i64 t.val, .bool t.isSome]) ∧ w' = w := by
  have h1 := key_any t w h
  have h2 := value_any t w h
  obtain ⟨a, ha⟩ := t.ptr_shape
  have hd := (isSome_ptr ha).2
  rw [ha] at h1 h2 ⊢
  generalize t.key = K at *
  generalize t.val = V at *
  generalize t.isSome = D at *
  clear h ha
  go_enter Try.func44, Try.ntmps44
  go_wp2_with (first
    | (go_at_call 51; refine h1.mono ?_; rintro e w' ⟨rfl, hw⟩; replace hw := hw.symm; subst hw)
    | (go_at_call 29; refine h2.mono ?_; rintro e w' ⟨rfl, hw⟩; replace hw := hw.symm; subst hw))
  go_ret3
  exact ⟨by simp, rfl⟩
theorem In.first {w : World} {t : T} (h : In w t) : In w t.first := by
  by_cases e : t = .nil
  · subst e; trivial
  · obtain ⟨_, _, _, _, _, _, _, hs⟩ := T.first_spec e
    exact In.sub hs h
theorem In.last {w : World} {t : T} (h : In w t) : In w t.last := by
  by_cases e : t = .nil
  · subst e; trivial
  · obtain ⟨_, _, _, _, _, _, _, hs⟩ := T.last_spec e
    exact In.sub hs h
theorem mFirst_any (t : T) (w : World) (h : In w t) : Calls Try.prog 54 #[mv t] w fun e w' => e = .returned (.tuple #[.string t.first.key, .int .i64 t.first.val, .bool t.first.isSome]) ∧ Below w.heap.size w w' := by
  have hb : Below w.heap.size w (w.alloc (.cells #[t.ptr] 29)) := (Below.refl _ w).alloc (Nat.le_refl _) _
  have h1 := end_left t _ (In.below hb h)
  have h2 := told_any t.first _ (In.below hb h.first)
  unfold mv
  obtain ⟨a, ha⟩ := t.ptr_shape
  obtain ⟨b, hb'⟩ := t.first.ptr_shape
  rw [ha] at hb h1 h2 ⊢
  rw [hb'] at h1 h2
  generalize t.first.key = K at *
  generalize t.first.val = V at *
  generalize t.first.isSome = D at *
  clear h ha hb'
  go_enter Try.func54, Try.ntmps54
  go_wp2_with (first
    | (go_at_call 63; refine h1.mono ?_; rintro e w' ⟨rfl, rfl⟩)
    | (go_at_call 44; refine h2.mono ?_; rintro e w' ⟨rfl, rfl⟩))
  go_ret3
  exact ⟨rfl, hb⟩
/-- The blocks of a map that came in, and of the one that goes out. -/
theorem two_boxes (w : World) (x : Value) : Below w.heap.size w ((w.alloc (.cells #[x] 29)).alloc (.cells #[.pointer none] 29)) ∧ ((w.alloc (.cells #[x] 29)).alloc (.cells #[.pointer none] 29)).cell? ⟨w.heap.size + 1, 0, none⟩ = some (.pointer none) ∧ ((w.alloc (.cells #[x] 29)).alloc (.cells #[.pointer none] 29)).frozen? ⟨w.heap.size + 1, 0, none⟩ = false := by
  refine ⟨((Below.refl _ w).alloc (Nat.le_refl _) _).alloc (by simp) _, ?_, ?_⟩
  · simp
  · have := frozen_of_row ((w.alloc (.cells #[x] 29)).alloc (.cells #[.pointer none] 29)) (w.heap.size + 1) 0 #[.pointer none] 29 (new2 w _ _).2
    exact this
/-- What is stored into the block that goes out. -/
theorem out_box {w w1 : World} {B : Nat} {y : Value} (hw : w1.heap[B]? = some (.cells #[.pointer none] 29 (0, 0))) (hB : w.heap.size ≤ B) (hb : Below w.heap.size w w1) : (w1.setCell ⟨B, 0, none⟩ y).heap[B]? = some (.cells #[y] 29 (0, 0)) ∧ Below w.heap.size w (w1.setCell ⟨B, 0, none⟩ y) ∧ Only (fun j => j = B) w1 (w1.setCell ⟨B, 0, none⟩ y) := by
  refine ⟨?_, hb.setCell (p := ⟨B, 0, none⟩) hB y, (Only.ofGrown (grown_setCell w1 ⟨B, 0, none⟩ y)).mono (fun j _ e => by simpa using e.symm)⟩
  rw [heap_setCell_same _ _ _ _ 29 _ hw]
  simp
theorem In.only {C : Nat → Prop} {w w' : World} (h : Only C w w') : ∀ {t : T}, In w t → (∀ p, p < w.heap.size → C p → ¬ ∃ k v l r, Sub (.node p k v l r) t) → In w' t
  | .nil, _, _ => trivial
  | .node p k v l r, hi, hC => ⟨(h.block p hi.lt (fun c => hC p hi.lt c ⟨k, v, l, r, .here⟩)).trans hi.1, In.only h hi.2.1 (fun p' hp' c ⟨k', v', l', r', hs⟩ => hC p' hp' c ⟨k', v', l', r', .left hs⟩), In.only h hi.2.2 (fun p' hp' c ⟨k', v', l', r', hs⟩ => hC p' hp' c ⟨k', v', l', r', .right hs⟩)⟩
/-- A block that is no node's. -/
theorem In.aside {w w' : World} {B : Nat} {x : Value} (hw : w.heap[B]? = some (.cells #[x] 29 (0, 0))) (h : Only (fun j => j = B) w w') {t : T} (hi : In w t) : In w' t := by
  refine In.only h hi ?_
  rintro p hp rfl ⟨k, v, l, r, hs⟩
  have := (In.sub hs hi).1
  rw [hw] at this
  simp at this
set_option maxHeartbeats 1000000 in
theorem mPut_any (t : T) (k : ByteArray) (v : Int) (w : World) (h : In w t) (hn : t.n ≤ 700000) : Calls Try.prog 25 #[mv t, .string k, .int .i64 v] w fun e w' => ∃ t', e = .returned (mv t') ∧ In w' t' ∧ Puts w.heap.size k v t t' ∧ Below w.heap.size w w' := by
  obtain ⟨hb, hc, hf⟩ := two_boxes w t.ptr
  have hB := (new2 w (.cells #[t.ptr] 29) (.cells #[.pointer none] 29)).2
  have hp := put_any k v t _ (In.below hb h) hn
  have key : ∀ w1 t', Gives ((w.alloc (.cells #[t.ptr] 29)).alloc (.cells #[.pointer none] 29)) (.returned t'.ptr) w1 t' → Puts ((w.alloc (.cells #[t.ptr] 29)).alloc (.cells #[.pointer none] 29)).heap.size k v t t' →
      w1.cell? ⟨w.heap.size + 1, 0, none⟩ = some (.pointer none) ∧ w1.frozen? ⟨w.heap.size + 1, 0, none⟩ = false ∧ Hid ((w1.setCell ⟨w.heap.size + 1, 0, none⟩ t'.ptr).heap[w.heap.size + 1]? = some (.cells #[t'.ptr] 29 (0, 0)) ∧ In (w1.setCell ⟨w.heap.size + 1, 0, none⟩ t'.ptr) t' ∧ Puts w.heap.size k v t t' ∧ Below w.heap.size w (w1.setCell ⟨w.heap.size + 1, 0, none⟩ t'.ptr)) := fun w1 t' hg hp => by
    have hw1 := (hg.2.2.block (w.heap.size + 1) (by simp)).trans hB
    have hb1 := hb.trans (hg.2.2.mono hb.size)
    obtain ⟨o1, o2, o3⟩ := out_box (y := t'.ptr) hw1 (by omega) hb1
    refine ⟨by rw [cell_of_row _ _ 0 _ 29 (0, 0) hw1]; rfl, frozen_of_row _ _ 0 _ 29 hw1, hide ⟨o1, In.aside hw1 o3 hg.2.1, hp.mono hb.size, o2⟩⟩
  unfold mv
  obtain ⟨a, ha⟩ := t.ptr_shape
  rw [ha] at hp hb key ⊢
  have HK := hide key
  clear h ha hb hc hf key hB hn
  go_enter Try.func25, Try.ntmps25
  go_wp2_with (go_at_call 43; refine hp.mono ?_; rintro e w1 ⟨t', hg, hpp⟩; have he := hg.1; subst he; obtain ⟨q1, q2, HQ⟩ := HK.out w1 t' hg hpp; obtain ⟨b, hb⟩ := t'.ptr_shape; have HX := hide hb; rw [hb] at HQ ⊢; clear hb hg hpp)
  refine ret_row (w.heap.size + 1) [.pointer b] rfl rfl Try.underlying29 rfl Try.info29 HQ.out.1 rfl ?_
  exact ⟨t', by rw [HX.out], HQ.out.2.1, HQ.out.2.2.1, HQ.out.2.2.2⟩
end Go.Proofs.Ytckkoigghkgfdaa
