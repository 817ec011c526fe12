/-
  SPLIT, as the program has it; whether keys fit beside a key.
-/
import Derived.Test.YtckkoigghkgfdaaPut
import Derived.OwnWalk
namespace Go.Proofs.Ytckkoigghkgfdaa
open Go.RowKit Go.Shelf
set_option linter.unusedSimpArgs false

set_option maxHeartbeats 4000000 in
set_option maxRecDepth 100000 in
theorem split_any (k : ByteArray) (t : T) : ∀ (w : World), In w t → t.n ≤ 700000 →
    Calls Try.prog 66 #[t.ptr, .string k] w fun e w' => ∃ a f b, e = .returned (.tuple #[a.ptr, f.ptr, b.ptr]) ∧ Splits w.heap.size k t a f b ∧ In w' a ∧ In w' f ∧ In w' b ∧ Below w.heap.size w w' := by
  induction t with
  | nil =>
    intro w _ _
    simp only [T.ptr]
    go_enter Try.func66, Try.ntmps66
    go_wp2
    go_ret3
    exact ⟨.nil, .nil, .nil, rfl, .none, trivial, trivial, trivial, Below.refl _ _⟩
  | node p nk nv l r ihl ihr =>
    intro w h hn
    obtain ⟨c0, c1, c2, c3, c4, c5⟩ := h.cells
    rcases ord_B.range k nk with hc | hc | hc
    · have hcmp := fun W => compare_is hc W
      have b1 := ihl w h.2.1 (by simp only [T.n] at hn; omega)
      have b2 : ∀ W b, Below w.heap.size w W → In W b → b.n ≤ l.n → Calls Try.prog 62 #[.pointer (some ⟨p, 0, none⟩), b.ptr, r.ptr] W fun e w' => ∃ t, Gives W e w' t ∧ Joins W.heap.size p nk nv l r b r t := fun W b hW hi hnn => joining_any b r W (In.below hW h) hi (In.below hW h.2.2) (by simp only [T.n] at hn; omega)
      have HF := hide (show ∀ a f b t C, w.heap.size ≤ C → Splits w.heap.size k l a f b → Joins C p nk nv l r b r t → Splits w.heap.size k (.node p nk nv l r) a f t from fun _ _ _ _ _ hC hs hj => .left hc hs (hj.mono hC))
      obtain ⟨al, hal⟩ := l.ptr_shape
      obtain ⟨ar, har⟩ := r.ptr_shape
      rw [hal] at c2 b1
      rw [har] at c3
      simp only [har] at b2
      rw [node_ptr]
      clear h hn hc hal har c1 c4 c5 ihl ihr
      go_enter Try.func66, Try.ntmps66
      go_wp2_with (first
        | (go_at_call 49; refine (hcmp _).mono ?_; rintro e w' ⟨rfl, hw⟩; replace hw := hw.symm; subst hw)
        | (go_at_call 66; refine b1.mono ?_; rintro e w1 ⟨a, f, b, rfl, hs, ia, if_, ib, hb1⟩; obtain ⟨xa, ha⟩ := a.ptr_shape; obtain ⟨xf, hf⟩ := f.ptr_shape; obtain ⟨xb, hb⟩ := b.ptr_shape; have c3' := cell_stays c3 hb1; have hj := b2 w1 b hb1 ib hs.n.2; rw [hb] at hj; rw [ha, hf, hb]; have HS := hide (And.intro hs (And.intro ia (And.intro if_ (And.intro ib (And.intro ha hf))))); clear hs ia if_ ib ha hf hb)
        | (go_at_call 62; refine hj.mono ?_; rintro e w2 ⟨t, ⟨rfl, it, hb2⟩, hjj⟩; obtain ⟨xt, ht⟩ := t.ptr_shape; rw [ht]; have HT := hide (And.intro ht (And.intro it hjj)); clear ht it hjj))
      go_ret3
      exact ⟨a, f, t, by rw [HS.out.2.2.2.2.1, HS.out.2.2.2.2.2, HT.out.1]; rfl, HF.out _ _ _ _ _ hb1.size HS.out.1 HT.out.2.2, In.below hb2 HS.out.2.1, In.below hb2 HS.out.2.2.1, HT.out.2.1, hb1.trans (hb2.mono hb1.size)⟩
    · have hcmp := fun W => compare_is hc W
      have HF := hide (And.intro h (show Splits w.heap.size k (.node p nk nv l r) l (.node p nk nv l r) r from .same hc))
      obtain ⟨al, hal⟩ := l.ptr_shape
      obtain ⟨ar, har⟩ := r.ptr_shape
      rw [hal] at c2
      rw [har] at c3
      rw [node_ptr]
      have HP := hide (And.intro hal har)
      clear h hn hc hal har c1 c4 c5 ihl ihr
      go_enter Try.func66, Try.ntmps66
      go_wp2_with (go_at_call 49; refine (hcmp _).mono ?_; rintro e w' ⟨rfl, hw⟩; replace hw := hw.symm; subst hw)
      go_quiet (fail)
      go_wp2
      go_ret3
      exact ⟨l, .node p nk nv l r, r, by rw [HP.out.1, HP.out.2]; rfl, HF.out.2, In.below (below_drew w _) HF.out.1.2.1, In.below (below_drew w _) HF.out.1, In.below (below_drew w _) HF.out.1.2.2, below_drew w _⟩
    · have hcmp := fun W => compare_is hc W
      have b1 := ihr w h.2.2 (by simp only [T.n] at hn; omega)
      have b2 : ∀ W a, Below w.heap.size w W → In W a → a.n ≤ r.n → Calls Try.prog 62 #[.pointer (some ⟨p, 0, none⟩), l.ptr, a.ptr] W fun e w' => ∃ t, Gives W e w' t ∧ Joins W.heap.size p nk nv l r l a t := fun W a hW hi hnn => joining_any l a W (In.below hW h) (In.below hW h.2.1) hi (by simp only [T.n] at hn; omega)
      have HF := hide (show ∀ a f b t C, w.heap.size ≤ C → Splits w.heap.size k r a f b → Joins C p nk nv l r l a t → Splits w.heap.size k (.node p nk nv l r) t f b from fun _ _ _ _ _ hC hs hj => .right hc hs (hj.mono hC))
      obtain ⟨al, hal⟩ := l.ptr_shape
      obtain ⟨ar, har⟩ := r.ptr_shape
      rw [hal] at c2
      rw [har] at c3 b1
      simp only [hal] at b2
      rw [node_ptr]
      clear h hn hc hal har c1 c4 c5 ihl ihr
      go_enter Try.func66, Try.ntmps66
      go_wp2_with (first
        | (go_at_call 49; refine (hcmp _).mono ?_; rintro e w' ⟨rfl, hw⟩; replace hw := hw.symm; subst hw)
        | (go_at_call 66; refine b1.mono ?_; rintro e w1 ⟨a, f, b, rfl, hs, ia, if_, ib, hb1⟩; obtain ⟨xa, ha⟩ := a.ptr_shape; obtain ⟨xf, hf⟩ := f.ptr_shape; obtain ⟨xb, hb⟩ := b.ptr_shape; have c2' := cell_stays c2 hb1; have hj := b2 w1 a hb1 ia hs.n.1; rw [ha] at hj; rw [ha, hf, hb]; have HS := hide (And.intro hs (And.intro ia (And.intro if_ (And.intro ib (And.intro hb hf))))); clear hs ia if_ ib ha hf hb)
        | (go_at_call 62; refine hj.mono ?_; rintro e w2 ⟨t, ⟨rfl, it, hb2⟩, hjj⟩; obtain ⟨xt, ht⟩ := t.ptr_shape; rw [ht]; have HT := hide (And.intro ht (And.intro it hjj)); clear ht it hjj))
      go_ret3
      exact ⟨t, f, b, by rw [HS.out.2.2.2.2.1, HS.out.2.2.2.2.2, HT.out.1]; rfl, HF.out _ _ _ _ _ hb1.size HS.out.1 HT.out.2.2, HT.out.2.1, In.below hb2 HS.out.2.2.1, In.below hb2 HS.out.2.2.2.1, hb1.trans (hb2.mono hb1.size)⟩

/-- Whether all keys of l are below k, and all of r above. -/
def fitsB (l : T) (k : ByteArray) (r : T) : Bool := (decide (l = .nil) || decide (cmpB l.last.key k = -1)) && (decide (r = .nil) || decide (cmpB k r.first.key = -1))
theorem fits_is {l r : T} {k : ByteArray} (hl : Srt l.list) (hr : Srt r.list) : fitsB l k r = true ↔ (∀ y ∈ l.list, cmpB y.1 k = -1) ∧ (∀ y ∈ r.list, cmpB k y.1 = -1) := by
  unfold fitsB
  rw [Bool.and_eq_true, Bool.or_eq_true, Bool.or_eq_true, decide_eq_true_eq, decide_eq_true_eq, decide_eq_true_eq, decide_eq_true_eq]
  refine and_congr ?_ ?_
  · by_cases e : l = .nil
    · subst e; simp [T.list]
    · obtain ⟨p, k', v', l', rest, h1, h2, _⟩ := T.last_spec e
      rw [h1, h2]
      rw [h2] at hl
      have hs := (Srt.app (b := [])).1 hl
      constructor
      · rintro (h | h) y hy
        · exact (e h).elim
        · simp only [List.mem_append, List.mem_singleton] at hy
          rcases hy with hy | rfl
          · exact ord_B.trans _ _ _ (hs.2.2.1 y hy) h
          · exact h
      · intro h
        exact .inr (h (k', v') (by simp))
  · by_cases e : r = .nil
    · subst e; simp [T.list]
    · obtain ⟨p, k', v', l', rest, h1, h2, _⟩ := T.first_spec e
      rw [h1, h2]
      rw [h2] at hr
      have hs := (Srt.app (a := [])).1 hr
      constructor
      · rintro (h | h) y hy
        · exact (e h).elim
        · rcases List.mem_cons.1 hy with rfl | hy
          · exact h
          · exact ord_B.trans _ _ _ h (hs.2.2.2 y hy)
      · intro h
        exact .inr (h (k', v') (by simp))
set_option maxHeartbeats 4000000 in
set_option maxRecDepth 100000 in
theorem fits_any (l r : T) (k : ByteArray) (w : World) (hl : In w l) (hr : In w r) : Calls Try.prog 67 #[l.ptr, .string k, r.ptr] w fun e w' => e = .returned (.bool (fitsB l k r)) ∧ w' = w := by
  have e1 := end_right l w hl
  have e2 := end_left r w hr
  have tk : True := trivial
  have arms : ∀ (b c : Bool), (b && c) = fitsB l k r → True := fun _ _ _ => trivial
  clear arms
  by_cases n1 : l = .nil
  · subst n1
    by_cases n2 : r = .nil
    · subst n2
      have hf : fitsB .nil k .nil = true := by simp [fitsB]
      rw [hf]
      simp only [T.ptr, T.first, T.last] at e1 e2 ⊢
      clear hl hr hf
      go_enter Try.func67, Try.ntmps67
      go_wp2_with (first
        | (go_at_call 63; clear tk; refine e1.mono ?_; rintro e w' ⟨rfl, hw⟩; replace hw := hw.symm; subst hw)
        | (go_at_call 63; refine e2.mono ?_; rintro e w' ⟨rfl, hw⟩; replace hw := hw.symm; subst hw))
      go_ret
      exact ⟨rfl, rfl⟩
    · obtain ⟨p, k', v', l', rest, h1, _, h3⟩ := T.first_spec n2
      have hc := (In.sub h3 hr)
      rw [h1] at hc e2
      have c0 := hc.cells.c0
      have hf : fitsB .nil k r = Op.bytesLess k.toList k'.toList := by simp [fitsB, n2, h1, T.key, less_B]
      rw [hf]
      obtain ⟨x, hx⟩ := r.ptr_shape
      rw [hx, node_ptr] at e2
      rw [hx]
      simp only [T.ptr, T.last] at e1 ⊢
      clear hl hr hf n2 h1 h3 hc hx
      go_enter Try.func67, Try.ntmps67
      go_wp2_with (first
        | (go_at_call 63; clear tk; refine e1.mono ?_; rintro e w' ⟨rfl, hw⟩; replace hw := hw.symm; subst hw)
        | (go_at_call 63; refine e2.mono ?_; rintro e w' ⟨rfl, hw⟩; replace hw := hw.symm; subst hw))
      go_ret
      exact ⟨rfl, rfl⟩
  · obtain ⟨q, kq, vq, lq, restq, g1, _, g3⟩ := T.last_spec n1
    have hq := (In.sub g3 hl)
    rw [g1] at hq e1
    have d0 := hq.cells.c0
    obtain ⟨y, hy⟩ := l.ptr_shape
    rw [hy, node_ptr] at e1
    rw [hy]
    by_cases n2 : r = .nil
    · subst n2
      have hf : fitsB l k .nil = Op.bytesLess kq.toList k.toList := by simp [fitsB, n1, g1, T.key, less_B]
      rw [hf]
      simp only [T.ptr, T.first] at e2 ⊢
      by_cases hb : Op.bytesLess kq.toList k.toList = true
      · rw [hb]
        clear hl hr hf n1 g1 g3 hq hy
        go_enter Try.func67, Try.ntmps67
        go_wp2_with (first
          | (go_at_call 63; clear tk; refine e1.mono ?_; rintro e w' ⟨rfl, hw⟩; replace hw := hw.symm; subst hw)
          | (go_at_call 63; refine e2.mono ?_; rintro e w' ⟨rfl, hw⟩; replace hw := hw.symm; subst hw))
        go_ret
        exact ⟨rfl, rfl⟩
      · have hb : Op.bytesLess kq.toList k.toList = false := by simpa using hb
        rw [hb]
        clear hl hr hf n1 g1 g3 hq hy
        go_enter Try.func67, Try.ntmps67
        go_wp2_with (first
          | (go_at_call 63; clear tk; refine e1.mono ?_; rintro e w' ⟨rfl, hw⟩; replace hw := hw.symm; subst hw)
          | (go_at_call 63; refine e2.mono ?_; rintro e w' ⟨rfl, hw⟩; replace hw := hw.symm; subst hw))
        go_ret
        exact ⟨rfl, rfl⟩
    · obtain ⟨p, k', v', l', rest, h1, _, h3⟩ := T.first_spec n2
      have hc := (In.sub h3 hr)
      rw [h1] at hc e2
      have c0 := hc.cells.c0
      have hf : fitsB l k r = (Op.bytesLess kq.toList k.toList && Op.bytesLess k.toList k'.toList) := by simp [fitsB, n1, n2, g1, h1, T.key, less_B]
      rw [hf]
      obtain ⟨x, hx⟩ := r.ptr_shape
      rw [hx, node_ptr] at e2
      rw [hx]
      by_cases hb : Op.bytesLess kq.toList k.toList = true
      · rw [hb, Bool.true_and]
        clear hl hr hf n1 g1 g3 hq hy n2 h1 h3 hc hx
        go_enter Try.func67, Try.ntmps67
        go_wp2_with (first
          | (go_at_call 63; clear tk; refine e1.mono ?_; rintro e w' ⟨rfl, hw⟩; replace hw := hw.symm; subst hw)
          | (go_at_call 63; refine e2.mono ?_; rintro e w' ⟨rfl, hw⟩; replace hw := hw.symm; subst hw))
        go_ret
        exact ⟨rfl, rfl⟩
      · have hb : Op.bytesLess kq.toList k.toList = false := by simpa using hb
        rw [hb, Bool.false_and]
        clear hl hr hf n1 g1 g3 hq hy n2 h1 h3 hc hx
        go_enter Try.func67, Try.ntmps67
        go_wp2_with (first
          | (go_at_call 63; clear tk; refine e1.mono ?_; rintro e w' ⟨rfl, hw⟩; replace hw := hw.symm; subst hw)
          | (go_at_call 63; refine e2.mono ?_; rintro e w' ⟨rfl, hw⟩; replace hw := hw.symm; subst hw))
        go_ret
        exact ⟨rfl, rfl⟩
end Go.Proofs.Ytckkoigghkgfdaa
