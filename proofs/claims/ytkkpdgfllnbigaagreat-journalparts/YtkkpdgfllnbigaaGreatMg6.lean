/-
  SPLIT, as the program has it; whether keys fit beside a key.
  MAPS, as the program has them: Len, Height, Root, Same, Map, Get, First, Last, Put, Take, Split, Join, Make.
  MAPS, as the program has them: Get, First, Last, Put, Take, Split, Join, Make.
  A REGION THAT DRAWS ITS ORDER, IN AN ITERATOR: loads beside calls of yield. What yields its value in every world that meets S is taken first, as outside of a fence; a call of yield comes up alone. It names no function of the program.
  Cells that stay.
-/
import Derived.Test.YtkkpdgfllnbigaaGreatMg5
import Derived.OwnWalk
import Derived.Test.YtkkpdgfllnbigaaGreatMg2
import Derived.OrdersHeld
namespace Go.Proofs.YtkkpdgfllnbigaaGreat.Pm
open Go.RowKit Go.Shelf
set_option linter.unusedSimpArgs false

set_option maxHeartbeats 4000000 in
set_option maxRecDepth 100000 in
theorem split_any (k : ByteArray) (t : T) : ∀ (w : World), In w t → t.n ≤ 700000 →
    Calls Tryz.prog 265 #[t.ptr, .string k] w fun e w' => ∃ a f b, e = .returned (.tuple #[a.ptr, f.ptr, b.ptr]) ∧ Splits w.heap.size k t a f b ∧ In w' a ∧ In w' f ∧ In w' b ∧ Below w.heap.size w w' := by
  induction t with
  | nil =>
    intro w _ _
    simp only [T.ptr]
    go_enter Tryz.func265, Tryz.ntmps265
    go_wp2
    go_ret3
    exact ⟨.nil, .nil, .nil, rfl, .none, trivial, trivial, trivial, Below.refl _ _⟩
  | node p nk nv l r ihl ihr =>
    intro w h hn
    obtain ⟨c0, c1, c2, c3, c4, c5⟩ := h.cells
    rcases ord_B.range k nk with hc | hc | hc
    · have hcmp := fun W => compare_is hc W
      have b1 := ihl w h.2.1 (by simp only [T.n] at hn; omega)
      have b2 : ∀ W b, Below w.heap.size w W → In W b → b.n ≤ l.n → Calls Tryz.prog 172 #[.pointer (some ⟨p, 0, none⟩), b.ptr, r.ptr] W fun e w' => ∃ t, Gives W e w' t ∧ Joins W.heap.size p nk nv l r b r t := fun W b hW hi hnn => joining_any b r W (In.below hW h) hi (In.below hW h.2.2) (by simp only [T.n] at hn; omega)
      have HF := hide (show ∀ a f b t C, w.heap.size ≤ C → Splits w.heap.size k l a f b → Joins C p nk nv l r b r t → Splits w.heap.size k (.node p nk nv l r) a f t from fun _ _ _ _ _ hC hs hj => .left hc hs (hj.mono hC))
      obtain ⟨al, hal⟩ := l.ptr_shape
      obtain ⟨ar, har⟩ := r.ptr_shape
      rw [hal] at c2 b1
      rw [har] at c3
      simp only [har] at b2
      rw [node_ptr]
      clear h hn hc hal har c1 c4 c5 ihl ihr
      go_enter Tryz.func265, Tryz.ntmps265
      go_wp2_with (first
        | (go_at_call 128; refine (hcmp _).mono ?_; rintro e w' ⟨rfl, hw⟩; replace hw := hw.symm; subst hw)
        | (go_at_call 265; refine b1.mono ?_; rintro e w1 ⟨a, f, b, rfl, hs, ia, if_, ib, hb1⟩; obtain ⟨xa, ha⟩ := a.ptr_shape; obtain ⟨xf, hf⟩ := f.ptr_shape; obtain ⟨xb, hb⟩ := b.ptr_shape; have c3' := cell_stays c3 hb1; have hj := b2 w1 b hb1 ib hs.n.2; rw [hb] at hj; rw [ha, hf, hb]; have HS := hide (And.intro hs (And.intro ia (And.intro if_ (And.intro ib (And.intro ha hf))))); clear hs ia if_ ib ha hf hb)
        | (go_at_call 172; refine hj.mono ?_; rintro e w2 ⟨t, ⟨rfl, it, hb2⟩, hjj⟩; obtain ⟨xt, ht⟩ := t.ptr_shape; rw [ht]; have HT := hide (And.intro ht (And.intro it hjj)); clear ht it hjj))
      go_ret3
      exact ⟨a, f, t, by rw [HS.out.2.2.2.2.1, HS.out.2.2.2.2.2, HT.out.1]; rfl, HF.out _ _ _ _ _ hb1.size HS.out.1 HT.out.2.2, In.below hb2 HS.out.2.1, In.below hb2 HS.out.2.2.1, HT.out.2.1, hb1.trans (hb2.mono hb1.size)⟩
    · have hcmp := fun W => compare_is hc W
      have HF := hide (And.intro h (show Splits w.heap.size k (.node p nk nv l r) l (.node p nk nv l r) r from .same hc))
      obtain ⟨al, hal⟩ := l.ptr_shape
      obtain ⟨ar, har⟩ := r.ptr_shape
      rw [hal] at c2
      rw [har] at c3
      rw [node_ptr]
      have HP := hide (And.intro hal har)
      clear h hn hc hal har c1 c4 c5 ihl ihr
      go_enter Tryz.func265, Tryz.ntmps265
      go_wp2_with (go_at_call 128; refine (hcmp _).mono ?_; rintro e w' ⟨rfl, hw⟩; replace hw := hw.symm; subst hw)
      go_quiet (fail)
      go_wp2
      go_ret3
      exact ⟨l, .node p nk nv l r, r, by rw [HP.out.1, HP.out.2]; rfl, HF.out.2, In.below (below_drew w _) HF.out.1.2.1, In.below (below_drew w _) HF.out.1, In.below (below_drew w _) HF.out.1.2.2, below_drew w _⟩
    · have hcmp := fun W => compare_is hc W
      have b1 := ihr w h.2.2 (by simp only [T.n] at hn; omega)
      have b2 : ∀ W a, Below w.heap.size w W → In W a → a.n ≤ r.n → Calls Tryz.prog 172 #[.pointer (some ⟨p, 0, none⟩), l.ptr, a.ptr] W fun e w' => ∃ t, Gives W e w' t ∧ Joins W.heap.size p nk nv l r l a t := fun W a hW hi hnn => joining_any l a W (In.below hW h) (In.below hW h.2.1) hi (by simp only [T.n] at hn; omega)
      have HF := hide (show ∀ a f b t C, w.heap.size ≤ C → Splits w.heap.size k r a f b → Joins C p nk nv l r l a t → Splits w.heap.size k (.node p nk nv l r) t f b from fun _ _ _ _ _ hC hs hj => .right hc hs (hj.mono hC))
      obtain ⟨al, hal⟩ := l.ptr_shape
      obtain ⟨ar, har⟩ := r.ptr_shape
      rw [hal] at c2
      rw [har] at c3 b1
      simp only [hal] at b2
      rw [node_ptr]
      clear h hn hc hal har c1 c4 c5 ihl ihr
      go_enter Tryz.func265, Tryz.ntmps265
      go_wp2_with (first
        | (go_at_call 128; refine (hcmp _).mono ?_; rintro e w' ⟨rfl, hw⟩; replace hw := hw.symm; subst hw)
        | (go_at_call 265; refine b1.mono ?_; rintro e w1 ⟨a, f, b, rfl, hs, ia, if_, ib, hb1⟩; obtain ⟨xa, ha⟩ := a.ptr_shape; obtain ⟨xf, hf⟩ := f.ptr_shape; obtain ⟨xb, hb⟩ := b.ptr_shape; have c2' := cell_stays c2 hb1; have hj := b2 w1 a hb1 ia hs.n.1; rw [ha] at hj; rw [ha, hf, hb]; have HS := hide (And.intro hs (And.intro ia (And.intro if_ (And.intro ib (And.intro hb hf))))); clear hs ia if_ ib ha hf hb)
        | (go_at_call 172; refine hj.mono ?_; rintro e w2 ⟨t, ⟨rfl, it, hb2⟩, hjj⟩; obtain ⟨xt, ht⟩ := t.ptr_shape; rw [ht]; have HT := hide (And.intro ht (And.intro it hjj)); clear ht it hjj))
      go_ret3
      exact ⟨t, f, b, by rw [HS.out.2.2.2.2.1, HS.out.2.2.2.2.2, HT.out.1]; rfl, HF.out _ _ _ _ _ hb1.size HS.out.1 HT.out.2.2, HT.out.2.1, In.below hb2 HS.out.2.2.1, In.below hb2 HS.out.2.2.2.1, hb1.trans (hb2.mono hb1.size)⟩

/-- Whether all keys of l are below k, and all of r above. -/
def fitsB (l : T) (k : ByteArray) (r : T) : Bool := (decide (l = .nil) || decide (cmpB l.last.key k = -1)) && (decide (r = .nil) || decide (cmpB k r.first.key = -1))
theorem fits_is {l r : T} {k : ByteArray} (hl : Srt l.list) (hr : Srt r.list) : fitsB l k r = true ↔ (∀ y ∈ l.list, cmpB y.1 k = -1) ∧ (∀ y ∈ r.list, cmpB k y.1 = -1) := by
  unfold fitsB
  rw [Bool.and_eq_true, Bool.or_eq_true, Bool.or_eq_true, decide_eq_true_eq, decide_eq_true_eq, decide_eq_true_eq, decide_eq_true_eq]
  refine and_congr ?_ ?_
  · by_cases e : l = .nil
    · subst e; simp [T.list]
    · obtain ⟨p, k', v', l', rest, h1, h2, _⟩ := T.last_spec e
      rw [h1, h2]
      rw [h2] at hl
      have hs := (Srt.app (b := [])).1 hl
      constructor
      · rintro (h | h) y hy
        · exact (e h).elim
        · simp only [List.mem_append, List.mem_singleton] at hy
          rcases hy with hy | rfl
          · exact ord_B.trans _ _ _ (hs.2.2.1 y hy) h
          · exact h
      · intro h
        exact .inr (h (k', v') (by simp))
  · by_cases e : r = .nil
    · subst e; simp [T.list]
    · obtain ⟨p, k', v', l', rest, h1, h2, _⟩ := T.first_spec e
      rw [h1, h2]
      rw [h2] at hr
      have hs := (Srt.app (a := [])).1 hr
      constructor
      · rintro (h | h) y hy
        · exact (e h).elim
        · rcases List.mem_cons.1 hy with rfl | hy
          · exact h
          · exact ord_B.trans _ _ _ h (hs.2.2.2 y hy)
      · intro h
        exact .inr (h (k', v') (by simp))
set_option maxHeartbeats 4000000 in
set_option maxRecDepth 100000 in
theorem fits_any (l r : T) (k : ByteArray) (w : World) (hl : In w l) (hr : In w r) : Calls Tryz.prog 266 #[l.ptr, .string k, r.ptr] w fun e w' => e = .returned (.bool (fitsB l k r)) ∧ w' = w := by
  have e1 := end_right l w hl
  have e2 := end_left r w hr
  have tk : True := trivial
  have arms : ∀ (b c : Bool), (b && c) = fitsB l k r → True := fun _ _ _ => trivial
  clear arms
  by_cases n1 : l = .nil
  · subst n1
    by_cases n2 : r = .nil
    · subst n2
      have hf : fitsB .nil k .nil = true := by simp [fitsB]
      rw [hf]
      simp only [T.ptr, T.first, T.last] at e1 e2 ⊢
      clear hl hr hf
      go_enter Tryz.func266, Tryz.ntmps266
      go_wp2_with (first
        | (go_at_call 190; clear tk; refine e1.mono ?_; rintro e w' ⟨rfl, hw⟩; replace hw := hw.symm; subst hw)
        | (go_at_call 190; refine e2.mono ?_; rintro e w' ⟨rfl, hw⟩; replace hw := hw.symm; subst hw))
      go_ret
      exact ⟨rfl, rfl⟩
    · obtain ⟨p, k', v', l', rest, h1, _, h3⟩ := T.first_spec n2
      have hc := (In.sub h3 hr)
      rw [h1] at hc e2
      have c0 := hc.cells.c0
      have hf : fitsB .nil k r = Op.bytesLess k.toList k'.toList := by simp [fitsB, n2, h1, T.key, less_B]
      rw [hf]
      obtain ⟨x, hx⟩ := r.ptr_shape
      rw [hx, node_ptr] at e2
      rw [hx]
      simp only [T.ptr, T.last] at e1 ⊢
      clear hl hr hf n2 h1 h3 hc hx
      go_enter Tryz.func266, Tryz.ntmps266
      go_wp2_with (first
        | (go_at_call 190; clear tk; refine e1.mono ?_; rintro e w' ⟨rfl, hw⟩; replace hw := hw.symm; subst hw)
        | (go_at_call 190; refine e2.mono ?_; rintro e w' ⟨rfl, hw⟩; replace hw := hw.symm; subst hw))
      go_ret
      exact ⟨rfl, rfl⟩
  · obtain ⟨q, kq, vq, lq, restq, g1, _, g3⟩ := T.last_spec n1
    have hq := (In.sub g3 hl)
    rw [g1] at hq e1
    have d0 := hq.cells.c0
    obtain ⟨y, hy⟩ := l.ptr_shape
    rw [hy, node_ptr] at e1
    rw [hy]
    by_cases n2 : r = .nil
    · subst n2
      have hf : fitsB l k .nil = Op.bytesLess kq.toList k.toList := by simp [fitsB, n1, g1, T.key, less_B]
      rw [hf]
      simp only [T.ptr, T.first] at e2 ⊢
      by_cases hb : Op.bytesLess kq.toList k.toList = true
      · rw [hb]
        clear hl hr hf n1 g1 g3 hq hy
        go_enter Tryz.func266, Tryz.ntmps266
        go_wp2_with (first
          | (go_at_call 190; clear tk; refine e1.mono ?_; rintro e w' ⟨rfl, hw⟩; replace hw := hw.symm; subst hw)
          | (go_at_call 190; refine e2.mono ?_; rintro e w' ⟨rfl, hw⟩; replace hw := hw.symm; subst hw))
        go_ret
        exact ⟨rfl, rfl⟩
      · have hb : Op.bytesLess kq.toList k.toList = false := by simpa using hb
        rw [hb]
        clear hl hr hf n1 g1 g3 hq hy
        go_enter Tryz.func266, Tryz.ntmps266
        go_wp2_with (first
          | (go_at_call 190; clear tk; refine e1.mono ?_; rintro e w' ⟨rfl, hw⟩; replace hw := hw.symm; subst hw)
          | (go_at_call 190; refine e2.mono ?_; rintro e w' ⟨rfl, hw⟩; replace hw := hw.symm; subst hw))
        go_ret
        exact ⟨rfl, rfl⟩
    · obtain ⟨p, k', v', l', rest, h1, _, h3⟩ := T.first_spec n2
      have hc := (In.sub h3 hr)
      rw [h1] at hc e2
      have c0 := hc.cells.c0
      have hf : fitsB l k r = (Op.bytesLess kq.toList k.toList && Op.bytesLess k.toList k'.toList) := by simp [fitsB, n1, n2, g1, h1, T.key, less_B]
      rw [hf]
      obtain ⟨x, hx⟩ := r.ptr_shape
      rw [hx, node_ptr] at e2
      rw [hx]
      by_cases hb : Op.bytesLess kq.toList k.toList = true
      · rw [hb, Bool.true_and]
        clear hl hr hf n1 g1 g3 hq hy n2 h1 h3 hc hx
        go_enter Tryz.func266, Tryz.ntmps266
        go_wp2_with (first
          | (go_at_call 190; clear tk; refine e1.mono ?_; rintro e w' ⟨rfl, hw⟩; replace hw := hw.symm; subst hw)
          | (go_at_call 190; refine e2.mono ?_; rintro e w' ⟨rfl, hw⟩; replace hw := hw.symm; subst hw))
        go_ret
        exact ⟨rfl, rfl⟩
      · have hb : Op.bytesLess kq.toList k.toList = false := by simpa using hb
        rw [hb, Bool.false_and]
        clear hl hr hf n1 g1 g3 hq hy n2 h1 h3 hc hx
        go_enter Tryz.func266, Tryz.ntmps266
        go_wp2_with (first
          | (go_at_call 190; clear tk; refine e1.mono ?_; rintro e w' ⟨rfl, hw⟩; replace hw := hw.symm; subst hw)
          | (go_at_call 190; refine e2.mono ?_; rintro e w' ⟨rfl, hw⟩; replace hw := hw.symm; subst hw))
        go_ret
        exact ⟨rfl, rfl⟩
end Go.Proofs.YtkkpdgfllnbigaaGreat.Pm
namespace Go.Proofs.YtkkpdgfllnbigaaGreat.Pm
open Go.RowKit Go.Shelf
set_option linter.unusedSimpArgs false

/-- A map's value. -/
def mv (t : T) : Value := .agg #[t.ptr]
theorem mLen_any (t : T) (w : World) (h : In w t) : Calls Tryz.prog 21 #[mv t] w fun e w' => e = .returned (.int .i64 (t.n : Nat)) ∧ Below w.heap.size w w' := by
  have hb : Below w.heap.size w (w.alloc (.cells #[t.ptr] 27)) := (Below.refl _ w).alloc (Nat.le_refl _) _
  have hs := len_any t _ (In.below hb h)
  unfold mv
  obtain ⟨a, ha⟩ := t.ptr_shape
  rw [ha] at hb hs ⊢
  generalize t.n = N at *
  clear h ha
  go_enter Tryz.func21, Tryz.ntmps21
  go_wp2_with (go_at_call 113; refine hs.mono ?_; rintro e w' ⟨rfl, rfl⟩)
  go_ret
  exact ⟨rfl, hb⟩
theorem mRoot_any (t : T) (w : World) : Calls Tryz.prog 245 #[mv t] w fun e w' => e = .returned t.ptr ∧ Below w.heap.size w w' := by
  have hb : Below w.heap.size w (w.alloc (.cells #[t.ptr] 27)) := (Below.refl _ w).alloc (Nat.le_refl _) _
  unfold mv
  obtain ⟨a, ha⟩ := t.ptr_shape
  rw [ha] at hb ⊢
  clear ha
  go_enter Tryz.func245, Tryz.ntmps245
  go_wp2
  go_ret
  exact ⟨rfl, hb⟩
theorem mSame_any (s t : T) (w : World) (hs : In w s) (ht : In w t) : Calls Tryz.prog 79 #[mv s, mv t] w fun e w' => e = .returned (.bool (decide (s = t))) ∧ Below w.heap.size w w' := by
  have hb : Below w.heap.size w ((w.alloc (.cells #[s.ptr] 27)).alloc (.cells #[t.ptr] 27)) := ((Below.refl _ w).alloc (Nat.le_refl _) _).alloc (by simp) _
  have hq : (binOp .eql 25 s.ptr t.ptr).run Tryz.prog ((w.alloc (.cells #[s.ptr] 27)).alloc (.cells #[t.ptr] 27)) = .ok (.bool (decide (s = t))) ((w.alloc (.cells #[s.ptr] 27)).alloc (.cells #[t.ptr] 27)) := by
    by_cases e : s = t
    · subst e; simp only [decide_true]; exact eql_same s _
    · rw [decide_eq_false e]; exact eql_other (In.below hb hs) (In.below hb ht) e
  unfold mv
  obtain ⟨a, ha⟩ := s.ptr_shape
  obtain ⟨b, hb'⟩ := t.ptr_shape
  rw [ha, hb'] at hb hq ⊢
  generalize decide (s = t) = D at *
  clear ha hb' hs ht
  go_enter Tryz.func79, Tryz.ntmps79
  go_wp2
  go_ret
  exact ⟨rfl, hb⟩
theorem cell_new (w : World) (x : Value) (t : TypeId) : (w.alloc (.cells #[x] t)).cell? ⟨w.heap.size, 0, none⟩ = some x := by
  rw [cell_of_row _ _ 0 _ t (0, 0) (heap_alloc_new w _)]; rfl
theorem Tryz.info27 : (Tryz.prog.info? 27).map (·.size) = some 1 := by kernel_rfl
end Go.Proofs.YtkkpdgfllnbigaaGreat.Pm
namespace Go.Proofs.YtkkpdgfllnbigaaGreat.Pm
open Go.RowKit Go.Shelf
set_option linter.unusedSimpArgs false

theorem In.find {w : World} (k : ByteArray) : ∀ {t : T}, In w t → In w (t.find k)
  | .nil, _ => trivial
  | .node p nk nv l r, h => by
    rw [find_node]
    split
    · exact In.find k h.2.1
    · split
      · exact In.find k h.2.2
      · exact h
def T.isSome : T → Bool
  | .nil => false
  | .node .. => true
theorem isSome_ptr {t : T} {a : Option Addr} (h : t.ptr = .pointer a) : a.isSome = t.isSome ∧ a.isNone = !t.isSome := by
  cases t with
  | nil => simp only [T.ptr, Value.pointer.injEq] at h; subst h; exact ⟨rfl, rfl⟩
  | node => simp only [T.ptr, Value.pointer.injEq] at h; subst h; exact ⟨rfl, rfl⟩
theorem told_any (t : T) (w : World) (h : In w t) : Calls Tryz.prog 189 #[t.ptr] w fun e w' => e = .returned (.tuple #[.string t.key, .string t.val, .bool t.isSome]) ∧ w' = w := by
  have h1 := key_any t w h
  have h2 := value_any t w h
  obtain ⟨a, ha⟩ := t.ptr_shape
  have hd := (isSome_ptr ha).2
  rw [ha] at h1 h2 ⊢
  generalize t.key = K at *
  generalize t.val = V at *
  generalize t.isSome = D at *
  clear h ha
  go_enter Tryz.func189, Tryz.ntmps189
  go_wp2_with (first
    | (go_at_call 233; refine h1.mono ?_; rintro e w' ⟨rfl, hw⟩; replace hw := hw.symm; subst hw)
    | (go_at_call 120; refine h2.mono ?_; rintro e w' ⟨rfl, hw⟩; replace hw := hw.symm; subst hw))
  go_ret3
  exact ⟨by simp, rfl⟩
theorem In.first {w : World} {t : T} (h : In w t) : In w t.first := by
  by_cases e : t = .nil
  · subst e; trivial
  · obtain ⟨_, _, _, _, _, _, _, hs⟩ := T.first_spec e
    exact In.sub hs h
theorem In.last {w : World} {t : T} (h : In w t) : In w t.last := by
  by_cases e : t = .nil
  · subst e; trivial
  · obtain ⟨_, _, _, _, _, _, _, hs⟩ := T.last_spec e
    exact In.sub hs h
theorem mFirst_any (t : T) (w : World) (h : In w t) : Calls Tryz.prog 145 #[mv t] w fun e w' => e = .returned (.tuple #[.string t.first.key, .string t.first.val, .bool t.first.isSome]) ∧ Below w.heap.size w w' := by
  have hb : Below w.heap.size w (w.alloc (.cells #[t.ptr] 27)) := (Below.refl _ w).alloc (Nat.le_refl _) _
  have h1 := end_left t _ (In.below hb h)
  have h2 := told_any t.first _ (In.below hb h.first)
  unfold mv
  obtain ⟨a, ha⟩ := t.ptr_shape
  obtain ⟨b, hb'⟩ := t.first.ptr_shape
  rw [ha] at hb h1 h2 ⊢
  rw [hb'] at h1 h2
  generalize t.first.key = K at *
  generalize t.first.val = V at *
  generalize t.first.isSome = D at *
  clear h ha hb'
  go_enter Tryz.func145, Tryz.ntmps145
  go_wp2_with (first
    | (go_at_call 190; refine h1.mono ?_; rintro e w' ⟨rfl, rfl⟩)
    | (go_at_call 189; refine h2.mono ?_; rintro e w' ⟨rfl, rfl⟩))
  go_ret3
  exact ⟨rfl, hb⟩
/-- The blocks of a map that came in, and of the one that goes out. -/
theorem two_boxes (w : World) (x : Value) : Below w.heap.size w ((w.alloc (.cells #[x] 27)).alloc (.cells #[.pointer none] 27)) ∧ ((w.alloc (.cells #[x] 27)).alloc (.cells #[.pointer none] 27)).cell? ⟨w.heap.size + 1, 0, none⟩ = some (.pointer none) ∧ ((w.alloc (.cells #[x] 27)).alloc (.cells #[.pointer none] 27)).frozen? ⟨w.heap.size + 1, 0, none⟩ = false := by
  refine ⟨((Below.refl _ w).alloc (Nat.le_refl _) _).alloc (by simp) _, ?_, ?_⟩
  · simp
  · have := frozen_of_row ((w.alloc (.cells #[x] 27)).alloc (.cells #[.pointer none] 27)) (w.heap.size + 1) 0 #[.pointer none] 27 (new2 w _ _).2
    exact this
/-- What is stored into the block that goes out. -/
theorem out_box {w w1 : World} {B : Nat} {y : Value} (hw : w1.heap[B]? = some (.cells #[.pointer none] 27 (0, 0))) (hB : w.heap.size ≤ B) (hb : Below w.heap.size w w1) : (w1.setCell ⟨B, 0, none⟩ y).heap[B]? = some (.cells #[y] 27 (0, 0)) ∧ Below w.heap.size w (w1.setCell ⟨B, 0, none⟩ y) ∧ Only (fun j => j = B) w1 (w1.setCell ⟨B, 0, none⟩ y) := by
  refine ⟨?_, hb.setCell (p := ⟨B, 0, none⟩) hB y, (Only.ofGrown (grown_setCell w1 ⟨B, 0, none⟩ y)).mono (fun j _ e => by simpa using e.symm)⟩
  rw [heap_setCell_same _ _ _ _ 27 _ hw]
  simp
theorem In.only {C : Nat → Prop} {w w' : World} (h : Only C w w') : ∀ {t : T}, In w t → (∀ p, p < w.heap.size → C p → ¬ ∃ k v l r, Sub (.node p k v l r) t) → In w' t
  | .nil, _, _ => trivial
  | .node p k v l r, hi, hC => ⟨(h.block p hi.lt (fun c => hC p hi.lt c ⟨k, v, l, r, .here⟩)).trans hi.1, In.only h hi.2.1 (fun p' hp' c ⟨k', v', l', r', hs⟩ => hC p' hp' c ⟨k', v', l', r', .left hs⟩), In.only h hi.2.2 (fun p' hp' c ⟨k', v', l', r', hs⟩ => hC p' hp' c ⟨k', v', l', r', .right hs⟩)⟩
/-- A block that is no node's. -/
theorem In.aside {w w' : World} {B : Nat} {x : Value} (hw : w.heap[B]? = some (.cells #[x] 27 (0, 0))) (h : Only (fun j => j = B) w w') {t : T} (hi : In w t) : In w' t := by
  refine In.only h hi ?_
  rintro p hp rfl ⟨k, v, l, r, hs⟩
  have := (In.sub hs hi).1
  rw [hw] at this
  simp at this
set_option maxHeartbeats 1000000 in
theorem mPut_any (t : T) (k : ByteArray) (v : ByteArray) (w : World) (h : In w t) (hn : t.n ≤ 700000) : Calls Tryz.prog 25 #[mv t, .string k, .string v] w fun e w' => ∃ t', e = .returned (mv t') ∧ In w' t' ∧ Puts w.heap.size k v t t' ∧ Below w.heap.size w w' := by
  obtain ⟨hb, hc, hf⟩ := two_boxes w t.ptr
  have hB := (new2 w (.cells #[t.ptr] 27) (.cells #[.pointer none] 27)).2
  have hp := put_any k v t _ (In.below hb h) hn
  have key : ∀ w1 t', Gives ((w.alloc (.cells #[t.ptr] 27)).alloc (.cells #[.pointer none] 27)) (.returned t'.ptr) w1 t' → Puts ((w.alloc (.cells #[t.ptr] 27)).alloc (.cells #[.pointer none] 27)).heap.size k v t t' →
      w1.cell? ⟨w.heap.size + 1, 0, none⟩ = some (.pointer none) ∧ w1.frozen? ⟨w.heap.size + 1, 0, none⟩ = false ∧ Hid ((w1.setCell ⟨w.heap.size + 1, 0, none⟩ t'.ptr).heap[w.heap.size + 1]? = some (.cells #[t'.ptr] 27 (0, 0)) ∧ In (w1.setCell ⟨w.heap.size + 1, 0, none⟩ t'.ptr) t' ∧ Puts w.heap.size k v t t' ∧ Below w.heap.size w (w1.setCell ⟨w.heap.size + 1, 0, none⟩ t'.ptr)) := fun w1 t' hg hp => by
    have hw1 := (hg.2.2.block (w.heap.size + 1) (by simp)).trans hB
    have hb1 := hb.trans (hg.2.2.mono hb.size)
    obtain ⟨o1, o2, o3⟩ := out_box (y := t'.ptr) hw1 (by omega) hb1
    refine ⟨by rw [cell_of_row _ _ 0 _ 27 (0, 0) hw1]; rfl, frozen_of_row _ _ 0 _ 27 hw1, hide ⟨o1, In.aside hw1 o3 hg.2.1, hp.mono hb.size, o2⟩⟩
  unfold mv
  obtain ⟨a, ha⟩ := t.ptr_shape
  rw [ha] at hp hb key ⊢
  have HK := hide key
  clear h ha hb hc hf key hB hn
  go_enter Tryz.func25, Tryz.ntmps25
  go_wp2_with (go_at_call 118; refine hp.mono ?_; rintro e w1 ⟨t', hg, hpp⟩; have he := hg.1; subst he; obtain ⟨q1, q2, HQ⟩ := HK.out w1 t' hg hpp; obtain ⟨b, hb⟩ := t'.ptr_shape; have HX := hide hb; rw [hb] at HQ ⊢; clear hb hg hpp)
  refine ret_row (w.heap.size + 1) [.pointer b] rfl rfl Tryz.underlying27 rfl Tryz.info27 HQ.out.1 rfl ?_
  exact ⟨t', by rw [HX.out], HQ.out.2.1, HQ.out.2.2.1, HQ.out.2.2.2⟩
end Go.Proofs.YtkkpdgfllnbigaaGreat.Pm
namespace Go.Proofs.YtkkpdgfllnbigaaGreat.Pm
open Go.RowKit

section
variable {P : Program} {ops : Array Oper} {Q : Exit → Act → World → Prop} {n : Nat} {S : World → Prop}

/-- What comes up, whichever, leaves S. -/
def HIn (n : Nat) (P : Program) (ops : Array Oper) (Q : Exit → Act → World → Prop) (S : World → Prop) : Nat → Array Bool → Act → World → Prop
  | 0, listed, a, w => Region.ready .any ops listed = [] ∧ Q .normal a w
  | f + 1, listed, a, w => (Region.ready .any ops listed = [] → Q .normal a w) ∧ ∀ i ∈ Region.ready .any ops listed, wpOpIn Fence.wide n P ops Q i (fun a' w' => S w' ∧ HIn n P ops Q S f (listed.setIfInBounds i true) a' w') a w
theorem HIn.plain : ∀ {f : Nat} {listed : Array Bool} {a : Act} {w : World}, HIn n P ops Q S f listed a w → wpAnyIn Fence.wide n P .any ops Q f listed a w
  | 0, _, _, _, h => h
  | _ + 1, _, _, _, h => ⟨h.1, fun i hi => wpOpIn_mono (fun _ _ k => k.2.plain) (h.2 i hi)⟩

/-- An operation turns its own temporary alone, and what is deferred. -/
theorem in_shape {j : Nat} {oj : Oper} {K : Act → World → Prop} {a : Act} {w : World} (hj : ops[j]? = some oj) (h : wpOpIn Fence.wide n P ops Q j K a w) :
    wpOpIn Fence.wide n P ops Q j (fun a' w' => K a' w' ∧ ∃ u ds, a' = ({ a with defers := ds } : Act).put oj.dst u) a w := by
  unfold wpOpIn at *
  simp only [hj] at *
  by_cases hw : Region.wanted oj (yielded ops a.tmps) = true
  · rw [if_pos hw] at h ⊢
    refine ⟨h.1, ?_⟩
    have h := h.2
    generalize (oj.semAt Fence.wide.round a.eval).run P w = r at h ⊢
    rcases r with ⟨x, w'⟩ | ⟨x, w'⟩
    · cases x with
      | value v => exact ⟨h, v, a.defers, rfl⟩
      | skip => exact ⟨h, undef, a.defers, rfl⟩
      | defer d => exact ⟨h, undef, d :: a.defers, rfl⟩
      | enter f args =>
        refine ⟨h.1, h.2.mono fun e w'' he => ?_⟩
        rcases e with v | c | _
        · exact ⟨he, v, a.defers, rfl⟩
        · exact he
        · exact he
      | row r args => exact ⟨h.1, h.2.mono fun v w'' he => ⟨he, v, a.defers, rfl⟩⟩
      | round l f ts asg b =>
        refine ⟨h.1, h.2.mono fun e w'' he => ?_⟩
        rcases e with v | c | _
        · exact ⟨he, v, a.defers, rfl⟩
        · exact he
        · exact he
      | _ => exact h
    · cases x <;> exact h
  · rw [if_neg hw] at h ⊢
    exact ⟨h.1, h.2, undef, a.defers, rfl⟩

/-- One that is apart from a quiet one: both ways round. -/
theorem in_swap {j : Nat} {oi oj : Oper} {v : Value} {K : Act → World → Prop} {a : Act} {w : World} (hj : ops[j]? = some oj) (hap : oi.apart ops oj = true)
    (hsi : ∀ cs b, oi.op ≠ .select cs b) (hsj : ∀ cs b, oj.op ≠ .select cs b) (hQ : ∀ c a w, Q (.panic c) (a.put oi.dst v) w → Q (.panic c) a w)
    (hy : YieldsIf P ops S oi v a) (h : wpOpIn Fence.wide n P ops Q j K (a.put oi.dst v) w) :
    wpOpIn Fence.wide n P ops Q j (fun a' w' => YieldsIf P ops S oi v a' ∧ K (a'.put oi.dst v) w') a w := by
  obtain ⟨h1, h2, h3⟩ := Oper.apart_spec hap
  -- an operation that merely says v stands for the quiet one
  obtain ⟨o, ho⟩ : ∃ o : Oper, o = { oi with op := .move (.const v), guard := none } := ⟨_, rfl⟩
  have hd : o.dst = oi.dst := by rw [ho]
  have hl : o.looksAt ops = [] := by rw [ho]; simp [Oper.looksAt, Op.operands]
  have hapo : o.apart ops oj = true := by
    unfold Oper.apart
    rw [hd, hl]
    simp only [Bool.and_eq_true]
    refine ⟨?_, by cases oj.dst <;> rfl⟩
    cases e : oi.dst with
    | none => rfl
    | some d => simp [h1 d e, h2 d e]
  have hyo : YieldsFenced P ops o v a := by
    refine ⟨.inl ⟨by rw [ho]; rfl, fun w => ?_⟩, fun w => by rw [ho]; rfl⟩
    rw [ho]
    simp [execOp, Act.eval]
  have hh := wpOpIn_put (F := Fence.wide) (oi := o) rfl hj hapo (by rw [ho]; intro cs b e; cases e) hsj (by rw [hd]; exact hQ) hyo (by rw [hd]; exact h)
  rw [hd] at hh
  refine wpOpIn_mono ?_ (in_shape hj hh)
  rintro a' w' ⟨⟨_, hk⟩, u, ds, rfl⟩
  refine ⟨hy.of_same ?_ ?_, hk⟩
  · rw [execOp_put oi hsi _ oj.dst u h3]; rfl
  · rw [wanted_put oi _ oj.dst u h3]

/-- A quiet operation that may come up is taken first. -/
theorem HIn.take {i : Nat} {oi : Oper} {v : Value} (hi : ops[i]? = some oi) (hs : Region.noSelect ops = true) (hQ : ∀ c a w, Q (.panic c) (a.put oi.dst v) w → Q (.panic c) a w) :
    ∀ (f : Nat) {listed : Array Bool} {a : Act} {w : World}, Region.free .any ops listed i = true → i ∈ Region.ready .any ops listed → YieldsIf P ops S oi v a → S w →
      HIn n P ops Q S f (listed.setIfInBounds i true) (a.put oi.dst v) w → HIn n P ops Q S (f + 1) listed a w
  | f, listed, a, w, hf, hr, hy, hS, h => by
    refine ⟨fun e => absurd (e ▸ hr) List.not_mem_nil, fun j hj => ?_⟩
    by_cases e : j = i
    · subst e
      unfold wpOpIn
      simp only [hi]
      rcases hy with ⟨hw, hv⟩ | ⟨hw, rfl⟩
      · rw [if_pos hw]
        refine ⟨fun _ _ => trivial, ?_⟩
        rw [show oi.semAt Fence.wide.round a.eval = execOp a.eval oi from Oper.semAt_none _ _, hv w hS]
        exact ⟨hS, h⟩
      · rw [if_neg (by rw [hw]; exact Bool.false_ne_true)]
        exact ⟨fun _ _ => trivial, hS, h⟩
    · have hj2 := ready_mono hj e
      cases f with
      | zero => rw [h.1] at hj2; exact absurd hj2 List.not_mem_nil
      | succ f =>
        obtain ⟨hun, oj, hoj, hall⟩ := mem_ready.1 hj
        have hun_i := (mem_ready.1 hr).1
        have hnot : ∀ x ∈ oj.after, Region.binds .any x = true → x.on ≠ i := fun x hx hb he => by
          have q := hall x hx hb
          rw [he] at q
          simp only [Array.getD_eq_getD_getElem?] at q hun_i
          cases hq : listed[i]? with
          | none => rw [hq] at q; cases q
          | some b => rw [hq] at q hun_i; simp only [Option.getD_some] at q hun_i; rw [q] at hun_i; cases hun_i
        refine wpOpIn_mono (fun a' w' k => ⟨k.2.1, HIn.take hi hs hQ f ?_ (ready_mono hr (fun x => e x.symm)) k.1 k.2.1 ?_⟩) (in_swap hoj (Region.free_spec hi hf j oj hoj e hun hnot) (fun cs b => Region.noSelect_spec hs i oi cs b hi) (fun cs b => Region.noSelect_spec hs j oj cs b hoj) hQ hy (h.2 j hj2))
        · simp only [Region.free, hi, List.all_eq_true, List.mem_range] at hf ⊢
          intro k hk
          have := hf k hk
          by_cases ejk : j = k
          · subst ejk
            rw [hoj] at this ⊢
            have hlt : j < listed.size := by
              rcases Nat.lt_or_ge j listed.size with q | q
              · exact q
              · rw [Array.getD_eq_getD_getElem?, Array.getElem?_eq_none q] at hun; cases hun
            simp [hlt]
          · rw [getD_set_ne true ejk]
            exact this
        · rw [Array.setIfInBounds_comm _ _ e]
          exact k.2.2

theorem in_region {id : Nat} {a : Act} {w : World} (hm : P.follows .mixedOrders = true) (hS : S w.drew) (h : S w.drew → HIn n P ops Q S ops.size (Array.replicate ops.size false) a w.drew) : (Code.region id ops true).wpIn Fence.wide n P Q a w :=
  wpIn_region_any hm (h hS).plain
theorem in_done {f : Nat} {listed : Array Bool} {a : Act} {w : World} (hr : Region.ready .any ops listed = []) (h : Q .normal a w) : HIn n P ops Q S f listed a w := by
  cases f with
  | zero => exact ⟨hr, h⟩
  | succ f => exact ⟨fun _ => h, fun i hi => by rw [hr] at hi; exact absurd hi List.not_mem_nil⟩
theorem in_take {i : Nat} {oi : Oper} {d : Tmp} {OP : Op} {T : TypeId} {v : Value} {f : Nat} {listed : Array Bool} {a : Act} {w : World} (hi : ops[i]? = some oi) (hd : oi.dst = some d) (ho : oi.op = OP) (ht : oi.type = T)
    (hs : Region.noSelect ops = true) (hf : Region.free .any ops listed i = true) (hr : (Region.ready .any ops listed).contains i = true)
    (hQ : ∀ c a w, Q (.panic c) (a.put (some d) v) w → Q (.panic c) a w) (hw : Region.wanted oi (yielded ops a.tmps) = true)
    (hy : ∀ w, S w → (execOp a.eval { dst := none, op := OP, type := T, pos := "", after := #[], guard := none }).run P w = .ok (.value v) w) (hS : S w)
    (h : HIn n P ops Q S f (listed.setIfInBounds i true) (a.put (some d) v) w) : HIn n P ops Q S (f + 1) listed a w := by
  refine HIn.take (v := v) hi hs (by rw [hd]; exact hQ) f hf (by simpa using hr) (.inl ⟨hw, fun w hSw => ?_⟩) hS (by rw [hd]; exact h)
  rw [exec_same a.eval oi ho ht]
  exact hy w hSw
theorem in_pass {i : Nat} {oi : Oper} {d : Tmp} {f : Nat} {listed : Array Bool} {a : Act} {w : World} (hi : ops[i]? = some oi) (hd : oi.dst = some d)
    (hs : Region.noSelect ops = true) (hf : Region.free .any ops listed i = true) (hr : (Region.ready .any ops listed).contains i = true)
    (hQ : ∀ c a w, Q (.panic c) (a.put (some d) undef) w → Q (.panic c) a w) (hw : Region.wanted oi (yielded ops a.tmps) = false) (hS : S w)
    (h : HIn n P ops Q S f (listed.setIfInBounds i true) (a.put (some d) undef) w) : HIn n P ops Q S (f + 1) listed a w :=
  HIn.take (v := undef) hi hs (by rw [hd]; exact hQ) f hf (by simpa using hr) (.inr ⟨hw, rfl⟩) hS (by rw [hd]; exact h)
theorem in_call {i : Nat} {oi : Oper} {d : Tmp} {OP : Op} {T : TypeId} {g : FuncId} {args : Array Value} {f : Nat} {listed : Array Bool} {a : Act} {w : World} (hi : ops[i]? = some oi) (hd : oi.dst = some d) (ho : oi.op = OP) (ht : oi.type = T)
    (hr : Region.ready .any ops listed = [i]) (hw : Region.wanted oi (yielded ops a.tmps) = true)
    (hy : (execOp a.eval { dst := none, op := OP, type := T, pos := "", after := #[], guard := none }).run P w = .ok (.enter g args) w)
    (h : Calls P g args w fun e w' => ∃ v, e = .returned v ∧ S w' ∧ HIn n P ops Q S f (listed.setIfInBounds i true) (a.put (some d) v) w') : HIn n P ops Q S (f + 1) listed a w := by
  refine ⟨fun e => (by rw [hr] at e; cases e), fun j hj => ?_⟩
  rw [hr, List.mem_singleton] at hj
  subst hj
  unfold wpOpIn
  simp only [hi]
  rw [if_pos hw]
  refine ⟨fun _ _ => trivial, ?_⟩
  rw [show oi.semAt Fence.wide.round a.eval = execOp a.eval oi from Oper.semAt_none _ _, exec_same a.eval oi ho ht, hy]
  refine ⟨fun e => (by cases e), callsIn_wide.2 (h.mono ?_)⟩
  rintro e w' ⟨v, rfl, hS, hx⟩
  show S w' ∧ HIn n P ops Q S f _ (a.put oi.dst v) w'
  rw [hd]
  exact ⟨hS, hx⟩
theorem in_yield {i : Nat} {oi : Oper} {d : Tmp} {OP : Op} {T : TypeId} {l : Nat} {args : Array Value} {f : Nat} {listed : Array Bool} {a : Act} {w : World} (hi : ops[i]? = some oi) (hd : oi.dst = some d) (ho : oi.op = OP) (ht : oi.type = T)
    (hr : Region.ready .any ops listed = [i]) (hw : Region.wanted oi (yielded ops a.tmps) = true)
    (hy : (execOp a.eval { dst := none, op := OP, type := T, pos := "", after := #[], guard := none }).run P w = (Instr.yield l args).run P w)
    (h : YieldAt Fence.wide (n - 1) P l args w fun e w' => ∃ v, e = .returned v ∧ S w' ∧ HIn n P ops Q S f (listed.setIfInBounds i true) (a.put (some d) v) w') : HIn n P ops Q S (f + 1) listed a w := by
  refine ⟨fun e => (by rw [hr] at e; cases e), fun j hj => ?_⟩
  rw [hr, List.mem_singleton] at hj
  subst hj
  obtain ⟨fn, ts, asg, b, h1, h2⟩ := h
  unfold wpOpIn
  simp only [hi]
  rw [if_pos hw]
  refine ⟨fun _ _ => trivial, ?_⟩
  rw [show oi.semAt Fence.wide.round a.eval = execOp a.eval oi from Oper.semAt_none _ _, exec_same a.eval oi ho ht, hy, h1]
  refine ⟨fun e => (by cases e), h2.mono ?_⟩
  rintro e w' ⟨v, rfl, hS, hx⟩
  show S w' ∧ HIn n P ops Q S f _ (a.put oi.dst v) w'
  rw [hd]
  exact ⟨hS, hx⟩
end
end Go.Proofs.YtkkpdgfllnbigaaGreat.Pm
namespace Go.Proofs.YtkkpdgfllnbigaaGreat
open Go.RowKit Go.Shelf
theorem cell_stays {w w' : World} {a : Addr} {x : Value} (h : w.cell? a = some x) (hb : Below w.heap.size w w') : w'.cell? a = some x := by
  rw [hb.cell (World.block_lt_of_cell? w a h)]; exact h
theorem drew_below (W : World) : Below W.heap.size W W.drew := ⟨rfl, rfl, rfl, Nat.le_refl _, fun _ _ => rfl⟩
theorem below_drw {B : Nat} {w w' : World} (h : Below B w w') (n : Nat) : Below B w (w'.drewN n) := ⟨h.os, h.tape, h.output, h.size, h.block⟩
theorem set_one {w : World} {B i : Nat} {cs : Array Value} {ty : TypeId} (v : Value) (h : w.heap[B]? = some (.cells cs ty (0, 0))) : (w.setCell ⟨B, i, none⟩ v).heap[B]? = some (.cells (cs.setIfInBounds i v) ty (0, 0)) ∧ Only (fun j => j = B) w (w.setCell ⟨B, i, none⟩ v) := by
  refine ⟨?_, (Only.ofGrown (grown_setCell w ⟨B, i, none⟩ _)).mono (fun j _ e => by simpa using e.symm)⟩
  rw [heap_setCell_same _ _ _ _ ty _ h]
theorem Only.next {D : Nat → Prop} {a b c : World} (h : Only D a b) (k : Only D b c) : Only D a c := h.trans k (fun _ _ d => d)
theorem below_only {D : Nat → Prop} {W W' : World} (h : Below W.heap.size W W') : Only D W W' := (Only.ofBelow h).mono (fun _ _ d => d.elim)
end Go.Proofs.YtkkpdgfllnbigaaGreat
