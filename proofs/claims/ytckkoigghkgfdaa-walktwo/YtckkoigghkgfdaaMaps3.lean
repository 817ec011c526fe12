/-
  MAPS, as the program has them: Take, Split, Join, Make.
-/
import Derived.Test.YtckkoigghkgfdaaMaps2
namespace Go.Proofs.Ytckkoigghkgfdaa
open Go.RowKit Go.Shelf
set_option linter.unusedSimpArgs false

set_option maxHeartbeats 1000000 in
theorem mTake_any (t : T) (k : ByteArray) (w : World) (h : In w t) (hn : t.n ≤ 700000) : Calls Try.prog 24 #[mv t, .string k] w fun e w' => ∃ t', e = .returned (mv t') ∧ In w' t' ∧ Takes w.heap.size k t t' ∧ Below w.heap.size w w' := by
  obtain ⟨hb, hc, hf⟩ := two_boxes w t.ptr
  have hB := (new2 w (.cells #[t.ptr] 29) (.cells #[.pointer none] 29)).2
  have hp := take_any t.n t k _ (Nat.le_refl _) (In.below hb h) hn
  have key : ∀ w1 t', Gives ((w.alloc (.cells #[t.ptr] 29)).alloc (.cells #[.pointer none] 29)) (.returned t'.ptr) w1 t' → Takes ((w.alloc (.cells #[t.ptr] 29)).alloc (.cells #[.pointer none] 29)).heap.size k t t' →
      w1.cell? ⟨w.heap.size + 1, 0, none⟩ = some (.pointer none) ∧ w1.frozen? ⟨w.heap.size + 1, 0, none⟩ = false ∧ Hid ((w1.setCell ⟨w.heap.size + 1, 0, none⟩ t'.ptr).heap[w.heap.size + 1]? = some (.cells #[t'.ptr] 29 (0, 0)) ∧ In (w1.setCell ⟨w.heap.size + 1, 0, none⟩ t'.ptr) t' ∧ Takes w.heap.size k t t' ∧ Below w.heap.size w (w1.setCell ⟨w.heap.size + 1, 0, none⟩ t'.ptr)) := fun w1 t' hg hp => by
    have hw1 := (hg.2.2.block (w.heap.size + 1) (by simp)).trans hB
    have hb1 := hb.trans (hg.2.2.mono hb.size)
    obtain ⟨o1, o2, o3⟩ := out_box (y := t'.ptr) hw1 (by omega) hb1
    refine ⟨by rw [cell_of_row _ _ 0 _ 29 (0, 0) hw1]; rfl, frozen_of_row _ _ 0 _ 29 hw1, hide ⟨o1, In.aside hw1 o3 hg.2.1, hp.mono hb.size, o2⟩⟩
  unfold mv
  obtain ⟨a, ha⟩ := t.ptr_shape
  rw [ha] at hp hb key ⊢
  have HK := hide key
  clear h ha hb hc hf key hB hn
  go_enter Try.func24, Try.ntmps24
  go_wp2_with (go_at_call 42; refine hp.mono ?_; rintro e w1 ⟨t', hg, hpp⟩; have he := hg.1; subst he; obtain ⟨q1, q2, HQ⟩ := HK.out w1 t' hg hpp; obtain ⟨b, hb⟩ := t'.ptr_shape; have HX := hide hb; rw [hb] at HQ ⊢; clear hb hg hpp)
  refine ret_row (w.heap.size + 1) [.pointer b] rfl rfl Try.underlying29 rfl Try.info29 HQ.out.1 rfl ?_
  exact ⟨t', by rw [HX.out], HQ.out.2.1, HQ.out.2.2.1, HQ.out.2.2.2⟩

/-- Two structs out of their blocks, and two values between them, are handed back. -/
theorem ret_rows4 {P : Program} {fn : Func} {p q s r : Tmp} {ty : TypeId} (b c : Nat) (cs ds : List Value) {R : Ending → World → Prop} {a : Act} {w : World} (h : fn.results = #[.cell p ty, .tmp q, .tmp s, .cell r ty]) (hp : a.tmps.getD p undef = .pointer (some ⟨b, 0, none⟩)) {v u : Value} (hq : a.tmps.getD q undef = v) (hs : a.tmps.getD s undef = u) (hr : a.tmps.getD r undef = .pointer (some ⟨c, 0, none⟩))
    {d : TypeDesc} (hu : P.underlying ty = some d) (hd : d.isRow = true) (hi : (P.info? ty).map (·.size) = some cs.length) (hi2 : (P.info? ty).map (·.size) = some ds.length) {t t2 : TypeId} {fr fr2 : Nat × Nat} (hc : w.heap[b]? = some (.cells cs.toArray t fr)) (hc2 : w.heap[c]? = some (.cells ds.toArray t2 fr2)) (hdef : a.defers = [])
    (hR : R (.returned (.tuple #[.agg cs.toArray, v, u, .agg ds.toArray])) w) : bodyPost P fn R .ret a w := by
  refine bodyPost_ret (v := .tuple #[.agg cs.toArray, v, u, .agg ds.toArray]) ?_ hdef hR
  have h1 := run_loadVar_mid (P := P) w b 0 ty cs _ (fun j v hv => by rw [cell_of_row w b (0 + j) cs.toArray t fr hc, Nat.zero_add]; simpa using hv) hu hd hi
  have h2 := run_loadVar_mid (P := P) w c 0 ty ds _ (fun j v hv => by rw [cell_of_row w c (0 + j) ds.toArray t2 fr2 hc2, Nat.zero_add]; simpa using hv) hu hd hi2
  have hp' : a.tmps[p]?.getD undef = .pointer (some ⟨b, 0, none⟩) := by simpa using hp
  have hr' : a.tmps[r]?.getD undef = .pointer (some ⟨c, 0, none⟩) := by simpa using hr
  have hq' : a.tmps[q]?.getD undef = v := by simpa using hq
  have hs' : a.tmps[s]?.getD undef = u := by simpa using hs
  simp [results, h, hp', hq', hs', hr', asAddr, Sem.run_bind, Result.andThen, h1, h2]

theorem new3 (w : World) (o1 o2 o3 : Obj) : (((w.alloc o1).alloc o2).alloc o3).heap[w.heap.size]? = some o1 ∧ (((w.alloc o1).alloc o2).alloc o3).heap[w.heap.size + 1]? = some o2 ∧ (((w.alloc o1).alloc o2).alloc o3).heap[w.heap.size + 1 + 1]? = some o3 ∧ Below w.heap.size w (((w.alloc o1).alloc o2).alloc o3) := by
  obtain ⟨h1, h2⟩ := new2 w o1 o2
  have s2 : ((w.alloc o1).alloc o2).heap.size = w.heap.size + 1 + 1 := by simp
  refine ⟨(Below.heap_alloc _ _ _ (by rw [s2]; omega)).trans h1, (Below.heap_alloc _ _ _ (by rw [s2]; omega)).trans h2, ?_, (((Below.refl _ w).alloc (Nat.le_refl _) _).alloc (by simp) _).alloc (by simp; omega) _⟩
  have := heap_alloc_new ((w.alloc o1).alloc o2) o3
  rw [s2] at this
  exact this

set_option maxHeartbeats 2000000 in
theorem mSplit_any (t : T) (k : ByteArray) (w : World) (h : In w t) (hn : t.n ≤ 700000) : Calls Try.prog 52 #[mv t, .string k] w fun e w' => ∃ a f b, e = .returned (.tuple #[mv a, .int .i64 f.val, .bool f.isSome, mv b]) ∧ Splits w.heap.size k t a f b ∧ In w' a ∧ In w' b ∧ Below w.heap.size w w' := by
  obtain ⟨m0, m1, m2, hb⟩ := new3 w (.cells #[t.ptr] 29) (.cells #[.pointer none] 29) (.cells #[.pointer none] 29)
  have hp := split_any k t _ (In.below hb h) hn
  have key : ∀ w1 a f b, Splits (((w.alloc (.cells #[t.ptr] 29)).alloc (.cells #[.pointer none] 29)).alloc (.cells #[.pointer none] 29)).heap.size k t a f b → In w1 a → In w1 f → In w1 b → Below (((w.alloc (.cells #[t.ptr] 29)).alloc (.cells #[.pointer none] 29)).alloc (.cells #[.pointer none] 29)).heap.size (((w.alloc (.cells #[t.ptr] 29)).alloc (.cells #[.pointer none] 29)).alloc (.cells #[.pointer none] 29)) w1 →
      w1.cell? ⟨w.heap.size + 1, 0, none⟩ = some (.pointer none) ∧ w1.frozen? ⟨w.heap.size + 1, 0, none⟩ = false ∧ (w1.setCell ⟨w.heap.size + 1, 0, none⟩ a.ptr).cell? ⟨w.heap.size + 1 + 1, 0, none⟩ = some (.pointer none) ∧ (w1.setCell ⟨w.heap.size + 1, 0, none⟩ a.ptr).frozen? ⟨w.heap.size + 1 + 1, 0, none⟩ = false ∧
      Hid (((w1.setCell ⟨w.heap.size + 1, 0, none⟩ a.ptr).setCell ⟨w.heap.size + 1 + 1, 0, none⟩ b.ptr).heap[w.heap.size + 1]? = some (.cells #[a.ptr] 29 (0, 0)) ∧ ((w1.setCell ⟨w.heap.size + 1, 0, none⟩ a.ptr).setCell ⟨w.heap.size + 1 + 1, 0, none⟩ b.ptr).heap[w.heap.size + 1 + 1]? = some (.cells #[b.ptr] 29 (0, 0)) ∧
        In ((w1.setCell ⟨w.heap.size + 1, 0, none⟩ a.ptr).setCell ⟨w.heap.size + 1 + 1, 0, none⟩ b.ptr) a ∧ In ((w1.setCell ⟨w.heap.size + 1, 0, none⟩ a.ptr).setCell ⟨w.heap.size + 1 + 1, 0, none⟩ b.ptr) b ∧ Splits w.heap.size k t a f b ∧ Below w.heap.size w ((w1.setCell ⟨w.heap.size + 1, 0, none⟩ a.ptr).setCell ⟨w.heap.size + 1 + 1, 0, none⟩ b.ptr)) ∧
      Calls Try.prog 29 #[f.ptr] w1 (fun e w' => e = .returned (.int .i64 f.val) ∧ w' = w1) := fun w1 a f b hs ia if_ ib hb1 => by
    have hw1 := (hb1.block (w.heap.size + 1) (by simp)).trans m1
    have hw2 := (hb1.block (w.heap.size + 1 + 1) (by simp)).trans m2
    have hbb := hb.trans (hb1.mono hb.size)
    obtain ⟨o1, o2, o3⟩ := out_box (y := a.ptr) hw1 (by omega) hbb
    have hw2' := (o3.block (w.heap.size + 1 + 1) (Array.getElem?_eq_some_iff.1 hw2).1 (by omega)).trans hw2
    obtain ⟨p1, p2, p3⟩ := out_box (y := b.ptr) hw2' (by omega) o2
    have o1' := (p3.block (w.heap.size + 1) (Array.getElem?_eq_some_iff.1 o1).1 (by omega)).trans o1
    exact ⟨by rw [cell_of_row _ _ 0 _ 29 (0, 0) hw1]; rfl, frozen_of_row _ _ 0 _ 29 hw1, by rw [cell_of_row _ _ 0 _ 29 (0, 0) hw2']; rfl, frozen_of_row _ _ 0 _ 29 hw2', hide ⟨o1', p1, In.aside hw2' p3 (In.aside hw1 o3 ia), In.aside hw2' p3 (In.aside hw1 o3 ib), hs.mono hb.size, p2⟩, value_any f w1 if_⟩
  unfold mv
  obtain ⟨x, hx⟩ := t.ptr_shape
  rw [hx] at hp hb key ⊢
  have HK := hide key
  clear h hx hb key hn m0 m1 m2
  go_enter Try.func52, Try.ntmps52
  go_wp2_with (first
    | (go_at_call 66; refine hp.mono ?_; rintro e w1 ⟨a, f, b, rfl, hs, ia, if_, ib, hb1⟩; obtain ⟨q1, q2, q3, q4, HQ, hv⟩ := HK.out w1 a f b hs ia if_ ib hb1; obtain ⟨xa, ha⟩ := a.ptr_shape; obtain ⟨xf, hf⟩ := f.ptr_shape; obtain ⟨xb, hb⟩ := b.ptr_shape; have hi := (isSome_ptr hf).2; rw [ha, hb] at HQ; rw [ha] at q3 q4; rw [hf] at hv; rw [ha, hf, hb]; have HX := hide (And.intro ha (And.intro hf hb)); clear ha hf hb hs ia if_ ib hb1)
    | (go_at_call 29; refine hv.mono ?_; rintro e w' ⟨rfl, hw⟩; replace hw := hw.symm; subst hw))
  refine ret_rows4 (w.heap.size + 1) (w.heap.size + 1 + 1) [.pointer xa] [.pointer xb] rfl rfl rfl rfl rfl Try.underlying29 rfl Try.info29 Try.info29 HQ.out.1 HQ.out.2.1 rfl ?_
  refine ⟨a, f, b, ?_, HQ.out.2.2.2.2.1, HQ.out.2.2.1, HQ.out.2.2.2.1, HQ.out.2.2.2.2.2⟩
  rw [HX.out.1, HX.out.2.2]
  simp [hi]

set_option maxHeartbeats 2000000 in
theorem mJoin_any (l r : T) (k : ByteArray) (v : Int) (w : World) (hl : In w l) (hr : In w r) (hn : l.n + r.n ≤ 700000) : Calls Try.prog 53 #[mv l, .string k, .int .i64 v, mv r] w fun e w' => ∃ t, e = .returned (.tuple #[mv t, .int .i64 (if fitsB l k r then 0 else 2)]) ∧ (fitsB l k r = false → t = .nil) ∧ (fitsB l k r = true → Joined w.heap.size k v l r t) ∧ In w' t ∧ Below w.heap.size w w' := by
  obtain ⟨m0, m1, m2, hb⟩ := new3 w (.cells #[l.ptr] 29) (.cells #[r.ptr] 29) (.cells #[.pointer none] 29)
  have hf := fits_any l r k _ (In.below hb hl) (In.below hb hr)
  have hj := join_any k v 800000 l r _ (by omega) (by omega) (In.below hb hl) (In.below hb hr)
  have key : ∀ w1 t, Gives (((w.alloc (.cells #[l.ptr] 29)).alloc (.cells #[r.ptr] 29)).alloc (.cells #[.pointer none] 29)) (.returned t.ptr) w1 t → Joined (((w.alloc (.cells #[l.ptr] 29)).alloc (.cells #[r.ptr] 29)).alloc (.cells #[.pointer none] 29)).heap.size k v l r t →
      w1.cell? ⟨w.heap.size + 1 + 1, 0, none⟩ = some (.pointer none) ∧ w1.frozen? ⟨w.heap.size + 1 + 1, 0, none⟩ = false ∧ Hid ((w1.setCell ⟨w.heap.size + 1 + 1, 0, none⟩ t.ptr).heap[w.heap.size + 1 + 1]? = some (.cells #[t.ptr] 29 (0, 0)) ∧ In (w1.setCell ⟨w.heap.size + 1 + 1, 0, none⟩ t.ptr) t ∧ Joined w.heap.size k v l r t ∧ Below w.heap.size w (w1.setCell ⟨w.heap.size + 1 + 1, 0, none⟩ t.ptr)) := fun w1 t hg hp => by
    have hw1 := (hg.2.2.block (w.heap.size + 1 + 1) (by simp)).trans m2
    have hb1 := hb.trans (hg.2.2.mono hb.size)
    obtain ⟨o1, o2, o3⟩ := out_box (y := t.ptr) hw1 (by omega) hb1
    exact ⟨by rw [cell_of_row _ _ 0 _ 29 (0, 0) hw1]; rfl, frozen_of_row _ _ 0 _ 29 hw1, hide ⟨o1, In.aside hw1 o3 hg.2.1, hp.mono hb.size, o2⟩⟩
  unfold mv
  obtain ⟨x, hx⟩ := l.ptr_shape
  obtain ⟨y, hy⟩ := r.ptr_shape
  rw [hx, hy] at hf hj hb m2 ⊢
  rw [hx, hy] at key
  have HK := hide key
  clear hl hr hx hy key hn m0 m1
  generalize hF : fitsB l k r = F at *
  cases F with
  | false =>
    clear hj
    have HB := hide (And.intro hb m2)
    clear hb m2
    go_enter Try.func53, Try.ntmps53
    go_wp2_with (go_at_call 67; refine hf.mono ?_; rintro e w' ⟨rfl, rfl⟩)
    refine ret_row_tmp (w.heap.size + 1 + 1) [.pointer none] rfl rfl rfl Try.underlying29 rfl Try.info29 HB.out.2 rfl ?_
    exact ⟨.nil, rfl, rfl, trivial, HB.out.1⟩
  | true =>
    have HB := hide (And.intro hb m2)
    clear hb m2
    go_enter Try.func53, Try.ntmps53
    go_wp2_with (first
      | (go_at_call 67; refine hf.mono ?_; rintro e w' ⟨rfl, hw⟩; replace hw := hw.symm; subst hw)
      | (go_at_call 68; refine hj.mono ?_; rintro e w1 ⟨t, hg, hpp⟩; have he := hg.1; subst he; obtain ⟨q1, q2, HQ⟩ := HK.out w1 t hg hpp; obtain ⟨b, hb⟩ := t.ptr_shape; have HX := hide hb; rw [hb] at HQ ⊢; clear hb hg hpp))
    refine ret_row_tmp (w.heap.size + 1 + 1) [.pointer b] rfl rfl rfl Try.underlying29 rfl Try.info29 HQ.out.1 rfl ?_
    exact ⟨t, by rw [HX.out]; rfl, HQ.out.2.2.1, HQ.out.2.1, HQ.out.2.2.2⟩
end Go.Proofs.Ytckkoigghkgfdaa
