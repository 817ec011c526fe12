/-
  MAPS, as the program has them: Take, Split, Join, Make.
  walk: THE SMALL FUNCTIONS: top 129, joined 131, closed 132, cutAt 33.
  walk: stands 56: IS A NODE ONE OF A MAP's?
  walk: closed 132: BOTH SIDES WITHOUT A KEY BETWEEN THEM.
  walk: THE ELEMENTS' RULE: Keep 14.
  walk: THREE MAPS RUN TOGETHER (the plain part).
  walk: WHERE THE WALK READS NOTHING: the closure 31 of Run.
  walk: A REGION OF THE WALK'S CLOSURE: three calls in a row, and three boxes that may be made at any time.
  walk: WHAT THE WALK'S CLOSURE HAS, AND WHAT IT LEAVES ALONE.
  walk: THE WALK: the closure 31 of Run.
  walk: HOW MANY NODES ARE NEW: made 36 and its closure 55.
  walk: made 36.
  walk: Run 18.
  walk: THE ELEMENTS' RULE MAY BE ASKED, AND IS FAIR WHERE VALUES ARE TOLD BY THEIR KEYS.
  walk: Elements 10.
  THE LAWS' OWN SMALL FUNCTIONS: part 12, stays 15; Run 18 with no rule.
-/
import Derived.Test.YtkeldhohilmdcaaGreatPMaps2
namespace Go.Proofs.YtkeldhohilmdcaaGreat.Pm
open Go.RowKit Go.Shelf
set_option linter.unusedSimpArgs false

set_option maxHeartbeats 1000000 in
theorem mTake_any (t : T) (k : ByteArray) (w : World) (h : In w t) (hn : t.n ≤ 700000) : Calls Tryz.prog 103 #[mv t, .string k] w fun e w' => ∃ t', e = .returned (mv t') ∧ In w' t' ∧ Takes w.heap.size k t t' ∧ Below w.heap.size w w' := by
  obtain ⟨hb, hc, hf⟩ := two_boxes w t.ptr
  have hB := (new2 w (.cells #[t.ptr] 27) (.cells #[.pointer none] 27)).2
  have hp := take_any t.n t k _ (Nat.le_refl _) (In.below hb h) hn
  have key : ∀ w1 t', Gives ((w.alloc (.cells #[t.ptr] 27)).alloc (.cells #[.pointer none] 27)) (.returned t'.ptr) w1 t' → Takes ((w.alloc (.cells #[t.ptr] 27)).alloc (.cells #[.pointer none] 27)).heap.size k t t' →
      w1.cell? ⟨w.heap.size + 1, 0, none⟩ = some (.pointer none) ∧ w1.frozen? ⟨w.heap.size + 1, 0, none⟩ = false ∧ Hid ((w1.setCell ⟨w.heap.size + 1, 0, none⟩ t'.ptr).heap[w.heap.size + 1]? = some (.cells #[t'.ptr] 27 (0, 0)) ∧ In (w1.setCell ⟨w.heap.size + 1, 0, none⟩ t'.ptr) t' ∧ Takes w.heap.size k t t' ∧ Below w.heap.size w (w1.setCell ⟨w.heap.size + 1, 0, none⟩ t'.ptr)) := fun w1 t' hg hp => by
    have hw1 := (hg.2.2.block (w.heap.size + 1) (by simp)).trans hB
    have hb1 := hb.trans (hg.2.2.mono hb.size)
    obtain ⟨o1, o2, o3⟩ := out_box (y := t'.ptr) hw1 (by omega) hb1
    refine ⟨by rw [cell_of_row _ _ 0 _ 27 (0, 0) hw1]; rfl, frozen_of_row _ _ 0 _ 27 hw1, hide ⟨o1, In.aside hw1 o3 hg.2.1, hp.mono hb.size, o2⟩⟩
  unfold mv
  obtain ⟨a, ha⟩ := t.ptr_shape
  rw [ha] at hp hb key ⊢
  have HK := hide key
  clear h ha hb hc hf key hB hn
  go_enter Tryz.func103, Tryz.ntmps103
  go_wp2_with (go_at_call 146; refine hp.mono ?_; rintro e w1 ⟨t', hg, hpp⟩; have he := hg.1; subst he; obtain ⟨q1, q2, HQ⟩ := HK.out w1 t' hg hpp; obtain ⟨b, hb⟩ := t'.ptr_shape; have HX := hide hb; rw [hb] at HQ ⊢; clear hb hg hpp)
  refine ret_row (w.heap.size + 1) [.pointer b] rfl rfl Tryz.underlying27 rfl Tryz.info27 HQ.out.1 rfl ?_
  exact ⟨t', by rw [HX.out], HQ.out.2.1, HQ.out.2.2.1, HQ.out.2.2.2⟩

/-- Two structs out of their blocks, and two values between them, are handed back. -/
theorem ret_rows4 {P : Program} {fn : Func} {p q s r : Tmp} {ty : TypeId} (b c : Nat) (cs ds : List Value) {R : Ending → World → Prop} {a : Act} {w : World} (h : fn.results = #[.cell p ty, .tmp q, .tmp s, .cell r ty]) (hp : a.tmps.getD p undef = .pointer (some ⟨b, 0, none⟩)) {v u : Value} (hq : a.tmps.getD q undef = v) (hs : a.tmps.getD s undef = u) (hr : a.tmps.getD r undef = .pointer (some ⟨c, 0, none⟩))
    {d : TypeDesc} (hu : P.underlying ty = some d) (hd : d.isRow = true) (hi : (P.info? ty).map (·.size) = some cs.length) (hi2 : (P.info? ty).map (·.size) = some ds.length) {t t2 : TypeId} {fr fr2 : Nat × Nat} (hc : w.heap[b]? = some (.cells cs.toArray t fr)) (hc2 : w.heap[c]? = some (.cells ds.toArray t2 fr2)) (hdef : a.defers = [])
    (hR : R (.returned (.tuple #[.agg cs.toArray, v, u, .agg ds.toArray])) w) : bodyPost P fn R .ret a w := by
  refine bodyPost_ret (v := .tuple #[.agg cs.toArray, v, u, .agg ds.toArray]) ?_ hdef hR
  have h1 := run_loadVar_mid (P := P) w b 0 ty cs _ (fun j v hv => by rw [cell_of_row w b (0 + j) cs.toArray t fr hc, Nat.zero_add]; simpa using hv) hu hd hi
  have h2 := run_loadVar_mid (P := P) w c 0 ty ds _ (fun j v hv => by rw [cell_of_row w c (0 + j) ds.toArray t2 fr2 hc2, Nat.zero_add]; simpa using hv) hu hd hi2
  have hp' : a.tmps[p]?.getD undef = .pointer (some ⟨b, 0, none⟩) := by simpa using hp
  have hr' : a.tmps[r]?.getD undef = .pointer (some ⟨c, 0, none⟩) := by simpa using hr
  have hq' : a.tmps[q]?.getD undef = v := by simpa using hq
  have hs' : a.tmps[s]?.getD undef = u := by simpa using hs
  simp [results, h, hp', hq', hs', hr', asAddr, Sem.run_bind, Result.andThen, h1, h2]

theorem new3 (w : World) (o1 o2 o3 : Obj) : (((w.alloc o1).alloc o2).alloc o3).heap[w.heap.size]? = some o1 ∧ (((w.alloc o1).alloc o2).alloc o3).heap[w.heap.size + 1]? = some o2 ∧ (((w.alloc o1).alloc o2).alloc o3).heap[w.heap.size + 1 + 1]? = some o3 ∧ Below w.heap.size w (((w.alloc o1).alloc o2).alloc o3) := by
  obtain ⟨h1, h2⟩ := new2 w o1 o2
  have s2 : ((w.alloc o1).alloc o2).heap.size = w.heap.size + 1 + 1 := by simp
  refine ⟨(Below.heap_alloc _ _ _ (by rw [s2]; omega)).trans h1, (Below.heap_alloc _ _ _ (by rw [s2]; omega)).trans h2, ?_, (((Below.refl _ w).alloc (Nat.le_refl _) _).alloc (by simp) _).alloc (by simp; omega) _⟩
  have := heap_alloc_new ((w.alloc o1).alloc o2) o3
  rw [s2] at this
  exact this

set_option maxHeartbeats 2000000 in
theorem mSplit_any (t : T) (k : ByteArray) (w : World) (h : In w t) (hn : t.n ≤ 700000) : Calls Tryz.prog 204 #[mv t, .string k] w fun e w' => ∃ a f b, e = .returned (.tuple #[mv a, .string f.val, .bool f.isSome, mv b]) ∧ Splits w.heap.size k t a f b ∧ In w' a ∧ In w' b ∧ Below w.heap.size w w' := by
  obtain ⟨m0, m1, m2, hb⟩ := new3 w (.cells #[t.ptr] 27) (.cells #[.pointer none] 27) (.cells #[.pointer none] 27)
  have hp := split_any k t _ (In.below hb h) hn
  have key : ∀ w1 a f b, Splits (((w.alloc (.cells #[t.ptr] 27)).alloc (.cells #[.pointer none] 27)).alloc (.cells #[.pointer none] 27)).heap.size k t a f b → In w1 a → In w1 f → In w1 b → Below (((w.alloc (.cells #[t.ptr] 27)).alloc (.cells #[.pointer none] 27)).alloc (.cells #[.pointer none] 27)).heap.size (((w.alloc (.cells #[t.ptr] 27)).alloc (.cells #[.pointer none] 27)).alloc (.cells #[.pointer none] 27)) w1 →
      w1.cell? ⟨w.heap.size + 1, 0, none⟩ = some (.pointer none) ∧ w1.frozen? ⟨w.heap.size + 1, 0, none⟩ = false ∧ (w1.setCell ⟨w.heap.size + 1, 0, none⟩ a.ptr).cell? ⟨w.heap.size + 1 + 1, 0, none⟩ = some (.pointer none) ∧ (w1.setCell ⟨w.heap.size + 1, 0, none⟩ a.ptr).frozen? ⟨w.heap.size + 1 + 1, 0, none⟩ = false ∧
      Hid (((w1.setCell ⟨w.heap.size + 1, 0, none⟩ a.ptr).setCell ⟨w.heap.size + 1 + 1, 0, none⟩ b.ptr).heap[w.heap.size + 1]? = some (.cells #[a.ptr] 27 (0, 0)) ∧ ((w1.setCell ⟨w.heap.size + 1, 0, none⟩ a.ptr).setCell ⟨w.heap.size + 1 + 1, 0, none⟩ b.ptr).heap[w.heap.size + 1 + 1]? = some (.cells #[b.ptr] 27 (0, 0)) ∧
        In ((w1.setCell ⟨w.heap.size + 1, 0, none⟩ a.ptr).setCell ⟨w.heap.size + 1 + 1, 0, none⟩ b.ptr) a ∧ In ((w1.setCell ⟨w.heap.size + 1, 0, none⟩ a.ptr).setCell ⟨w.heap.size + 1 + 1, 0, none⟩ b.ptr) b ∧ Splits w.heap.size k t a f b ∧ Below w.heap.size w ((w1.setCell ⟨w.heap.size + 1, 0, none⟩ a.ptr).setCell ⟨w.heap.size + 1 + 1, 0, none⟩ b.ptr)) ∧
      Calls Tryz.prog 92 #[f.ptr] w1 (fun e w' => e = .returned (.string f.val) ∧ w' = w1) := fun w1 a f b hs ia if_ ib hb1 => by
    have hw1 := (hb1.block (w.heap.size + 1) (by simp)).trans m1
    have hw2 := (hb1.block (w.heap.size + 1 + 1) (by simp)).trans m2
    have hbb := hb.trans (hb1.mono hb.size)
    obtain ⟨o1, o2, o3⟩ := out_box (y := a.ptr) hw1 (by omega) hbb
    have hw2' := (o3.block (w.heap.size + 1 + 1) (Array.getElem?_eq_some_iff.1 hw2).1 (by omega)).trans hw2
    obtain ⟨p1, p2, p3⟩ := out_box (y := b.ptr) hw2' (by omega) o2
    have o1' := (p3.block (w.heap.size + 1) (Array.getElem?_eq_some_iff.1 o1).1 (by omega)).trans o1
    exact ⟨by rw [cell_of_row _ _ 0 _ 27 (0, 0) hw1]; rfl, frozen_of_row _ _ 0 _ 27 hw1, by rw [cell_of_row _ _ 0 _ 27 (0, 0) hw2']; rfl, frozen_of_row _ _ 0 _ 27 hw2', hide ⟨o1', p1, In.aside hw2' p3 (In.aside hw1 o3 ia), In.aside hw2' p3 (In.aside hw1 o3 ib), hs.mono hb.size, p2⟩, value_any f w1 if_⟩
  unfold mv
  obtain ⟨x, hx⟩ := t.ptr_shape
  rw [hx] at hp hb key ⊢
  have HK := hide key
  clear h hx hb key hn m0 m1 m2
  go_enter Tryz.func204, Tryz.ntmps204
  go_wp2_with (first
    | (go_at_call 223; refine hp.mono ?_; rintro e w1 ⟨a, f, b, rfl, hs, ia, if_, ib, hb1⟩; obtain ⟨q1, q2, q3, q4, HQ, hv⟩ := HK.out w1 a f b hs ia if_ ib hb1; obtain ⟨xa, ha⟩ := a.ptr_shape; obtain ⟨xf, hf⟩ := f.ptr_shape; obtain ⟨xb, hb⟩ := b.ptr_shape; have hi := (isSome_ptr hf).2; rw [ha, hb] at HQ; rw [ha] at q3 q4; rw [hf] at hv; rw [ha, hf, hb]; have HX := hide (And.intro ha (And.intro hf hb)); clear ha hf hb hs ia if_ ib hb1)
    | (go_at_call 92; refine hv.mono ?_; rintro e w' ⟨rfl, hw⟩; replace hw := hw.symm; subst hw))
  refine ret_rows4 (w.heap.size + 1) (w.heap.size + 1 + 1) [.pointer xa] [.pointer xb] rfl rfl rfl rfl rfl Tryz.underlying27 rfl Tryz.info27 Tryz.info27 HQ.out.1 HQ.out.2.1 rfl ?_
  refine ⟨a, f, b, ?_, HQ.out.2.2.2.2.1, HQ.out.2.2.1, HQ.out.2.2.2.1, HQ.out.2.2.2.2.2⟩
  rw [HX.out.1, HX.out.2.2]
  simp [hi]

set_option maxHeartbeats 2000000 in
theorem mJoin_any (l r : T) (k : ByteArray) (v : ByteArray) (w : World) (hl : In w l) (hr : In w r) (hn : l.n + r.n ≤ 700000) : Calls Tryz.prog 205 #[mv l, .string k, .string v, mv r] w fun e w' => ∃ t, e = .returned (.tuple #[mv t, .int .i64 (if fitsB l k r then 0 else 2)]) ∧ (fitsB l k r = false → t = .nil) ∧ (fitsB l k r = true → Joined w.heap.size k v l r t) ∧ In w' t ∧ Below w.heap.size w w' := by
  obtain ⟨m0, m1, m2, hb⟩ := new3 w (.cells #[l.ptr] 27) (.cells #[r.ptr] 27) (.cells #[.pointer none] 27)
  have hf := fits_any l r k _ (In.below hb hl) (In.below hb hr)
  have hj := join_any k v 800000 l r _ (by omega) (by omega) (In.below hb hl) (In.below hb hr)
  have key : ∀ w1 t, Gives (((w.alloc (.cells #[l.ptr] 27)).alloc (.cells #[r.ptr] 27)).alloc (.cells #[.pointer none] 27)) (.returned t.ptr) w1 t → Joined (((w.alloc (.cells #[l.ptr] 27)).alloc (.cells #[r.ptr] 27)).alloc (.cells #[.pointer none] 27)).heap.size k v l r t →
      w1.cell? ⟨w.heap.size + 1 + 1, 0, none⟩ = some (.pointer none) ∧ w1.frozen? ⟨w.heap.size + 1 + 1, 0, none⟩ = false ∧ Hid ((w1.setCell ⟨w.heap.size + 1 + 1, 0, none⟩ t.ptr).heap[w.heap.size + 1 + 1]? = some (.cells #[t.ptr] 27 (0, 0)) ∧ In (w1.setCell ⟨w.heap.size + 1 + 1, 0, none⟩ t.ptr) t ∧ Joined w.heap.size k v l r t ∧ Below w.heap.size w (w1.setCell ⟨w.heap.size + 1 + 1, 0, none⟩ t.ptr)) := fun w1 t hg hp => by
    have hw1 := (hg.2.2.block (w.heap.size + 1 + 1) (by simp)).trans m2
    have hb1 := hb.trans (hg.2.2.mono hb.size)
    obtain ⟨o1, o2, o3⟩ := out_box (y := t.ptr) hw1 (by omega) hb1
    exact ⟨by rw [cell_of_row _ _ 0 _ 27 (0, 0) hw1]; rfl, frozen_of_row _ _ 0 _ 27 hw1, hide ⟨o1, In.aside hw1 o3 hg.2.1, hp.mono hb.size, o2⟩⟩
  unfold mv
  obtain ⟨x, hx⟩ := l.ptr_shape
  obtain ⟨y, hy⟩ := r.ptr_shape
  rw [hx, hy] at hf hj hb m2 ⊢
  rw [hx, hy] at key
  have HK := hide key
  clear hl hr hx hy key hn m0 m1
  generalize hF : fitsB l k r = F at *
  cases F with
  | false =>
    clear hj
    have HB := hide (And.intro hb m2)
    clear hb m2
    go_enter Tryz.func205, Tryz.ntmps205
    go_wp2_with (go_at_call 224; refine hf.mono ?_; rintro e w' ⟨rfl, rfl⟩)
    refine ret_row_tmp (w.heap.size + 1 + 1) [.pointer none] rfl rfl rfl Tryz.underlying27 rfl Tryz.info27 HB.out.2 rfl ?_
    exact ⟨.nil, rfl, rfl, trivial, HB.out.1⟩
  | true =>
    have HB := hide (And.intro hb m2)
    clear hb m2
    go_enter Tryz.func205, Tryz.ntmps205
    go_wp2_with (first
      | (go_at_call 224; refine hf.mono ?_; rintro e w' ⟨rfl, hw⟩; replace hw := hw.symm; subst hw)
      | (go_at_call 166; refine hj.mono ?_; rintro e w1 ⟨t, hg, hpp⟩; have he := hg.1; subst he; obtain ⟨q1, q2, HQ⟩ := HK.out w1 t hg hpp; obtain ⟨b, hb⟩ := t.ptr_shape; have HX := hide hb; rw [hb] at HQ ⊢; clear hb hg hpp))
    refine ret_row_tmp (w.heap.size + 1 + 1) [.pointer b] rfl rfl rfl Tryz.underlying27 rfl Tryz.info27 HQ.out.1 rfl ?_
    exact ⟨t, by rw [HX.out]; rfl, HQ.out.2.2.1, HQ.out.2.1, HQ.out.2.2.2⟩
end Go.Proofs.YtkeldhohilmdcaaGreat.Pm
namespace Go.Proofs.YtkeldhohilmdcaaGreat.Pm
open Go.RowKit Go.Shelf
set_option linter.unusedSimpArgs false

theorem drew_below (w : World) : Below w.heap.size w w.drew := (Below.refl _ w).drew
/-- What is written into a map's box. -/
theorem put_box {w w1 : World} {B : Nat} {x y : Value} (hw : w1.heap[B]? = some (.cells #[x] 27 (0, 0))) (hB : w.heap.size ≤ B) (hb : Below w.heap.size w w1) : (w1.setCell ⟨B, 0, none⟩ y).heap[B]? = some (.cells #[y] 27 (0, 0)) ∧ Below w.heap.size w (w1.setCell ⟨B, 0, none⟩ y) ∧ Only (fun j => j = B) w1 (w1.setCell ⟨B, 0, none⟩ y) := by
  refine ⟨?_, hb.setCell (p := ⟨B, 0, none⟩) hB _, (Only.ofGrown (grown_setCell w1 ⟨B, 0, none⟩ _)).mono (fun j _ e => by simpa using e.symm)⟩
  rw [heap_setCell_same _ _ _ _ 27 _ hw]
  simp
theorem mv_ptr {t : T} {a : Option Addr} (h : t.ptr = .pointer a) : mv t = .agg #[.pointer a] := by unfold mv; rw [h]
/-- top: the key of a's root, or of b's. -/
theorem top_any (s t : T) (w : World) (hs : In w s) (ht : In w t) : Calls Tryz.prog 183 #[mv s, mv t] w fun e w' => e = .returned (.string (if s = .nil then t.key else s.key)) ∧ Below w.heap.size w w' := by
  have hb : Below w.heap.size w ((w.alloc (.cells #[s.ptr] 27)).alloc (.cells #[t.ptr] 27)) := ((Below.refl _ w).alloc (Nat.le_refl _) _).alloc (by simp) _
  cases s with
  | nil =>
    rw [if_pos rfl]
    obtain ⟨b, hb'⟩ := t.ptr_shape
    have r1 := mRoot_any .nil ((w.alloc (.cells #[.pointer none] 27)).alloc (.cells #[.pointer b] 27))
    have r2 : ∀ W, Calls Tryz.prog 203 #[.agg #[.pointer b]] W fun e w' => e = .returned (.pointer b) ∧ Below W.heap.size W w' := fun W => by
      have := mRoot_any t W
      rw [mv_ptr hb', hb'] at this
      exact this
    have k2 : ∀ W, In W t → Calls Tryz.prog 192 #[.pointer b] W fun e w' => e = .returned (.string t.key) ∧ w' = W := fun W hW => by
      have := key_any t W hW
      rw [hb'] at this
      exact this
    unfold mv at r1 ⊢
    rw [hb'] at hb ⊢
    simp only [T.ptr] at r1 hb ⊢
    have HT := hide (And.intro ht (And.intro hb k2))
    clear hs ht hb' hb k2
    go_enter Tryz.func183, Tryz.ntmps183
    go_upto_region 2 with (go_at_call 203; refine r1.mono ?_; rintro e w1 ⟨rfl, b1⟩; dsimp only)
    obtain ⟨ht, hb, k2⟩ := HT.out
    obtain ⟨n0, n1⟩ := new2 w (.cells #[.pointer none] 27) (.cells #[.pointer b] 27)
    have h0 := (b1.block w.heap.size (by simp; omega)).trans n0
    have h1 := (b1.block (w.heap.size + 1) (by simp)).trans n1
    have c0 : w1.cell? ⟨w.heap.size, 0, none⟩ = some (.pointer none) := (cell_of_row _ _ 0 _ 27 (0, 0) h0).trans rfl
    have f0 : w1.frozen? ⟨w.heap.size, 0, none⟩ = false := frozen_of_row _ _ 0 _ 27 h0
    have c1 : w1.cell? ⟨w.heap.size + 1, 0, none⟩ = some (.pointer b) := (cell_of_row _ _ 0 _ 27 (0, 0) h1).trans rfl
    have bw1 := hb.trans (b1.mono hb.size)
    obtain ⟨o1, o2, o3⟩ := put_box (y := .pointer b) h0 (Nat.le_refl _) bw1
    have it : In (w1.setCell ⟨w.heap.size, 0, none⟩ (.pointer b)) t := In.aside h0 o3 (In.below bw1 ht)
    have c2 : (w1.setCell ⟨w.heap.size, 0, none⟩ (.pointer b)).cell? ⟨w.heap.size, 0, none⟩ = some (.pointer b) := (cell_of_row _ _ 0 _ 27 (0, 0) o1).trans rfl
    have HI := hide (And.intro it o2)
    clear ht hb n0 n1 h0 h1 bw1 o1 o2 o3 it b1 HT r1
    go_wp2_with (first
      | (go_at_call 203; refine (r2 _).mono ?_; rintro e w3 ⟨rfl, b3⟩; have k3 := k2 w3 (In.below b3 HI.out.1); dsimp only)
      | (go_at_call 192; refine k3.mono ?_; rintro e w4 ⟨rfl, hw⟩; replace hw := hw.symm; subst hw))
    go_ret
    exact ⟨rfl, HI.out.2.trans (b3.mono HI.out.2.size)⟩
  | node p k v l r =>
    rw [if_neg (by simp)]
    obtain ⟨b, hb'⟩ := t.ptr_shape
    have r1 := fun W => mRoot_any (.node p k v l r) W
    have k2 : ∀ W, In W (T.node p k v l r) → Calls Tryz.prog 192 #[.pointer (some ⟨p, 0, none⟩)] W fun e w' => e = .returned (.string k) ∧ w' = W := fun W hW => key_any (.node p k v l r) W hW
    unfold mv at r1 ⊢
    rw [hb'] at hb ⊢
    simp only [T.ptr, T.key] at r1 hb ⊢
    obtain ⟨n0, n1⟩ := new2 w (.cells #[.pointer (some ⟨p, 0, none⟩)] 27) (.cells #[.pointer b] 27)
    have HT := hide (And.intro hs (And.intro hb (And.intro k2 n0)))
    clear hs ht hb' hb k2 n0 n1
    have tk : True := trivial
    go_enter Tryz.func183, Tryz.ntmps183
    go_wp2_with (first
      | (go_at_call 203; clear tk; refine (r1 _).mono ?_; rintro e w1 ⟨rfl, b1⟩; have c1 : w1.cell? ⟨w.heap.size, 0, none⟩ = some (.pointer (some ⟨p, 0, none⟩)) := (cell_of_row _ _ 0 _ 27 (0, 0) ((b1.block w.heap.size (by simp; omega)).trans HT.out.2.2.2)).trans rfl; replace b1 := hide b1; dsimp only)
      | (go_at_call 203; refine (r1 _).mono ?_; rintro e w3 ⟨rfl, b3⟩; have bw3 := (HT.out.2.1.trans (b1.out.mono HT.out.2.1.size)).trans (b3.mono (HT.out.2.1.trans (b1.out.mono HT.out.2.1.size)).size); have k3 := HT.out.2.2.1 w3 (In.below bw3 HT.out.1); replace bw3 := hide bw3; dsimp only)
      | (go_at_call 192; refine k3.mono ?_; rintro e w4 ⟨rfl, hw⟩; replace hw := hw.symm; subst hw))
    go_ret
    exact ⟨rfl, bw3.out⟩
/-- joined: both sides with a key that fits between them. -/
theorem joined_any (l r : T) (k : ByteArray) (v : ByteArray) (w : World) (hl : In w l) (hr : In w r) (hf : fitsB l k r = true) (hn : l.n + r.n ≤ 700000) : Calls Tryz.prog 185 #[mv l, .string k, .string v, mv r] w fun e w' => ∃ t, e = .returned (mv t) ∧ Joined w.heap.size k v l r t ∧ In w' t ∧ Below w.heap.size w w' := by
  obtain ⟨m0, m1, m2, hb⟩ := new3 w (.cells #[l.ptr] 27) (.cells #[r.ptr] 27) (.cells #[.pointer none] 27)
  have hj := mJoin_any l r k v _ (In.below hb hl) (In.below hb hr) hn
  rw [hf] at hj
  have key : ∀ w1 t a, In w1 t → t.ptr = .pointer a → Joined (((w.alloc (.cells #[l.ptr] 27)).alloc (.cells #[r.ptr] 27)).alloc (.cells #[.pointer none] 27)).heap.size k v l r t → Below (((w.alloc (.cells #[l.ptr] 27)).alloc (.cells #[r.ptr] 27)).alloc (.cells #[.pointer none] 27)).heap.size (((w.alloc (.cells #[l.ptr] 27)).alloc (.cells #[r.ptr] 27)).alloc (.cells #[.pointer none] 27)) w1 →
      (w1.alloc (.cells #[.pointer a] 27)).cell? ⟨w.heap.size + 1 + 1, 0, none⟩ = some (.pointer none) ∧ (w1.alloc (.cells #[.pointer a] 27)).frozen? ⟨w.heap.size + 1 + 1, 0, none⟩ = false ∧ Hid (((w1.alloc (.cells #[.pointer a] 27)).setCell ⟨w.heap.size + 1 + 1, 0, none⟩ (.pointer a)).heap[w.heap.size + 1 + 1]? = some (.cells #[.pointer a] 27 (0, 0)) ∧ In ((w1.alloc (.cells #[.pointer a] 27)).setCell ⟨w.heap.size + 1 + 1, 0, none⟩ (.pointer a)) t ∧ Joined w.heap.size k v l r t ∧ Below w.heap.size w ((w1.alloc (.cells #[.pointer a] 27)).setCell ⟨w.heap.size + 1 + 1, 0, none⟩ (.pointer a))) := fun w1 t a it hp hj hb1 => by
    have ba : Below w1.heap.size w1 (w1.alloc (.cells #[.pointer a] 27)) := (Below.refl _ w1).alloc (Nat.le_refl _) _
    have hw0 := (hb1.block (w.heap.size + 1 + 1) (by simp)).trans m2
    have hw1 := (ba.block _ (Array.getElem?_eq_some_iff.1 hw0).1).trans hw0
    have hbb := hb.trans (hb1.mono hb.size)
    obtain ⟨o1, o2, o3⟩ := out_box (y := .pointer a) hw1 (by omega) (hbb.trans (ba.mono hbb.size))
    exact ⟨by rw [cell_of_row _ _ 0 _ 27 (0, 0) hw1]; rfl, frozen_of_row _ _ 0 _ 27 hw1, hide ⟨o1, In.aside hw1 o3 (In.below ba it), hj.mono hb.size, o2⟩⟩
  unfold mv at hj ⊢
  obtain ⟨x, hx⟩ := l.ptr_shape
  obtain ⟨y, hy⟩ := r.ptr_shape
  rw [hx, hy] at hj key ⊢
  have HK := hide key
  clear hl hr hx hy hb key hn m0 m1 m2 hf
  go_enter Tryz.func185, Tryz.ntmps185
  go_wp2_with (go_at_call 205; refine hj.mono ?_; rintro e w1 ⟨t, he, _, hjj, it, hb1⟩; obtain ⟨a, ha⟩ := t.ptr_shape; rw [ha, if_pos rfl] at he; subst he; obtain ⟨q1, q2, HQ⟩ := HK.out w1 t a it ha (hjj rfl) hb1; have HX := hide ha; clear ha it hb1 hjj)
  refine ret_row (w.heap.size + 1 + 1) [.pointer a] rfl rfl Tryz.underlying27 rfl Tryz.info27 HQ.out.1 rfl ?_
  exact ⟨t, by rw [HX.out], HQ.out.2.2.1, HQ.out.2.1, HQ.out.2.2.2⟩
/-- Trees stand where only blocks that are no nodes are written. -/
theorem In.typed {D : Nat → Prop} {w w' : World} (h : Only D w w') (ha : ∀ j, D j → ∀ o, w.heap[j]? = some o → ∃ cur e fr, o = .cells cur e fr ∧ e ≠ 154) : ∀ {t : T}, In w t → In w' t
  | .nil, _ => trivial
  | .node p _ _ _ _, ⟨h1, h2, h3⟩ => by
    refine ⟨(h.block p (Array.getElem?_eq_some_iff.1 h1).1 (fun d => ?_)).trans h1, In.typed h ha h2, In.typed h ha h3⟩
    obtain ⟨cur, e, fr, he, hne⟩ := ha p d _ h1
    simp only [Obj.cells.injEq] at he
    exact hne he.2.1.symm
theorem set_one {w : World} {B i : Nat} {cs : Array Value} {ty : TypeId} (v : Value) (h : w.heap[B]? = some (.cells cs ty (0, 0))) : (w.setCell ⟨B, i, none⟩ v).heap[B]? = some (.cells (cs.setIfInBounds i v) ty (0, 0)) ∧ Only (fun j => j = B) w (w.setCell ⟨B, i, none⟩ v) := by
  refine ⟨?_, (Only.ofGrown (grown_setCell w ⟨B, i, none⟩ _)).mono (fun j _ e => by simpa using e.symm)⟩
  rw [heap_setCell_same _ _ _ _ ty _ h]
theorem set4 {w : World} {B : Nat} {x0 x1 x2 x3 : Value} {ty : TypeId} (a b c d : Value) (h : w.heap[B]? = some (.cells #[x0, x1, x2, x3] ty (0, 0))) : ((((w.setCell ⟨B, 0, none⟩ a).setCell ⟨B, 1, none⟩ b).setCell ⟨B, 2, none⟩ c).setCell ⟨B, 3, none⟩ d).heap[B]? = some (.cells #[a, b, c, d] ty (0, 0)) ∧ Only (fun j => j = B) w ((((w.setCell ⟨B, 0, none⟩ a).setCell ⟨B, 1, none⟩ b).setCell ⟨B, 2, none⟩ c).setCell ⟨B, 3, none⟩ d) := by
  obtain ⟨h1, o1⟩ := set_one (i := 0) a h
  obtain ⟨h2, o2⟩ := set_one (i := 1) b h1
  obtain ⟨h3, o3⟩ := set_one (i := 2) c h2
  obtain ⟨h4, o4⟩ := set_one (i := 3) d h3
  exact ⟨by simpa using h4, ((o1.trans o2 (fun _ _ e => e)).trans o3 (fun _ _ e => e)).trans o4 (fun _ _ e => e)⟩
/-- What a split tells, in one value. -/
def cv (a b : T) (f : T) : Value := .agg #[a.ptr, b.ptr, .string f.val, .bool f.isSome]
theorem Tryz.info206 : (Tryz.prog.info? 206).map (·.size) = some 4 := by kernel_rfl
set_option maxHeartbeats 2000000 in
theorem cutAt_any (t : T) (k : ByteArray) (w : World) (h : In w t) (hn : t.n ≤ 700000) : Calls Tryz.prog 184 #[mv t, .string k] w fun e w' => ∃ a f b, e = .returned (cv a b f) ∧ Splits w.heap.size k t a f b ∧ In w' a ∧ In w' b ∧ Below w.heap.size w w' := by
  have hs := fun W (hW : In W t) => mSplit_any t k W hW hn
  unfold mv at hs ⊢
  obtain ⟨x, hx⟩ := t.ptr_shape
  rw [hx] at hs ⊢
  obtain ⟨n0, n1⟩ := new2 w (.cells #[.pointer x] 27) (.cells #[.pointer none, .pointer none, .string ⟨#[]⟩, .bool false] 206)
  have hb : Below w.heap.size w ((w.alloc (.cells #[.pointer x] 27)).alloc (.cells #[.pointer none, .pointer none, .string ⟨#[]⟩, .bool false] 206)) := ((Below.refl _ w).alloc (Nat.le_refl _) _).alloc (by simp) _
  have hs0 := hs _ (In.below hb h)
  have HN := hide (And.intro n1 hb)
  clear hs h n0 n1 hb
  go_enter Tryz.func184, Tryz.ntmps184
  go_upto_region 2 with (go_at_call 204; refine hs0.mono ?_; rintro e w1 ⟨ta, f, tb, he, hsp, ia, ib, b1⟩; obtain ⟨pa, hpa⟩ := ta.ptr_shape; obtain ⟨pb, hpb⟩ := tb.ptr_shape; rw [hpa, hpb] at he; subst he; have H1 := hide (And.intro hpa (And.intro hpb (And.intro hsp (And.intro ia (And.intro ib b1))))); clear hpa hpb hsp ia ib b1; dsimp only)
  obtain ⟨hpa, hpb, hsp, ia, ib, b1⟩ := H1.out
  have bw1 := HN.out.2.trans (b1.mono HN.out.2.size)
  have h1 := (b1.block (w.heap.size + 1) (by simp)).trans HN.out.1
  have ba : Below w1.heap.size w1 ((w1.alloc (.cells #[.pointer pa] 27)).alloc (.cells #[.pointer pb] 27)) := ((Below.refl _ w1).alloc (Nat.le_refl _) _).alloc (by simp) _
  have h2 := (ba.block _ (Array.getElem?_eq_some_iff.1 h1).1).trans h1
  obtain ⟨w2, hw2⟩ : ∃ w2, w2 = ((w1.alloc (.cells #[.pointer pa] 27)).alloc (.cells #[.pointer pb] 27)) := ⟨_, rfl⟩
  have k5 : w2.cell? ⟨w1.heap.size, 0, none⟩ = some (.pointer pa) ∧ w2.cell? ⟨w1.heap.size + 1, 0, none⟩ = some (.pointer pb) := by
    obtain ⟨n0, n1⟩ := new2 w1 (.cells #[.pointer pa] 27) (.cells #[.pointer pb] 27)
    rw [hw2]
    exact ⟨(cell_of_row _ _ 0 _ 27 (0, 0) n0).trans rfl, (cell_of_row _ _ 0 _ 27 (0, 0) n1).trans rfl⟩
  rw [← hw2] at h2 ba ⊢
  have d0 : w2.cell? ⟨w.heap.size + 1, 0, none⟩ = some (.pointer none) := (cell_of_row _ _ 0 _ 206 (0, 0) h2).trans rfl
  have d1 : w2.cell? ⟨w.heap.size + 1, 1, none⟩ = some (.pointer none) := (cell_of_row _ _ 1 _ 206 (0, 0) h2).trans rfl
  have d2 : w2.cell? ⟨w.heap.size + 1, 2, none⟩ = some (.string ⟨#[]⟩) := (cell_of_row _ _ 2 _ 206 (0, 0) h2).trans rfl
  have d3 : w2.cell? ⟨w.heap.size + 1, 3, none⟩ = some (.bool false) := (cell_of_row _ _ 3 _ 206 (0, 0) h2).trans rfl
  obtain ⟨k5, k8⟩ := k5
  have f0 : w2.frozen? ⟨w.heap.size + 1, 0, none⟩ = false := frozen_of_row _ _ 0 _ 206 h2
  have f1 : w2.frozen? ⟨w.heap.size + 1, 1, none⟩ = false := frozen_of_row _ _ 1 _ 206 h2
  have f2 : w2.frozen? ⟨w.heap.size + 1, 2, none⟩ = false := frozen_of_row _ _ 2 _ 206 h2
  have f3 : w2.frozen? ⟨w.heap.size + 1, 3, none⟩ = false := frozen_of_row _ _ 3 _ 206 h2
  obtain ⟨g1, g2⟩ := set4 (.pointer pa) (.pointer pb) (.string f.val) (.bool f.isSome) h2
  have bw2 := bw1.trans (ba.mono bw1.size)
  have hty : ∀ j, j = w.heap.size + 1 → ∀ o, w2.heap[j]? = some o → ∃ cur e fr, o = .cells cur e fr ∧ e ≠ 154 := fun j e o ho => by
    subst e
    rw [h2] at ho
    cases ho
    exact ⟨_, _, _, rfl, by decide⟩
  have HF := hide (And.intro g1 (And.intro (In.typed g2 hty (In.below ba ia)) (And.intro (In.typed g2 hty (In.below ba ib)) (And.intro (hsp.mono HN.out.2.size) (Below.only bw2 g2 bw2.size (fun j e => by omega))))))
  clear hpa hpb hsp ia ib b1 bw1 h1 hw2 hs0 g1 g2 hty h2 bw2 ba
  go_wp2
  refine ret_row (w.heap.size + 1) [.pointer pa, .pointer pb, .string f.val, .bool f.isSome] rfl rfl Tryz.underlying206 rfl Tryz.info206 HF.out.1 rfl ?_
  exact ⟨ta, f, tb, by unfold cv; rw [H1.out.1, H1.out.2.1], HF.out.2.2.2.1, HF.out.2.1, HF.out.2.2.1, HF.out.2.2.2.2⟩
end Go.Proofs.YtkeldhohilmdcaaGreat.Pm
namespace Go.Proofs.YtkeldhohilmdcaaGreat.Pm
open Go.RowKit Go.Shelf
set_option linter.unusedSimpArgs false

/-- Nodes compared. -/
theorem eqT (s n : T) (W : World) (hs : In W s) (hn : In W n) : (binOp .eql 25 s.ptr n.ptr).run Tryz.prog W = .ok (.bool (decide (s = n))) W := by
  by_cases e : s = n
  · subst e; simp only [decide_true]; exact eql_same s _
  · rw [decide_eq_false e]; exact eql_other hs hn e
set_option maxHeartbeats 4000000 in
theorem stands_any (n t : T) (w : World) (hn : In w n) (ht : In w t) : Calls Tryz.prog 207 #[n.ptr, mv t] w fun e w' => e = .returned (.bool (decide (t.find n.key = n))) ∧ Below w.heap.size w w' := by
  have hb : Below w.heap.size w (w.alloc (.cells #[t.ptr] 27)) := (Below.refl _ w).alloc (Nat.le_refl _) _
  have r1 := mRoot_any t (w.alloc (.cells #[t.ptr] 27))
  unfold mv at r1 ⊢
  obtain ⟨a, ha⟩ := n.ptr_shape
  obtain ⟨b, hb'⟩ := t.ptr_shape
  rw [hb'] at r1 hb ⊢
  rw [ha]
  have HI := hide (And.intro hn (And.intro ht (And.intro hb (And.intro ha hb'))))
  clear hn ht hb ha hb'
  go_enter Tryz.func207, Tryz.ntmps207
  go_wp2_with (go_at_call 203; refine r1.mono ?_; rintro e w1 ⟨rfl, b1⟩; replace b1 := hide b1; dsimp only)
  have bw1 := hide (HI.out.2.2.1.trans (b1.out.mono HI.out.2.2.1.size))
  clear b1 r1
  go_loopg [5] t.h (fun k v5 wr => ∃ (s : T) (b : Option Addr), v5 = .pointer b ∧ Hid (s.ptr = .pointer b ∧ In w1 s ∧ s.find n.key = t.find n.key ∧ s.h = k) ∧ wr = w1)
  case atStart => exact ⟨t, b, rfl, hide ⟨HI.out.2.2.2.2, In.below bw1.out HI.out.2.1, rfl, rfl⟩, rfl⟩
  case round =>
    obtain ⟨s, b, rfl, HS, rfl⟩ := hrel
    obtain ⟨hp, hs, hf, hh⟩ := HS.out
    have hq := eqT s n wr hs (In.below bw1.out HI.out.1)
    rw [hp, HI.out.2.2.2.1] at hq
    have kn : Calls Tryz.prog 192 #[.pointer a] wr fun e w' => e = .returned (.string n.key) ∧ w' = wr := by
      have := key_any n wr (In.below bw1.out HI.out.1)
      rw [HI.out.2.2.2.1] at this
      exact this
    cases s with
    | nil =>
      have hb0 : b = none := by simpa [T.ptr] using hp.symm
      subst hb0
      have HF := hide hf
      clear hp hs hf hh HS kn
      go_wp2
      go_ret
      refine ⟨?_, bw1.out⟩
      rw [← HF.out]
      rfl
    | node p k v l r =>
      simp only [T.ptr] at hp
      cases hp
      have ks : Calls Tryz.prog 192 #[.pointer (some ⟨p, 0, none⟩)] wr fun e w' => e = .returned (.string k) ∧ w' = wr := key_any (.node p k v l r) wr hs
      have ls : Calls Tryz.prog 157 #[.pointer (some ⟨p, 0, none⟩)] wr fun e w' => e = .returned l.ptr ∧ w' = wr := left_any (.node p k v l r) wr hs
      have rs : Calls Tryz.prog 154 #[.pointer (some ⟨p, 0, none⟩)] wr fun e w' => e = .returned r.ptr ∧ w' = wr := right_any (.node p k v l r) wr hs
      obtain ⟨la, hla⟩ := l.ptr_shape
      obtain ⟨ra, hra⟩ := r.ptr_shape
      rw [hla] at ls
      rw [hra] at rs
      have HX := hide (And.intro hs (And.intro hf (And.intro hh (And.intro hla hra))))
      clear hs hf hh HS hla hra
      obtain ⟨D, hD⟩ : ∃ D, D = decide (T.node p k v l r = n) := ⟨_, rfl⟩
      rw [← hD] at hq
      have HD := hide hD
      clear hD
      by_cases e : k = n.key
      · have HFF := hide (show t.find n.key = .node p k v l r by
          rw [← HX.out.2.1, ← e]
          simp [T.find, ord_B.refl])
        have HE := hide e
        rw [← e] at kn
        clear e
        have tk : True := trivial
        go_wp2_with (first
          | (go_at_call 192; clear tk; refine ks.mono ?_; rintro e w' ⟨rfl, hw⟩; replace hw := hw.symm; subst hw)
          | (go_at_call 192; refine kn.mono ?_; rintro e w' ⟨rfl, hw⟩; replace hw := hw.symm; subst hw))
        go_ret
        exact ⟨by rw [HFF.out, HD.out]; rfl, bw1.out⟩
      · obtain ⟨K, hK⟩ : ∃ K, K = n.key := ⟨_, rfl⟩
        rw [← hK] at kn e
        have e1 : (k.toList == K.toList) = false := by
          simp only [beq_eq_false_iff_ne, ne_eq]
          intro h
          rw [ByteArray.toList_eq, ByteArray.toList_eq] at h
          exact e (ByteArray.ext (Array.toList_inj.1 h))
        have hlb := less_B K k
        have HKK := hide hK
        by_cases hlt : cmpB K k = -1
        · rw [decide_eq_true hlt] at hlb
          have HFF := hide (show l.find n.key = t.find n.key by rw [← HX.out.2.1, ← hK]; simp [T.find, hlt])
          clear hK e hlt hq
          have tk : True := trivial
          have tk2 : True ∧ True := ⟨trivial, trivial⟩
          have tk3 : True ∧ True ∧ True := ⟨trivial, trivial, trivial⟩
          go_wp2_with (first
            | (go_at_call 192; clear tk; refine ks.mono ?_; rintro e w' ⟨rfl, hw⟩; replace hw := hw.symm; subst hw)
            | (go_at_call 192; clear tk2; refine kn.mono ?_; rintro e w' ⟨rfl, hw⟩; replace hw := hw.symm; subst hw)
            | (go_at_call 192; clear tk3; refine kn.mono ?_; rintro e w' ⟨rfl, hw⟩; replace hw := hw.symm; subst hw)
            | (go_at_call 192; refine ks.mono ?_; rintro e w' ⟨rfl, hw⟩; replace hw := hw.symm; subst hw)
            | (go_at_call 157; refine ls.mono ?_; rintro e w' ⟨rfl, hw⟩; replace hw := hw.symm; subst hw))
          go_roundg l.h
          case measure => have := HX.out.2.2.1; simp only [T.h] at this; omega
          case rel => exact ⟨l, la, rfl, hide ⟨HX.out.2.2.2.1, HX.out.1.2.1, HFF.out, rfl⟩, rfl⟩
        · rw [decide_eq_false hlt] at hlb
          have h1 : cmpB K k = 1 := by
            rcases ord_B.range K k with h | h | h
            · exact (hlt h).elim
            · exact (e (ord_B.eq _ _ h).symm).elim
            · exact h
          have HFF := hide (show r.find n.key = t.find n.key by rw [← HX.out.2.1, ← hK]; simp [T.find, h1])
          clear hK e hlt hq h1
          have tk : True := trivial
          have tk2 : True ∧ True := ⟨trivial, trivial⟩
          have tk3 : True ∧ True ∧ True := ⟨trivial, trivial, trivial⟩
          go_wp2_with (first
            | (go_at_call 192; clear tk; refine ks.mono ?_; rintro e w' ⟨rfl, hw⟩; replace hw := hw.symm; subst hw)
            | (go_at_call 192; clear tk2; refine kn.mono ?_; rintro e w' ⟨rfl, hw⟩; replace hw := hw.symm; subst hw)
            | (go_at_call 192; clear tk3; refine kn.mono ?_; rintro e w' ⟨rfl, hw⟩; replace hw := hw.symm; subst hw)
            | (go_at_call 192; refine ks.mono ?_; rintro e w' ⟨rfl, hw⟩; replace hw := hw.symm; subst hw)
            | (go_at_call 154; refine rs.mono ?_; rintro e w' ⟨rfl, hw⟩; replace hw := hw.symm; subst hw))
          go_roundg r.h
          case measure => have := HX.out.2.2.1; simp only [T.h] at this; omega
          case rel => exact ⟨r, ra, rfl, hide ⟨HX.out.2.2.2.2, HX.out.1.2.2, HFF.out, rfl⟩, rfl⟩
end Go.Proofs.YtkeldhohilmdcaaGreat.Pm
namespace Go.Proofs.YtkeldhohilmdcaaGreat.Pm
open Go.RowKit Go.Shelf
set_option linter.unusedSimpArgs false

theorem In.underP {w : World} : ∀ {t : T}, In w t → t.under w.heap.size
  | .nil, _ => trivial
  | .node _ _ _ _ _, h => ⟨h.lt, In.underP h.2.1, In.underP h.2.2⟩
/-- What closed makes. -/
def Closes (B : Nat) (l r t : T) : Prop := (r = .nil ∧ t = l) ∨ (r ≠ .nil ∧ ∃ r' t0, Takes B r.first.key r r' ∧ Joined B r.first.key r.first.val l r' t0 ∧ t = t0)
theorem Closes.list {B : Nat} {l r t : T} (h : Closes B l r t) (hr : Srt r.list) : t.list = l.list ++ r.list := by
  rcases h with ⟨rfl, rfl⟩ | ⟨hn, r', t0, ht, hj, rfl⟩
  · simp [T.list]
  · obtain ⟨_, fk, fv, _, frest, f1, f2, _⟩ := T.first_spec hn
    rw [hj.list, ht.list hr]
    have e1 : r.first.key = fk := by rw [f1]; rfl
    have e2 : r.first.val = fv := by rw [f1]; rfl
    rw [e1, e2, f2]
    congr 1
    have hp : pos fk ((fk, fv) :: frest) = 0 := by simp [pos, ord_B.refl]
    have hh : has fk ((fk, fv) :: frest) = true := by unfold has; rw [hp]; simp
    unfold del
    rw [hh, hp]
    simp
theorem Closes.fits {l r r' : T} {B : Nat} (hn : r ≠ .nil) (hs : Srt (l.list ++ r.list)) (ht : Takes B r.first.key r r') : fitsB l r.first.key r' = true := by
  obtain ⟨_, fk, fv, _, frest, f1, f2, _⟩ := T.first_spec hn
  have e1 : r.first.key = fk := by rw [f1]; rfl
  rw [e1] at ht ⊢
  rw [f2] at hs
  obtain ⟨s1, s2, s3, s4⟩ := Srt.app.1 hs
  have hr : Srt r.list := by rw [f2]; exact (List.pairwise_append.1 hs).2.1
  have hl : r'.list = frest := by
    rw [ht.list hr, f2]
    have hp : pos fk ((fk, fv) :: frest) = 0 := by simp [pos, ord_B.refl]
    have hh : has fk ((fk, fv) :: frest) = true := by unfold has; rw [hp]; simp
    unfold del
    rw [hh, hp]
    simp
  exact (fits_is s1 (by rw [hl]; exact s2)).2 ⟨s3, by rw [hl]; exact s4⟩
set_option maxHeartbeats 4000000 in
theorem closed_any (l r : T) (w : World) (hl : In w l) (hr : In w r) (hs : Srt (l.list ++ r.list)) (hn : l.n + r.n ≤ 700000) : Calls Tryz.prog 186 #[mv l, mv r] w fun e w' => ∃ t, e = .returned (mv t) ∧ Closes w.heap.size l r t ∧ (l.bal → r.bal → t.bal) ∧ In w' t ∧ Below w.heap.size w w' := by
  have hsr : Srt r.list := (List.pairwise_append.1 hs).2.1
  obtain ⟨m0, m1, m2, hb⟩ := new3 w (.cells #[l.ptr] 27) (.cells #[r.ptr] 27) (.cells #[.pointer none] 27)
  have hf := mFirst_any r _ (In.below hb hr)
  by_cases hrn : r = .nil
  · subst hrn
    obtain ⟨x, hx⟩ := l.ptr_shape
    unfold mv at hf ⊢
    rw [hx] at hf hb m0 m1 m2 ⊢
    simp only [T.ptr, T.first, T.key, T.val, T.isSome] at hf hb m0 m1 m2 ⊢
    have HH := hide (And.intro hl (And.intro hb (And.intro m0 m2)))
    clear hl hr hs hn hb m0 m1 m2
    go_enter Tryz.func186, Tryz.ntmps186
    go_upto_region 3 with (go_at_call 117; refine hf.mono ?_; rintro e w1 ⟨rfl, b1⟩; dsimp only)
    obtain ⟨hl, hb, m0, m2⟩ := HH.out
    have h0 := (b1.block w.heap.size (by simp; omega)).trans m0
    have h2 := (b1.block (w.heap.size + 1 + 1) (by simp)).trans m2
    have c0 : w1.cell? ⟨w.heap.size, 0, none⟩ = some (.pointer x) := (cell_of_row _ _ 0 _ 27 (0, 0) h0).trans rfl
    have c2 : w1.cell? ⟨w.heap.size + 1 + 1, 0, none⟩ = some (.pointer none) := (cell_of_row _ _ 0 _ 27 (0, 0) h2).trans rfl
    have f2 : w1.frozen? ⟨w.heap.size + 1 + 1, 0, none⟩ = false := frozen_of_row _ _ 0 _ 27 h2
    have bw := hb.trans (b1.mono hb.size)
    obtain ⟨o1, o2, o3⟩ := out_box (y := .pointer x) h2 (by omega) bw
    have HO := hide (And.intro o1 (And.intro o2 (In.aside h2 o3 (In.below bw hl))))
    clear hl hb m0 m2 h0 h2 bw o1 o2 o3 b1 HH hf
    go_wp2
    refine ret_row (w.heap.size + 1 + 1) [.pointer x] rfl rfl Tryz.underlying27 rfl Tryz.info27 HO.out.1 rfl ?_
    exact ⟨l, congrArg (fun v => Ending.returned (Value.agg #[v])) hx.symm, .inl ⟨rfl, rfl⟩, fun h _ => h, HO.out.2.2, HO.out.2.1⟩
  · obtain ⟨x, hx⟩ := l.ptr_shape
    obtain ⟨y, hy⟩ := r.ptr_shape
    obtain ⟨_, _, _, _, _, fe, _⟩ := T.first_spec hrn
    have hsome : r.first.isSome = true := by rw [fe]; rfl
    have tk : ∀ W w1 : World, Below w1.heap.size w1 W → Below w.heap.size w w1 → Calls Tryz.prog 103 #[.agg #[.pointer y], .string r.first.key] W fun e w' => ∃ t' p', e = .returned (.agg #[.pointer p']) ∧ t'.ptr = .pointer p' ∧ In w' t' ∧ Takes w.heap.size r.first.key r t' ∧ (r.bal → t'.bal) ∧ Below W.heap.size W w' := fun W w1 hW hw1 => by
      have bW := hw1.trans (hW.mono hw1.size)
      have := mTake_any r r.first.key W (In.below bW hr) (by omega)
      rw [mv_ptr hy] at this
      refine this.mono ?_
      rintro e w' ⟨t', he, i1, ht, b1⟩
      obtain ⟨p', hp'⟩ := t'.ptr_shape
      exact ⟨t', p', by rw [he, mv_ptr hp'], hp', i1, ht.mono bW.size, fun hbal => (ht.says hsr hbal (In.underP (In.below bW hr))).bal, b1⟩
    have jn : ∀ (W w1 : World) (t' : T) (p' : Option Addr), Below w1.heap.size w1 W → Below w.heap.size w w1 → t'.ptr = .pointer p' → In W t' → Takes w.heap.size r.first.key r t' → Calls Tryz.prog 185 #[.agg #[.pointer x], .string r.first.key, .string r.first.val, .agg #[.pointer p']] W fun e w' => ∃ z pz, e = .returned (.agg #[.pointer pz]) ∧ z.ptr = .pointer pz ∧ Joined w.heap.size r.first.key r.first.val l t' z ∧ In w' z ∧ Below W.heap.size W w' := fun W w1 t' p' hW hw1 hp' it ht => by
      have bW := hw1.trans (hW.mono hw1.size)
      have hln : l.n + t'.n ≤ 700000 := by have := ht.n; omega
      have := joined_any l t' r.first.key r.first.val W (In.below bW hl) it (Closes.fits hrn hs ht) hln
      rw [mv_ptr hx, mv_ptr hp'] at this
      refine this.mono ?_
      rintro e w' ⟨z, he, hj, iz, b1⟩
      obtain ⟨pz, hpz⟩ := z.ptr_shape
      exact ⟨z, pz, by rw [he, mv_ptr hpz], hpz, hj.mono bW.size, iz, b1⟩
    rw [hsome] at hf
    unfold mv at hf ⊢
    rw [hx, hy] at hf hb m0 m1 m2 ⊢
    generalize hk : r.first.key = k at *
    generalize hv : r.first.val = v at *
    have HKV := hide (And.intro hk hv)
    clear hk hv
    have HH := hide (And.intro hb (And.intro m0 (And.intro m1 (And.intro m2 (And.intro tk jn)))))
    have HXY := hide (And.intro hx hrn)
    clear hl hr hs hn hb m0 m1 m2 tk jn hx hy hrn fe hsome hsr
    go_enter Tryz.func186, Tryz.ntmps186
    go_upto_region 4 with (go_at_call 117; refine hf.mono ?_; rintro e w1 ⟨rfl, b1⟩; dsimp only)
    obtain ⟨hb, m0, m1, m2, tk, jn⟩ := HH.out
    have h0 := (b1.block w.heap.size (by simp; omega)).trans m0
    have h1 := (b1.block (w.heap.size + 1) (by simp)).trans m1
    have HR := hide ((b1.block (w.heap.size + 1 + 1) (by simp)).trans m2)
    have c0 : w1.cell? ⟨w.heap.size, 0, none⟩ = some (.pointer x) := (cell_of_row _ _ 0 _ 27 (0, 0) h0).trans rfl
    have c1 : w1.cell? ⟨w.heap.size + 1, 0, none⟩ = some (.pointer y) := (cell_of_row _ _ 0 _ 27 (0, 0) h1).trans rfl
    have bw := hb.trans (b1.mono hb.size)
    have HJ := hide (fun (W : World) (t' : T) (p' : Option Addr) (hW : Below w1.heap.size w1 W) => jn W w1 t' p' hW bw)
    have tk := fun (W : World) (hW : Below w1.heap.size w1 W) => tk W w1 hW bw
    have q0 : w1.cell? ⟨w.heap.size, 0, none⟩ = some (.pointer x) ∧ w1.cell? ⟨w.heap.size + 1, 0, none⟩ = some (.pointer y) ∧ Hid (Below w.heap.size w w1) := ⟨c0, c1, hide bw⟩
    clear hb m0 m1 m2 jn h0 h1 b1 c0 c1 HH hf bw
    have qd : w1.drew.cell? ⟨w.heap.size, 0, none⟩ = some (.pointer x) ∧ w1.drew.cell? ⟨w.heap.size + 1, 0, none⟩ = some (.pointer y) ∧ Hid (Below w.heap.size w w1.drew) := ⟨q0.1, q0.2.1, hide (q0.2.2.out.trans ((drew_below w1).mono q0.2.2.out.size))⟩
    refine wp_region_held_drew (S := (fun w' => w'.cell? ⟨w.heap.size, 0, none⟩ = some (.pointer x) ∧ w'.cell? ⟨w.heap.size + 1, 0, none⟩ = some (.pointer y) ∧ Hid (Below w.heap.size w w'))) (by kernel_rfl) qd (fun hHeld => ?_)
    try dsimp only at hHeld
    refine take_op (i := 0) (d := 17) (OP := Op.load 27 (Operand.tmp 2)) (T := 27) (v := ?vzz1) rfl rfl rfl rfl (by kernel_rfl) (by kernel_rfl) (by kernel_rfl) (fun _ _ _ h => h) (by rfl) ?hzz1 hHeld ?rzz1
    case hzz1 => (intro w' hSw; (try dsimp only at hSw); go_simp <;> with_reducible rfl)
    try simp only [Act.put, List.setIfInBounds_toArray, List.set_cons_zero, List.set_cons_succ]
    refine take_op (i := 1) (d := 18) (OP := Op.move (Operand.tmp 5)) (T := 9) (v := ?vzz2) rfl rfl rfl rfl (by kernel_rfl) (by kernel_rfl) (by kernel_rfl) (fun _ _ _ h => h) (by rfl) ?hzz2 hHeld ?rzz2
    case hzz2 => (intro w' hSw; (try dsimp only at hSw); go_simp <;> with_reducible rfl)
    try simp only [Act.put, List.setIfInBounds_toArray, List.set_cons_zero, List.set_cons_succ]
    refine take_op (i := 2) (d := 19) (OP := Op.move (Operand.tmp 6)) (T := 9) (v := ?vzz3) rfl rfl rfl rfl (by kernel_rfl) (by kernel_rfl) (by kernel_rfl) (fun _ _ _ h => h) (by rfl) ?hzz3 hHeld ?rzz3
    case hzz3 => (intro w' hSw; (try dsimp only at hSw); go_simp <;> with_reducible rfl)
    try simp only [Act.put, List.setIfInBounds_toArray, List.set_cons_zero, List.set_cons_succ]
    refine take_op (i := 3) (d := 20) (OP := Op.load 27 (Operand.tmp 3)) (T := 27) (v := ?vzz4) rfl rfl rfl rfl (by kernel_rfl) (by kernel_rfl) (by kernel_rfl) (fun _ _ _ h => h) (by rfl) ?hzz4 hHeld ?rzz4
    case hzz4 => (intro w' hSw; (try dsimp only at hSw); go_simp <;> with_reducible rfl)
    try simp only [Act.put, List.setIfInBounds_toArray, List.set_cons_zero, List.set_cons_succ]
    refine take_op (i := 4) (d := 21) (OP := Op.move (Operand.tmp 5)) (T := 9) (v := ?vzz5) rfl rfl rfl rfl (by kernel_rfl) (by kernel_rfl) (by kernel_rfl) (fun _ _ _ h => h) (by rfl) ?hzz5 hHeld ?rzz5
    case hzz5 => (intro w' hSw; (try dsimp only at hSw); go_simp <;> with_reducible rfl)
    try simp only [Act.put, List.setIfInBounds_toArray, List.set_cons_zero, List.set_cons_succ]
    refine call_op (i := 5) (d := 22) (OP := Op.call { callee := Callee.value (Operand.func 103), args := #[Operand.tmp 20, Operand.tmp 21], argTypes := #[27, 9] }) (T := 27) (f := 103) (args := #[.agg #[.pointer y], .string k]) rfl rfl rfl rfl (by kernel_rfl) (by rfl) (by go_simp) ?_
    refine (tk _ (drew_below w1)).mono ?_
    rintro e w2 ⟨t', p', rfl, hp', i2, ht, tb', b2⟩
    have bd2 : Below w1.heap.size w1 w2 := (drew_below w1).trans (b2.mono (drew_below w1).size)
    have qw2 : w2.cell? ⟨w.heap.size, 0, none⟩ = some (.pointer x) ∧ w2.cell? ⟨w.heap.size + 1, 0, none⟩ = some (.pointer y) ∧ Hid (Below w.heap.size w w2) := ⟨cell_stays qd.1 b2, cell_stays qd.2.1 b2, hide (qd.2.2.out.trans (b2.mono qd.2.2.out.size))⟩
    refine ⟨_, rfl, qw2, ?_⟩
    replace hHeld := qw2
    try simp only [Act.put, List.setIfInBounds_toArray, List.set_cons_zero, List.set_cons_succ]
    refine call_op (i := 6) (d := 23) (OP := Op.call { callee := Callee.value (Operand.func 185), args := #[Operand.tmp 17, Operand.tmp 18, Operand.tmp 19, Operand.tmp 22], argTypes := #[27, 9, 9, 27] }) (T := 27) (f := 185) (args := #[.agg #[.pointer x], .string k, .string v, .agg #[.pointer p']]) rfl rfl rfl rfl (by kernel_rfl) (by rfl) (by go_simp) ?_
    refine (HJ.out _ t' p' bd2 hp' i2 ht).mono ?_
    rintro e w3 ⟨z, pz, rfl, hpz, hj, i3, b3⟩
    have bd3 : Below w1.heap.size w1 w3 := bd2.trans (b3.mono bd2.size)
    have qw3 : w3.cell? ⟨w.heap.size, 0, none⟩ = some (.pointer x) ∧ w3.cell? ⟨w.heap.size + 1, 0, none⟩ = some (.pointer y) ∧ Hid (Below w.heap.size w w3) := ⟨cell_stays qw2.1 b3, cell_stays qw2.2.1 b3, hide (qw2.2.2.out.trans (b3.mono qw2.2.2.out.size))⟩
    refine ⟨_, rfl, qw3, ?_⟩
    replace hHeld := qw3
    try simp only [Act.put, List.setIfInBounds_toArray, List.set_cons_zero, List.set_cons_succ]
    have h3 : w3.heap[w.heap.size + 1 + 1]? = some (.cells #[.pointer none] 27 (0, 0)) := (bd3.block _ (Array.getElem?_eq_some_iff.1 HR.out).1).trans HR.out
    have c3 : w3.cell? ⟨w.heap.size + 1 + 1, 0, none⟩ = some (.pointer none) := (cell_of_row _ _ 0 _ 27 (0, 0) h3).trans rfl
    have f3 : w3.frozen? ⟨w.heap.size + 1 + 1, 0, none⟩ = false := frozen_of_row _ _ 0 _ 27 h3
    obtain ⟨o1, o2, o3⟩ := out_box (y := .pointer pz) h3 (by omega) qw3.2.2.out
    have q9 : (w3.setCell ⟨w.heap.size + 1 + 1, 0, none⟩ (.pointer pz)).cell? ⟨w.heap.size, 0, none⟩ = some (.pointer x) ∧ (w3.setCell ⟨w.heap.size + 1 + 1, 0, none⟩ (.pointer pz)).cell? ⟨w.heap.size + 1, 0, none⟩ = some (.pointer y) ∧ Hid (Below w.heap.size w (w3.setCell ⟨w.heap.size + 1 + 1, 0, none⟩ (.pointer pz))) := ⟨o3.cell qw3.1 (by simp; omega), o3.cell qw3.2.1 (by simp), hide o2⟩
    have iz := In.aside h3 o3 i3
    refine skip_op (i := 7) (OP := Op.store 27 (Operand.tmp 4) (Operand.tmp 23)) (T := 0) (w' := (w3.setCell ⟨w.heap.size + 1 + 1, 0, none⟩ (.pointer pz))) rfl rfl rfl rfl (by kernel_rfl) (by rfl) (by go_simp) ⟨q9, ?_⟩
    try simp only [Act.put, List.setIfInBounds_toArray, List.set_cons_zero, List.set_cons_succ]
    replace hHeld := q9
    refine wpAnyH_done (by kernel_rfl) ?_ _
    have HO := hide (And.intro o1 (And.intro o2 (And.intro iz (And.intro hpz (And.intro ht hj)))))
    have HTB := hide tb'
    go_wp2
    refine ret_row (w.heap.size + 1 + 1) [.pointer pz] rfl rfl Tryz.underlying27 rfl Tryz.info27 HO.out.1 rfl ?_
    refine ⟨z, by rw [HO.out.2.2.2.1], .inr ⟨HXY.out.2, t', z, ?_, ?_, rfl⟩, fun h1 h2 => (HO.out.2.2.2.2.2.says h1 (HTB.out h2)).bal, HO.out.2.2.1, HO.out.2.1⟩
    · rw [HKV.out.1]; exact HO.out.2.2.2.2.1
    · rw [HKV.out.1, HKV.out.2]; exact HO.out.2.2.2.2.2
end Go.Proofs.YtkeldhohilmdcaaGreat.Pm
namespace Go.Proofs.YtkeldhohilmdcaaGreat.Pm
open Go.RowKit Go.Shelf
set_option linter.unusedSimpArgs false

/-- What a map has under a key. -/
def pv (p : ByteArray × Bool) : Value := .agg #[.string p.1, .bool p.2]
/-- The elements' rule: does a key stay, and with what? -/
def keeps (p q r : ByteArray × Bool) : ByteArray × Bool := if q.2 && (r.2 || !p.2) then (q.1, true) else if r.2 && !p.2 then (r.1, true) else (⟨#[]⟩, false)
set_option maxHeartbeats 2000000 in
theorem keep_any (k : ByteArray) (p q r : ByteArray × Bool) (w : World) : Calls Tryz.prog 148 #[.string k, pv p, pv q, pv r] w fun e w' => e = .returned (.tuple #[.string (keeps p q r).1, .bool (keeps p q r).2]) ∧ Below w.heap.size w w' := by
  obtain ⟨p1, p2⟩ := p
  obtain ⟨q1, q2⟩ := q
  obtain ⟨r1, r2⟩ := r
  have hb : Below w.heap.size w (((w.alloc (.cells #[.string p1, .bool p2] 204)).alloc (.cells #[.string q1, .bool q2] 204)).alloc (.cells #[.string r1, .bool r2] 204)) := (new3 w _ _ _).2.2.2
  unfold pv
  have HB := hide hb
  clear hb
  cases p2 <;> cases q2 <;> cases r2 <;> (go_enter Tryz.func148, Tryz.ntmps148; go_wp2; go_ret2; exact ⟨rfl, HB.out⟩)
end Go.Proofs.YtkeldhohilmdcaaGreat.Pm
namespace Go.Proofs.YtkeldhohilmdcaaGreat.Pm
open Go.RowKit Go.Shelf
set_option linter.unusedSimpArgs false

theorem ins_less {x : ByteArray × ByteArray} {k : ByteArray} {v : ByteArray} {l : List (ByteArray × ByteArray)} (h : cmpB x.1 k = -1) : ins k v (x :: l) = x :: ins k v l := by
  have hp : pos k (x :: l) = pos k l + 1 := by simp [pos, h]
  have hh : has k (x :: l) = has k l := by unfold has; rw [hp]; simp
  unfold ins
  rw [hp, hh]
  split <;> simp
theorem ins_mem {k : ByteArray} {v : ByteArray} {l : List (ByteArray × ByteArray)} {y : ByteArray × ByteArray} (h : y ∈ ins k v l) : y = (k, v) ∨ y ∈ l := by
  unfold ins at h
  rcases List.mem_append.1 h with h | h
  · exact .inr (List.mem_of_mem_take h)
  · rcases List.mem_cons.1 h with h | h
    · exact .inl h
    · exact .inr (List.mem_of_mem_drop h)
theorem srt_ins {l : List (ByteArray × ByteArray)} (h : Srt l) (k : ByteArray) (v : ByteArray) : Srt (ins k v l) := by
  induction l with
  | nil => simp [ins, pos, has, Srt]
  | cons x l ih =>
    obtain ⟨h1, h2⟩ := List.pairwise_cons.1 h
    by_cases hc : cmpB x.1 k = -1
    · rw [ins_less hc]
      refine List.Pairwise.cons (fun y hy => ?_) (ih h2)
      rcases ins_mem hy with rfl | hy
      · exact hc
      · exact h1 y hy
    · have hp : pos k (x :: l) = 0 := by simp [pos, hc]
      have hh : has k (x :: l) = decide (x.1 = k) := by unfold has; rw [hp]; rfl
      unfold ins
      rw [hp, hh]
      by_cases he : x.1 = k
      · simp only [he, decide_true, if_true, List.take_zero, List.nil_append, Nat.zero_add, List.drop_succ_cons, List.drop_zero]
        exact List.Pairwise.cons (fun y hy => by have := h1 y hy; rw [he] at this; exact this) h2
      · simp only [he, decide_false, Bool.false_eq_true, if_false, List.take_zero, List.nil_append, List.drop_zero]
        have hk : cmpB k x.1 = -1 := by
          have h3 := ord_B.range x.1 k
          have h4 := ord_B.anti k x.1
          rcases h3 with h3 | h3 | h3
          · exact (hc h3).elim
          · exact (he (ord_B.eq _ _ h3)).elim
          · have := ord_B.anti x.1 k; omega
        refine List.Pairwise.cons (fun y hy => ?_) h
        rcases List.mem_cons.1 hy with rfl | hy
        · exact hk
        · exact ord_B.trans _ _ _ hk (h1 y hy)
/-- What a list has under a key. -/
def look (k : ByteArray) : List (ByteArray × ByteArray) → ByteArray × Bool
  | [] => (⟨#[]⟩, false)
  | x :: l => if x.1 = k then (x.2, true) else look k l
theorem look_none {k : ByteArray} : ∀ {l : List (ByteArray × ByteArray)}, (∀ y ∈ l, y.1 ≠ k) → look k l = (⟨#[]⟩, false)
  | [], _ => rfl
  | x :: l, h => by rw [look, if_neg (h x (by simp)), look_none (fun y hy => h y (by simp [hy]))]
theorem look_left {k : ByteArray} : ∀ {l r : List (ByteArray × ByteArray)}, (∀ y ∈ r, y.1 ≠ k) → look k (l ++ r) = look k l
  | [], r, h => by rw [List.nil_append, look_none h]; rfl
  | x :: l, r, h => by rw [List.cons_append, look, look, look_left h]
theorem look_right {k : ByteArray} : ∀ {l r : List (ByteArray × ByteArray)}, (∀ y ∈ l, y.1 ≠ k) → look k (l ++ r) = look k r
  | [], r, h => rfl
  | x :: l, r, h => by rw [List.cons_append, look, if_neg (h x (by simp)), look_right (fun y hy => h y (by simp [hy]))]
theorem cmp_ne {a b : ByteArray} (h : cmpB a b = -1) : a ≠ b := fun e => by rw [e, ord_B.refl] at h; exact absurd h (by decide)
theorem cmp_three (a b : ByteArray) : cmpB a b = -1 ∨ a = b ∨ cmpB b a = -1 := by
  rcases ord_B.range a b with h | h | h
  · exact .inl h
  · exact .inr (.inl (ord_B.eq _ _ h))
  · right; right; have := ord_B.anti b a; omega
/-- A key between two sides. -/
theorem look_mid {k : ByteArray} {v : ByteArray} {l r : List (ByteArray × ByteArray)} (hl : ∀ y ∈ l, cmpB y.1 k = -1) (hr : ∀ y ∈ r, cmpB k y.1 = -1) : look k (l ++ (k, v) :: r) = (v, true) ∧ (∀ j, cmpB j k = -1 → look j (l ++ (k, v) :: r) = look j l) ∧ (∀ j, cmpB k j = -1 → look j (l ++ (k, v) :: r) = look j r) := by
  refine ⟨?_, fun j hj => ?_, fun j hj => ?_⟩
  · rw [look_right (fun y hy => cmp_ne (hl y hy))]; simp [look]
  · refine look_left (fun y hy => ?_)
    rcases List.mem_cons.1 hy with rfl | hy
    · exact (cmp_ne hj).symm
    · exact (cmp_ne (ord_B.trans _ _ _ hj (hr y hy))).symm
  · rw [look_right (fun y hy => cmp_ne (ord_B.trans _ _ _ (hl y hy) hj)), look, if_neg (cmp_ne hj)]
/-- Two sides without a key between them. -/
theorem look_two {k : ByteArray} {l r : List (ByteArray × ByteArray)} (hl : ∀ y ∈ l, cmpB y.1 k = -1) (hr : ∀ y ∈ r, cmpB k y.1 = -1) : look k (l ++ r) = (⟨#[]⟩, false) ∧ (∀ j, cmpB j k = -1 → look j (l ++ r) = look j l) ∧ (∀ j, cmpB k j = -1 → look j (l ++ r) = look j r) := by
  refine ⟨?_, fun j hj => ?_, fun j hj => ?_⟩
  · rw [look_right (fun y hy => cmp_ne (hl y hy)), look_none (fun y hy => (cmp_ne (hr y hy)).symm)]
  · exact look_left (fun y hy => (cmp_ne (ord_B.trans _ _ _ hj (hr y hy))).symm)
  · exact look_right (fun y hy => cmp_ne (ord_B.trans _ _ _ (hl y hy) hj))
/-- What a split tells, by the lists. -/
structure Sides (k : ByteArray) (t a f b : T) : Prop where
  asrt : Srt a.list
  bsrt : Srt b.list
  less : ∀ y ∈ a.list, cmpB y.1 k = -1
  more : ∀ y ∈ b.list, cmpB k y.1 = -1
  at_ : look k t.list = (f.val, f.isSome)
  below : ∀ j, cmpB j k = -1 → look j t.list = look j a.list
  above : ∀ j, cmpB k j = -1 → look j t.list = look j b.list
  inA : ∀ y ∈ a.list, y ∈ t.list
  inB : ∀ y ∈ b.list, y ∈ t.list
  n : a.n + b.n + (if f.isSome then 1 else 0) = t.n
theorem Splits.sides {B : Nat} {k : ByteArray} {t a f b : T} (h : Splits B k t a f b) (hs : Srt t.list) : Sides k t a f b := by
  obtain ⟨h1, h2, h3, h4⟩ := h.list hs
  have hi : a.list ++ (k, ⟨#[]⟩) :: b.list = ins k ⟨#[]⟩ t.list := by rw [h1, h2]; rfl
  have hsi := srt_ins hs k ⟨#[]⟩
  rw [← hi] at hsi
  obtain ⟨s1, s2, s3, s4⟩ := Srt.app.1 hsi
  have hpl := pos_le k t.list
  cases hG : has k t.list with
  | false =>
    rw [hG] at h2
    simp only [if_neg Bool.false_ne_true] at h2
    have ht : t.list = a.list ++ b.list := by rw [h1, h2, List.take_append_drop]
    have hf := h3 hG
    subst hf
    obtain ⟨m1, m2, m3⟩ := look_two s3 s4
    refine ⟨s1, s2, s3, s4, by rw [ht, m1]; rfl, fun j hj => by rw [ht, m2 j hj], fun j hj => by rw [ht, m3 j hj], fun y hy => by rw [ht]; simp [hy], fun y hy => by rw [ht]; simp [hy], ?_⟩
    have := congrArg List.length ht
    simp only [List.length_append, T.n_eq] at this
    simp [T.isSome]; omega
  | true =>
    rw [hG] at h2
    simp only [if_true] at h2
    obtain ⟨hn, hg⟩ := h4 hG
    have ht : t.list = a.list ++ (k, f.val) :: b.list := by
      have hlt := (List.getElem?_eq_some_iff.1 hg).1
      rw [h1, h2]
      rw [List.getElem?_eq_getElem hlt] at hg
      rw [← Option.some.inj hg, List.getElem_cons_drop, List.take_append_drop]
    have hsome : f.isSome = true := by
      cases f with
      | nil => exact (hn rfl).elim
      | node => rfl
    obtain ⟨m1, m2, m3⟩ := look_mid (v := f.val) s3 s4
    refine ⟨s1, s2, s3, s4, by rw [ht, m1, hsome], fun j hj => by rw [ht, m2 j hj], fun j hj => by rw [ht, m3 j hj], fun y hy => by rw [ht]; simp [hy], fun y hy => by rw [ht]; simp [hy], ?_⟩
    have := congrArg List.length ht
    simp only [List.length_append, List.length_cons, T.n_eq] at this
    rw [hsome]; simp; omega
/-- The key that the walk reads. -/
def topK (a b : T) : ByteArray := if a = .nil then b.key else a.key
def T.part (f : T) : ByteArray × Bool := (f.val, f.isSome)
/-- Three maps run together by a rule: the map, and the keys that the rule is asked for, in their order. -/
inductive Runs (B : Nat) (R : ByteArray → ByteArray × Bool → ByteArray × Bool → ByteArray × Bool → ByteArray × Bool) : T → T → T → T → List ByteArray → Prop where
  | same {o a : T} : Runs B R o a a a []
  | left {o b : T} (h : o ≠ b) : Runs B R o o b b []
  | right {o a : T} (h : a ≠ o) : Runs B R o a o a []
  | joins {o a b o1 o2 f a1 a2 g b1 b2 h t1 t2 t : T} {ks1 ks2 : List ByteArray} {v : ByteArray} (n1 : a ≠ b) (n2 : o ≠ a) (n3 : o ≠ b) (so : Splits B (topK a b) o o1 f o2) (sa : Splits B (topK a b) a a1 g a2) (sb : Splits B (topK a b) b b1 h b2)
      (r1 : Runs B R o1 a1 b1 t1 ks1) (r2 : Runs B R o2 a2 b2 t2 ks2) (hr : R (topK a b) f.part g.part h.part = (v, true)) (hj : Joined B (topK a b) v t1 t2 t) : Runs B R o a b t (ks1 ++ ks2 ++ [topK a b])
  | closes {o a b o1 o2 f a1 a2 g b1 b2 h t1 t2 t : T} {ks1 ks2 : List ByteArray} {v : ByteArray} (n1 : a ≠ b) (n2 : o ≠ a) (n3 : o ≠ b) (so : Splits B (topK a b) o o1 f o2) (sa : Splits B (topK a b) a a1 g a2) (sb : Splits B (topK a b) b b1 h b2)
      (r1 : Runs B R o1 a1 b1 t1 ks1) (r2 : Runs B R o2 a2 b2 t2 ks2) (hr : R (topK a b) f.part g.part h.part = (v, false)) (hj : Closes B t1 t2 t) (hb : t1.bal → t2.bal → t.bal) : Runs B R o a b t (ks1 ++ ks2 ++ [topK a b])
theorem root_has {B : Nat} {t a f b : T} (hn : t ≠ .nil) (h : Splits B t.key t a f b) (hs : Srt t.list) : f.isSome = true := by
  have h1 := (h.sides hs).at_
  cases t with
  | nil => exact (hn rfl).elim
  | node p k v l r =>
    obtain ⟨s1, s2, s3, s4⟩ := Srt.app.1 hs
    rw [show (T.node p k v l r).list = l.list ++ (k, v) :: r.list from rfl, show (T.node p k v l r).key = k from rfl, (look_mid (v := v) s3 s4).1] at h1
    exact (congrArg Prod.snd h1).symm
/-- What stands of the sides that are run together. -/
theorem top_has {B : Nat} {a b a1 a2 g b1 b2 h : T} (n1 : a ≠ b) (sa : Splits B (topK a b) a a1 g a2) (sb : Splits B (topK a b) b b1 h b2) (ha : Srt a.list) (hb : Srt b.list) : g.isSome = true ∨ h.isSome = true := by
  by_cases e : a = .nil
  · right
    have hk : topK a b = b.key := by unfold topK; rw [if_pos e]
    rw [hk] at sb
    exact root_has (fun e2 => n1 (by rw [e, e2])) sb hb
  · left
    have hk : topK a b = a.key := by unfold topK; rw [if_neg e]
    rw [hk] at sa
    exact root_has e sa ha
theorem look_mem {k : ByteArray} : ∀ {l : List (ByteArray × ByteArray)}, (look k l).2 = true → ∃ y ∈ l, y.1 = k
  | [], h => by simp [look] at h
  | x :: l, h => by
    by_cases e : x.1 = k
    · exact ⟨x, by simp, e⟩
    · rw [look, if_neg e] at h
      obtain ⟨y, hy, e2⟩ := look_mem h
      exact ⟨y, by simp [hy], e2⟩
/-- What a rule must answer. -/
structure Fair (V : ByteArray → ByteArray × Bool → Prop) (R : ByteArray → ByteArray × Bool → ByteArray × Bool → ByteArray × Bool → ByteArray × Bool) : Prop where
  none : ∀ k, V k (⟨#[]⟩, false)
  both : ∀ k p q, V k p → V k q → R k p q q = q
  left : ∀ k p r, V k p → V k r → R k p p r = r
  right : ∀ k p q, V k p → V k q → R k p q p = q
  norm : ∀ k p q r, (R k p q r).2 = false → R k p q r = (⟨#[]⟩, false)
/-- What a walk comes to. -/
structure RunSays (R : ByteArray → ByteArray × Bool → ByteArray × Bool → ByteArray × Bool → ByteArray × Bool) (o a b t : T) (ks : List ByteArray) : Prop where
  bal : t.bal
  srt : Srt t.list
  look : ∀ k, look k t.list = R k (look k o.list) (look k a.list) (look k b.list)
  keys : ∀ y ∈ t.list, (∃ x ∈ a.list, x.1 = y.1) ∨ (∃ x ∈ b.list, x.1 = y.1)
  asked : ∀ k ∈ ks, (∃ x ∈ a.list, x.1 = k) ∨ (∃ x ∈ b.list, x.1 = k)
  once : ks.Nodup
  few : ks.length ≤ a.n + b.n
  tn : t.n ≤ a.n + b.n
theorem Sides.valid {V : ByteArray → ByteArray × Bool → Prop} {k : ByteArray} {t a f b : T} (h : Sides k t a f b) (h0 : ∀ k, V k (⟨#[]⟩, false)) (hv : ∀ j, V j (Go.Proofs.YtkeldhohilmdcaaGreat.Pm.look j t.list)) : (∀ j, V j (Go.Proofs.YtkeldhohilmdcaaGreat.Pm.look j a.list)) ∧ (∀ j, V j (Go.Proofs.YtkeldhohilmdcaaGreat.Pm.look j b.list)) := by
  refine ⟨fun j => ?_, fun j => ?_⟩
  · rcases cmp_three j k with e | e | e
    · rw [← h.below j e]; exact hv j
    · subst e; rw [look_none (fun y hy => cmp_ne (h.less y hy))]; exact h0 _
    · rw [look_none (fun y hy => cmp_ne (ord_B.trans _ _ _ (h.less y hy) e))]; exact h0 _
  · rcases cmp_three j k with e | e | e
    · rw [look_none (fun y hy => (cmp_ne (ord_B.trans _ _ _ e (h.more y hy))).symm)]; exact h0 _
    · subst e; rw [look_none (fun y hy => (cmp_ne (h.more y hy)).symm)]; exact h0 _
    · rw [← h.above j e]; exact hv j
/-- What the two halves of a walk give for the whole. -/
structure Mid (R : ByteArray → ByteArray × Bool → ByteArray × Bool → ByteArray × Bool → ByteArray × Bool) (K : ByteArray) (o a b f g h t1 t2 : T) (ks1 ks2 : List ByteArray) : Prop where
  b1 : t1.bal
  b2 : t2.bal
  s1 : Srt t1.list
  s2 : Srt t2.list
  less : ∀ y ∈ t1.list, cmpB y.1 K = -1
  more : ∀ y ∈ t2.list, cmpB K y.1 = -1
  lookL : ∀ j, cmpB j K = -1 → look j t1.list = R j (look j o.list) (look j a.list) (look j b.list)
  lookM : R K f.part g.part h.part = R K (look K o.list) (look K a.list) (look K b.list)
  lookR : ∀ j, cmpB K j = -1 → look j t2.list = R j (look j o.list) (look j a.list) (look j b.list)
  keys1 : ∀ y ∈ t1.list, (∃ x ∈ a.list, x.1 = y.1) ∨ (∃ x ∈ b.list, x.1 = y.1)
  keys2 : ∀ y ∈ t2.list, (∃ x ∈ a.list, x.1 = y.1) ∨ (∃ x ∈ b.list, x.1 = y.1)
  key : (∃ x ∈ a.list, x.1 = K) ∨ (∃ x ∈ b.list, x.1 = K)
  asked : ∀ k ∈ ks1 ++ ks2 ++ [K], (∃ x ∈ a.list, x.1 = k) ∨ (∃ x ∈ b.list, x.1 = k)
  once : (ks1 ++ ks2 ++ [K]).Nodup
  few : (ks1 ++ ks2 ++ [K]).length ≤ a.n + b.n
  tn : t1.n + t2.n + 1 ≤ a.n + b.n
theorem Runs.mid {B : Nat} {R : ByteArray → ByteArray × Bool → ByteArray × Bool → ByteArray × Bool → ByteArray × Bool} {o a b o1 o2 f a1 a2 g b1 b2 h t1 t2 : T} {ks1 ks2 : List ByteArray} (n1 : a ≠ b) (so : Splits B (topK a b) o o1 f o2) (sa : Splits B (topK a b) a a1 g a2) (sb : Splits B (topK a b) b b1 h b2)
    (So : Srt o.list) (Sa : Srt a.list) (Sb : Srt b.list) (i1 : RunSays R o1 a1 b1 t1 ks1) (i2 : RunSays R o2 a2 b2 t2 ks2) : Mid R (topK a b) o a b f g h t1 t2 ks1 ks2 := by
  have xo := so.sides So
  have xa := sa.sides Sa
  have xb := sb.sides Sb
  have hth := top_has n1 sa sb Sa Sb
  generalize topK a b = K at *
  have hkey : (∃ x ∈ a.list, x.1 = K) ∨ (∃ x ∈ b.list, x.1 = K) := by
    rcases hth with e | e
    · left; exact look_mem (by rw [xa.at_]; exact e)
    · right; exact look_mem (by rw [xb.at_]; exact e)
  have hl : ∀ {k : ByteArray}, ((∃ x ∈ a1.list, x.1 = k) ∨ (∃ x ∈ b1.list, x.1 = k)) → cmpB k K = -1 := fun {k} hk => by
    rcases hk with ⟨x, hx, rfl⟩ | ⟨x, hx, rfl⟩
    · exact xa.less x hx
    · exact xb.less x hx
  have hm : ∀ {k : ByteArray}, ((∃ x ∈ a2.list, x.1 = k) ∨ (∃ x ∈ b2.list, x.1 = k)) → cmpB K k = -1 := fun {k} hk => by
    rcases hk with ⟨x, hx, rfl⟩ | ⟨x, hx, rfl⟩
    · exact xa.more x hx
    · exact xb.more x hx
  have up1 : ∀ {k : ByteArray}, ((∃ x ∈ a1.list, x.1 = k) ∨ (∃ x ∈ b1.list, x.1 = k)) → (∃ x ∈ a.list, x.1 = k) ∨ (∃ x ∈ b.list, x.1 = k) := fun {k} hk => by
    rcases hk with ⟨x, hx, e⟩ | ⟨x, hx, e⟩
    · exact .inl ⟨x, xa.inA x hx, e⟩
    · exact .inr ⟨x, xb.inA x hx, e⟩
  have up2 : ∀ {k : ByteArray}, ((∃ x ∈ a2.list, x.1 = k) ∨ (∃ x ∈ b2.list, x.1 = k)) → (∃ x ∈ a.list, x.1 = k) ∨ (∃ x ∈ b.list, x.1 = k) := fun {k} hk => by
    rcases hk with ⟨x, hx, e⟩ | ⟨x, hx, e⟩
    · exact .inl ⟨x, xa.inB x hx, e⟩
    · exact .inr ⟨x, xb.inB x hx, e⟩
  have hcount : a1.n + a2.n + b1.n + b2.n + 1 ≤ a.n + b.n := by
    have e1 := xa.n
    have e2 := xb.n
    rcases hth with e | e
    · rw [e] at e1; simp at e1; omega
    · rw [e] at e2; simp at e2; omega
  have f1 := i1.few
  have f2 := i2.few
  have u1 := i1.tn
  have u2 := i2.tn
  refine ⟨i1.bal, i2.bal, i1.srt, i2.srt, fun y hy => hl (i1.keys y hy), fun y hy => hm (i2.keys y hy), fun j hj => ?_, ?_, fun j hj => ?_, fun y hy => up1 (i1.keys y hy), fun y hy => up2 (i2.keys y hy), hkey, fun k hk => ?_, ?_, ?_, by omega⟩
  · rw [i1.look j, xo.below j hj, xa.below j hj, xb.below j hj]
  · rw [xo.at_, xa.at_, xb.at_]; rfl
  · rw [i2.look j, xo.above j hj, xa.above j hj, xb.above j hj]
  · simp only [List.mem_append, List.mem_singleton] at hk
    rcases hk with (hk | hk) | hk
    · exact up1 (i1.asked k hk)
    · exact up2 (i2.asked k hk)
    · subst hk; exact hkey
  · rw [List.nodup_append, List.nodup_append]
    refine ⟨⟨i1.once, i2.once, fun x hx y hy e => ?_⟩, by simp, fun x hx y hy e => ?_⟩
    · subst e
      exact cmp_ne (ord_B.trans _ _ _ (hl (i1.asked x hx)) (hm (i2.asked x hy))) rfl
    · simp only [List.mem_singleton] at hy
      subst hy
      subst e
      rcases List.mem_append.1 hx with hx | hx
      · exact cmp_ne (hl (i1.asked x hx)) rfl
      · exact cmp_ne (hm (i2.asked x hx)) rfl
  · simp only [List.length_append, List.length_singleton]
    omega
theorem Runs.says {B : Nat} {V : ByteArray → ByteArray × Bool → Prop} {R : ByteArray → ByteArray × Bool → ByteArray × Bool → ByteArray × Bool → ByteArray × Bool} (hR : Fair V R) {o a b t : T} {ks : List ByteArray} (h : Runs B R o a b t ks) :
    Srt o.list → Srt a.list → Srt b.list → o.bal → a.bal → b.bal → (∀ k, V k (look k o.list)) → (∀ k, V k (look k a.list)) → (∀ k, V k (look k b.list)) → RunSays R o a b t ks := by
  induction h with
  | @same o a =>
    intro so sa _ _ ba _ vo va _
    exact ⟨ba, sa, fun k => (hR.both k _ _ (vo k) (va k)).symm, fun y hy => .inl ⟨y, hy, rfl⟩, by simp, List.nodup_nil, by simp, by omega⟩
  | @left o b hne =>
    intro so _ sb _ _ bb vo _ vb
    exact ⟨bb, sb, fun k => (hR.left k _ _ (vo k) (vb k)).symm, fun y hy => .inr ⟨y, hy, rfl⟩, by simp, List.nodup_nil, by simp, by omega⟩
  | @right o a hne =>
    intro so sa _ _ ba _ vo va _
    exact ⟨ba, sa, fun k => (hR.right k _ _ (vo k) (va k)).symm, fun y hy => .inl ⟨y, hy, rfl⟩, by simp, List.nodup_nil, by simp, by omega⟩
  | @joins o a b o1 o2 f a1 a2 g b1 b2 h t1 t2 t ks1 ks2 v n1 n2 n3 so sa sb r1 r2 hr hj ih1 ih2 =>
    intro So Sa Sb Bo Ba Bb Vo Va Vb
    obtain ⟨vo1, vo2⟩ := (so.sides So).valid hR.none Vo
    obtain ⟨va1, va2⟩ := (sa.sides Sa).valid hR.none Va
    obtain ⟨vb1, vb2⟩ := (sb.sides Sb).valid hR.none Vb
    have i1 := ih1 (so.sides So).asrt (sa.sides Sa).asrt (sb.sides Sb).asrt (so.bal Bo).1 (sa.bal Ba).1 (sb.bal Bb).1 vo1 va1 vb1
    have i2 := ih2 (so.sides So).bsrt (sa.sides Sa).bsrt (sb.sides Sb).bsrt (so.bal Bo).2 (sa.bal Ba).2 (sb.bal Bb).2 vo2 va2 vb2
    have m := Runs.mid n1 so sa sb So Sa Sb i1 i2
    have hl : t.list = t1.list ++ (topK a b, v) :: t2.list := hj.list
    obtain ⟨q1, q2, q3⟩ := look_mid (v := v) m.less m.more
    refine ⟨(hj.says m.b1 m.b2).bal, by rw [hl]; exact Srt.app.2 ⟨m.s1, m.s2, m.less, m.more⟩, fun k => ?_, fun y hy => ?_, m.asked, m.once, m.few, ?_⟩
    · rw [hl]
      rcases cmp_three k (topK a b) with e | e | e
      · rw [q2 k e, m.lookL k e]
      · rw [e, q1, ← m.lookM, hr]
      · rw [q3 k e, m.lookR k e]
    · rw [hl] at hy
      rcases List.mem_append.1 hy with hy | hy
      · exact m.keys1 y hy
      · rcases List.mem_cons.1 hy with rfl | hy
        · exact m.key
        · exact m.keys2 y hy
    · have := congrArg List.length hl
      simp only [List.length_append, List.length_cons, T.n_eq] at this
      have := m.tn
      omega
  | @closes o a b o1 o2 f a1 a2 g b1 b2 h t1 t2 t ks1 ks2 v n1 n2 n3 so sa sb r1 r2 hr hj hb ih1 ih2 =>
    intro So Sa Sb Bo Ba Bb Vo Va Vb
    obtain ⟨vo1, vo2⟩ := (so.sides So).valid hR.none Vo
    obtain ⟨va1, va2⟩ := (sa.sides Sa).valid hR.none Va
    obtain ⟨vb1, vb2⟩ := (sb.sides Sb).valid hR.none Vb
    have i1 := ih1 (so.sides So).asrt (sa.sides Sa).asrt (sb.sides Sb).asrt (so.bal Bo).1 (sa.bal Ba).1 (sb.bal Bb).1 vo1 va1 vb1
    have i2 := ih2 (so.sides So).bsrt (sa.sides Sa).bsrt (sb.sides Sb).bsrt (so.bal Bo).2 (sa.bal Ba).2 (sb.bal Bb).2 vo2 va2 vb2
    have m := Runs.mid n1 so sa sb So Sa Sb i1 i2
    have hl : t.list = t1.list ++ t2.list := hj.list m.s2
    obtain ⟨q1, q2, q3⟩ := look_two m.less m.more
    refine ⟨hb m.b1 m.b2, ?_, fun k => ?_, fun y hy => ?_, m.asked, m.once, m.few, ?_⟩
    · rw [hl]
      exact List.pairwise_append.2 ⟨m.s1, m.s2, fun x hx y hy => ord_B.trans _ _ _ (m.less x hx) (m.more y hy)⟩
    · rw [hl]
      rcases cmp_three k (topK a b) with e | e | e
      · rw [q2 k e, m.lookL k e]
      · rw [e, q1, ← m.lookM]
        exact (hR.norm _ _ _ _ (by rw [hr])).symm
      · rw [q3 k e, m.lookR k e]
    · rw [hl] at hy
      rcases List.mem_append.1 hy with hy | hy
      · exact m.keys1 y hy
      · exact m.keys2 y hy
    · have := congrArg List.length hl
      simp only [List.length_append, T.n_eq] at this
      have := m.tn
      omega
end Go.Proofs.YtkeldhohilmdcaaGreat.Pm
namespace Go.Proofs.YtkeldhohilmdcaaGreat.Pm
open Go.RowKit Go.Shelf
set_option linter.unusedSimpArgs false

theorem new4 (w : World) (o1 o2 o3 o4 : Obj) : ((((w.alloc o1).alloc o2).alloc o3).alloc o4).heap[w.heap.size]? = some o1 ∧ ((((w.alloc o1).alloc o2).alloc o3).alloc o4).heap[w.heap.size + 1]? = some o2 ∧ ((((w.alloc o1).alloc o2).alloc o3).alloc o4).heap[w.heap.size + 1 + 1]? = some o3 ∧ ((((w.alloc o1).alloc o2).alloc o3).alloc o4).heap[w.heap.size + 1 + 1 + 1]? = some o4 ∧ Below w.heap.size w ((((w.alloc o1).alloc o2).alloc o3).alloc o4) := by
  obtain ⟨m0, m1, m2, hb⟩ := new3 w o1 o2 o3
  have ba : Below (((w.alloc o1).alloc o2).alloc o3).heap.size (((w.alloc o1).alloc o2).alloc o3) ((((w.alloc o1).alloc o2).alloc o3).alloc o4) := (Below.refl _ _).alloc (Nat.le_refl _) _
  have h4 := heap_alloc_new (((w.alloc o1).alloc o2).alloc o3) o4
  have hs : (((w.alloc o1).alloc o2).alloc o3).heap.size = w.heap.size + 1 + 1 + 1 := by simp
  rw [hs] at h4
  exact ⟨(ba.block _ (by rw [hs]; omega)).trans m0, (ba.block _ (by rw [hs]; omega)).trans m1, (ba.block _ (by rw [hs]; omega)).trans m2, h4, hb.trans (ba.mono hb.size)⟩
/-- What the walk answers where it reads nothing. -/
def unread (o a b : T) : T := if a = b then a else if o = a then b else a
set_option maxHeartbeats 4000000 in
theorem run_unread (o a b : T) (u v x : Value) (w : World) (io : In w o) (ia : In w a) (ib : In w b) (h : a = b ∨ o = a ∨ o = b) : Calls Tryz.prog 182 #[mv o, mv a, mv b, u, v, x] w fun e w' => e = .returned (mv (unread o a b)) ∧ In w' (unread o a b) ∧ Below w.heap.size w w' := by
  obtain ⟨m0, m1, m2, m3, hb⟩ := new4 w (.cells #[o.ptr] 27) (.cells #[a.ptr] 27) (.cells #[b.ptr] 27) (.cells #[.pointer none] 27)
  have same : ∀ (s t : T) (W : World), Below w.heap.size w W → In w s → In w t → Calls Tryz.prog 75 #[mv s, mv t] W fun e w' => e = .returned (.bool (decide (s = t))) ∧ Below W.heap.size W w' := fun s t W hW is it => mSame_any s t W (In.below hW is) (In.below hW it)
  obtain ⟨po, ho⟩ := o.ptr_shape
  obtain ⟨pa, ha⟩ := a.ptr_shape
  obtain ⟨pb, hb'⟩ := b.ptr_shape
  rw [ho, ha, hb'] at m0 m1 m2 m3 hb
  have c1 := fun W hW => same a b W hW ia ib
  have c2 := fun W hW => same o a W hW io ia
  have c3 := fun W hW => same o b W hW io ib
  unfold mv at c1 c2 c3 ⊢
  rw [ha, hb'] at c1
  rw [ho, ha] at c2
  rw [ho, hb'] at c3
  rw [ho, ha, hb']
  obtain ⟨w0, hw0⟩ : ∃ w0, w0 = ((((w.alloc (.cells #[.pointer po] 27)).alloc (.cells #[.pointer pa] 27)).alloc (.cells #[.pointer pb] 27)).alloc (.cells #[.pointer none] 27)) := ⟨_, rfl⟩
  have HP := hide (And.intro ho (And.intro ha hb'))
  rw [← hw0] at m0 m1 m2 m3 hb
  -- what is told of a world behind w0
  have tell : ∀ W, Below w0.heap.size w0 W → W.cell? ⟨w.heap.size, 0, none⟩ = some (.pointer po) ∧ W.cell? ⟨w.heap.size + 1, 0, none⟩ = some (.pointer pa) ∧ W.cell? ⟨w.heap.size + 1 + 1, 0, none⟩ = some (.pointer pb) ∧ W.cell? ⟨w.heap.size + 1 + 1 + 1, 0, none⟩ = some (.pointer none) ∧ W.frozen? ⟨w.heap.size + 1 + 1 + 1, 0, none⟩ = false ∧ Hid (W.heap[w.heap.size + 1 + 1 + 1]? = some (.cells #[.pointer none] 27 (0, 0)) ∧ Below w.heap.size w W) := fun W hW => by
    have k0 := (hW.block _ (Array.getElem?_eq_some_iff.1 m0).1).trans m0
    have k1 := (hW.block _ (Array.getElem?_eq_some_iff.1 m1).1).trans m1
    have k2 := (hW.block _ (Array.getElem?_eq_some_iff.1 m2).1).trans m2
    have k3 := (hW.block _ (Array.getElem?_eq_some_iff.1 m3).1).trans m3
    exact ⟨(cell_of_row _ _ 0 _ 27 (0, 0) k0).trans rfl, (cell_of_row _ _ 0 _ 27 (0, 0) k1).trans rfl, (cell_of_row _ _ 0 _ 27 (0, 0) k2).trans rfl, (cell_of_row _ _ 0 _ 27 (0, 0) k3).trans rfl, frozen_of_row _ _ 0 _ 27 k3, hide ⟨k3, hb.trans (hW.mono hb.size)⟩⟩
  have HT := hide tell
  have fin : ∀ (W : World) (t : T) (pt : Option Addr), Below w0.heap.size w0 W → t.ptr = .pointer pt → In w t → (W.setCell ⟨w.heap.size + 1 + 1 + 1, 0, none⟩ (.pointer pt)).heap[w.heap.size + 1 + 1 + 1]? = some (.cells #[.pointer pt] 27 (0, 0)) ∧ In (W.setCell ⟨w.heap.size + 1 + 1 + 1, 0, none⟩ (.pointer pt)) t ∧ Below w.heap.size w (W.setCell ⟨w.heap.size + 1 + 1 + 1, 0, none⟩ (.pointer pt)) := fun W t pt hW hpt it => by
    obtain ⟨_, _, _, _, _, HH⟩ := tell W hW
    obtain ⟨o1, o2, o3⟩ := out_box (y := .pointer pt) HH.out.1 (by omega) HH.out.2
    exact ⟨o1, In.aside HH.out.1 o3 (In.below HH.out.2 it), o2⟩
  have HF := hide fin
  have HI := hide (And.intro io (And.intro ia ib))
  have hb0 := hide hb
  clear tell fin io ia ib m0 m1 m2 m3 hb same ho ha hb'
  by_cases e1 : a = b
  · simp only [decide_eq_true e1] at c1
    go_enter Tryz.func182, Tryz.ntmps182
    go_upto_region 1 with (fail)
    rw [← hw0]
    obtain ⟨t0, t1, t2, t3, t4, HH⟩ := HT.out w0 (Below.refl _ _)
    clear hw0
    go_upto_region 2 with (go_at_call 75; refine (c1 w0 hb0.out).mono ?_; rintro e w1 ⟨rfl, bb⟩; have b1 : Below w0.heap.size w0 w1 := bb; obtain ⟨s0, s1, s2, s3, s4, HHw1⟩ := HT.out w1 b1; clear HHw1 bb; replace b1 := hide b1; dsimp only)
    have HR := hide (HF.out w1 a pa b1.out HP.out.2.1 HI.out.2.1)
    clear HH
    go_wp2
    refine ret_row (w.heap.size + 1 + 1 + 1) [.pointer pa] rfl rfl Tryz.underlying27 rfl Tryz.info27 HR.out.1 rfl ?_
    have hu : unread o a b = a := by unfold unread; rw [if_pos e1]
    exact ⟨by rw [hu, HP.out.2.1], by rw [hu]; exact HR.out.2.1, HR.out.2.2⟩
  simp only [decide_eq_false e1] at c1
  by_cases e2 : o = a
  · simp only [decide_eq_true e2] at c2
    have tk : True := trivial
    go_enter Tryz.func182, Tryz.ntmps182
    go_upto_region 1 with (fail)
    rw [← hw0]
    obtain ⟨t0, t1, t2, t3, t4, HH⟩ := HT.out w0 (Below.refl _ _)
    clear hw0
    go_upto_region 4 with (first
      | (go_at_call 75; clear tk; refine (c1 w0 hb0.out).mono ?_; rintro e w1 ⟨rfl, bb⟩; have b1 : Below w0.heap.size w0 w1 := bb; obtain ⟨s0, s1, s2, s3, s4, HHw1⟩ := HT.out w1 b1; clear HHw1 bb; replace b1 := hide b1; dsimp only)
      | (go_at_call 75; refine (c2 w1 (hb0.out.trans (b1.out.mono hb0.out.size))).mono ?_; rintro e w2 ⟨rfl, bb⟩; have b2 : Below w0.heap.size w0 w2 := b1.out.trans (bb.mono b1.out.size); obtain ⟨s0, s1, s2, s3, s4, HHw2⟩ := HT.out w2 b2; clear HHw2 bb; replace b2 := hide b2; dsimp only))
    have HR := hide (HF.out w2 b pb b2.out HP.out.2.2 HI.out.2.2)
    clear HH
    go_wp2
    refine ret_row (w.heap.size + 1 + 1 + 1) [.pointer pb] rfl rfl Tryz.underlying27 rfl Tryz.info27 HR.out.1 rfl ?_
    have hu : unread o a b = b := by unfold unread; rw [if_neg e1, if_pos e2]
    exact ⟨by rw [hu, HP.out.2.2], by rw [hu]; exact HR.out.2.1, HR.out.2.2⟩
  simp only [decide_eq_false e2] at c2
  have e3 : o = b := by rcases h with h | h | h <;> first | exact (e1 h).elim | exact (e2 h).elim | exact h
  simp only [decide_eq_true e3] at c3
  have tk : True := trivial
  have tk2 : True ∧ True := ⟨trivial, trivial⟩
  go_enter Tryz.func182, Tryz.ntmps182
  go_upto_region 1 with (fail)
  rw [← hw0]
  obtain ⟨t0, t1, t2, t3, t4, HH⟩ := HT.out w0 (Below.refl _ _)
  clear hw0
  go_upto_region 6 with (first
    | (go_at_call 75; clear tk; refine (c1 w0 hb0.out).mono ?_; rintro e w1 ⟨rfl, bb⟩; have b1 : Below w0.heap.size w0 w1 := bb; obtain ⟨s0, s1, s2, s3, s4, HHw1⟩ := HT.out w1 b1; clear HHw1 bb; replace b1 := hide b1; dsimp only)
    | (go_at_call 75; clear tk2; refine (c2 w1 (hb0.out.trans (b1.out.mono hb0.out.size))).mono ?_; rintro e w2 ⟨rfl, bb⟩; have b2 : Below w0.heap.size w0 w2 := b1.out.trans (bb.mono b1.out.size); obtain ⟨s0, s1, s2, s3, s4, HHw2⟩ := HT.out w2 b2; clear HHw2 bb; replace b2 := hide b2; dsimp only)
    | (go_at_call 75; refine (c3 w2 (hb0.out.trans (b2.out.mono hb0.out.size))).mono ?_; rintro e w3 ⟨rfl, bb⟩; have b3 : Below w0.heap.size w0 w3 := b2.out.trans (bb.mono b2.out.size); obtain ⟨s0, s1, s2, s3, s4, HHw3⟩ := HT.out w3 b3; clear HHw3 bb; replace b3 := hide b3; dsimp only))
  have HR := hide (HF.out w3 a pa b3.out HP.out.2.1 HI.out.2.1)
  clear HH
  go_wp2
  refine ret_row (w.heap.size + 1 + 1 + 1) [.pointer pa] rfl rfl Tryz.underlying27 rfl Tryz.info27 HR.out.1 rfl ?_
  have hu : unread o a b = a := by unfold unread; rw [if_neg e1, if_neg e2]
  exact ⟨by rw [hu, HP.out.2.1], by rw [hu]; exact HR.out.2.1, HR.out.2.2⟩
end Go.Proofs.YtkeldhohilmdcaaGreat.Pm
namespace Go.Proofs.YtkeldhohilmdcaaGreat.Pm
open Go.RowKit Go.Shelf
set_option linter.unusedSimpArgs false

section
variable {P : Program} {md : Region.Mode} {ops : Array Oper} {Q : Exit → Act → World → Prop} {S : World → Prop}
theorem AllReadyH.call {i : Nat} {oi : Oper} {d : Tmp} {OP : Op} {T : TypeId} {f : FuncId} {args : Array Value} {fuel : Nat} {listed : Array Bool} {a : Act} {w : World} {rs : List Nat} (hi : ops[i]? = some oi) (hd : oi.dst = some d) (ho : oi.op = OP) (ht : oi.type = T) (hw : Region.wanted oi (yielded ops a.tmps) = true)
    (hy : (execOp a.eval { dst := none, op := OP, type := T, pos := "", after := #[], guard := none }).run P w = .ok (.enter f args) w)
    (h : Calls P f args w fun e w' => ∃ v, e = .returned v ∧ S w' ∧ wpAnyH P md ops Q S fuel (listed.setIfInBounds i true) (a.put (some d) v) w')
    (hs : AllReadyH P md ops Q S fuel listed a w rs) : AllReadyH P md ops Q S fuel listed a w (i :: rs) := by
  refine AllReadyH.cons hi (fun K hK => ?_) hs
  rw [if_pos hw]
  unfold Oper.wp
  rw [exec_same a.eval oi ho ht, hy]
  refine Calls.mono h ?_
  rintro e w' ⟨v, rfl, hS, hx⟩
  show K (a.put oi.dst v) w'
  rw [hd]
  exact hK.out _ _ hS (fun _ => hx)
theorem AllReadyH.turn {i : Nat} {oi : Oper} {d : Tmp} {OP : Op} {T : TypeId} {v : Value} {fuel : Nat} {listed : Array Bool} {a : Act} {w w' : World} {rs : List Nat} (hi : ops[i]? = some oi) (hd : oi.dst = some d) (ho : oi.op = OP) (ht : oi.type = T) (hw : Region.wanted oi (yielded ops a.tmps) = true)
    (hy : (execOp a.eval { dst := none, op := OP, type := T, pos := "", after := #[], guard := none }).run P w = .ok (.value v) w') (hS : S w')
    (h : wpAnyH P md ops Q S fuel (listed.setIfInBounds i true) (a.put (some d) v) w')
    (hs : AllReadyH P md ops Q S fuel listed a w rs) : AllReadyH P md ops Q S fuel listed a w (i :: rs) := by
  refine AllReadyH.cons hi (fun K hK => ?_) hs
  rw [if_pos hw]
  unfold Oper.wp
  rw [exec_same a.eval oi ho ht, hy]
  show K (a.put oi.dst v) w'
  rw [hd]
  exact hK.out _ _ hS (fun _ => h)
end
theorem put_comm {a : Act} {i j : Nat} {v u : Value} (h : i ≠ j) : (a.put (some i) v).put (some j) u = (a.put (some j) u).put (some i) v := by
  simp only [Act.put]
  rw [Array.setIfInBounds_comm _ _ h]
/-- The region's operations. -/
def ops9 : Array Oper := #[{ dst := some 40, op := Go.Op.load 27 (Go.Operand.tmp 6), type := 27, pos := "walk.go:29", after := #[], guard := none }, { dst := some 41, op := Go.Op.move (Go.Operand.tmp 10), type := 9, pos := "walk.go:29", after := #[], guard := none }, { dst := some 42, op := Go.Op.call { callee := Go.Callee.value (Go.Operand.func 184), args := #[Go.Operand.tmp 40, Go.Operand.tmp 41], argTypes := #[27, 9] }, type := 206, pos := "walk.go:29", after := #[{ on := 0, ground := Go.Ground.data }, { on := 1, ground := Go.Ground.data }], guard := none }, { dst := some 43, op := Go.Op.load 27 (Go.Operand.tmp 7), type := 27, pos := "walk.go:29", after := #[], guard := none }, { dst := some 44, op := Go.Op.move (Go.Operand.tmp 10), type := 9, pos := "walk.go:29", after := #[], guard := none }, { dst := some 45, op := Go.Op.call { callee := Go.Callee.value (Go.Operand.func 184), args := #[Go.Operand.tmp 43, Go.Operand.tmp 44], argTypes := #[27, 9] }, type := 206, pos := "walk.go:29", after := #[{ on := 3, ground := Go.Ground.data }, { on := 4, ground := Go.Ground.data }, { on := 2, ground := Go.Ground.chain }], guard := none }, { dst := some 46, op := Go.Op.load 27 (Go.Operand.tmp 8), type := 27, pos := "walk.go:29", after := #[], guard := none }, { dst := some 47, op := Go.Op.move (Go.Operand.tmp 10), type := 9, pos := "walk.go:29", after := #[], guard := none }, { dst := some 48, op := Go.Op.call { callee := Go.Callee.value (Go.Operand.func 184), args := #[Go.Operand.tmp 46, Go.Operand.tmp 47], argTypes := #[27, 9] }, type := 206, pos := "walk.go:29", after := #[{ on := 6, ground := Go.Ground.data }, { on := 7, ground := Go.Ground.data }, { on := 5, ground := Go.Ground.chain }], guard := none }, { dst := some 11, op := Go.Op.alloc 206, type := 0, pos := "walk.go:29", after := #[], guard := none }, { dst := some 12, op := Go.Op.alloc 206, type := 0, pos := "walk.go:29", after := #[], guard := none }, { dst := some 13, op := Go.Op.alloc 206, type := 0, pos := "walk.go:29", after := #[], guard := none }, { dst := none, op := Go.Op.store 206 (Go.Operand.tmp 11) (Go.Operand.tmp 42), type := 0, pos := "walk.go:29", after := #[{ on := 9, ground := Go.Ground.data }, { on := 2, ground := Go.Ground.data }, { on := 8, ground := Go.Ground.chain }, { on := 0, ground := Go.Ground.phase }, { on := 1, ground := Go.Ground.phase }, { on := 2, ground := Go.Ground.phase }, { on := 3, ground := Go.Ground.textOnly Go.Departure.lateStores }, { on := 4, ground := Go.Ground.textOnly Go.Departure.lateStores }, { on := 5, ground := Go.Ground.textOnly Go.Departure.lateStoresUnsure }, { on := 6, ground := Go.Ground.textOnly Go.Departure.lateStores }, { on := 7, ground := Go.Ground.textOnly Go.Departure.lateStores }, { on := 8, ground := Go.Ground.textOnly Go.Departure.lateStoresUnsure }, { on := 9, ground := Go.Ground.phase }, { on := 10, ground := Go.Ground.phase }, { on := 11, ground := Go.Ground.phase }], guard := none }, { dst := none, op := Go.Op.store 206 (Go.Operand.tmp 12) (Go.Operand.tmp 45), type := 0, pos := "walk.go:29", after := #[{ on := 10, ground := Go.Ground.data }, { on := 5, ground := Go.Ground.data }, { on := 12, ground := Go.Ground.chain }, { on := 0, ground := Go.Ground.phase }, { on := 1, ground := Go.Ground.phase }, { on := 2, ground := Go.Ground.phase }, { on := 3, ground := Go.Ground.phase }, { on := 4, ground := Go.Ground.phase }, { on := 5, ground := Go.Ground.phase }, { on := 6, ground := Go.Ground.textOnly Go.Departure.lateStores }, { on := 7, ground := Go.Ground.textOnly Go.Departure.lateStores }, { on := 8, ground := Go.Ground.textOnly Go.Departure.lateStoresUnsure }, { on := 9, ground := Go.Ground.phase }, { on := 10, ground := Go.Ground.phase }, { on := 11, ground := Go.Ground.phase }, { on := 12, ground := Go.Ground.phase }], guard := none }, { dst := none, op := Go.Op.store 206 (Go.Operand.tmp 13) (Go.Operand.tmp 48), type := 0, pos := "walk.go:29", after := #[{ on := 11, ground := Go.Ground.data }, { on := 8, ground := Go.Ground.data }, { on := 13, ground := Go.Ground.chain }, { on := 0, ground := Go.Ground.phase }, { on := 1, ground := Go.Ground.phase }, { on := 2, ground := Go.Ground.phase }, { on := 3, ground := Go.Ground.phase }, { on := 4, ground := Go.Ground.phase }, { on := 5, ground := Go.Ground.phase }, { on := 6, ground := Go.Ground.phase }, { on := 7, ground := Go.Ground.phase }, { on := 8, ground := Go.Ground.phase }, { on := 9, ground := Go.Ground.phase }, { on := 10, ground := Go.Ground.phase }, { on := 11, ground := Go.Ground.phase }, { on := 12, ground := Go.Ground.phase }, { on := 13, ground := Go.Ground.phase }], guard := none }]
set_option maxHeartbeats 4000000 in
theorem reg9_any {Q : Exit → Act → World → Prop} {S : World → Prop} {a : Act} {w0 : World} {x2 x5 x8 k2 k5 k8 : Value} {C2 C5 C8 : Value → World → Prop}
    (e2 : a.eval (.tmp 40) = x2) (e2' : a.eval (.tmp 41) = k2) (e5 : a.eval (.tmp 43) = x5) (e5' : a.eval (.tmp 44) = k5) (e8 : a.eval (.tmp 46) = x8) (e8' : a.eval (.tmp 47) = k8)
    (hS : ∀ W, Below w0.heap.size w0 W → S W)
    (c2 : ∀ W, Below w0.heap.size w0 W → Calls Tryz.prog 184 #[x2, k2] W fun e w' => ∃ v, e = .returned v ∧ C2 v w' ∧ Below W.heap.size W w')
    (c5 : ∀ W, Below w0.heap.size w0 W → Calls Tryz.prog 184 #[x5, k5] W fun e w' => ∃ v, e = .returned v ∧ C5 v w' ∧ Below W.heap.size W w')
    (c8 : ∀ W, Below w0.heap.size w0 W → Calls Tryz.prog 184 #[x8, k8] W fun e w' => ∃ v, e = .returned v ∧ C8 v w' ∧ Below W.heap.size W w')
    (p2 : ∀ v W W', C2 v W → Below W.heap.size W W' → C2 v W') (p5 : ∀ v W W', C5 v W → Below W.heap.size W W' → C5 v W') (p8 : ∀ v W W', C8 v W → Below W.heap.size W W' → C8 v W')
    (fin : ∀ (v2 : Value) (v5 : Value) (v8 : Value) (B9 : Nat) (B10 : Nat) (B11 : Nat) (W : World), Below w0.heap.size w0 W → C2 v2 W → C5 v5 W → C8 v8 W → W.heap[B9]? = some (.cells #[.pointer none, .pointer none, .string ⟨#[]⟩, .bool false] 206) → W.heap[B10]? = some (.cells #[.pointer none, .pointer none, .string ⟨#[]⟩, .bool false] 206) → W.heap[B11]? = some (.cells #[.pointer none, .pointer none, .string ⟨#[]⟩, .bool false] 206) → w0.heap.size ≤ B9 → w0.heap.size ≤ B10 → w0.heap.size ≤ B11 → B9 ≠ B10 → B9 ≠ B11 → B10 ≠ B11 → wpAnyH Tryz.prog .any ops9 Q S 3 #[true, true, true, true, true, true, true, true, true, true, true, true, false, false, false] ((((((a.put (some 42) v2).put (some 45) v5).put (some 48) v8).put (some 11) (.pointer (some ⟨B9, 0, none⟩))).put (some 12) (.pointer (some ⟨B10, 0, none⟩))).put (some 13) (.pointer (some ⟨B11, 0, none⟩))) W) (W : World) (hW : Below w0.heap.size w0 W) :
    wpAnyH Tryz.prog .any ops9 Q S 9 #[true, true, false, true, true, false, true, true, false, false, false, false, false, false, false] a W := by
  have zr : ∀ (W W' : World) (B : Nat) (o : Obj), W.heap[B]? = some o → Below W.heap.size W W' → W'.heap[B]? = some o := fun W W' B o h hb => (hb.block _ (Array.getElem?_eq_some_iff.1 h).1).trans h
  have zl : ∀ (W : World) (B : Nat) (o : Obj), W.heap[B]? = some o → B < W.heap.size := fun W B o h => (Array.getElem?_eq_some_iff.1 h).1
  have za : ∀ W : World, Below W.heap.size W (W.alloc (.cells #[.pointer none, .pointer none, .string ⟨#[]⟩, .bool false] 206)) := fun W => (Below.refl _ W).alloc (Nat.le_refl _) _
  have h301_ : ∀ (v2 : Value) (v5 : Value) (v8 : Value) (B9 : Nat) (B10 : Nat) (W : World), Below w0.heap.size w0 W → C2 v2 W → C5 v5 W → C8 v8 W → W.heap[B9]? = some (.cells #[.pointer none, .pointer none, .string ⟨#[]⟩, .bool false] 206) → W.heap[B10]? = some (.cells #[.pointer none, .pointer none, .string ⟨#[]⟩, .bool false] 206) → w0.heap.size ≤ B9 → w0.heap.size ≤ B10 → B9 ≠ B10 → wpAnyH Tryz.prog .any ops9 Q S 4 #[true, true, true, true, true, true, true, true, true, true, true, false, false, false, false] (((((a.put (some 42) v2).put (some 45) v5).put (some 48) v8).put (some 11) (.pointer (some ⟨B9, 0, none⟩))).put (some 12) (.pointer (some ⟨B10, 0, none⟩))) W := fun v2 v5 v8 B9 B10 W hb g2 g5 g8 r9 r10 l9 l10 n9_10 => by
    refine wpAnyH_ready (rs := [11]) (by kernel_rfl) (by simp) ?_
    refine AllReadyH.turn (d := 13) (OP := .alloc 206) (T := 0) (v := .pointer (some ⟨W.heap.size, 0, none⟩)) (w' := W.alloc (.cells #[.pointer none, .pointer none, .string ⟨#[]⟩, .bool false] 206)) rfl rfl rfl rfl (by rfl) (by go_simp <;> rfl) (hS _ (hb.trans ((za W).mono hb.size))) ?_ ?_
    · exact fin v2 v5 v8 B9 B10 W.heap.size _ (hb.trans ((za W).mono hb.size)) (p2 _ _ _ g2 (za W)) (p5 _ _ _ g5 (za W)) (p8 _ _ _ g8 (za W)) (zr _ _ _ _ r9 (za W)) (zr _ _ _ _ r10 (za W)) (heap_alloc_new W _) l9 l10 hb.size n9_10 (fun e => by have := zl _ _ _ r9; omega) (fun e => by have := zl _ _ _ r10; omega)
    exact AllReadyH.nil
  have h302_ : ∀ (v2 : Value) (v5 : Value) (v8 : Value) (B9 : Nat) (B11 : Nat) (W : World), Below w0.heap.size w0 W → C2 v2 W → C5 v5 W → C8 v8 W → W.heap[B9]? = some (.cells #[.pointer none, .pointer none, .string ⟨#[]⟩, .bool false] 206) → W.heap[B11]? = some (.cells #[.pointer none, .pointer none, .string ⟨#[]⟩, .bool false] 206) → w0.heap.size ≤ B9 → w0.heap.size ≤ B11 → B9 ≠ B11 → wpAnyH Tryz.prog .any ops9 Q S 4 #[true, true, true, true, true, true, true, true, true, true, false, true, false, false, false] (((((a.put (some 42) v2).put (some 45) v5).put (some 48) v8).put (some 11) (.pointer (some ⟨B9, 0, none⟩))).put (some 13) (.pointer (some ⟨B11, 0, none⟩))) W := fun v2 v5 v8 B9 B11 W hb g2 g5 g8 r9 r11 l9 l11 n9_11 => by
    refine wpAnyH_ready (rs := [10]) (by kernel_rfl) (by simp) ?_
    refine AllReadyH.turn (d := 12) (OP := .alloc 206) (T := 0) (v := .pointer (some ⟨W.heap.size, 0, none⟩)) (w' := W.alloc (.cells #[.pointer none, .pointer none, .string ⟨#[]⟩, .bool false] 206)) rfl rfl rfl rfl (by rfl) (by go_simp <;> rfl) (hS _ (hb.trans ((za W).mono hb.size))) ?_ ?_
    · rw [put_comm (show 13 ≠ 12 by decide)]
      exact fin v2 v5 v8 B9 W.heap.size B11 _ (hb.trans ((za W).mono hb.size)) (p2 _ _ _ g2 (za W)) (p5 _ _ _ g5 (za W)) (p8 _ _ _ g8 (za W)) (zr _ _ _ _ r9 (za W)) (heap_alloc_new W _) (zr _ _ _ _ r11 (za W)) l9 hb.size l11 (fun e => by have := zl _ _ _ r9; omega) n9_11 (fun e => by have := zl _ _ _ r11; omega)
    exact AllReadyH.nil
  have h312_ : ∀ (v2 : Value) (v5 : Value) (v8 : Value) (B10 : Nat) (B11 : Nat) (W : World), Below w0.heap.size w0 W → C2 v2 W → C5 v5 W → C8 v8 W → W.heap[B10]? = some (.cells #[.pointer none, .pointer none, .string ⟨#[]⟩, .bool false] 206) → W.heap[B11]? = some (.cells #[.pointer none, .pointer none, .string ⟨#[]⟩, .bool false] 206) → w0.heap.size ≤ B10 → w0.heap.size ≤ B11 → B10 ≠ B11 → wpAnyH Tryz.prog .any ops9 Q S 4 #[true, true, true, true, true, true, true, true, true, false, true, true, false, false, false] (((((a.put (some 42) v2).put (some 45) v5).put (some 48) v8).put (some 12) (.pointer (some ⟨B10, 0, none⟩))).put (some 13) (.pointer (some ⟨B11, 0, none⟩))) W := fun v2 v5 v8 B10 B11 W hb g2 g5 g8 r10 r11 l10 l11 n10_11 => by
    refine wpAnyH_ready (rs := [9]) (by kernel_rfl) (by simp) ?_
    refine AllReadyH.turn (d := 11) (OP := .alloc 206) (T := 0) (v := .pointer (some ⟨W.heap.size, 0, none⟩)) (w' := W.alloc (.cells #[.pointer none, .pointer none, .string ⟨#[]⟩, .bool false] 206)) rfl rfl rfl rfl (by rfl) (by go_simp <;> rfl) (hS _ (hb.trans ((za W).mono hb.size))) ?_ ?_
    · rw [put_comm (show 13 ≠ 11 by decide), put_comm (show 12 ≠ 11 by decide)]
      exact fin v2 v5 v8 W.heap.size B10 B11 _ (hb.trans ((za W).mono hb.size)) (p2 _ _ _ g2 (za W)) (p5 _ _ _ g5 (za W)) (p8 _ _ _ g8 (za W)) (heap_alloc_new W _) (zr _ _ _ _ r10 (za W)) (zr _ _ _ _ r11 (za W)) hb.size l10 l11 (fun e => by have := zl _ _ _ r10; omega) (fun e => by have := zl _ _ _ r11; omega) n10_11
    exact AllReadyH.nil
  have h2012_ : ∀ (v2 : Value) (v5 : Value) (B9 : Nat) (B10 : Nat) (B11 : Nat) (W : World), Below w0.heap.size w0 W → C2 v2 W → C5 v5 W → W.heap[B9]? = some (.cells #[.pointer none, .pointer none, .string ⟨#[]⟩, .bool false] 206) → W.heap[B10]? = some (.cells #[.pointer none, .pointer none, .string ⟨#[]⟩, .bool false] 206) → W.heap[B11]? = some (.cells #[.pointer none, .pointer none, .string ⟨#[]⟩, .bool false] 206) → w0.heap.size ≤ B9 → w0.heap.size ≤ B10 → w0.heap.size ≤ B11 → B9 ≠ B10 → B9 ≠ B11 → B10 ≠ B11 → wpAnyH Tryz.prog .any ops9 Q S 4 #[true, true, true, true, true, true, true, true, false, true, true, true, false, false, false] (((((a.put (some 42) v2).put (some 45) v5).put (some 11) (.pointer (some ⟨B9, 0, none⟩))).put (some 12) (.pointer (some ⟨B10, 0, none⟩))).put (some 13) (.pointer (some ⟨B11, 0, none⟩))) W := fun v2 v5 B9 B10 B11 W hb g2 g5 r9 r10 r11 l9 l10 l11 n9_10 n9_11 n10_11 => by
    refine wpAnyH_ready (rs := [8]) (by kernel_rfl) (by simp) ?_
    refine AllReadyH.call (d := 48) (f := 184) (args := #[x8, k8]) (OP := .call { callee := .value (.func 184), args := #[.tmp 46, .tmp 47], argTypes := #[27, 9] }) (T := 206) rfl rfl rfl rfl (by rfl) (by have h1 := e8; have h2 := e8'; simp [Act.eval, go_sem] at h1 h2; simp [execOp, resolve, invoke, go_sem, h1, h2]) ?_ ?_
    · refine (c8 W hb).mono ?_
      rintro e w' ⟨v8, rfl, g8, b'⟩
      have hb' := hb.trans (b'.mono hb.size)
      refine ⟨_, rfl, hS _ hb', ?_⟩
      rw [put_comm (show 13 ≠ 48 by decide), put_comm (show 12 ≠ 48 by decide), put_comm (show 11 ≠ 48 by decide)]
      exact fin v2 v5 v8 B9 B10 B11 w' hb' (p2 _ _ _ g2 b') (p5 _ _ _ g5 b') g8 (zr _ _ _ _ r9 b') (zr _ _ _ _ r10 b') (zr _ _ _ _ r11 b') l9 l10 l11 n9_10 n9_11 n10_11
    exact AllReadyH.nil
  have h30_ : ∀ (v2 : Value) (v5 : Value) (v8 : Value) (B9 : Nat) (W : World), Below w0.heap.size w0 W → C2 v2 W → C5 v5 W → C8 v8 W → W.heap[B9]? = some (.cells #[.pointer none, .pointer none, .string ⟨#[]⟩, .bool false] 206) → w0.heap.size ≤ B9 → wpAnyH Tryz.prog .any ops9 Q S 5 #[true, true, true, true, true, true, true, true, true, true, false, false, false, false, false] ((((a.put (some 42) v2).put (some 45) v5).put (some 48) v8).put (some 11) (.pointer (some ⟨B9, 0, none⟩))) W := fun v2 v5 v8 B9 W hb g2 g5 g8 r9 l9 => by
    refine wpAnyH_ready (rs := [10, 11]) (by kernel_rfl) (by simp) ?_
    refine AllReadyH.turn (d := 12) (OP := .alloc 206) (T := 0) (v := .pointer (some ⟨W.heap.size, 0, none⟩)) (w' := W.alloc (.cells #[.pointer none, .pointer none, .string ⟨#[]⟩, .bool false] 206)) rfl rfl rfl rfl (by rfl) (by go_simp <;> rfl) (hS _ (hb.trans ((za W).mono hb.size))) ?_ ?_
    · exact h301_ v2 v5 v8 B9 W.heap.size _ (hb.trans ((za W).mono hb.size)) (p2 _ _ _ g2 (za W)) (p5 _ _ _ g5 (za W)) (p8 _ _ _ g8 (za W)) (zr _ _ _ _ r9 (za W)) (heap_alloc_new W _) l9 hb.size (fun e => by have := zl _ _ _ r9; omega)
    refine AllReadyH.turn (d := 13) (OP := .alloc 206) (T := 0) (v := .pointer (some ⟨W.heap.size, 0, none⟩)) (w' := W.alloc (.cells #[.pointer none, .pointer none, .string ⟨#[]⟩, .bool false] 206)) rfl rfl rfl rfl (by rfl) (by go_simp <;> rfl) (hS _ (hb.trans ((za W).mono hb.size))) ?_ ?_
    · exact h302_ v2 v5 v8 B9 W.heap.size _ (hb.trans ((za W).mono hb.size)) (p2 _ _ _ g2 (za W)) (p5 _ _ _ g5 (za W)) (p8 _ _ _ g8 (za W)) (zr _ _ _ _ r9 (za W)) (heap_alloc_new W _) l9 hb.size (fun e => by have := zl _ _ _ r9; omega)
    exact AllReadyH.nil
  have h31_ : ∀ (v2 : Value) (v5 : Value) (v8 : Value) (B10 : Nat) (W : World), Below w0.heap.size w0 W → C2 v2 W → C5 v5 W → C8 v8 W → W.heap[B10]? = some (.cells #[.pointer none, .pointer none, .string ⟨#[]⟩, .bool false] 206) → w0.heap.size ≤ B10 → wpAnyH Tryz.prog .any ops9 Q S 5 #[true, true, true, true, true, true, true, true, true, false, true, false, false, false, false] ((((a.put (some 42) v2).put (some 45) v5).put (some 48) v8).put (some 12) (.pointer (some ⟨B10, 0, none⟩))) W := fun v2 v5 v8 B10 W hb g2 g5 g8 r10 l10 => by
    refine wpAnyH_ready (rs := [9, 11]) (by kernel_rfl) (by simp) ?_
    refine AllReadyH.turn (d := 11) (OP := .alloc 206) (T := 0) (v := .pointer (some ⟨W.heap.size, 0, none⟩)) (w' := W.alloc (.cells #[.pointer none, .pointer none, .string ⟨#[]⟩, .bool false] 206)) rfl rfl rfl rfl (by rfl) (by go_simp <;> rfl) (hS _ (hb.trans ((za W).mono hb.size))) ?_ ?_
    · rw [put_comm (show 12 ≠ 11 by decide)]
      exact h301_ v2 v5 v8 W.heap.size B10 _ (hb.trans ((za W).mono hb.size)) (p2 _ _ _ g2 (za W)) (p5 _ _ _ g5 (za W)) (p8 _ _ _ g8 (za W)) (heap_alloc_new W _) (zr _ _ _ _ r10 (za W)) hb.size l10 (fun e => by have := zl _ _ _ r10; omega)
    refine AllReadyH.turn (d := 13) (OP := .alloc 206) (T := 0) (v := .pointer (some ⟨W.heap.size, 0, none⟩)) (w' := W.alloc (.cells #[.pointer none, .pointer none, .string ⟨#[]⟩, .bool false] 206)) rfl rfl rfl rfl (by rfl) (by go_simp <;> rfl) (hS _ (hb.trans ((za W).mono hb.size))) ?_ ?_
    · exact h312_ v2 v5 v8 B10 W.heap.size _ (hb.trans ((za W).mono hb.size)) (p2 _ _ _ g2 (za W)) (p5 _ _ _ g5 (za W)) (p8 _ _ _ g8 (za W)) (zr _ _ _ _ r10 (za W)) (heap_alloc_new W _) l10 hb.size (fun e => by have := zl _ _ _ r10; omega)
    exact AllReadyH.nil
  have h32_ : ∀ (v2 : Value) (v5 : Value) (v8 : Value) (B11 : Nat) (W : World), Below w0.heap.size w0 W → C2 v2 W → C5 v5 W → C8 v8 W → W.heap[B11]? = some (.cells #[.pointer none, .pointer none, .string ⟨#[]⟩, .bool false] 206) → w0.heap.size ≤ B11 → wpAnyH Tryz.prog .any ops9 Q S 5 #[true, true, true, true, true, true, true, true, true, false, false, true, false, false, false] ((((a.put (some 42) v2).put (some 45) v5).put (some 48) v8).put (some 13) (.pointer (some ⟨B11, 0, none⟩))) W := fun v2 v5 v8 B11 W hb g2 g5 g8 r11 l11 => by
    refine wpAnyH_ready (rs := [9, 10]) (by kernel_rfl) (by simp) ?_
    refine AllReadyH.turn (d := 11) (OP := .alloc 206) (T := 0) (v := .pointer (some ⟨W.heap.size, 0, none⟩)) (w' := W.alloc (.cells #[.pointer none, .pointer none, .string ⟨#[]⟩, .bool false] 206)) rfl rfl rfl rfl (by rfl) (by go_simp <;> rfl) (hS _ (hb.trans ((za W).mono hb.size))) ?_ ?_
    · rw [put_comm (show 13 ≠ 11 by decide)]
      exact h302_ v2 v5 v8 W.heap.size B11 _ (hb.trans ((za W).mono hb.size)) (p2 _ _ _ g2 (za W)) (p5 _ _ _ g5 (za W)) (p8 _ _ _ g8 (za W)) (heap_alloc_new W _) (zr _ _ _ _ r11 (za W)) hb.size l11 (fun e => by have := zl _ _ _ r11; omega)
    refine AllReadyH.turn (d := 12) (OP := .alloc 206) (T := 0) (v := .pointer (some ⟨W.heap.size, 0, none⟩)) (w' := W.alloc (.cells #[.pointer none, .pointer none, .string ⟨#[]⟩, .bool false] 206)) rfl rfl rfl rfl (by rfl) (by go_simp <;> rfl) (hS _ (hb.trans ((za W).mono hb.size))) ?_ ?_
    · rw [put_comm (show 13 ≠ 12 by decide)]
      exact h312_ v2 v5 v8 W.heap.size B11 _ (hb.trans ((za W).mono hb.size)) (p2 _ _ _ g2 (za W)) (p5 _ _ _ g5 (za W)) (p8 _ _ _ g8 (za W)) (heap_alloc_new W _) (zr _ _ _ _ r11 (za W)) hb.size l11 (fun e => by have := zl _ _ _ r11; omega)
    exact AllReadyH.nil
  have h201_ : ∀ (v2 : Value) (v5 : Value) (B9 : Nat) (B10 : Nat) (W : World), Below w0.heap.size w0 W → C2 v2 W → C5 v5 W → W.heap[B9]? = some (.cells #[.pointer none, .pointer none, .string ⟨#[]⟩, .bool false] 206) → W.heap[B10]? = some (.cells #[.pointer none, .pointer none, .string ⟨#[]⟩, .bool false] 206) → w0.heap.size ≤ B9 → w0.heap.size ≤ B10 → B9 ≠ B10 → wpAnyH Tryz.prog .any ops9 Q S 5 #[true, true, true, true, true, true, true, true, false, true, true, false, false, false, false] ((((a.put (some 42) v2).put (some 45) v5).put (some 11) (.pointer (some ⟨B9, 0, none⟩))).put (some 12) (.pointer (some ⟨B10, 0, none⟩))) W := fun v2 v5 B9 B10 W hb g2 g5 r9 r10 l9 l10 n9_10 => by
    refine wpAnyH_ready (rs := [8, 11]) (by kernel_rfl) (by simp) ?_
    refine AllReadyH.call (d := 48) (f := 184) (args := #[x8, k8]) (OP := .call { callee := .value (.func 184), args := #[.tmp 46, .tmp 47], argTypes := #[27, 9] }) (T := 206) rfl rfl rfl rfl (by rfl) (by have h1 := e8; have h2 := e8'; simp [Act.eval, go_sem] at h1 h2; simp [execOp, resolve, invoke, go_sem, h1, h2]) ?_ ?_
    · refine (c8 W hb).mono ?_
      rintro e w' ⟨v8, rfl, g8, b'⟩
      have hb' := hb.trans (b'.mono hb.size)
      refine ⟨_, rfl, hS _ hb', ?_⟩
      rw [put_comm (show 12 ≠ 48 by decide), put_comm (show 11 ≠ 48 by decide)]
      exact h301_ v2 v5 v8 B9 B10 w' hb' (p2 _ _ _ g2 b') (p5 _ _ _ g5 b') g8 (zr _ _ _ _ r9 b') (zr _ _ _ _ r10 b') l9 l10 n9_10
    refine AllReadyH.turn (d := 13) (OP := .alloc 206) (T := 0) (v := .pointer (some ⟨W.heap.size, 0, none⟩)) (w' := W.alloc (.cells #[.pointer none, .pointer none, .string ⟨#[]⟩, .bool false] 206)) rfl rfl rfl rfl (by rfl) (by go_simp <;> rfl) (hS _ (hb.trans ((za W).mono hb.size))) ?_ ?_
    · exact h2012_ v2 v5 B9 B10 W.heap.size _ (hb.trans ((za W).mono hb.size)) (p2 _ _ _ g2 (za W)) (p5 _ _ _ g5 (za W)) (zr _ _ _ _ r9 (za W)) (zr _ _ _ _ r10 (za W)) (heap_alloc_new W _) l9 l10 hb.size n9_10 (fun e => by have := zl _ _ _ r9; omega) (fun e => by have := zl _ _ _ r10; omega)
    exact AllReadyH.nil
  have h202_ : ∀ (v2 : Value) (v5 : Value) (B9 : Nat) (B11 : Nat) (W : World), Below w0.heap.size w0 W → C2 v2 W → C5 v5 W → W.heap[B9]? = some (.cells #[.pointer none, .pointer none, .string ⟨#[]⟩, .bool false] 206) → W.heap[B11]? = some (.cells #[.pointer none, .pointer none, .string ⟨#[]⟩, .bool false] 206) → w0.heap.size ≤ B9 → w0.heap.size ≤ B11 → B9 ≠ B11 → wpAnyH Tryz.prog .any ops9 Q S 5 #[true, true, true, true, true, true, true, true, false, true, false, true, false, false, false] ((((a.put (some 42) v2).put (some 45) v5).put (some 11) (.pointer (some ⟨B9, 0, none⟩))).put (some 13) (.pointer (some ⟨B11, 0, none⟩))) W := fun v2 v5 B9 B11 W hb g2 g5 r9 r11 l9 l11 n9_11 => by
    refine wpAnyH_ready (rs := [8, 10]) (by kernel_rfl) (by simp) ?_
    refine AllReadyH.call (d := 48) (f := 184) (args := #[x8, k8]) (OP := .call { callee := .value (.func 184), args := #[.tmp 46, .tmp 47], argTypes := #[27, 9] }) (T := 206) rfl rfl rfl rfl (by rfl) (by have h1 := e8; have h2 := e8'; simp [Act.eval, go_sem] at h1 h2; simp [execOp, resolve, invoke, go_sem, h1, h2]) ?_ ?_
    · refine (c8 W hb).mono ?_
      rintro e w' ⟨v8, rfl, g8, b'⟩
      have hb' := hb.trans (b'.mono hb.size)
      refine ⟨_, rfl, hS _ hb', ?_⟩
      rw [put_comm (show 13 ≠ 48 by decide), put_comm (show 11 ≠ 48 by decide)]
      exact h302_ v2 v5 v8 B9 B11 w' hb' (p2 _ _ _ g2 b') (p5 _ _ _ g5 b') g8 (zr _ _ _ _ r9 b') (zr _ _ _ _ r11 b') l9 l11 n9_11
    refine AllReadyH.turn (d := 12) (OP := .alloc 206) (T := 0) (v := .pointer (some ⟨W.heap.size, 0, none⟩)) (w' := W.alloc (.cells #[.pointer none, .pointer none, .string ⟨#[]⟩, .bool false] 206)) rfl rfl rfl rfl (by rfl) (by go_simp <;> rfl) (hS _ (hb.trans ((za W).mono hb.size))) ?_ ?_
    · rw [put_comm (show 13 ≠ 12 by decide)]
      exact h2012_ v2 v5 B9 W.heap.size B11 _ (hb.trans ((za W).mono hb.size)) (p2 _ _ _ g2 (za W)) (p5 _ _ _ g5 (za W)) (zr _ _ _ _ r9 (za W)) (heap_alloc_new W _) (zr _ _ _ _ r11 (za W)) l9 hb.size l11 (fun e => by have := zl _ _ _ r9; omega) n9_11 (fun e => by have := zl _ _ _ r11; omega)
    exact AllReadyH.nil
  have h212_ : ∀ (v2 : Value) (v5 : Value) (B10 : Nat) (B11 : Nat) (W : World), Below w0.heap.size w0 W → C2 v2 W → C5 v5 W → W.heap[B10]? = some (.cells #[.pointer none, .pointer none, .string ⟨#[]⟩, .bool false] 206) → W.heap[B11]? = some (.cells #[.pointer none, .pointer none, .string ⟨#[]⟩, .bool false] 206) → w0.heap.size ≤ B10 → w0.heap.size ≤ B11 → B10 ≠ B11 → wpAnyH Tryz.prog .any ops9 Q S 5 #[true, true, true, true, true, true, true, true, false, false, true, true, false, false, false] ((((a.put (some 42) v2).put (some 45) v5).put (some 12) (.pointer (some ⟨B10, 0, none⟩))).put (some 13) (.pointer (some ⟨B11, 0, none⟩))) W := fun v2 v5 B10 B11 W hb g2 g5 r10 r11 l10 l11 n10_11 => by
    refine wpAnyH_ready (rs := [8, 9]) (by kernel_rfl) (by simp) ?_
    refine AllReadyH.call (d := 48) (f := 184) (args := #[x8, k8]) (OP := .call { callee := .value (.func 184), args := #[.tmp 46, .tmp 47], argTypes := #[27, 9] }) (T := 206) rfl rfl rfl rfl (by rfl) (by have h1 := e8; have h2 := e8'; simp [Act.eval, go_sem] at h1 h2; simp [execOp, resolve, invoke, go_sem, h1, h2]) ?_ ?_
    · refine (c8 W hb).mono ?_
      rintro e w' ⟨v8, rfl, g8, b'⟩
      have hb' := hb.trans (b'.mono hb.size)
      refine ⟨_, rfl, hS _ hb', ?_⟩
      rw [put_comm (show 13 ≠ 48 by decide), put_comm (show 12 ≠ 48 by decide)]
      exact h312_ v2 v5 v8 B10 B11 w' hb' (p2 _ _ _ g2 b') (p5 _ _ _ g5 b') g8 (zr _ _ _ _ r10 b') (zr _ _ _ _ r11 b') l10 l11 n10_11
    refine AllReadyH.turn (d := 11) (OP := .alloc 206) (T := 0) (v := .pointer (some ⟨W.heap.size, 0, none⟩)) (w' := W.alloc (.cells #[.pointer none, .pointer none, .string ⟨#[]⟩, .bool false] 206)) rfl rfl rfl rfl (by rfl) (by go_simp <;> rfl) (hS _ (hb.trans ((za W).mono hb.size))) ?_ ?_
    · rw [put_comm (show 13 ≠ 11 by decide), put_comm (show 12 ≠ 11 by decide)]
      exact h2012_ v2 v5 W.heap.size B10 B11 _ (hb.trans ((za W).mono hb.size)) (p2 _ _ _ g2 (za W)) (p5 _ _ _ g5 (za W)) (heap_alloc_new W _) (zr _ _ _ _ r10 (za W)) (zr _ _ _ _ r11 (za W)) hb.size l10 l11 (fun e => by have := zl _ _ _ r10; omega) (fun e => by have := zl _ _ _ r11; omega) n10_11
    exact AllReadyH.nil
  have h1012_ : ∀ (v2 : Value) (B9 : Nat) (B10 : Nat) (B11 : Nat) (W : World), Below w0.heap.size w0 W → C2 v2 W → W.heap[B9]? = some (.cells #[.pointer none, .pointer none, .string ⟨#[]⟩, .bool false] 206) → W.heap[B10]? = some (.cells #[.pointer none, .pointer none, .string ⟨#[]⟩, .bool false] 206) → W.heap[B11]? = some (.cells #[.pointer none, .pointer none, .string ⟨#[]⟩, .bool false] 206) → w0.heap.size ≤ B9 → w0.heap.size ≤ B10 → w0.heap.size ≤ B11 → B9 ≠ B10 → B9 ≠ B11 → B10 ≠ B11 → wpAnyH Tryz.prog .any ops9 Q S 5 #[true, true, true, true, true, false, true, true, false, true, true, true, false, false, false] ((((a.put (some 42) v2).put (some 11) (.pointer (some ⟨B9, 0, none⟩))).put (some 12) (.pointer (some ⟨B10, 0, none⟩))).put (some 13) (.pointer (some ⟨B11, 0, none⟩))) W := fun v2 B9 B10 B11 W hb g2 r9 r10 r11 l9 l10 l11 n9_10 n9_11 n10_11 => by
    refine wpAnyH_ready (rs := [5]) (by kernel_rfl) (by simp) ?_
    refine AllReadyH.call (d := 45) (f := 184) (args := #[x5, k5]) (OP := .call { callee := .value (.func 184), args := #[.tmp 43, .tmp 44], argTypes := #[27, 9] }) (T := 206) rfl rfl rfl rfl (by rfl) (by have h1 := e5; have h2 := e5'; simp [Act.eval, go_sem] at h1 h2; simp [execOp, resolve, invoke, go_sem, h1, h2]) ?_ ?_
    · refine (c5 W hb).mono ?_
      rintro e w' ⟨v5, rfl, g5, b'⟩
      have hb' := hb.trans (b'.mono hb.size)
      refine ⟨_, rfl, hS _ hb', ?_⟩
      rw [put_comm (show 13 ≠ 45 by decide), put_comm (show 12 ≠ 45 by decide), put_comm (show 11 ≠ 45 by decide)]
      exact h2012_ v2 v5 B9 B10 B11 w' hb' (p2 _ _ _ g2 b') g5 (zr _ _ _ _ r9 b') (zr _ _ _ _ r10 b') (zr _ _ _ _ r11 b') l9 l10 l11 n9_10 n9_11 n10_11
    exact AllReadyH.nil
  have h3_ : ∀ (v2 : Value) (v5 : Value) (v8 : Value) (W : World), Below w0.heap.size w0 W → C2 v2 W → C5 v5 W → C8 v8 W → wpAnyH Tryz.prog .any ops9 Q S 6 #[true, true, true, true, true, true, true, true, true, false, false, false, false, false, false] (((a.put (some 42) v2).put (some 45) v5).put (some 48) v8) W := fun v2 v5 v8 W hb g2 g5 g8 => by
    refine wpAnyH_ready (rs := [9, 10, 11]) (by kernel_rfl) (by simp) ?_
    refine AllReadyH.turn (d := 11) (OP := .alloc 206) (T := 0) (v := .pointer (some ⟨W.heap.size, 0, none⟩)) (w' := W.alloc (.cells #[.pointer none, .pointer none, .string ⟨#[]⟩, .bool false] 206)) rfl rfl rfl rfl (by rfl) (by go_simp <;> rfl) (hS _ (hb.trans ((za W).mono hb.size))) ?_ ?_
    · exact h30_ v2 v5 v8 W.heap.size _ (hb.trans ((za W).mono hb.size)) (p2 _ _ _ g2 (za W)) (p5 _ _ _ g5 (za W)) (p8 _ _ _ g8 (za W)) (heap_alloc_new W _) hb.size
    refine AllReadyH.turn (d := 12) (OP := .alloc 206) (T := 0) (v := .pointer (some ⟨W.heap.size, 0, none⟩)) (w' := W.alloc (.cells #[.pointer none, .pointer none, .string ⟨#[]⟩, .bool false] 206)) rfl rfl rfl rfl (by rfl) (by go_simp <;> rfl) (hS _ (hb.trans ((za W).mono hb.size))) ?_ ?_
    · exact h31_ v2 v5 v8 W.heap.size _ (hb.trans ((za W).mono hb.size)) (p2 _ _ _ g2 (za W)) (p5 _ _ _ g5 (za W)) (p8 _ _ _ g8 (za W)) (heap_alloc_new W _) hb.size
    refine AllReadyH.turn (d := 13) (OP := .alloc 206) (T := 0) (v := .pointer (some ⟨W.heap.size, 0, none⟩)) (w' := W.alloc (.cells #[.pointer none, .pointer none, .string ⟨#[]⟩, .bool false] 206)) rfl rfl rfl rfl (by rfl) (by go_simp <;> rfl) (hS _ (hb.trans ((za W).mono hb.size))) ?_ ?_
    · exact h32_ v2 v5 v8 W.heap.size _ (hb.trans ((za W).mono hb.size)) (p2 _ _ _ g2 (za W)) (p5 _ _ _ g5 (za W)) (p8 _ _ _ g8 (za W)) (heap_alloc_new W _) hb.size
    exact AllReadyH.nil
  have h20_ : ∀ (v2 : Value) (v5 : Value) (B9 : Nat) (W : World), Below w0.heap.size w0 W → C2 v2 W → C5 v5 W → W.heap[B9]? = some (.cells #[.pointer none, .pointer none, .string ⟨#[]⟩, .bool false] 206) → w0.heap.size ≤ B9 → wpAnyH Tryz.prog .any ops9 Q S 6 #[true, true, true, true, true, true, true, true, false, true, false, false, false, false, false] (((a.put (some 42) v2).put (some 45) v5).put (some 11) (.pointer (some ⟨B9, 0, none⟩))) W := fun v2 v5 B9 W hb g2 g5 r9 l9 => by
    refine wpAnyH_ready (rs := [8, 10, 11]) (by kernel_rfl) (by simp) ?_
    refine AllReadyH.call (d := 48) (f := 184) (args := #[x8, k8]) (OP := .call { callee := .value (.func 184), args := #[.tmp 46, .tmp 47], argTypes := #[27, 9] }) (T := 206) rfl rfl rfl rfl (by rfl) (by have h1 := e8; have h2 := e8'; simp [Act.eval, go_sem] at h1 h2; simp [execOp, resolve, invoke, go_sem, h1, h2]) ?_ ?_
    · refine (c8 W hb).mono ?_
      rintro e w' ⟨v8, rfl, g8, b'⟩
      have hb' := hb.trans (b'.mono hb.size)
      refine ⟨_, rfl, hS _ hb', ?_⟩
      rw [put_comm (show 11 ≠ 48 by decide)]
      exact h30_ v2 v5 v8 B9 w' hb' (p2 _ _ _ g2 b') (p5 _ _ _ g5 b') g8 (zr _ _ _ _ r9 b') l9
    refine AllReadyH.turn (d := 12) (OP := .alloc 206) (T := 0) (v := .pointer (some ⟨W.heap.size, 0, none⟩)) (w' := W.alloc (.cells #[.pointer none, .pointer none, .string ⟨#[]⟩, .bool false] 206)) rfl rfl rfl rfl (by rfl) (by go_simp <;> rfl) (hS _ (hb.trans ((za W).mono hb.size))) ?_ ?_
    · exact h201_ v2 v5 B9 W.heap.size _ (hb.trans ((za W).mono hb.size)) (p2 _ _ _ g2 (za W)) (p5 _ _ _ g5 (za W)) (zr _ _ _ _ r9 (za W)) (heap_alloc_new W _) l9 hb.size (fun e => by have := zl _ _ _ r9; omega)
    refine AllReadyH.turn (d := 13) (OP := .alloc 206) (T := 0) (v := .pointer (some ⟨W.heap.size, 0, none⟩)) (w' := W.alloc (.cells #[.pointer none, .pointer none, .string ⟨#[]⟩, .bool false] 206)) rfl rfl rfl rfl (by rfl) (by go_simp <;> rfl) (hS _ (hb.trans ((za W).mono hb.size))) ?_ ?_
    · exact h202_ v2 v5 B9 W.heap.size _ (hb.trans ((za W).mono hb.size)) (p2 _ _ _ g2 (za W)) (p5 _ _ _ g5 (za W)) (zr _ _ _ _ r9 (za W)) (heap_alloc_new W _) l9 hb.size (fun e => by have := zl _ _ _ r9; omega)
    exact AllReadyH.nil
  have h21_ : ∀ (v2 : Value) (v5 : Value) (B10 : Nat) (W : World), Below w0.heap.size w0 W → C2 v2 W → C5 v5 W → W.heap[B10]? = some (.cells #[.pointer none, .pointer none, .string ⟨#[]⟩, .bool false] 206) → w0.heap.size ≤ B10 → wpAnyH Tryz.prog .any ops9 Q S 6 #[true, true, true, true, true, true, true, true, false, false, true, false, false, false, false] (((a.put (some 42) v2).put (some 45) v5).put (some 12) (.pointer (some ⟨B10, 0, none⟩))) W := fun v2 v5 B10 W hb g2 g5 r10 l10 => by
    refine wpAnyH_ready (rs := [8, 9, 11]) (by kernel_rfl) (by simp) ?_
    refine AllReadyH.call (d := 48) (f := 184) (args := #[x8, k8]) (OP := .call { callee := .value (.func 184), args := #[.tmp 46, .tmp 47], argTypes := #[27, 9] }) (T := 206) rfl rfl rfl rfl (by rfl) (by have h1 := e8; have h2 := e8'; simp [Act.eval, go_sem] at h1 h2; simp [execOp, resolve, invoke, go_sem, h1, h2]) ?_ ?_
    · refine (c8 W hb).mono ?_
      rintro e w' ⟨v8, rfl, g8, b'⟩
      have hb' := hb.trans (b'.mono hb.size)
      refine ⟨_, rfl, hS _ hb', ?_⟩
      rw [put_comm (show 12 ≠ 48 by decide)]
      exact h31_ v2 v5 v8 B10 w' hb' (p2 _ _ _ g2 b') (p5 _ _ _ g5 b') g8 (zr _ _ _ _ r10 b') l10
    refine AllReadyH.turn (d := 11) (OP := .alloc 206) (T := 0) (v := .pointer (some ⟨W.heap.size, 0, none⟩)) (w' := W.alloc (.cells #[.pointer none, .pointer none, .string ⟨#[]⟩, .bool false] 206)) rfl rfl rfl rfl (by rfl) (by go_simp <;> rfl) (hS _ (hb.trans ((za W).mono hb.size))) ?_ ?_
    · rw [put_comm (show 12 ≠ 11 by decide)]
      exact h201_ v2 v5 W.heap.size B10 _ (hb.trans ((za W).mono hb.size)) (p2 _ _ _ g2 (za W)) (p5 _ _ _ g5 (za W)) (heap_alloc_new W _) (zr _ _ _ _ r10 (za W)) hb.size l10 (fun e => by have := zl _ _ _ r10; omega)
    refine AllReadyH.turn (d := 13) (OP := .alloc 206) (T := 0) (v := .pointer (some ⟨W.heap.size, 0, none⟩)) (w' := W.alloc (.cells #[.pointer none, .pointer none, .string ⟨#[]⟩, .bool false] 206)) rfl rfl rfl rfl (by rfl) (by go_simp <;> rfl) (hS _ (hb.trans ((za W).mono hb.size))) ?_ ?_
    · exact h212_ v2 v5 B10 W.heap.size _ (hb.trans ((za W).mono hb.size)) (p2 _ _ _ g2 (za W)) (p5 _ _ _ g5 (za W)) (zr _ _ _ _ r10 (za W)) (heap_alloc_new W _) l10 hb.size (fun e => by have := zl _ _ _ r10; omega)
    exact AllReadyH.nil
  have h22_ : ∀ (v2 : Value) (v5 : Value) (B11 : Nat) (W : World), Below w0.heap.size w0 W → C2 v2 W → C5 v5 W → W.heap[B11]? = some (.cells #[.pointer none, .pointer none, .string ⟨#[]⟩, .bool false] 206) → w0.heap.size ≤ B11 → wpAnyH Tryz.prog .any ops9 Q S 6 #[true, true, true, true, true, true, true, true, false, false, false, true, false, false, false] (((a.put (some 42) v2).put (some 45) v5).put (some 13) (.pointer (some ⟨B11, 0, none⟩))) W := fun v2 v5 B11 W hb g2 g5 r11 l11 => by
    refine wpAnyH_ready (rs := [8, 9, 10]) (by kernel_rfl) (by simp) ?_
    refine AllReadyH.call (d := 48) (f := 184) (args := #[x8, k8]) (OP := .call { callee := .value (.func 184), args := #[.tmp 46, .tmp 47], argTypes := #[27, 9] }) (T := 206) rfl rfl rfl rfl (by rfl) (by have h1 := e8; have h2 := e8'; simp [Act.eval, go_sem] at h1 h2; simp [execOp, resolve, invoke, go_sem, h1, h2]) ?_ ?_
    · refine (c8 W hb).mono ?_
      rintro e w' ⟨v8, rfl, g8, b'⟩
      have hb' := hb.trans (b'.mono hb.size)
      refine ⟨_, rfl, hS _ hb', ?_⟩
      rw [put_comm (show 13 ≠ 48 by decide)]
      exact h32_ v2 v5 v8 B11 w' hb' (p2 _ _ _ g2 b') (p5 _ _ _ g5 b') g8 (zr _ _ _ _ r11 b') l11
    refine AllReadyH.turn (d := 11) (OP := .alloc 206) (T := 0) (v := .pointer (some ⟨W.heap.size, 0, none⟩)) (w' := W.alloc (.cells #[.pointer none, .pointer none, .string ⟨#[]⟩, .bool false] 206)) rfl rfl rfl rfl (by rfl) (by go_simp <;> rfl) (hS _ (hb.trans ((za W).mono hb.size))) ?_ ?_
    · rw [put_comm (show 13 ≠ 11 by decide)]
      exact h202_ v2 v5 W.heap.size B11 _ (hb.trans ((za W).mono hb.size)) (p2 _ _ _ g2 (za W)) (p5 _ _ _ g5 (za W)) (heap_alloc_new W _) (zr _ _ _ _ r11 (za W)) hb.size l11 (fun e => by have := zl _ _ _ r11; omega)
    refine AllReadyH.turn (d := 12) (OP := .alloc 206) (T := 0) (v := .pointer (some ⟨W.heap.size, 0, none⟩)) (w' := W.alloc (.cells #[.pointer none, .pointer none, .string ⟨#[]⟩, .bool false] 206)) rfl rfl rfl rfl (by rfl) (by go_simp <;> rfl) (hS _ (hb.trans ((za W).mono hb.size))) ?_ ?_
    · rw [put_comm (show 13 ≠ 12 by decide)]
      exact h212_ v2 v5 W.heap.size B11 _ (hb.trans ((za W).mono hb.size)) (p2 _ _ _ g2 (za W)) (p5 _ _ _ g5 (za W)) (heap_alloc_new W _) (zr _ _ _ _ r11 (za W)) hb.size l11 (fun e => by have := zl _ _ _ r11; omega)
    exact AllReadyH.nil
  have h101_ : ∀ (v2 : Value) (B9 : Nat) (B10 : Nat) (W : World), Below w0.heap.size w0 W → C2 v2 W → W.heap[B9]? = some (.cells #[.pointer none, .pointer none, .string ⟨#[]⟩, .bool false] 206) → W.heap[B10]? = some (.cells #[.pointer none, .pointer none, .string ⟨#[]⟩, .bool false] 206) → w0.heap.size ≤ B9 → w0.heap.size ≤ B10 → B9 ≠ B10 → wpAnyH Tryz.prog .any ops9 Q S 6 #[true, true, true, true, true, false, true, true, false, true, true, false, false, false, false] (((a.put (some 42) v2).put (some 11) (.pointer (some ⟨B9, 0, none⟩))).put (some 12) (.pointer (some ⟨B10, 0, none⟩))) W := fun v2 B9 B10 W hb g2 r9 r10 l9 l10 n9_10 => by
    refine wpAnyH_ready (rs := [5, 11]) (by kernel_rfl) (by simp) ?_
    refine AllReadyH.call (d := 45) (f := 184) (args := #[x5, k5]) (OP := .call { callee := .value (.func 184), args := #[.tmp 43, .tmp 44], argTypes := #[27, 9] }) (T := 206) rfl rfl rfl rfl (by rfl) (by have h1 := e5; have h2 := e5'; simp [Act.eval, go_sem] at h1 h2; simp [execOp, resolve, invoke, go_sem, h1, h2]) ?_ ?_
    · refine (c5 W hb).mono ?_
      rintro e w' ⟨v5, rfl, g5, b'⟩
      have hb' := hb.trans (b'.mono hb.size)
      refine ⟨_, rfl, hS _ hb', ?_⟩
      rw [put_comm (show 12 ≠ 45 by decide), put_comm (show 11 ≠ 45 by decide)]
      exact h201_ v2 v5 B9 B10 w' hb' (p2 _ _ _ g2 b') g5 (zr _ _ _ _ r9 b') (zr _ _ _ _ r10 b') l9 l10 n9_10
    refine AllReadyH.turn (d := 13) (OP := .alloc 206) (T := 0) (v := .pointer (some ⟨W.heap.size, 0, none⟩)) (w' := W.alloc (.cells #[.pointer none, .pointer none, .string ⟨#[]⟩, .bool false] 206)) rfl rfl rfl rfl (by rfl) (by go_simp <;> rfl) (hS _ (hb.trans ((za W).mono hb.size))) ?_ ?_
    · exact h1012_ v2 B9 B10 W.heap.size _ (hb.trans ((za W).mono hb.size)) (p2 _ _ _ g2 (za W)) (zr _ _ _ _ r9 (za W)) (zr _ _ _ _ r10 (za W)) (heap_alloc_new W _) l9 l10 hb.size n9_10 (fun e => by have := zl _ _ _ r9; omega) (fun e => by have := zl _ _ _ r10; omega)
    exact AllReadyH.nil
  have h102_ : ∀ (v2 : Value) (B9 : Nat) (B11 : Nat) (W : World), Below w0.heap.size w0 W → C2 v2 W → W.heap[B9]? = some (.cells #[.pointer none, .pointer none, .string ⟨#[]⟩, .bool false] 206) → W.heap[B11]? = some (.cells #[.pointer none, .pointer none, .string ⟨#[]⟩, .bool false] 206) → w0.heap.size ≤ B9 → w0.heap.size ≤ B11 → B9 ≠ B11 → wpAnyH Tryz.prog .any ops9 Q S 6 #[true, true, true, true, true, false, true, true, false, true, false, true, false, false, false] (((a.put (some 42) v2).put (some 11) (.pointer (some ⟨B9, 0, none⟩))).put (some 13) (.pointer (some ⟨B11, 0, none⟩))) W := fun v2 B9 B11 W hb g2 r9 r11 l9 l11 n9_11 => by
    refine wpAnyH_ready (rs := [5, 10]) (by kernel_rfl) (by simp) ?_
    refine AllReadyH.call (d := 45) (f := 184) (args := #[x5, k5]) (OP := .call { callee := .value (.func 184), args := #[.tmp 43, .tmp 44], argTypes := #[27, 9] }) (T := 206) rfl rfl rfl rfl (by rfl) (by have h1 := e5; have h2 := e5'; simp [Act.eval, go_sem] at h1 h2; simp [execOp, resolve, invoke, go_sem, h1, h2]) ?_ ?_
    · refine (c5 W hb).mono ?_
      rintro e w' ⟨v5, rfl, g5, b'⟩
      have hb' := hb.trans (b'.mono hb.size)
      refine ⟨_, rfl, hS _ hb', ?_⟩
      rw [put_comm (show 13 ≠ 45 by decide), put_comm (show 11 ≠ 45 by decide)]
      exact h202_ v2 v5 B9 B11 w' hb' (p2 _ _ _ g2 b') g5 (zr _ _ _ _ r9 b') (zr _ _ _ _ r11 b') l9 l11 n9_11
    refine AllReadyH.turn (d := 12) (OP := .alloc 206) (T := 0) (v := .pointer (some ⟨W.heap.size, 0, none⟩)) (w' := W.alloc (.cells #[.pointer none, .pointer none, .string ⟨#[]⟩, .bool false] 206)) rfl rfl rfl rfl (by rfl) (by go_simp <;> rfl) (hS _ (hb.trans ((za W).mono hb.size))) ?_ ?_
    · rw [put_comm (show 13 ≠ 12 by decide)]
      exact h1012_ v2 B9 W.heap.size B11 _ (hb.trans ((za W).mono hb.size)) (p2 _ _ _ g2 (za W)) (zr _ _ _ _ r9 (za W)) (heap_alloc_new W _) (zr _ _ _ _ r11 (za W)) l9 hb.size l11 (fun e => by have := zl _ _ _ r9; omega) n9_11 (fun e => by have := zl _ _ _ r11; omega)
    exact AllReadyH.nil
  have h112_ : ∀ (v2 : Value) (B10 : Nat) (B11 : Nat) (W : World), Below w0.heap.size w0 W → C2 v2 W → W.heap[B10]? = some (.cells #[.pointer none, .pointer none, .string ⟨#[]⟩, .bool false] 206) → W.heap[B11]? = some (.cells #[.pointer none, .pointer none, .string ⟨#[]⟩, .bool false] 206) → w0.heap.size ≤ B10 → w0.heap.size ≤ B11 → B10 ≠ B11 → wpAnyH Tryz.prog .any ops9 Q S 6 #[true, true, true, true, true, false, true, true, false, false, true, true, false, false, false] (((a.put (some 42) v2).put (some 12) (.pointer (some ⟨B10, 0, none⟩))).put (some 13) (.pointer (some ⟨B11, 0, none⟩))) W := fun v2 B10 B11 W hb g2 r10 r11 l10 l11 n10_11 => by
    refine wpAnyH_ready (rs := [5, 9]) (by kernel_rfl) (by simp) ?_
    refine AllReadyH.call (d := 45) (f := 184) (args := #[x5, k5]) (OP := .call { callee := .value (.func 184), args := #[.tmp 43, .tmp 44], argTypes := #[27, 9] }) (T := 206) rfl rfl rfl rfl (by rfl) (by have h1 := e5; have h2 := e5'; simp [Act.eval, go_sem] at h1 h2; simp [execOp, resolve, invoke, go_sem, h1, h2]) ?_ ?_
    · refine (c5 W hb).mono ?_
      rintro e w' ⟨v5, rfl, g5, b'⟩
      have hb' := hb.trans (b'.mono hb.size)
      refine ⟨_, rfl, hS _ hb', ?_⟩
      rw [put_comm (show 13 ≠ 45 by decide), put_comm (show 12 ≠ 45 by decide)]
      exact h212_ v2 v5 B10 B11 w' hb' (p2 _ _ _ g2 b') g5 (zr _ _ _ _ r10 b') (zr _ _ _ _ r11 b') l10 l11 n10_11
    refine AllReadyH.turn (d := 11) (OP := .alloc 206) (T := 0) (v := .pointer (some ⟨W.heap.size, 0, none⟩)) (w' := W.alloc (.cells #[.pointer none, .pointer none, .string ⟨#[]⟩, .bool false] 206)) rfl rfl rfl rfl (by rfl) (by go_simp <;> rfl) (hS _ (hb.trans ((za W).mono hb.size))) ?_ ?_
    · rw [put_comm (show 13 ≠ 11 by decide), put_comm (show 12 ≠ 11 by decide)]
      exact h1012_ v2 W.heap.size B10 B11 _ (hb.trans ((za W).mono hb.size)) (p2 _ _ _ g2 (za W)) (heap_alloc_new W _) (zr _ _ _ _ r10 (za W)) (zr _ _ _ _ r11 (za W)) hb.size l10 l11 (fun e => by have := zl _ _ _ r10; omega) (fun e => by have := zl _ _ _ r11; omega) n10_11
    exact AllReadyH.nil
  have h0012_ : ∀ (B9 : Nat) (B10 : Nat) (B11 : Nat) (W : World), Below w0.heap.size w0 W → W.heap[B9]? = some (.cells #[.pointer none, .pointer none, .string ⟨#[]⟩, .bool false] 206) → W.heap[B10]? = some (.cells #[.pointer none, .pointer none, .string ⟨#[]⟩, .bool false] 206) → W.heap[B11]? = some (.cells #[.pointer none, .pointer none, .string ⟨#[]⟩, .bool false] 206) → w0.heap.size ≤ B9 → w0.heap.size ≤ B10 → w0.heap.size ≤ B11 → B9 ≠ B10 → B9 ≠ B11 → B10 ≠ B11 → wpAnyH Tryz.prog .any ops9 Q S 6 #[true, true, false, true, true, false, true, true, false, true, true, true, false, false, false] (((a.put (some 11) (.pointer (some ⟨B9, 0, none⟩))).put (some 12) (.pointer (some ⟨B10, 0, none⟩))).put (some 13) (.pointer (some ⟨B11, 0, none⟩))) W := fun B9 B10 B11 W hb r9 r10 r11 l9 l10 l11 n9_10 n9_11 n10_11 => by
    refine wpAnyH_ready (rs := [2]) (by kernel_rfl) (by simp) ?_
    refine AllReadyH.call (d := 42) (f := 184) (args := #[x2, k2]) (OP := .call { callee := .value (.func 184), args := #[.tmp 40, .tmp 41], argTypes := #[27, 9] }) (T := 206) rfl rfl rfl rfl (by rfl) (by have h1 := e2; have h2 := e2'; simp [Act.eval, go_sem] at h1 h2; simp [execOp, resolve, invoke, go_sem, h1, h2]) ?_ ?_
    · refine (c2 W hb).mono ?_
      rintro e w' ⟨v2, rfl, g2, b'⟩
      have hb' := hb.trans (b'.mono hb.size)
      refine ⟨_, rfl, hS _ hb', ?_⟩
      rw [put_comm (show 13 ≠ 42 by decide), put_comm (show 12 ≠ 42 by decide), put_comm (show 11 ≠ 42 by decide)]
      exact h1012_ v2 B9 B10 B11 w' hb' g2 (zr _ _ _ _ r9 b') (zr _ _ _ _ r10 b') (zr _ _ _ _ r11 b') l9 l10 l11 n9_10 n9_11 n10_11
    exact AllReadyH.nil
  have h2_ : ∀ (v2 : Value) (v5 : Value) (W : World), Below w0.heap.size w0 W → C2 v2 W → C5 v5 W → wpAnyH Tryz.prog .any ops9 Q S 7 #[true, true, true, true, true, true, true, true, false, false, false, false, false, false, false] ((a.put (some 42) v2).put (some 45) v5) W := fun v2 v5 W hb g2 g5 => by
    refine wpAnyH_ready (rs := [8, 9, 10, 11]) (by kernel_rfl) (by simp) ?_
    refine AllReadyH.call (d := 48) (f := 184) (args := #[x8, k8]) (OP := .call { callee := .value (.func 184), args := #[.tmp 46, .tmp 47], argTypes := #[27, 9] }) (T := 206) rfl rfl rfl rfl (by rfl) (by have h1 := e8; have h2 := e8'; simp [Act.eval, go_sem] at h1 h2; simp [execOp, resolve, invoke, go_sem, h1, h2]) ?_ ?_
    · refine (c8 W hb).mono ?_
      rintro e w' ⟨v8, rfl, g8, b'⟩
      have hb' := hb.trans (b'.mono hb.size)
      refine ⟨_, rfl, hS _ hb', ?_⟩
      exact h3_ v2 v5 v8 w' hb' (p2 _ _ _ g2 b') (p5 _ _ _ g5 b') g8
    refine AllReadyH.turn (d := 11) (OP := .alloc 206) (T := 0) (v := .pointer (some ⟨W.heap.size, 0, none⟩)) (w' := W.alloc (.cells #[.pointer none, .pointer none, .string ⟨#[]⟩, .bool false] 206)) rfl rfl rfl rfl (by rfl) (by go_simp <;> rfl) (hS _ (hb.trans ((za W).mono hb.size))) ?_ ?_
    · exact h20_ v2 v5 W.heap.size _ (hb.trans ((za W).mono hb.size)) (p2 _ _ _ g2 (za W)) (p5 _ _ _ g5 (za W)) (heap_alloc_new W _) hb.size
    refine AllReadyH.turn (d := 12) (OP := .alloc 206) (T := 0) (v := .pointer (some ⟨W.heap.size, 0, none⟩)) (w' := W.alloc (.cells #[.pointer none, .pointer none, .string ⟨#[]⟩, .bool false] 206)) rfl rfl rfl rfl (by rfl) (by go_simp <;> rfl) (hS _ (hb.trans ((za W).mono hb.size))) ?_ ?_
    · exact h21_ v2 v5 W.heap.size _ (hb.trans ((za W).mono hb.size)) (p2 _ _ _ g2 (za W)) (p5 _ _ _ g5 (za W)) (heap_alloc_new W _) hb.size
    refine AllReadyH.turn (d := 13) (OP := .alloc 206) (T := 0) (v := .pointer (some ⟨W.heap.size, 0, none⟩)) (w' := W.alloc (.cells #[.pointer none, .pointer none, .string ⟨#[]⟩, .bool false] 206)) rfl rfl rfl rfl (by rfl) (by go_simp <;> rfl) (hS _ (hb.trans ((za W).mono hb.size))) ?_ ?_
    · exact h22_ v2 v5 W.heap.size _ (hb.trans ((za W).mono hb.size)) (p2 _ _ _ g2 (za W)) (p5 _ _ _ g5 (za W)) (heap_alloc_new W _) hb.size
    exact AllReadyH.nil
  have h10_ : ∀ (v2 : Value) (B9 : Nat) (W : World), Below w0.heap.size w0 W → C2 v2 W → W.heap[B9]? = some (.cells #[.pointer none, .pointer none, .string ⟨#[]⟩, .bool false] 206) → w0.heap.size ≤ B9 → wpAnyH Tryz.prog .any ops9 Q S 7 #[true, true, true, true, true, false, true, true, false, true, false, false, false, false, false] ((a.put (some 42) v2).put (some 11) (.pointer (some ⟨B9, 0, none⟩))) W := fun v2 B9 W hb g2 r9 l9 => by
    refine wpAnyH_ready (rs := [5, 10, 11]) (by kernel_rfl) (by simp) ?_
    refine AllReadyH.call (d := 45) (f := 184) (args := #[x5, k5]) (OP := .call { callee := .value (.func 184), args := #[.tmp 43, .tmp 44], argTypes := #[27, 9] }) (T := 206) rfl rfl rfl rfl (by rfl) (by have h1 := e5; have h2 := e5'; simp [Act.eval, go_sem] at h1 h2; simp [execOp, resolve, invoke, go_sem, h1, h2]) ?_ ?_
    · refine (c5 W hb).mono ?_
      rintro e w' ⟨v5, rfl, g5, b'⟩
      have hb' := hb.trans (b'.mono hb.size)
      refine ⟨_, rfl, hS _ hb', ?_⟩
      rw [put_comm (show 11 ≠ 45 by decide)]
      exact h20_ v2 v5 B9 w' hb' (p2 _ _ _ g2 b') g5 (zr _ _ _ _ r9 b') l9
    refine AllReadyH.turn (d := 12) (OP := .alloc 206) (T := 0) (v := .pointer (some ⟨W.heap.size, 0, none⟩)) (w' := W.alloc (.cells #[.pointer none, .pointer none, .string ⟨#[]⟩, .bool false] 206)) rfl rfl rfl rfl (by rfl) (by go_simp <;> rfl) (hS _ (hb.trans ((za W).mono hb.size))) ?_ ?_
    · exact h101_ v2 B9 W.heap.size _ (hb.trans ((za W).mono hb.size)) (p2 _ _ _ g2 (za W)) (zr _ _ _ _ r9 (za W)) (heap_alloc_new W _) l9 hb.size (fun e => by have := zl _ _ _ r9; omega)
    refine AllReadyH.turn (d := 13) (OP := .alloc 206) (T := 0) (v := .pointer (some ⟨W.heap.size, 0, none⟩)) (w' := W.alloc (.cells #[.pointer none, .pointer none, .string ⟨#[]⟩, .bool false] 206)) rfl rfl rfl rfl (by rfl) (by go_simp <;> rfl) (hS _ (hb.trans ((za W).mono hb.size))) ?_ ?_
    · exact h102_ v2 B9 W.heap.size _ (hb.trans ((za W).mono hb.size)) (p2 _ _ _ g2 (za W)) (zr _ _ _ _ r9 (za W)) (heap_alloc_new W _) l9 hb.size (fun e => by have := zl _ _ _ r9; omega)
    exact AllReadyH.nil
  have h11_ : ∀ (v2 : Value) (B10 : Nat) (W : World), Below w0.heap.size w0 W → C2 v2 W → W.heap[B10]? = some (.cells #[.pointer none, .pointer none, .string ⟨#[]⟩, .bool false] 206) → w0.heap.size ≤ B10 → wpAnyH Tryz.prog .any ops9 Q S 7 #[true, true, true, true, true, false, true, true, false, false, true, false, false, false, false] ((a.put (some 42) v2).put (some 12) (.pointer (some ⟨B10, 0, none⟩))) W := fun v2 B10 W hb g2 r10 l10 => by
    refine wpAnyH_ready (rs := [5, 9, 11]) (by kernel_rfl) (by simp) ?_
    refine AllReadyH.call (d := 45) (f := 184) (args := #[x5, k5]) (OP := .call { callee := .value (.func 184), args := #[.tmp 43, .tmp 44], argTypes := #[27, 9] }) (T := 206) rfl rfl rfl rfl (by rfl) (by have h1 := e5; have h2 := e5'; simp [Act.eval, go_sem] at h1 h2; simp [execOp, resolve, invoke, go_sem, h1, h2]) ?_ ?_
    · refine (c5 W hb).mono ?_
      rintro e w' ⟨v5, rfl, g5, b'⟩
      have hb' := hb.trans (b'.mono hb.size)
      refine ⟨_, rfl, hS _ hb', ?_⟩
      rw [put_comm (show 12 ≠ 45 by decide)]
      exact h21_ v2 v5 B10 w' hb' (p2 _ _ _ g2 b') g5 (zr _ _ _ _ r10 b') l10
    refine AllReadyH.turn (d := 11) (OP := .alloc 206) (T := 0) (v := .pointer (some ⟨W.heap.size, 0, none⟩)) (w' := W.alloc (.cells #[.pointer none, .pointer none, .string ⟨#[]⟩, .bool false] 206)) rfl rfl rfl rfl (by rfl) (by go_simp <;> rfl) (hS _ (hb.trans ((za W).mono hb.size))) ?_ ?_
    · rw [put_comm (show 12 ≠ 11 by decide)]
      exact h101_ v2 W.heap.size B10 _ (hb.trans ((za W).mono hb.size)) (p2 _ _ _ g2 (za W)) (heap_alloc_new W _) (zr _ _ _ _ r10 (za W)) hb.size l10 (fun e => by have := zl _ _ _ r10; omega)
    refine AllReadyH.turn (d := 13) (OP := .alloc 206) (T := 0) (v := .pointer (some ⟨W.heap.size, 0, none⟩)) (w' := W.alloc (.cells #[.pointer none, .pointer none, .string ⟨#[]⟩, .bool false] 206)) rfl rfl rfl rfl (by rfl) (by go_simp <;> rfl) (hS _ (hb.trans ((za W).mono hb.size))) ?_ ?_
    · exact h112_ v2 B10 W.heap.size _ (hb.trans ((za W).mono hb.size)) (p2 _ _ _ g2 (za W)) (zr _ _ _ _ r10 (za W)) (heap_alloc_new W _) l10 hb.size (fun e => by have := zl _ _ _ r10; omega)
    exact AllReadyH.nil
  have h12_ : ∀ (v2 : Value) (B11 : Nat) (W : World), Below w0.heap.size w0 W → C2 v2 W → W.heap[B11]? = some (.cells #[.pointer none, .pointer none, .string ⟨#[]⟩, .bool false] 206) → w0.heap.size ≤ B11 → wpAnyH Tryz.prog .any ops9 Q S 7 #[true, true, true, true, true, false, true, true, false, false, false, true, false, false, false] ((a.put (some 42) v2).put (some 13) (.pointer (some ⟨B11, 0, none⟩))) W := fun v2 B11 W hb g2 r11 l11 => by
    refine wpAnyH_ready (rs := [5, 9, 10]) (by kernel_rfl) (by simp) ?_
    refine AllReadyH.call (d := 45) (f := 184) (args := #[x5, k5]) (OP := .call { callee := .value (.func 184), args := #[.tmp 43, .tmp 44], argTypes := #[27, 9] }) (T := 206) rfl rfl rfl rfl (by rfl) (by have h1 := e5; have h2 := e5'; simp [Act.eval, go_sem] at h1 h2; simp [execOp, resolve, invoke, go_sem, h1, h2]) ?_ ?_
    · refine (c5 W hb).mono ?_
      rintro e w' ⟨v5, rfl, g5, b'⟩
      have hb' := hb.trans (b'.mono hb.size)
      refine ⟨_, rfl, hS _ hb', ?_⟩
      rw [put_comm (show 13 ≠ 45 by decide)]
      exact h22_ v2 v5 B11 w' hb' (p2 _ _ _ g2 b') g5 (zr _ _ _ _ r11 b') l11
    refine AllReadyH.turn (d := 11) (OP := .alloc 206) (T := 0) (v := .pointer (some ⟨W.heap.size, 0, none⟩)) (w' := W.alloc (.cells #[.pointer none, .pointer none, .string ⟨#[]⟩, .bool false] 206)) rfl rfl rfl rfl (by rfl) (by go_simp <;> rfl) (hS _ (hb.trans ((za W).mono hb.size))) ?_ ?_
    · rw [put_comm (show 13 ≠ 11 by decide)]
      exact h102_ v2 W.heap.size B11 _ (hb.trans ((za W).mono hb.size)) (p2 _ _ _ g2 (za W)) (heap_alloc_new W _) (zr _ _ _ _ r11 (za W)) hb.size l11 (fun e => by have := zl _ _ _ r11; omega)
    refine AllReadyH.turn (d := 12) (OP := .alloc 206) (T := 0) (v := .pointer (some ⟨W.heap.size, 0, none⟩)) (w' := W.alloc (.cells #[.pointer none, .pointer none, .string ⟨#[]⟩, .bool false] 206)) rfl rfl rfl rfl (by rfl) (by go_simp <;> rfl) (hS _ (hb.trans ((za W).mono hb.size))) ?_ ?_
    · rw [put_comm (show 13 ≠ 12 by decide)]
      exact h112_ v2 W.heap.size B11 _ (hb.trans ((za W).mono hb.size)) (p2 _ _ _ g2 (za W)) (heap_alloc_new W _) (zr _ _ _ _ r11 (za W)) hb.size l11 (fun e => by have := zl _ _ _ r11; omega)
    exact AllReadyH.nil
  have h001_ : ∀ (B9 : Nat) (B10 : Nat) (W : World), Below w0.heap.size w0 W → W.heap[B9]? = some (.cells #[.pointer none, .pointer none, .string ⟨#[]⟩, .bool false] 206) → W.heap[B10]? = some (.cells #[.pointer none, .pointer none, .string ⟨#[]⟩, .bool false] 206) → w0.heap.size ≤ B9 → w0.heap.size ≤ B10 → B9 ≠ B10 → wpAnyH Tryz.prog .any ops9 Q S 7 #[true, true, false, true, true, false, true, true, false, true, true, false, false, false, false] ((a.put (some 11) (.pointer (some ⟨B9, 0, none⟩))).put (some 12) (.pointer (some ⟨B10, 0, none⟩))) W := fun B9 B10 W hb r9 r10 l9 l10 n9_10 => by
    refine wpAnyH_ready (rs := [2, 11]) (by kernel_rfl) (by simp) ?_
    refine AllReadyH.call (d := 42) (f := 184) (args := #[x2, k2]) (OP := .call { callee := .value (.func 184), args := #[.tmp 40, .tmp 41], argTypes := #[27, 9] }) (T := 206) rfl rfl rfl rfl (by rfl) (by have h1 := e2; have h2 := e2'; simp [Act.eval, go_sem] at h1 h2; simp [execOp, resolve, invoke, go_sem, h1, h2]) ?_ ?_
    · refine (c2 W hb).mono ?_
      rintro e w' ⟨v2, rfl, g2, b'⟩
      have hb' := hb.trans (b'.mono hb.size)
      refine ⟨_, rfl, hS _ hb', ?_⟩
      rw [put_comm (show 12 ≠ 42 by decide), put_comm (show 11 ≠ 42 by decide)]
      exact h101_ v2 B9 B10 w' hb' g2 (zr _ _ _ _ r9 b') (zr _ _ _ _ r10 b') l9 l10 n9_10
    refine AllReadyH.turn (d := 13) (OP := .alloc 206) (T := 0) (v := .pointer (some ⟨W.heap.size, 0, none⟩)) (w' := W.alloc (.cells #[.pointer none, .pointer none, .string ⟨#[]⟩, .bool false] 206)) rfl rfl rfl rfl (by rfl) (by go_simp <;> rfl) (hS _ (hb.trans ((za W).mono hb.size))) ?_ ?_
    · exact h0012_ B9 B10 W.heap.size _ (hb.trans ((za W).mono hb.size)) (zr _ _ _ _ r9 (za W)) (zr _ _ _ _ r10 (za W)) (heap_alloc_new W _) l9 l10 hb.size n9_10 (fun e => by have := zl _ _ _ r9; omega) (fun e => by have := zl _ _ _ r10; omega)
    exact AllReadyH.nil
  have h002_ : ∀ (B9 : Nat) (B11 : Nat) (W : World), Below w0.heap.size w0 W → W.heap[B9]? = some (.cells #[.pointer none, .pointer none, .string ⟨#[]⟩, .bool false] 206) → W.heap[B11]? = some (.cells #[.pointer none, .pointer none, .string ⟨#[]⟩, .bool false] 206) → w0.heap.size ≤ B9 → w0.heap.size ≤ B11 → B9 ≠ B11 → wpAnyH Tryz.prog .any ops9 Q S 7 #[true, true, false, true, true, false, true, true, false, true, false, true, false, false, false] ((a.put (some 11) (.pointer (some ⟨B9, 0, none⟩))).put (some 13) (.pointer (some ⟨B11, 0, none⟩))) W := fun B9 B11 W hb r9 r11 l9 l11 n9_11 => by
    refine wpAnyH_ready (rs := [2, 10]) (by kernel_rfl) (by simp) ?_
    refine AllReadyH.call (d := 42) (f := 184) (args := #[x2, k2]) (OP := .call { callee := .value (.func 184), args := #[.tmp 40, .tmp 41], argTypes := #[27, 9] }) (T := 206) rfl rfl rfl rfl (by rfl) (by have h1 := e2; have h2 := e2'; simp [Act.eval, go_sem] at h1 h2; simp [execOp, resolve, invoke, go_sem, h1, h2]) ?_ ?_
    · refine (c2 W hb).mono ?_
      rintro e w' ⟨v2, rfl, g2, b'⟩
      have hb' := hb.trans (b'.mono hb.size)
      refine ⟨_, rfl, hS _ hb', ?_⟩
      rw [put_comm (show 13 ≠ 42 by decide), put_comm (show 11 ≠ 42 by decide)]
      exact h102_ v2 B9 B11 w' hb' g2 (zr _ _ _ _ r9 b') (zr _ _ _ _ r11 b') l9 l11 n9_11
    refine AllReadyH.turn (d := 12) (OP := .alloc 206) (T := 0) (v := .pointer (some ⟨W.heap.size, 0, none⟩)) (w' := W.alloc (.cells #[.pointer none, .pointer none, .string ⟨#[]⟩, .bool false] 206)) rfl rfl rfl rfl (by rfl) (by go_simp <;> rfl) (hS _ (hb.trans ((za W).mono hb.size))) ?_ ?_
    · rw [put_comm (show 13 ≠ 12 by decide)]
      exact h0012_ B9 W.heap.size B11 _ (hb.trans ((za W).mono hb.size)) (zr _ _ _ _ r9 (za W)) (heap_alloc_new W _) (zr _ _ _ _ r11 (za W)) l9 hb.size l11 (fun e => by have := zl _ _ _ r9; omega) n9_11 (fun e => by have := zl _ _ _ r11; omega)
    exact AllReadyH.nil
  have h012_ : ∀ (B10 : Nat) (B11 : Nat) (W : World), Below w0.heap.size w0 W → W.heap[B10]? = some (.cells #[.pointer none, .pointer none, .string ⟨#[]⟩, .bool false] 206) → W.heap[B11]? = some (.cells #[.pointer none, .pointer none, .string ⟨#[]⟩, .bool false] 206) → w0.heap.size ≤ B10 → w0.heap.size ≤ B11 → B10 ≠ B11 → wpAnyH Tryz.prog .any ops9 Q S 7 #[true, true, false, true, true, false, true, true, false, false, true, true, false, false, false] ((a.put (some 12) (.pointer (some ⟨B10, 0, none⟩))).put (some 13) (.pointer (some ⟨B11, 0, none⟩))) W := fun B10 B11 W hb r10 r11 l10 l11 n10_11 => by
    refine wpAnyH_ready (rs := [2, 9]) (by kernel_rfl) (by simp) ?_
    refine AllReadyH.call (d := 42) (f := 184) (args := #[x2, k2]) (OP := .call { callee := .value (.func 184), args := #[.tmp 40, .tmp 41], argTypes := #[27, 9] }) (T := 206) rfl rfl rfl rfl (by rfl) (by have h1 := e2; have h2 := e2'; simp [Act.eval, go_sem] at h1 h2; simp [execOp, resolve, invoke, go_sem, h1, h2]) ?_ ?_
    · refine (c2 W hb).mono ?_
      rintro e w' ⟨v2, rfl, g2, b'⟩
      have hb' := hb.trans (b'.mono hb.size)
      refine ⟨_, rfl, hS _ hb', ?_⟩
      rw [put_comm (show 13 ≠ 42 by decide), put_comm (show 12 ≠ 42 by decide)]
      exact h112_ v2 B10 B11 w' hb' g2 (zr _ _ _ _ r10 b') (zr _ _ _ _ r11 b') l10 l11 n10_11
    refine AllReadyH.turn (d := 11) (OP := .alloc 206) (T := 0) (v := .pointer (some ⟨W.heap.size, 0, none⟩)) (w' := W.alloc (.cells #[.pointer none, .pointer none, .string ⟨#[]⟩, .bool false] 206)) rfl rfl rfl rfl (by rfl) (by go_simp <;> rfl) (hS _ (hb.trans ((za W).mono hb.size))) ?_ ?_
    · rw [put_comm (show 13 ≠ 11 by decide), put_comm (show 12 ≠ 11 by decide)]
      exact h0012_ W.heap.size B10 B11 _ (hb.trans ((za W).mono hb.size)) (heap_alloc_new W _) (zr _ _ _ _ r10 (za W)) (zr _ _ _ _ r11 (za W)) hb.size l10 l11 (fun e => by have := zl _ _ _ r10; omega) (fun e => by have := zl _ _ _ r11; omega) n10_11
    exact AllReadyH.nil
  have h1_ : ∀ (v2 : Value) (W : World), Below w0.heap.size w0 W → C2 v2 W → wpAnyH Tryz.prog .any ops9 Q S 8 #[true, true, true, true, true, false, true, true, false, false, false, false, false, false, false] (a.put (some 42) v2) W := fun v2 W hb g2 => by
    refine wpAnyH_ready (rs := [5, 9, 10, 11]) (by kernel_rfl) (by simp) ?_
    refine AllReadyH.call (d := 45) (f := 184) (args := #[x5, k5]) (OP := .call { callee := .value (.func 184), args := #[.tmp 43, .tmp 44], argTypes := #[27, 9] }) (T := 206) rfl rfl rfl rfl (by rfl) (by have h1 := e5; have h2 := e5'; simp [Act.eval, go_sem] at h1 h2; simp [execOp, resolve, invoke, go_sem, h1, h2]) ?_ ?_
    · refine (c5 W hb).mono ?_
      rintro e w' ⟨v5, rfl, g5, b'⟩
      have hb' := hb.trans (b'.mono hb.size)
      refine ⟨_, rfl, hS _ hb', ?_⟩
      exact h2_ v2 v5 w' hb' (p2 _ _ _ g2 b') g5
    refine AllReadyH.turn (d := 11) (OP := .alloc 206) (T := 0) (v := .pointer (some ⟨W.heap.size, 0, none⟩)) (w' := W.alloc (.cells #[.pointer none, .pointer none, .string ⟨#[]⟩, .bool false] 206)) rfl rfl rfl rfl (by rfl) (by go_simp <;> rfl) (hS _ (hb.trans ((za W).mono hb.size))) ?_ ?_
    · exact h10_ v2 W.heap.size _ (hb.trans ((za W).mono hb.size)) (p2 _ _ _ g2 (za W)) (heap_alloc_new W _) hb.size
    refine AllReadyH.turn (d := 12) (OP := .alloc 206) (T := 0) (v := .pointer (some ⟨W.heap.size, 0, none⟩)) (w' := W.alloc (.cells #[.pointer none, .pointer none, .string ⟨#[]⟩, .bool false] 206)) rfl rfl rfl rfl (by rfl) (by go_simp <;> rfl) (hS _ (hb.trans ((za W).mono hb.size))) ?_ ?_
    · exact h11_ v2 W.heap.size _ (hb.trans ((za W).mono hb.size)) (p2 _ _ _ g2 (za W)) (heap_alloc_new W _) hb.size
    refine AllReadyH.turn (d := 13) (OP := .alloc 206) (T := 0) (v := .pointer (some ⟨W.heap.size, 0, none⟩)) (w' := W.alloc (.cells #[.pointer none, .pointer none, .string ⟨#[]⟩, .bool false] 206)) rfl rfl rfl rfl (by rfl) (by go_simp <;> rfl) (hS _ (hb.trans ((za W).mono hb.size))) ?_ ?_
    · exact h12_ v2 W.heap.size _ (hb.trans ((za W).mono hb.size)) (p2 _ _ _ g2 (za W)) (heap_alloc_new W _) hb.size
    exact AllReadyH.nil
  have h00_ : ∀ (B9 : Nat) (W : World), Below w0.heap.size w0 W → W.heap[B9]? = some (.cells #[.pointer none, .pointer none, .string ⟨#[]⟩, .bool false] 206) → w0.heap.size ≤ B9 → wpAnyH Tryz.prog .any ops9 Q S 8 #[true, true, false, true, true, false, true, true, false, true, false, false, false, false, false] (a.put (some 11) (.pointer (some ⟨B9, 0, none⟩))) W := fun B9 W hb r9 l9 => by
    refine wpAnyH_ready (rs := [2, 10, 11]) (by kernel_rfl) (by simp) ?_
    refine AllReadyH.call (d := 42) (f := 184) (args := #[x2, k2]) (OP := .call { callee := .value (.func 184), args := #[.tmp 40, .tmp 41], argTypes := #[27, 9] }) (T := 206) rfl rfl rfl rfl (by rfl) (by have h1 := e2; have h2 := e2'; simp [Act.eval, go_sem] at h1 h2; simp [execOp, resolve, invoke, go_sem, h1, h2]) ?_ ?_
    · refine (c2 W hb).mono ?_
      rintro e w' ⟨v2, rfl, g2, b'⟩
      have hb' := hb.trans (b'.mono hb.size)
      refine ⟨_, rfl, hS _ hb', ?_⟩
      rw [put_comm (show 11 ≠ 42 by decide)]
      exact h10_ v2 B9 w' hb' g2 (zr _ _ _ _ r9 b') l9
    refine AllReadyH.turn (d := 12) (OP := .alloc 206) (T := 0) (v := .pointer (some ⟨W.heap.size, 0, none⟩)) (w' := W.alloc (.cells #[.pointer none, .pointer none, .string ⟨#[]⟩, .bool false] 206)) rfl rfl rfl rfl (by rfl) (by go_simp <;> rfl) (hS _ (hb.trans ((za W).mono hb.size))) ?_ ?_
    · exact h001_ B9 W.heap.size _ (hb.trans ((za W).mono hb.size)) (zr _ _ _ _ r9 (za W)) (heap_alloc_new W _) l9 hb.size (fun e => by have := zl _ _ _ r9; omega)
    refine AllReadyH.turn (d := 13) (OP := .alloc 206) (T := 0) (v := .pointer (some ⟨W.heap.size, 0, none⟩)) (w' := W.alloc (.cells #[.pointer none, .pointer none, .string ⟨#[]⟩, .bool false] 206)) rfl rfl rfl rfl (by rfl) (by go_simp <;> rfl) (hS _ (hb.trans ((za W).mono hb.size))) ?_ ?_
    · exact h002_ B9 W.heap.size _ (hb.trans ((za W).mono hb.size)) (zr _ _ _ _ r9 (za W)) (heap_alloc_new W _) l9 hb.size (fun e => by have := zl _ _ _ r9; omega)
    exact AllReadyH.nil
  have h01_ : ∀ (B10 : Nat) (W : World), Below w0.heap.size w0 W → W.heap[B10]? = some (.cells #[.pointer none, .pointer none, .string ⟨#[]⟩, .bool false] 206) → w0.heap.size ≤ B10 → wpAnyH Tryz.prog .any ops9 Q S 8 #[true, true, false, true, true, false, true, true, false, false, true, false, false, false, false] (a.put (some 12) (.pointer (some ⟨B10, 0, none⟩))) W := fun B10 W hb r10 l10 => by
    refine wpAnyH_ready (rs := [2, 9, 11]) (by kernel_rfl) (by simp) ?_
    refine AllReadyH.call (d := 42) (f := 184) (args := #[x2, k2]) (OP := .call { callee := .value (.func 184), args := #[.tmp 40, .tmp 41], argTypes := #[27, 9] }) (T := 206) rfl rfl rfl rfl (by rfl) (by have h1 := e2; have h2 := e2'; simp [Act.eval, go_sem] at h1 h2; simp [execOp, resolve, invoke, go_sem, h1, h2]) ?_ ?_
    · refine (c2 W hb).mono ?_
      rintro e w' ⟨v2, rfl, g2, b'⟩
      have hb' := hb.trans (b'.mono hb.size)
      refine ⟨_, rfl, hS _ hb', ?_⟩
      rw [put_comm (show 12 ≠ 42 by decide)]
      exact h11_ v2 B10 w' hb' g2 (zr _ _ _ _ r10 b') l10
    refine AllReadyH.turn (d := 11) (OP := .alloc 206) (T := 0) (v := .pointer (some ⟨W.heap.size, 0, none⟩)) (w' := W.alloc (.cells #[.pointer none, .pointer none, .string ⟨#[]⟩, .bool false] 206)) rfl rfl rfl rfl (by rfl) (by go_simp <;> rfl) (hS _ (hb.trans ((za W).mono hb.size))) ?_ ?_
    · rw [put_comm (show 12 ≠ 11 by decide)]
      exact h001_ W.heap.size B10 _ (hb.trans ((za W).mono hb.size)) (heap_alloc_new W _) (zr _ _ _ _ r10 (za W)) hb.size l10 (fun e => by have := zl _ _ _ r10; omega)
    refine AllReadyH.turn (d := 13) (OP := .alloc 206) (T := 0) (v := .pointer (some ⟨W.heap.size, 0, none⟩)) (w' := W.alloc (.cells #[.pointer none, .pointer none, .string ⟨#[]⟩, .bool false] 206)) rfl rfl rfl rfl (by rfl) (by go_simp <;> rfl) (hS _ (hb.trans ((za W).mono hb.size))) ?_ ?_
    · exact h012_ B10 W.heap.size _ (hb.trans ((za W).mono hb.size)) (zr _ _ _ _ r10 (za W)) (heap_alloc_new W _) l10 hb.size (fun e => by have := zl _ _ _ r10; omega)
    exact AllReadyH.nil
  have h02_ : ∀ (B11 : Nat) (W : World), Below w0.heap.size w0 W → W.heap[B11]? = some (.cells #[.pointer none, .pointer none, .string ⟨#[]⟩, .bool false] 206) → w0.heap.size ≤ B11 → wpAnyH Tryz.prog .any ops9 Q S 8 #[true, true, false, true, true, false, true, true, false, false, false, true, false, false, false] (a.put (some 13) (.pointer (some ⟨B11, 0, none⟩))) W := fun B11 W hb r11 l11 => by
    refine wpAnyH_ready (rs := [2, 9, 10]) (by kernel_rfl) (by simp) ?_
    refine AllReadyH.call (d := 42) (f := 184) (args := #[x2, k2]) (OP := .call { callee := .value (.func 184), args := #[.tmp 40, .tmp 41], argTypes := #[27, 9] }) (T := 206) rfl rfl rfl rfl (by rfl) (by have h1 := e2; have h2 := e2'; simp [Act.eval, go_sem] at h1 h2; simp [execOp, resolve, invoke, go_sem, h1, h2]) ?_ ?_
    · refine (c2 W hb).mono ?_
      rintro e w' ⟨v2, rfl, g2, b'⟩
      have hb' := hb.trans (b'.mono hb.size)
      refine ⟨_, rfl, hS _ hb', ?_⟩
      rw [put_comm (show 13 ≠ 42 by decide)]
      exact h12_ v2 B11 w' hb' g2 (zr _ _ _ _ r11 b') l11
    refine AllReadyH.turn (d := 11) (OP := .alloc 206) (T := 0) (v := .pointer (some ⟨W.heap.size, 0, none⟩)) (w' := W.alloc (.cells #[.pointer none, .pointer none, .string ⟨#[]⟩, .bool false] 206)) rfl rfl rfl rfl (by rfl) (by go_simp <;> rfl) (hS _ (hb.trans ((za W).mono hb.size))) ?_ ?_
    · rw [put_comm (show 13 ≠ 11 by decide)]
      exact h002_ W.heap.size B11 _ (hb.trans ((za W).mono hb.size)) (heap_alloc_new W _) (zr _ _ _ _ r11 (za W)) hb.size l11 (fun e => by have := zl _ _ _ r11; omega)
    refine AllReadyH.turn (d := 12) (OP := .alloc 206) (T := 0) (v := .pointer (some ⟨W.heap.size, 0, none⟩)) (w' := W.alloc (.cells #[.pointer none, .pointer none, .string ⟨#[]⟩, .bool false] 206)) rfl rfl rfl rfl (by rfl) (by go_simp <;> rfl) (hS _ (hb.trans ((za W).mono hb.size))) ?_ ?_
    · rw [put_comm (show 13 ≠ 12 by decide)]
      exact h012_ W.heap.size B11 _ (hb.trans ((za W).mono hb.size)) (heap_alloc_new W _) (zr _ _ _ _ r11 (za W)) hb.size l11 (fun e => by have := zl _ _ _ r11; omega)
    exact AllReadyH.nil
  have h0_ : ∀ (W : World), Below w0.heap.size w0 W → wpAnyH Tryz.prog .any ops9 Q S 9 #[true, true, false, true, true, false, true, true, false, false, false, false, false, false, false] a W := fun  W hb => by
    refine wpAnyH_ready (rs := [2, 9, 10, 11]) (by kernel_rfl) (by simp) ?_
    refine AllReadyH.call (d := 42) (f := 184) (args := #[x2, k2]) (OP := .call { callee := .value (.func 184), args := #[.tmp 40, .tmp 41], argTypes := #[27, 9] }) (T := 206) rfl rfl rfl rfl (by rfl) (by have h1 := e2; have h2 := e2'; simp [Act.eval, go_sem] at h1 h2; simp [execOp, resolve, invoke, go_sem, h1, h2]) ?_ ?_
    · refine (c2 W hb).mono ?_
      rintro e w' ⟨v2, rfl, g2, b'⟩
      have hb' := hb.trans (b'.mono hb.size)
      refine ⟨_, rfl, hS _ hb', ?_⟩
      exact h1_ v2 w' hb' g2
    refine AllReadyH.turn (d := 11) (OP := .alloc 206) (T := 0) (v := .pointer (some ⟨W.heap.size, 0, none⟩)) (w' := W.alloc (.cells #[.pointer none, .pointer none, .string ⟨#[]⟩, .bool false] 206)) rfl rfl rfl rfl (by rfl) (by go_simp <;> rfl) (hS _ (hb.trans ((za W).mono hb.size))) ?_ ?_
    · exact h00_ W.heap.size _ (hb.trans ((za W).mono hb.size)) (heap_alloc_new W _) hb.size
    refine AllReadyH.turn (d := 12) (OP := .alloc 206) (T := 0) (v := .pointer (some ⟨W.heap.size, 0, none⟩)) (w' := W.alloc (.cells #[.pointer none, .pointer none, .string ⟨#[]⟩, .bool false] 206)) rfl rfl rfl rfl (by rfl) (by go_simp <;> rfl) (hS _ (hb.trans ((za W).mono hb.size))) ?_ ?_
    · exact h01_ W.heap.size _ (hb.trans ((za W).mono hb.size)) (heap_alloc_new W _) hb.size
    refine AllReadyH.turn (d := 13) (OP := .alloc 206) (T := 0) (v := .pointer (some ⟨W.heap.size, 0, none⟩)) (w' := W.alloc (.cells #[.pointer none, .pointer none, .string ⟨#[]⟩, .bool false] 206)) rfl rfl rfl rfl (by rfl) (by go_simp <;> rfl) (hS _ (hb.trans ((za W).mono hb.size))) ?_ ?_
    · exact h02_ W.heap.size _ (hb.trans ((za W).mono hb.size)) (heap_alloc_new W _) hb.size
    exact AllReadyH.nil
  exact h0_ W hW
end Go.Proofs.YtkeldhohilmdcaaGreat.Pm
namespace Go.Proofs.YtkeldhohilmdcaaGreat.Pm
open Go.RowKit Go.Shelf
set_option linter.unusedSimpArgs false

/-- The types of the walk's own blocks. -/
def keepTy (e : TypeId) : Prop := e = 27 ∨ e = 206 ∨ e = 154 ∨ e = 201 ∨ e = 173
/-- Old blocks stand, and those of the walk's own types. -/
structure Goes (B Tk : Nat) (W W' : World) : Prop where
  low : Below B W W'
  own : ∀ (j : Nat) (cur : Array Value) (e : TypeId) (fr : Nat × Nat), W.heap[j]? = some (Obj.cells cur e fr) → keepTy e → W'.heap[j]? = some (Obj.cells cur e fr)
  cnt : ∀ (j : Nat) (cur : Array Value) (fr : Nat × Nat), W.heap[j]? = some (Obj.cells cur 130 fr) → j ≠ Tk → W'.heap[j]? = some (Obj.cells cur 130 fr)
theorem Goes.refl (B Tk : Nat) (W : World) : Goes B Tk W W := ⟨Below.refl _ _, fun _ _ _ _ h _ => h, fun _ _ _ h _ => h⟩
theorem Goes.trans {B Tk : Nat} {a b c : World} (h : Goes B Tk a b) (k : Goes B Tk b c) : Goes B Tk a c := ⟨h.low.trans k.low, fun j cur e fr hj he => k.own j cur e fr (h.own j cur e fr hj he) he, fun j cur fr hj he => k.cnt j cur fr (h.cnt j cur fr hj he) he⟩
theorem Goes.of {B Tk : Nat} {W W' : World} (h : Below W.heap.size W W') (hB : B ≤ W.heap.size) : Goes B Tk W W' := ⟨h.mono hB, fun _ _ _ _ hj _ => (h.block _ (Array.getElem?_eq_some_iff.1 hj).1).trans hj, fun _ _ _ hj _ => (h.block _ (Array.getElem?_eq_some_iff.1 hj).1).trans hj⟩
theorem In.goes {B Tk : Nat} {W W' : World} (h : Goes B Tk W W') : ∀ {t : T}, In W t → In W' t
  | .nil, _ => trivial
  | .node _ _ _ _ _, ⟨h1, h2, h3⟩ => ⟨h.own _ _ _ _ h1 (.inr (.inr (.inl rfl))), In.goes h h2, In.goes h h3⟩
/-- A block that is no block of the walk's own types is written. -/
theorem Goes.set {B Tk i : Nat} {W : World} {cs : Array Value} {ty : TypeId} (v : Value) (h : W.heap[Tk]? = some (.cells cs ty (0, 0))) (hB : B ≤ Tk) (hty : ¬ keepTy ty) : Goes B Tk W (W.setCell ⟨Tk, i, none⟩ v) := by
  obtain ⟨_, o⟩ := set_one (i := i) v h
  refine ⟨(Below.refl _ W).setCell (p := ⟨Tk, i, none⟩) hB _, fun j cur e fr hj he => ?_, fun j cur fr hj hne => (o.block j (Array.getElem?_eq_some_iff.1 hj).1 hne).trans hj⟩
  refine (o.block j (Array.getElem?_eq_some_iff.1 hj).1 (fun d => ?_)).trans hj
  subst d
  rw [h] at hj
  simp only [Option.some.injEq, Obj.cells.injEq] at hj
  exact hty (hj.2.1 ▸ he)
/-- A block that came later is written. -/
theorem Goes.later {B Tk C : Nat} {w W W' : World} (h : Goes B Tk w W) (o : Only (fun j => j = C) W W') (hC : w.heap.size ≤ C) (hB : B ≤ C) (hBw : B ≤ W.heap.size) : Goes B Tk w W' :=
  ⟨Below.only h.low o hBw (fun j e => by omega), fun j cur e fr hj he => (o.block j (Nat.lt_of_lt_of_le (Array.getElem?_eq_some_iff.1 hj).1 h.low.size) (fun d => by have := (Array.getElem?_eq_some_iff.1 hj).1; omega)).trans (h.own j cur e fr hj he), fun j cur fr hj he => (o.block j (Nat.lt_of_lt_of_le (Array.getElem?_eq_some_iff.1 hj).1 h.low.size) (fun d => by have := (Array.getElem?_eq_some_iff.1 hj).1; omega)).trans (h.cnt j cur fr hj he)⟩
/-- A rule that may be asked. -/
structure RuleOk (A : ByteArray → ByteArray × Bool → ByteArray × Bool → ByteArray × Bool → Prop) (B Tk : Nat) (g : Nat) (caps : Array Value) (R : ByteArray → ByteArray × Bool → ByteArray × Bool → ByteArray × Bool → ByteArray × Bool) (J : List ByteArray → World → Prop) : Prop where
  enter : ∀ (args : Array Value) (W : World), (callFunc g args).run Tryz.prog W = .ok (.enter g args) W
  call : ∀ (W : World) (ks : List ByteArray) (k : ByteArray) (p q r : ByteArray × Bool), B ≤ W.heap.size → A k p q r → ks.length ≤ 100000 → J ks W → Calls Tryz.prog g (#[.string k, pv p, pv q, pv r] ++ caps) W fun e W' => (∃ v, e = .returned (.tuple #[.string v, .bool (R k p q r).2]) ∧ ((R k p q r).2 = true → v = (R k p q r).1)) ∧ J (ks ++ [k]) W' ∧ Goes B Tk W W' ∧ ∀ (cur : Array Value) (fr : Nat × Nat), W.heap[Tk]? = some (.cells cur 130 fr) → W'.heap[Tk]? = some (.cells cur 130 fr)
  stay : ∀ (ks : List ByteArray) (W W' : World), J ks W → (∀ (j : Nat) (cur : Array Value) (e : TypeId) (fr : Nat × Nat), W.heap[j]? = some (Obj.cells cur e fr) → (j < B ∨ (e ≠ 27 ∧ e ≠ 206 ∧ (j ≠ Tk ∨ e ≠ 130))) → W'.heap[j]? = some (Obj.cells cur e fr)) → J ks W'
/-- What the closure has. -/
structure REnv (W : World) (Tk Rn Ru : Nat) (fv : Value) (x y z : Int) : Prop where
  run : W.heap[Rn]? = some (.cells #[.func (.func 182) #[] #[.pointer (some ⟨Tk, 0, none⟩), .pointer (some ⟨Rn, 0, none⟩), .pointer (some ⟨Ru, 0, none⟩)]] 201 (0, 0))
  rule : W.heap[Ru]? = some (.cells #[fv] 173 (0, 0))
  took : W.heap[Tk]? = some (.cells #[.int .i64 x, .int .i64 y, .int .i64 z] 130 (0, 0))
theorem REnv.below {W W' : World} {Tk Rn Ru : Nat} {fv : Value} {x y z : Int} (h : REnv W Tk Rn Ru fv x y z) (hb : Below W.heap.size W W') : REnv W' Tk Rn Ru fv x y z :=
  ⟨(hb.block _ (Array.getElem?_eq_some_iff.1 h.run).1).trans h.run, (hb.block _ (Array.getElem?_eq_some_iff.1 h.rule).1).trans h.rule, (hb.block _ (Array.getElem?_eq_some_iff.1 h.took).1).trans h.took⟩
/-- A box of a map is written. -/
theorem REnv.box {W W' : World} {C Tk Rn Ru : Nat} {fv u : Value} {x y z : Int} (h : REnv W Tk Rn Ru fv x y z) (hC : W.heap[C]? = some (.cells #[u] 27 (0, 0))) (o : Only (fun j => j = C) W W') : REnv W' Tk Rn Ru fv x y z := by
  refine ⟨(o.block _ (Array.getElem?_eq_some_iff.1 h.run).1 (fun e => ?_)).trans h.run, (o.block _ (Array.getElem?_eq_some_iff.1 h.rule).1 (fun e => ?_)).trans h.rule, (o.block _ (Array.getElem?_eq_some_iff.1 h.took).1 (fun e => ?_)).trans h.took⟩
  · have := h.run; rw [e, hC] at this; simp at this
  · have := h.rule; rw [e, hC] at this; simp at this
  · have := h.took; rw [e, hC] at this; simp at this
theorem RuleOk.box {A : ByteArray → ByteArray × Bool → ByteArray × Bool → ByteArray × Bool → Prop} {B Tk g C : Nat} {caps : Array Value} {R : ByteArray → ByteArray × Bool → ByteArray × Bool → ByteArray × Bool → ByteArray × Bool} {J : List ByteArray → World → Prop} (h : RuleOk A B Tk g caps R J) {ks : List ByteArray} {W W' : World} {u : Value} (hj : J ks W) (hC : W.heap[C]? = some (.cells #[u] 27 (0, 0))) (o : Only (fun j => j = C) W W') (hBC : B ≤ C) : J ks W' :=
  h.stay ks W W' hj (fun j cur e fr hjj hor => (o.block _ (Array.getElem?_eq_some_iff.1 hjj).1 (fun d => by
    rcases hor with hlt | ⟨h29, _, _⟩
    · omega
    · rw [d, hC] at hjj; simp only [Option.some.injEq, Obj.cells.injEq] at hjj; exact h29 hjj.2.1.symm)).trans hjj)
theorem RuleOk.set {A : ByteArray → ByteArray × Bool → ByteArray × Bool → ByteArray × Bool → Prop} {B Tk g : Nat} {caps : Array Value} {R : ByteArray → ByteArray × Bool → ByteArray × Bool → ByteArray × Bool → ByteArray × Bool} {J : List ByteArray → World → Prop} (h : RuleOk A B Tk g caps R J) {ks : List ByteArray} {W W' : World} (hj : J ks W) (o : Only (fun j => j = Tk) W W') (hB : B ≤ Tk) {cs : Array Value} {fr : Nat × Nat} (hT : W.heap[Tk]? = some (.cells cs 130 fr)) : J ks W' :=
  h.stay ks W W' hj (fun j cur e fr hjj hor => (o.block _ (Array.getElem?_eq_some_iff.1 hjj).1 (fun d => by
    rcases hor with hlt | ⟨_, _, hne | hne⟩
    · omega
    · exact hne d
    · rw [d, hT] at hjj; simp only [Option.some.injEq, Obj.cells.injEq] at hjj; exact hne hjj.2.1.symm)).trans hjj)
theorem RuleOk.below {A : ByteArray → ByteArray × Bool → ByteArray × Bool → ByteArray × Bool → Prop} {B Tk g : Nat} {caps : Array Value} {R : ByteArray → ByteArray × Bool → ByteArray × Bool → ByteArray × Bool → ByteArray × Bool} {J : List ByteArray → World → Prop} (h : RuleOk A B Tk g caps R J) {ks : List ByteArray} {W W' : World} (hj : J ks W) (hb : Below W.heap.size W W') : J ks W' :=
  h.stay ks W W' hj (fun _ _ _ _ hj _ => (hb.block _ (Array.getElem?_eq_some_iff.1 hj).1).trans hj)
/-- Three maps that may be run together. -/
structure Trio (V : ByteArray → ByteArray × Bool → Prop) (W : World) (o a b : T) : Prop where
  io : In W o
  ia : In W a
  ib : In W b
  so : Srt o.list
  sa : Srt a.list
  sb : Srt b.list
  bo : o.bal
  ba : a.bal
  bb : b.bal
  vo : ∀ k, V k (look k o.list)
  va : ∀ k, V k (look k a.list)
  vb : ∀ k, V k (look k b.list)
  no : o.n ≤ 1000
  nab : a.n + b.n ≤ 1000
theorem Trio.goes {V : ByteArray → ByteArray × Bool → Prop} {B Tk : Nat} {W W' : World} {o a b : T} (h : Trio V W o a b) (hg : Goes B Tk W W') : Trio V W' o a b := ⟨In.goes hg h.io, In.goes hg h.ia, In.goes hg h.ib, h.so, h.sa, h.sb, h.bo, h.ba, h.bb, h.vo, h.va, h.vb, h.no, h.nab⟩
/-- The two sides of three maps that are split. -/
theorem Trio.sides {V : ByteArray → ByteArray × Bool → Prop} {B : Nat} {W W' : World} {K : ByteArray} {o a b o1 o2 f a1 a2 g b1 b2 h : T} (ht : Trio V W o a b) (h0 : ∀ k, V k (⟨#[]⟩, false)) (so : Splits B K o o1 f o2) (sa : Splits B K a a1 g a2) (sb : Splits B K b b1 h b2) (i1 : In W' o1) (i2 : In W' o2) (i3 : In W' a1) (i4 : In W' a2) (i5 : In W' b1) (i6 : In W' b2) : Trio V W' o1 a1 b1 ∧ Trio V W' o2 a2 b2 := by
  have xo := so.sides ht.so
  have xa := sa.sides ht.sa
  have xb := sb.sides ht.sb
  obtain ⟨vo1, vo2⟩ := xo.valid h0 ht.vo
  obtain ⟨va1, va2⟩ := xa.valid h0 ht.va
  obtain ⟨vb1, vb2⟩ := xb.valid h0 ht.vb
  have e1 := xo.n
  have e2 := xa.n
  have e3 := xb.n
  have e4 := ht.no
  have e5 := ht.nab
  exact ⟨⟨i1, i3, i5, xo.asrt, xa.asrt, xb.asrt, (so.bal ht.bo).1, (sa.bal ht.ba).1, (sb.bal ht.bb).1, vo1, va1, vb1, by omega, by omega⟩, ⟨i2, i4, i6, xo.bsrt, xa.bsrt, xb.bsrt, (so.bal ht.bo).2, (sa.bal ht.ba).2, (sb.bal ht.bb).2, vo2, va2, vb2, by omega, by omega⟩⟩
/-- What the rule may be asked. -/
def AskOk (A : ByteArray → ByteArray × Bool → ByteArray × Bool → ByteArray × Bool → Prop) (o a b : T) : Prop := ∀ k, ((look k a.list).2 = true ∨ (look k b.list).2 = true) → A k (look k o.list) (look k a.list) (look k b.list)
theorem Sides.left_key {K k : ByteArray} {t a f b : T} (h : Sides K t a f b) (hk : (look k a.list).2 = true) : cmpB k K = -1 := by
  obtain ⟨y, hy, rfl⟩ := look_mem hk
  exact h.less y hy
theorem Sides.right_key {K k : ByteArray} {t a f b : T} (h : Sides K t a f b) (hk : (look k b.list).2 = true) : cmpB K k = -1 := by
  obtain ⟨y, hy, rfl⟩ := look_mem hk
  exact h.more y hy
theorem AskOk.sides {A : ByteArray → ByteArray × Bool → ByteArray × Bool → ByteArray × Bool → Prop} {K : ByteArray} {o a b o1 o2 f a1 a2 g b1 b2 h : T} (hk : AskOk A o a b) (xo : Sides K o o1 f o2) (xa : Sides K a a1 g a2) (xb : Sides K b b1 h b2) : AskOk A o1 a1 b1 ∧ AskOk A o2 a2 b2 := by
  refine ⟨fun k hh => ?_, fun k hh => ?_⟩
  · have hc : cmpB k K = -1 := hh.elim xa.left_key xb.left_key
    have := hk k (by rw [xa.below k hc, xb.below k hc]; exact hh)
    rw [xo.below k hc, xa.below k hc, xb.below k hc] at this
    exact this
  · have hc : cmpB K k = -1 := hh.elim xa.right_key xb.right_key
    have := hk k (by rw [xa.above k hc, xb.above k hc]; exact hh)
    rw [xo.above k hc, xa.above k hc, xb.above k hc] at this
    exact this
theorem AskOk.top {A : ByteArray → ByteArray × Bool → ByteArray × Bool → ByteArray × Bool → Prop} {K : ByteArray} {o a b o1 o2 f a1 a2 g b1 b2 h : T} (hk : AskOk A o a b) (xo : Sides K o o1 f o2) (xa : Sides K a a1 g a2) (xb : Sides K b b1 h b2) (ht : g.isSome = true ∨ h.isSome = true) : A K f.part g.part h.part := by
  have := hk K (by rw [xa.at_, xb.at_]; exact ht)
  rw [xo.at_, xa.at_, xb.at_] at this
  exact this
theorem Closes.mono {B B' : Nat} {l r t : T} (h : Closes B' l r t) (hB : B ≤ B') : Closes B l r t := by
  rcases h with h | ⟨hn, r', t0, ht, hj, e⟩
  · exact .inl h
  · exact .inr ⟨hn, r', t0, ht.mono hB, hj.mono hB, e⟩
theorem Runs.mono {B B' : Nat} {R : ByteArray → ByteArray × Bool → ByteArray × Bool → ByteArray × Bool → ByteArray × Bool} {o a b t : T} {ks : List ByteArray} (h : Runs B' R o a b t ks) (hB : B ≤ B') : Runs B R o a b t ks := by
  induction h with
  | same => exact .same
  | left h => exact .left h
  | right h => exact .right h
  | joins n1 n2 n3 so sa sb _ _ hr hj ih1 ih2 => exact .joins n1 n2 n3 (so.mono hB) (sa.mono hB) (sb.mono hB) ih1 ih2 hr (hj.mono hB)
  | closes n1 n2 n3 so sa sb _ _ hr hj hb ih1 ih2 => exact .closes n1 n2 n3 (so.mono hB) (sa.mono hB) (sb.mono hB) ih1 ih2 hr (hj.mono hB) hb
end Go.Proofs.YtkeldhohilmdcaaGreat.Pm
namespace Go.Proofs.YtkeldhohilmdcaaGreat.Pm
open Go.RowKit Go.Shelf
set_option linter.unusedSimpArgs false

theorem to_reg9 {P : Program} {md : Region.Mode} {ops ops' : Array Oper} {Q : Exit → Act → World → Prop} {S : World → Prop} {fuel : Nat} {l l' : Array Bool} {a : Act} {w : World} (ho : ops = ops') (hl : l = l') (h : wpAnyH P md ops' Q S fuel l' a w) : wpAnyH P md ops Q S fuel l a w := by subst ho hl; exact h
theorem cut_count {B : Nat} {a b a1 a2 g b1 b2 h : T} (n1 : a ≠ b) (sa : Splits B (topK a b) a a1 g a2) (sb : Splits B (topK a b) b b1 h b2) (Sa : Srt a.list) (Sb : Srt b.list) : a1.n + a2.n + b1.n + b2.n + 1 ≤ a.n + b.n := by
  have e1 := (sa.sides Sa).n
  have e2 := (sb.sides Sb).n
  rcases top_has n1 sa sb Sa Sb with e | e
  · rw [e] at e1; simp at e1; omega
  · rw [e] at e2; simp at e2; omega
/-- The sides of a split, as the walk has them. -/
def CutIs (B : Nat) (K : ByteArray) (o : T) (v : Value) (W : World) : Prop := ∃ o1 f o2, v = cv o1 o2 f ∧ Splits B K o o1 f o2 ∧ In W o1 ∧ In W o2
set_option maxHeartbeats 8000000 in
set_option maxRecDepth 100000 in
theorem run_any {V : ByteArray → ByteArray × Bool → Prop} {R : ByteArray → ByteArray × Bool → ByteArray × Bool → ByteArray × Bool → ByteArray × Bool} {J : List ByteArray → World → Prop} {A : ByteArray → ByteArray × Bool → ByteArray × Bool → ByteArray × Bool → Prop} {B Tk Rn Ru g : Nat} {caps : Array Value} (hR : Fair V R) (hru : RuleOk A B Tk g caps R J) (hTk : B ≤ Tk) :
    ∀ (N : Nat) (o a b : T) (w : World) (ks : List ByteArray) (x y z : Int), a.n + b.n ≤ N → 0 ≤ x → x + N ≤ 100000 → 0 ≤ y → y + N ≤ 100000 → ks.length + N ≤ 100000 → Trio V w o a b → AskOk A o a b → REnv w Tk Rn Ru (.func (.func g) #[] caps) x y z → J ks w → B ≤ w.heap.size →
    Calls Tryz.prog 182 #[mv o, mv a, mv b, .pointer (some ⟨Tk, 0, none⟩), .pointer (some ⟨Rn, 0, none⟩), .pointer (some ⟨Ru, 0, none⟩)] w fun e w' => ∃ t ks', e = .returned (mv t) ∧ Runs w.heap.size R o a b t ks' ∧ In w' t ∧ J (ks ++ ks') w' ∧ REnv w' Tk Rn Ru (.func (.func g) #[] caps) (x + ks'.length) (y + ks'.length) z ∧ Goes B Tk w w' := by
  intro N
  induction N using Nat.strongRecOn with
  | ind N ih =>
  intro o a b w ks x y z hN hx0 hxN hy0 hyN hkN ht hask he hj hB
  by_cases hu : a = b ∨ o = a ∨ o = b
  · refine (run_unread o a b _ _ _ w ht.io ht.ia ht.ib hu).mono ?_
    rintro e w' ⟨rfl, iu, hb⟩
    refine ⟨unread o a b, [], rfl, ?_, iu, by rw [List.append_nil]; exact hru.below hj hb, by simpa using he.below hb, Goes.of hb hB⟩
    unfold unread
    by_cases e1 : a = b
    · subst e1; rw [if_pos rfl]; exact .same
    · rw [if_neg e1]
      by_cases e2 : o = a
      · subst e2; rw [if_pos rfl]; exact .left e1
      · rw [if_neg e2]
        have e3 : o = b := by rcases hu with h | h | h <;> first | exact (e1 h).elim | exact (e2 h).elim | exact h
        subst e3; exact .right e1
  · have n1 : a ≠ b := fun e => hu (.inl e)
    have n2 : o ≠ a := fun e => hu (.inr (.inl e))
    have n3 : o ≠ b := fun e => hu (.inr (.inr e))
    obtain ⟨m0, m1, m2, m3, hb⟩ := new4 w (.cells #[o.ptr] 27) (.cells #[a.ptr] 27) (.cells #[b.ptr] 27) (.cells #[.pointer none] 27)
    have c1 := fun W (hW : Below w.heap.size w W) => mSame_any a b W (In.below hW ht.ia) (In.below hW ht.ib)
    have c2 := fun W (hW : Below w.heap.size w W) => mSame_any o a W (In.below hW ht.io) (In.below hW ht.ia)
    have c3 := fun W (hW : Below w.heap.size w W) => mSame_any o b W (In.below hW ht.io) (In.below hW ht.ib)
    have c4 := fun W (hW : Below w.heap.size w W) => top_any a b W (In.below hW ht.ia) (In.below hW ht.ib)
    obtain ⟨po, ho⟩ := o.ptr_shape
    obtain ⟨pa, ha⟩ := a.ptr_shape
    obtain ⟨pb, hb'⟩ := b.ptr_shape
    rw [mv_ptr ho, mv_ptr ha, mv_ptr hb']
    simp only [decide_eq_false n1, mv_ptr ha, mv_ptr hb'] at c1
    simp only [decide_eq_false n2, mv_ptr ho, mv_ptr ha] at c2
    simp only [decide_eq_false n3, mv_ptr ho, mv_ptr hb'] at c3
    rw [mv_ptr ha, mv_ptr hb'] at c4
    rw [ho, ha, hb'] at m0 m1 m2 m3 hb
    obtain ⟨K, hK⟩ : ∃ K, K = topK a b := ⟨_, rfl⟩
    replace c4 : ∀ W, Below w.heap.size w W → Calls Tryz.prog 183 #[.agg #[.pointer pa], .agg #[.pointer pb]] W fun e w' => e = .returned (.string K) ∧ Below W.heap.size W w' := by rw [hK]; exact c4
    obtain ⟨w0, hw0⟩ : ∃ w0, w0 = ((((w.alloc (.cells #[.pointer po] 27)).alloc (.cells #[.pointer pa] 27)).alloc (.cells #[.pointer pb] 27)).alloc (.cells #[.pointer none] 27)) := ⟨_, rfl⟩
    rw [← hw0] at m0 m1 m2 m3 hb
    have tell : ∀ W, Below w0.heap.size w0 W → W.cell? ⟨w.heap.size, 0, none⟩ = some (.pointer po) ∧ W.cell? ⟨w.heap.size + 1, 0, none⟩ = some (.pointer pa) ∧ W.cell? ⟨w.heap.size + 1 + 1, 0, none⟩ = some (.pointer pb) ∧ Hid (W.heap[w.heap.size]? = some (.cells #[.pointer po] 27 (0, 0)) ∧ W.heap[w.heap.size + 1]? = some (.cells #[.pointer pa] 27 (0, 0)) ∧ W.heap[w.heap.size + 1 + 1]? = some (.cells #[.pointer pb] 27 (0, 0)) ∧ W.heap[w.heap.size + 1 + 1 + 1]? = some (.cells #[.pointer none] 27 (0, 0)) ∧ Below w.heap.size w W) := fun W hW => by
      have k0 := (hW.block _ (Array.getElem?_eq_some_iff.1 m0).1).trans m0
      have k1 := (hW.block _ (Array.getElem?_eq_some_iff.1 m1).1).trans m1
      have k2 := (hW.block _ (Array.getElem?_eq_some_iff.1 m2).1).trans m2
      have k3 := (hW.block _ (Array.getElem?_eq_some_iff.1 m3).1).trans m3
      exact ⟨(cell_of_row _ _ 0 _ 27 (0, 0) k0).trans rfl, (cell_of_row _ _ 0 _ 27 (0, 0) k1).trans rfl, (cell_of_row _ _ 0 _ 27 (0, 0) k2).trans rfl, hide ⟨k0, k1, k2, k3, hb.trans (hW.mono hb.size)⟩⟩
    have HT := hide tell
    have HZ := hide (And.intro n1 (And.intro n2 (And.intro n3 (And.intro ht (And.intro he (And.intro hj (And.intro hK (And.intro ho (And.intro ha hb')))))))))
    have hb0 := hide hb
    have IH := hide ih
    clear tell m0 m1 m2 m3 hb n1 n2 n3 hu ht hj ho ha hb' ih hK
    have tk : True := trivial
    have tk2 : True ∧ True := ⟨trivial, trivial⟩
    have hkw : (0 : Nat) = 0 := rfl
    go_enter Tryz.func182, Tryz.ntmps182
    go_upto_region 1 with (fail)
    rw [← hw0]
    obtain ⟨t0, t1, t2, _⟩ := HT.out w0 (Below.refl _ _)
    clear hw0
    go_upto_region 8 with (first
      | (go_at_call 75; clear tk; refine (c1 w0 hb0.out).mono ?_; rintro e w1 ⟨rfl, bb⟩; have b1 : Below w0.heap.size w0 w1 := bb; obtain ⟨t0, t1, t2, HHw1⟩ := HT.out w1 b1; clear HHw1 bb; replace b1 := hide b1; dsimp only)
      | (go_at_call 75; clear tk2; refine (c2 w1 (hb0.out.trans (b1.out.mono hb0.out.size))).mono ?_; rintro e w2 ⟨rfl, bb⟩; have b2 : Below w0.heap.size w0 w2 := b1.out.trans (bb.mono b1.out.size); obtain ⟨t0, t1, t2, HHw2⟩ := HT.out w2 b2; clear HHw2 bb; replace b2 := hide b2; dsimp only)
      | (go_at_call 75; refine (c3 w2 (hb0.out.trans (b2.out.mono hb0.out.size))).mono ?_; rintro e w3 ⟨rfl, bb⟩; have b3 : Below w0.heap.size w0 w3 := b2.out.trans (bb.mono b2.out.size); obtain ⟨t0, t1, t2, HHw3⟩ := HT.out w3 b3; clear HHw3 bb; replace b3 := hide b3; dsimp only)
      | (go_at_call 183; refine (c4 w3 (hb0.out.trans (b3.out.mono hb0.out.size))).mono ?_; rintro e w4 ⟨rfl, bb⟩; have b4 : Below w0.heap.size w0 w4 := b3.out.trans (bb.mono b3.out.size); obtain ⟨t0, t1, t2, HHw4⟩ := HT.out w4 b4; clear HHw4 bb; replace b4 := hide b4; dsimp only))
    obtain ⟨n1, n2, n3, ht, he, hj, hK, ho, ha, hb'⟩ := HZ.out
    have HKK := hide hK
    clear hK n1 n2 n3
    obtain ⟨s0, s1, s2, HH⟩ := HT.out w4 b4.out
    obtain ⟨r0, r1, r2, r3, bw4⟩ := HH.out
    have he4 := he.below bw4
    have hj4 := hru.below hj bw4
    have k0 : w4.cell? ⟨Tk, 0, none⟩ = some (.int .i64 x) := (cell_of_row _ _ 0 _ 130 (0, 0) he4.took).trans rfl
    have f0 : w4.frozen? ⟨Tk, 0, none⟩ = false := frozen_of_row _ _ 0 _ 130 he4.took
    have wx : IntKind.i64.wrap (x + 1) = x + 1 := by rw [IntKind.wrap_i64]; omega
    have g5 : Goes B Tk w4 (w4.setCell ⟨Tk, 0, none⟩ (.int .i64 (x + 1))) := Goes.set _ he4.took hTk (by unfold keepTy; decide)
    obtain ⟨u5, o5⟩ := set_one (i := 0) (.int .i64 (x + 1)) he4.took
    have hj5 : J ks (w4.setCell ⟨Tk, 0, none⟩ (.int .i64 (x + 1))) := hru.set hj4 o5 hTk he4.took
    obtain ⟨w5, hw5⟩ : ∃ w5, w5 = w4.setCell ⟨Tk, 0, none⟩ (.int .i64 (x + 1)) := ⟨_, rfl⟩
    go_upto_region 9 with (fail)
    rw [← hw5]
    rw [← hw5] at g5 u5 hj5
    clear hw5 o5
    have he5 : REnv w5 Tk Rn Ru (.func (.func g) #[] caps) (x + 1) y z := ⟨g5.own _ _ _ _ he4.run (by unfold keepTy; decide), g5.own _ _ _ _ he4.rule (by unfold keepTy; decide), by simpa using u5⟩
    have q0r := g5.own _ _ _ _ r0 (by unfold keepTy; decide)
    have q1r := g5.own _ _ _ _ r1 (by unfold keepTy; decide)
    have q2r := g5.own _ _ _ _ r2 (by unfold keepTy; decide)
    have q3r := g5.own _ _ _ _ r3 (by unfold keepTy; decide)
    have hg5 : Goes B Tk w w5 := (Goes.of bw4 hB).trans g5
    have hsz5 : w.heap.size ≤ w5.heap.size := hg5.low.size
    have hlt3 := (Array.getElem?_eq_some_iff.1 q3r).1
    have ht5 := ht.goes hg5
    have hno := ht.no
    have hnab := ht.nab
    have cut : ∀ (s : T) (ps : Option Addr), s.ptr = .pointer ps → In w5 s → s.n ≤ 1000 → ∀ W, Below w5.heap.size w5 W → Calls Tryz.prog 184 #[.agg #[.pointer ps], .string K] W fun e w' => ∃ v, e = .returned v ∧ CutIs w.heap.size K s v w' ∧ Below W.heap.size W w' := fun s ps hps is hn W hW => by
      have := cutAt_any s K W (In.below hW is) (by omega)
      rw [mv_ptr hps] at this
      refine this.mono ?_
      rintro e w' ⟨s1, f, s2, he, hsp, i1, i2, hbl⟩
      exact ⟨_, he, ⟨s1, f, s2, rfl, hsp.mono (Nat.le_trans hsz5 hW.size), i1, i2⟩, hbl⟩
    have pers : ∀ (s : T) (v : Value) (W W' : World), CutIs w.heap.size K s v W → Below W.heap.size W W' → CutIs w.heap.size K s v W' := fun s v W W' ⟨s1, f, s2, hv, hsp, i1, i2⟩ hbl => ⟨s1, f, s2, hv, hsp, In.below hbl i1, In.below hbl i2⟩
    have q0 : w5.cell? ⟨w.heap.size, 0, none⟩ = some (.pointer po) ∧ w5.cell? ⟨w.heap.size + 1, 0, none⟩ = some (.pointer pa) ∧ w5.cell? ⟨w.heap.size + 1 + 1, 0, none⟩ = some (.pointer pb) ∧ Hid (Below w5.heap.size w5 w5) := ⟨(cell_of_row _ _ 0 _ 27 (0, 0) q0r).trans rfl, (cell_of_row _ _ 0 _ 27 (0, 0) q1r).trans rfl, (cell_of_row _ _ 0 _ 27 (0, 0) q2r).trans rfl, hide (Below.refl _ _)⟩
    have cuto := cut o po ho ht5.io hno
    have cuta := cut a pa ha ht5.ia (by omega)
    have cutb := cut b pb hb' ht5.ib (by omega)
    have HCC := hide (And.intro cuto (And.intro cuta cutb))
    have HPS := hide pers
    have HQ5 := hide (And.intro q0r (And.intro q1r (And.intro q2r (And.intro q3r (And.intro hg5 (And.intro he5 hj5))))))
    clear cut cuto cuta cutb pers q0r q1r q2r q3r k0 f0 wx g5 u5 s0 s1 s2 HH r0 r1 r2 r3 bw4 he4 hj4 t0 t1 t2 c1 c2 c3 c4 he5 hj5 hj he hg5
    have qd : w5.drew.cell? ⟨w.heap.size, 0, none⟩ = some (.pointer po) ∧ w5.drew.cell? ⟨w.heap.size + 1, 0, none⟩ = some (.pointer pa) ∧ w5.drew.cell? ⟨w.heap.size + 1 + 1, 0, none⟩ = some (.pointer pb) ∧ Hid (Below w5.heap.size w5 w5.drew) := ⟨q0.1, q0.2.1, q0.2.2.1, hide (q0.2.2.2.out.trans ((drew_below w5).mono q0.2.2.2.out.size))⟩
    refine wp_region_held_drew (S := (fun w' => w'.cell? ⟨w.heap.size, 0, none⟩ = some (.pointer po) ∧ w'.cell? ⟨w.heap.size + 1, 0, none⟩ = some (.pointer pa) ∧ w'.cell? ⟨w.heap.size + 1 + 1, 0, none⟩ = some (.pointer pb) ∧ Hid (Below w5.heap.size w5 w'))) (by kernel_rfl) qd (fun hHeld => ?_)
    try dsimp only at hHeld
    refine take_op (i := 0) (d := 40) (OP := Op.load 27 (Operand.tmp 6)) (T := 27) (v := ?vzz1) rfl rfl rfl rfl (by kernel_rfl) (by kernel_rfl) (by kernel_rfl) (fun _ _ _ h => h) (by rfl) ?hzz1 hHeld ?rzz1
    case hzz1 => (intro w' hSw; (try dsimp only at hSw); go_simp <;> with_reducible rfl)
    try simp only [Act.put, List.setIfInBounds_toArray, List.set_cons_zero, List.set_cons_succ]
    refine take_op (i := 1) (d := 41) (OP := Op.move (Operand.tmp 10)) (T := 9) (v := ?vzz2) rfl rfl rfl rfl (by kernel_rfl) (by kernel_rfl) (by kernel_rfl) (fun _ _ _ h => h) (by rfl) ?hzz2 hHeld ?rzz2
    case hzz2 => (intro w' hSw; (try dsimp only at hSw); go_simp <;> with_reducible rfl)
    try simp only [Act.put, List.setIfInBounds_toArray, List.set_cons_zero, List.set_cons_succ]
    refine take_op (i := 3) (d := 43) (OP := Op.load 27 (Operand.tmp 7)) (T := 27) (v := ?vzz3) rfl rfl rfl rfl (by kernel_rfl) (by kernel_rfl) (by kernel_rfl) (fun _ _ _ h => h) (by rfl) ?hzz3 hHeld ?rzz3
    case hzz3 => (intro w' hSw; (try dsimp only at hSw); go_simp <;> with_reducible rfl)
    try simp only [Act.put, List.setIfInBounds_toArray, List.set_cons_zero, List.set_cons_succ]
    refine take_op (i := 4) (d := 44) (OP := Op.move (Operand.tmp 10)) (T := 9) (v := ?vzz4) rfl rfl rfl rfl (by kernel_rfl) (by kernel_rfl) (by kernel_rfl) (fun _ _ _ h => h) (by rfl) ?hzz4 hHeld ?rzz4
    case hzz4 => (intro w' hSw; (try dsimp only at hSw); go_simp <;> with_reducible rfl)
    try simp only [Act.put, List.setIfInBounds_toArray, List.set_cons_zero, List.set_cons_succ]
    refine take_op (i := 6) (d := 46) (OP := Op.load 27 (Operand.tmp 8)) (T := 27) (v := ?vzz5) rfl rfl rfl rfl (by kernel_rfl) (by kernel_rfl) (by kernel_rfl) (fun _ _ _ h => h) (by rfl) ?hzz5 hHeld ?rzz5
    case hzz5 => (intro w' hSw; (try dsimp only at hSw); go_simp <;> with_reducible rfl)
    try simp only [Act.put, List.setIfInBounds_toArray, List.set_cons_zero, List.set_cons_succ]
    refine take_op (i := 7) (d := 47) (OP := Op.move (Operand.tmp 10)) (T := 9) (v := ?vzz6) rfl rfl rfl rfl (by kernel_rfl) (by kernel_rfl) (by kernel_rfl) (fun _ _ _ h => h) (by rfl) ?hzz6 hHeld ?rzz6
    case hzz6 => (intro w' hSw; (try dsimp only at hSw); go_simp <;> with_reducible rfl)
    try simp only [Act.put, List.setIfInBounds_toArray, List.set_cons_zero, List.set_cons_succ]
    refine to_reg9 (ops' := ops9) (l' := #[true, true, false, true, true, false, true, true, false, false, false, false, false, false, false]) rfl (by kernel_rfl) ?_
    refine reg9_any (w0 := w5) (C2 := CutIs w.heap.size K o) (C5 := CutIs w.heap.size K a) (C8 := CutIs w.heap.size K b) (x2 := .agg #[.pointer po]) (k2 := .string K) (x5 := .agg #[.pointer pa]) (k5 := .string K) (x8 := .agg #[.pointer pb]) (k8 := .string K) (by simp [Act.eval]) (by simp [Act.eval]) (by simp [Act.eval]) (by simp [Act.eval]) (by simp [Act.eval]) (by simp [Act.eval]) (fun W hW => ⟨cell_stays q0.1 hW, cell_stays q0.2.1 hW, cell_stays q0.2.2.1 hW, hide hW⟩) HCC.out.1 HCC.out.2.1 HCC.out.2.2 (HPS.out o) (HPS.out a) (HPS.out b) ?_ w5.drew (drew_below w5)
    rintro v2 v5 v8 B9 B10 B11 W hbW ⟨o1, f, o2, rfl, so, io1, io2⟩ ⟨a1, gg, a2, rfl, sa, ia1, ia2⟩ ⟨b1', hh, b2', rfl, sb, ib1, ib2⟩ z9 z10 z11 l9 l10 l11 n9 n10 n11
    obtain ⟨po1, ho1⟩ := o1.ptr_shape
    obtain ⟨po2, ho2⟩ := o2.ptr_shape
    obtain ⟨pa1, ha1⟩ := a1.ptr_shape
    obtain ⟨pa2, ha2⟩ := a2.ptr_shape
    obtain ⟨pb1, hb1⟩ := b1'.ptr_shape
    obtain ⟨pb2, hb2⟩ := b2'.ptr_shape
    unfold cv
    rw [ho1, ho2, ha1, ha2, hb1, hb2]
    have HPP := hide (And.intro ho1 (And.intro ho2 (And.intro ha1 (And.intro ha2 (And.intro hb1 hb2)))))
    have HASK := hide (hask.sides (so.sides HZ.out.2.2.2.1.so) (sa.sides HZ.out.2.2.2.1.sa) (sb.sides HZ.out.2.2.2.1.sb))
    have HTOP : Hid (A K f.part gg.part hh.part) := hide (hask.top (so.sides HZ.out.2.2.2.1.so) (sa.sides HZ.out.2.2.2.1.sa) (sb.sides HZ.out.2.2.2.1.sb) (by have hK := HZ.out.2.2.2.2.2.2.1; have sa' := sa; have sb' := sb; rw [hK] at sa' sb'; exact top_has HZ.out.1 sa' sb' HZ.out.2.2.2.1.sa HZ.out.2.2.2.1.sb))
    clear hask
    have HSS := hide (And.intro so (And.intro sa (And.intro sb (And.intro io1 (And.intro io2 (And.intro ia1 (And.intro ia2 (And.intro ib1 ib2))))))))
    clear ho1 ho2 ha1 ha2 hb1 hb2 so sa sb io1 io2 ia1 ia2 ib1 ib2 hHeld qd HCC HPS ho ha hb'
    obtain ⟨F, hF⟩ : ∃ F : ByteArray × Bool, F = f.part := ⟨_, rfl⟩
    obtain ⟨G, hG⟩ : ∃ G : ByteArray × Bool, G = gg.part := ⟨_, rfl⟩
    obtain ⟨H, hH⟩ : ∃ H : ByteArray × Bool, H = hh.part := ⟨_, rfl⟩
    rw [show f.val = F.1 from by rw [hF]; rfl, show f.isSome = F.2 from by rw [hF]; rfl, show gg.val = G.1 from by rw [hG]; rfl, show gg.isSome = G.2 from by rw [hG]; rfl, show hh.val = H.1 from by rw [hH]; rfl, show hh.isSome = H.2 from by rw [hH]; rfl]
    have HFGH := hide (And.intro hF (And.intro hG hH))
    clear hF hG hH
    obtain ⟨F1, F2⟩ := F
    obtain ⟨G1, G2⟩ := G
    obtain ⟨H1, H2⟩ := H
    dsimp only
    try simp only [Act.put, List.setIfInBounds_toArray, List.set_cons_zero, List.set_cons_succ]
    have qW : W.cell? ⟨w.heap.size, 0, none⟩ = some (.pointer po) ∧ W.cell? ⟨w.heap.size + 1, 0, none⟩ = some (.pointer pa) ∧ W.cell? ⟨w.heap.size + 1 + 1, 0, none⟩ = some (.pointer pb) ∧ Hid (Below w5.heap.size w5 W) := ⟨cell_stays q0.1 hbW, cell_stays q0.2.1 hbW, cell_stays q0.2.2.1 hbW, hide hbW⟩
    have e0 : W.cell? ⟨B9, 0, none⟩ = some (.pointer none) := (cell_of_row _ _ 0 _ 206 (0, 0) z9).trans rfl
    have y0 : W.frozen? ⟨B9, 0, none⟩ = false := frozen_of_row _ _ 0 _ 206 z9
    have e1 : W.cell? ⟨B9, 1, none⟩ = some (.pointer none) := (cell_of_row _ _ 1 _ 206 (0, 0) z9).trans rfl
    have y1 : W.frozen? ⟨B9, 1, none⟩ = false := frozen_of_row _ _ 1 _ 206 z9
    have e2 : W.cell? ⟨B9, 2, none⟩ = some (.string ⟨#[]⟩) := (cell_of_row _ _ 2 _ 206 (0, 0) z9).trans rfl
    have y2 : W.frozen? ⟨B9, 2, none⟩ = false := frozen_of_row _ _ 2 _ 206 z9
    have e3 : W.cell? ⟨B9, 3, none⟩ = some (.bool false) := (cell_of_row _ _ 3 _ 206 (0, 0) z9).trans rfl
    have y3 : W.frozen? ⟨B9, 3, none⟩ = false := frozen_of_row _ _ 3 _ 206 z9
    obtain ⟨x9, o9⟩ := set4 (.pointer po1) (.pointer po2) (.string F1) (.bool F2) z9
    obtain ⟨wa, hwa⟩ : ∃ wa, wa = ((((W.setCell ⟨B9, 0, none⟩ (.pointer po1)).setCell ⟨B9, 1, none⟩ (.pointer po2)).setCell ⟨B9, 2, none⟩ (.string F1)).setCell ⟨B9, 3, none⟩ (.bool F2)) := ⟨_, rfl⟩
    rw [← hwa] at x9 o9
    have qwa : wa.cell? ⟨w.heap.size, 0, none⟩ = some (.pointer po) ∧ wa.cell? ⟨w.heap.size + 1, 0, none⟩ = some (.pointer pa) ∧ wa.cell? ⟨w.heap.size + 1 + 1, 0, none⟩ = some (.pointer pb) ∧ Hid (Below w5.heap.size w5 wa) := ⟨o9.cell qW.1 (by simp; omega), o9.cell qW.2.1 (by simp; omega), o9.cell qW.2.2.1 (by simp; omega), hide (Below.only qW.2.2.2.out o9 qW.2.2.2.out.size (fun j e => by omega))⟩
    have z10wa := (o9.block B10 (Array.getElem?_eq_some_iff.1 z10).1 (fun e => by omega)).trans z10
    have z11wa := (o9.block B11 (Array.getElem?_eq_some_iff.1 z11).1 (fun e => by omega)).trans z11
    refine skip_op (i := 12) (OP := Op.store 206 (Operand.tmp 11) (Operand.tmp 42)) (T := 0) (w' := wa) rfl rfl rfl rfl (by kernel_rfl) (by rfl) (by rw [hwa]; go_simp) ⟨qwa, ?_⟩
    try simp only [Act.put, List.setIfInBounds_toArray, List.set_cons_zero, List.set_cons_succ]
    clear e0 e1 e2 e3 y0 y1 y2 y3 hwa
    have e0 : wa.cell? ⟨B10, 0, none⟩ = some (.pointer none) := (cell_of_row _ _ 0 _ 206 (0, 0) z10wa).trans rfl
    have y0 : wa.frozen? ⟨B10, 0, none⟩ = false := frozen_of_row _ _ 0 _ 206 z10wa
    have e1 : wa.cell? ⟨B10, 1, none⟩ = some (.pointer none) := (cell_of_row _ _ 1 _ 206 (0, 0) z10wa).trans rfl
    have y1 : wa.frozen? ⟨B10, 1, none⟩ = false := frozen_of_row _ _ 1 _ 206 z10wa
    have e2 : wa.cell? ⟨B10, 2, none⟩ = some (.string ⟨#[]⟩) := (cell_of_row _ _ 2 _ 206 (0, 0) z10wa).trans rfl
    have y2 : wa.frozen? ⟨B10, 2, none⟩ = false := frozen_of_row _ _ 2 _ 206 z10wa
    have e3 : wa.cell? ⟨B10, 3, none⟩ = some (.bool false) := (cell_of_row _ _ 3 _ 206 (0, 0) z10wa).trans rfl
    have y3 : wa.frozen? ⟨B10, 3, none⟩ = false := frozen_of_row _ _ 3 _ 206 z10wa
    obtain ⟨x10, o10⟩ := set4 (.pointer pa1) (.pointer pa2) (.string G1) (.bool G2) z10wa
    obtain ⟨wb, hwb⟩ : ∃ wb, wb = ((((wa.setCell ⟨B10, 0, none⟩ (.pointer pa1)).setCell ⟨B10, 1, none⟩ (.pointer pa2)).setCell ⟨B10, 2, none⟩ (.string G1)).setCell ⟨B10, 3, none⟩ (.bool G2)) := ⟨_, rfl⟩
    rw [← hwb] at x10 o10
    have qwb : wb.cell? ⟨w.heap.size, 0, none⟩ = some (.pointer po) ∧ wb.cell? ⟨w.heap.size + 1, 0, none⟩ = some (.pointer pa) ∧ wb.cell? ⟨w.heap.size + 1 + 1, 0, none⟩ = some (.pointer pb) ∧ Hid (Below w5.heap.size w5 wb) := ⟨o10.cell qwa.1 (by simp; omega), o10.cell qwa.2.1 (by simp; omega), o10.cell qwa.2.2.1 (by simp; omega), hide (Below.only qwa.2.2.2.out o10 qwa.2.2.2.out.size (fun j e => by omega))⟩
    have x9wb := (o10.block B9 (Array.getElem?_eq_some_iff.1 x9).1 (fun e => by omega)).trans x9
    have z11wawb := (o10.block B11 (Array.getElem?_eq_some_iff.1 z11wa).1 (fun e => by omega)).trans z11wa
    refine skip_op (i := 13) (OP := Op.store 206 (Operand.tmp 12) (Operand.tmp 45)) (T := 0) (w' := wb) rfl rfl rfl rfl (by kernel_rfl) (by rfl) (by rw [hwb]; go_simp) ⟨qwb, ?_⟩
    try simp only [Act.put, List.setIfInBounds_toArray, List.set_cons_zero, List.set_cons_succ]
    clear e0 e1 e2 e3 y0 y1 y2 y3 hwb
    have e0 : wb.cell? ⟨B11, 0, none⟩ = some (.pointer none) := (cell_of_row _ _ 0 _ 206 (0, 0) z11wawb).trans rfl
    have y0 : wb.frozen? ⟨B11, 0, none⟩ = false := frozen_of_row _ _ 0 _ 206 z11wawb
    have e1 : wb.cell? ⟨B11, 1, none⟩ = some (.pointer none) := (cell_of_row _ _ 1 _ 206 (0, 0) z11wawb).trans rfl
    have y1 : wb.frozen? ⟨B11, 1, none⟩ = false := frozen_of_row _ _ 1 _ 206 z11wawb
    have e2 : wb.cell? ⟨B11, 2, none⟩ = some (.string ⟨#[]⟩) := (cell_of_row _ _ 2 _ 206 (0, 0) z11wawb).trans rfl
    have y2 : wb.frozen? ⟨B11, 2, none⟩ = false := frozen_of_row _ _ 2 _ 206 z11wawb
    have e3 : wb.cell? ⟨B11, 3, none⟩ = some (.bool false) := (cell_of_row _ _ 3 _ 206 (0, 0) z11wawb).trans rfl
    have y3 : wb.frozen? ⟨B11, 3, none⟩ = false := frozen_of_row _ _ 3 _ 206 z11wawb
    obtain ⟨x11, o11⟩ := set4 (.pointer pb1) (.pointer pb2) (.string H1) (.bool H2) z11wawb
    obtain ⟨wc, hwc⟩ : ∃ wc, wc = ((((wb.setCell ⟨B11, 0, none⟩ (.pointer pb1)).setCell ⟨B11, 1, none⟩ (.pointer pb2)).setCell ⟨B11, 2, none⟩ (.string H1)).setCell ⟨B11, 3, none⟩ (.bool H2)) := ⟨_, rfl⟩
    rw [← hwc] at x11 o11
    have qwc : wc.cell? ⟨w.heap.size, 0, none⟩ = some (.pointer po) ∧ wc.cell? ⟨w.heap.size + 1, 0, none⟩ = some (.pointer pa) ∧ wc.cell? ⟨w.heap.size + 1 + 1, 0, none⟩ = some (.pointer pb) ∧ Hid (Below w5.heap.size w5 wc) := ⟨o11.cell qwb.1 (by simp; omega), o11.cell qwb.2.1 (by simp; omega), o11.cell qwb.2.2.1 (by simp; omega), hide (Below.only qwb.2.2.2.out o11 qwb.2.2.2.out.size (fun j e => by omega))⟩
    have x9wbwc := (o11.block B9 (Array.getElem?_eq_some_iff.1 x9wb).1 (fun e => by omega)).trans x9wb
    have x10wc := (o11.block B10 (Array.getElem?_eq_some_iff.1 x10).1 (fun e => by omega)).trans x10
    refine skip_op (i := 14) (OP := Op.store 206 (Operand.tmp 13) (Operand.tmp 48)) (T := 0) (w' := wc) rfl rfl rfl rfl (by kernel_rfl) (by rfl) (by rw [hwc]; go_simp) ⟨qwc, ?_⟩
    try simp only [Act.put, List.setIfInBounds_toArray, List.set_cons_zero, List.set_cons_succ]
    clear e0 e1 e2 e3 y0 y1 y2 y3 hwc
    refine wpAnyH_done (by kernel_rfl) ?_ _
    obtain ⟨n1, n2, n3, ht, _, _, hK, ho, ha, hb'⟩ := HZ.out
    obtain ⟨so, sa, sb, io1, io2, ia1, ia2, ib1, ib2⟩ := HSS.out
    obtain ⟨q0r, q1r, q2r, q3r, hg5, he5, hj5⟩ := HQ5.out
    have bwc := qwc.2.2.2.out
    have ty70 : ∀ (W' : World) (Bk : Nat) (cs : Array Value), W'.heap[Bk]? = some (.cells cs 206 (0, 0)) → ∀ j, j = Bk → ∀ o', W'.heap[j]? = some o' → ∃ cur e fr, o' = .cells cur e fr ∧ e ≠ 154 := fun W' Bk cs hr j e o' ho' => by
      subst e
      rw [hr] at ho'
      cases ho'
      exact ⟨_, _, _, rfl, by decide⟩
    have up : ∀ {s : T}, In W s → In wc s := fun {s} is => In.typed o11 (ty70 wb B11 _ z11wawb) (In.typed o10 (ty70 wa B10 _ z10wa) (In.typed o9 (ty70 W B9 _ z9) is))
    have hec := he5.below bwc
    have hjc := hru.below hj5 bwc
    have hgc : Goes B Tk w wc := hg5.trans (Goes.of bwc (Nat.le_trans hB hg5.low.size))
    have row3 := (bwc.block _ (Array.getElem?_eq_some_iff.1 q3r).1).trans q3r
    obtain ⟨tr1, tr2⟩ := Trio.sides (W' := wc) ht hR.none so sa sb (up io1) (up io2) (up ia1) (up ia2) (up ib1) (up ib2)
    have hcnt := cut_count n1 (by rw [← hK]; exact sa) (by rw [← hK]; exact sb) ht.sa ht.sb
    have hBc : B ≤ wc.heap.size := Nat.le_trans hB hgc.low.size
    have hI1 := IH.out (a1.n + b1'.n) (by omega) o1 a1 b1' wc ks (x + 1) y z (Nat.le_refl _) (by omega) (by omega) hy0 (by omega) (by omega) tr1 HASK.out.1 hec hjc hBc
    rw [mv_ptr HPP.out.1, mv_ptr HPP.out.2.2.1, mv_ptr HPP.out.2.2.2.2.1] at hI1
    have cR : wc.cell? ⟨Rn, 0, none⟩ = some (.func (.func 182) #[] #[.pointer (some ⟨Tk, 0, none⟩), .pointer (some ⟨Rn, 0, none⟩), .pointer (some ⟨Ru, 0, none⟩)]) := (cell_of_row _ _ 0 _ 201 (0, 0) hec.run).trans rfl
    have d9 : wc.cell? ⟨B9, 0, none⟩ = some (.pointer po1) := (cell_of_row _ _ 0 _ 206 (0, 0) x9wbwc).trans rfl
    have d10 : wc.cell? ⟨B10, 0, none⟩ = some (.pointer pa1) := (cell_of_row _ _ 0 _ 206 (0, 0) x10wc).trans rfl
    have d11 : wc.cell? ⟨B11, 0, none⟩ = some (.pointer pb1) := (cell_of_row _ _ 0 _ 206 (0, 0) x11).trans rfl
    have HCc := hide (And.intro hgc (And.intro row3 (And.intro tr2 (And.intro hcnt (And.intro tr1 (And.intro x9wbwc (And.intro x10wc x11)))))))
    clear q0r q1r q2r q3r hg5 he5 hj5 bwc ty70 up hec hjc hgc row3 tr1 tr2 so sa sb io1 io2 ia1 ia2 ib1 ib2 hcnt ho ha hb' hK n1 n2 n3 qW qwa qwb qwc x9wbwc x10wc x11 x9wb x10 x9 o9 o10 o11 z9 z10 z11 z10wa z11wa z11wawb q0 ht
    go_upto_region 11 with (go_at_call 182; refine hI1.mono ?_; rintro e w7 ⟨t1, ks1, he, hrun1, it1, hj7, he7, hg7⟩; obtain ⟨p1, hp1⟩ := t1.ptr_shape; rw [mv_ptr hp1] at he; subst he; have H7 := hide (And.intro hp1 (And.intro hrun1 (And.intro it1 (And.intro hj7 (And.intro he7 hg7))))); clear hp1 hrun1 it1 hj7 he7 hg7; dsimp only)
    obtain ⟨hp1, hrun1, it1, hj7, he7, hg7⟩ := H7.out
    obtain ⟨hgc, row3, tr2, hcnt, tr1, x9, x10, x11⟩ := HCc.out
    have sy1 := hrun1.says hR tr1.so tr1.sa tr1.sb tr1.bo tr1.ba tr1.bb tr1.vo tr1.va tr1.vb
    have hf1 := sy1.few
    have bal8 : Below w7.heap.size w7 (w7.alloc (.cells #[.pointer p1] 27)) := (Below.refl _ w7).alloc (Nat.le_refl _) _
    obtain ⟨w8, hw8⟩ : ∃ w8, w8 = w7.alloc (.cells #[.pointer p1] 27) := ⟨_, rfl⟩
    have r14 : w8.heap[w7.heap.size]? = some (.cells #[.pointer p1] 27 (0, 0)) := by rw [hw8]; exact heap_alloc_new w7 _
    rw [← hw8] at bal8 ⊢
    have hBw7 : B ≤ w7.heap.size := Nat.le_trans hBc hg7.low.size
    have g8 : Goes B Tk wc w8 := hg7.trans (Goes.of bal8 hBw7)
    have tr2' := tr2.goes g8
    have hBw8 : B ≤ w8.heap.size := Nat.le_trans hBc g8.low.size
    obtain ⟨L1, hL1⟩ : ∃ L1 : Int, L1 = (ks1.length : Int) := ⟨_, rfl⟩
    have hI2 := IH.out (a2.n + b2'.n) (by omega) o2 a2 b2' w8 (ks ++ ks1) (x + 1 + ks1.length) (y + ks1.length) z (Nat.le_refl _) (by omega) (by omega) (by omega) (by omega) (by rw [List.length_append]; omega) tr2' HASK.out.2 (he7.below bal8) (hru.below hj7 bal8) hBw8
    rw [mv_ptr HPP.out.2.1, mv_ptr HPP.out.2.2.2.1, mv_ptr HPP.out.2.2.2.2.2] at hI2
    have e8 := he7.below bal8
    have cR : w8.cell? ⟨Rn, 0, none⟩ = some (.func (.func 182) #[] #[.pointer (some ⟨Tk, 0, none⟩), .pointer (some ⟨Rn, 0, none⟩), .pointer (some ⟨Ru, 0, none⟩)]) := (cell_of_row _ _ 0 _ 201 (0, 0) e8.run).trans rfl
    have k70 : keepTy 206 := by unfold keepTy; decide
    have k29 : keepTy 27 := by unfold keepTy; decide
    have d9 : w8.cell? ⟨B9, 1, none⟩ = some (.pointer po2) := (cell_of_row _ _ 1 _ 206 (0, 0) (g8.own _ _ _ _ x9 k70)).trans rfl
    have d10 : w8.cell? ⟨B10, 1, none⟩ = some (.pointer pa2) := (cell_of_row _ _ 1 _ 206 (0, 0) (g8.own _ _ _ _ x10 k70)).trans rfl
    have d11 : w8.cell? ⟨B11, 1, none⟩ = some (.pointer pb2) := (cell_of_row _ _ 1 _ 206 (0, 0) (g8.own _ _ _ _ x11 k70)).trans rfl
    have HC8 := hide (And.intro (hgc.trans g8) (And.intro (g8.own _ _ _ _ row3 k29) (And.intro (g8.own _ _ _ _ x9 k70) (And.intro (g8.own _ _ _ _ x10 k70) (And.intro (g8.own _ _ _ _ x11 k70) (And.intro r14 (And.intro (In.below bal8 it1) (And.intro sy1 (And.intro hp1 (And.intro (hrun1.mono hgc.low.size) (And.intro tr2' hcnt)))))))))))
    clear hp1 hrun1 it1 hj7 he7 hg7 hgc row3 tr2 hcnt tr1 x9 x10 x11 sy1 hf1 bal8 hw8 r14 hBw7 g8 tr2' e8 k70 k29 hI1 hL1
    go_upto_region 12 with (go_at_call 182; refine hI2.mono ?_; rintro e w9 ⟨t2', ks2, he, hrun2, it2, hj9, he9, hg9⟩; obtain ⟨p2, hp2⟩ := t2'.ptr_shape; rw [mv_ptr hp2] at he; subst he; have H9 := hide (And.intro hp2 (And.intro hrun2 (And.intro it2 (And.intro hj9 (And.intro he9 hg9))))); clear hp2 hrun2 it2 hj9 he9 hg9; dsimp only)
    obtain ⟨hp2, hrun2, it2, hj9, he9, hg9⟩ := H9.out
    obtain ⟨hg8, row3, x9, x10, x11, r14, it1, sy1, hp1, hrun1, tr2, hcnt⟩ := HC8.out
    have sy2 := hrun2.says hR tr2.so tr2.sa tr2.sb tr2.bo tr2.ba tr2.bb tr2.vo tr2.va tr2.vb
    have hf1 := sy1.few
    have hf2 := sy2.few
    have bal10 : Below w9.heap.size w9 (w9.alloc (.cells #[.pointer p2] 27)) := (Below.refl _ w9).alloc (Nat.le_refl _) _
    obtain ⟨w10, hw10⟩ : ∃ w10, w10 = w9.alloc (.cells #[.pointer p2] 27) := ⟨_, rfl⟩
    have r15 : w10.heap[w9.heap.size]? = some (.cells #[.pointer p2] 27 (0, 0)) := by rw [hw10]; exact heap_alloc_new w9 _
    rw [← hw10] at bal10 ⊢
    have hBw9 : B ≤ w9.heap.size := Nat.le_trans hBw8 hg9.low.size
    have g10 : Goes B Tk w8 w10 := hg9.trans (Goes.of bal10 hBw9)
    have e10 := he9.below bal10
    have j10 := hru.below hj9 bal10
    obtain ⟨X, hX⟩ : ∃ X : Int, X = x + 1 + ks1.length + ks2.length := ⟨_, rfl⟩
    obtain ⟨Y, hY⟩ : ∃ Y : Int, Y = y + ks1.length + ks2.length := ⟨_, rfl⟩
    rw [← hX, ← hY] at e10
    have k1 : w10.cell? ⟨Tk, 1, none⟩ = some (.int .i64 Y) := (cell_of_row _ _ 1 _ 130 (0, 0) e10.took).trans rfl
    have f1 : w10.frozen? ⟨Tk, 1, none⟩ = false := frozen_of_row _ _ 1 _ 130 e10.took
    have wy : IntKind.i64.wrap (Y + 1) = Y + 1 := by rw [IntKind.wrap_i64]; omega
    have g11 : Goes B Tk w10 (w10.setCell ⟨Tk, 1, none⟩ (.int .i64 (Y + 1))) := Goes.set _ e10.took hTk (by unfold keepTy; decide)
    obtain ⟨u11, o11'⟩ := set_one (i := 1) (.int .i64 (Y + 1)) e10.took
    have j11 : J (ks ++ ks1 ++ ks2) (w10.setCell ⟨Tk, 1, none⟩ (.int .i64 (Y + 1))) := hru.set j10 o11' hTk e10.took
    obtain ⟨w11, hw11⟩ : ∃ w11, w11 = w10.setCell ⟨Tk, 1, none⟩ (.int .i64 (Y + 1)) := ⟨_, rfl⟩
    rw [← hw11] at g11 u11 j11
    have HXY := hide (And.intro hX hY)
    have k70 : keepTy 206 := by unfold keepTy; decide
    have k29 : keepTy 27 := by unfold keepTy; decide
    have ga := g10.trans g11
    have he11 : REnv w11 Tk Rn Ru (.func (.func g) #[] caps) X (Y + 1) z := ⟨g11.own _ _ _ _ e10.run (by unfold keepTy; decide), g11.own _ _ _ _ e10.rule (by unfold keepTy; decide), by simpa using u11⟩
    have HD := hide (And.intro (hg8.trans ga) (And.intro (ga.own _ _ _ _ row3 k29) (And.intro (ga.own _ _ _ _ x9 k70) (And.intro (ga.own _ _ _ _ x10 k70) (And.intro (ga.own _ _ _ _ x11 k70) (And.intro (ga.own _ _ _ _ r14 k29) (And.intro (g11.own _ _ _ _ r15 k29) (And.intro (In.goes ga it1) (And.intro (In.goes g11 (In.below bal10 it2)) (And.intro sy1 (And.intro sy2 (And.intro hp1 (And.intro hp2 (And.intro hrun1 (And.intro (hrun2.mono hg8.low.size) (And.intro hcnt (And.intro he11 j11)))))))))))))))))
    clear hp2 hrun2 it2 hj9 he9 hg9 hg8 row3 x9 x10 x11 r14 it1 sy1 hp1 hrun1 tr2 hcnt sy2 hf1 hf2 bal10 hw10 r15 hBw9 g10 e10 j10 hX hY g11 u11 o11' j11 k70 k29 ga he11 hI2 d9 d10 d11 cR
    go_upto_region 13 with (fail)
    rw [← hw11]
    clear hw11 k1 f1 wy
    obtain ⟨hgD, row3, x9, x10, x11, r14, r15, it1, it2, sy1, sy2, hp1, hp2, hrun1, hrun2, hcnt, he11, j11⟩ := HD.out
    have cU : w11.cell? ⟨Ru, 0, none⟩ = some (.func (.func g) #[] caps) := (cell_of_row _ _ 0 _ 173 (0, 0) he11.rule).trans rfl
    have d92 : w11.cell? ⟨B9, 2, none⟩ = some (.string F1) := (cell_of_row _ _ 2 _ 206 (0, 0) x9).trans rfl
    have d93 : w11.cell? ⟨B9, 3, none⟩ = some (.bool F2) := (cell_of_row _ _ 3 _ 206 (0, 0) x9).trans rfl
    have d102 : w11.cell? ⟨B10, 2, none⟩ = some (.string G1) := (cell_of_row _ _ 2 _ 206 (0, 0) x10).trans rfl
    have d103 : w11.cell? ⟨B10, 3, none⟩ = some (.bool G2) := (cell_of_row _ _ 3 _ 206 (0, 0) x10).trans rfl
    have d112 : w11.cell? ⟨B11, 2, none⟩ = some (.string H1) := (cell_of_row _ _ 2 _ 206 (0, 0) x11).trans rfl
    have d113 : w11.cell? ⟨B11, 3, none⟩ = some (.bool H2) := (cell_of_row _ _ 3 _ 206 (0, 0) x11).trans rfl
    have hc := hru.call w11 (ks ++ ks1 ++ ks2) K (F1, F2) (G1, G2) (H1, H2) (Nat.le_trans hB hgD.low.size) (by have h := HTOP.out; obtain ⟨hF, hG, hH⟩ := HFGH.out; rw [hF, hG, hH]; exact h) (by have f1 := sy1.few; have f2 := sy2.few; rw [List.length_append, List.length_append]; omega) j11
    unfold pv at hc
    dsimp only at hc
    clear hgD row3 x9 x10 x11 r14 r15 it1 it2 sy1 sy2 hp1 hp2 hrun1 hrun2 hcnt he11 j11
    have heg := hru.enter
    go_upto_region 14 with (fail)
    try rw [heg]
    show Calls Tryz.prog g _ w11 _
    refine hc.mono ?_
    rintro e w12 ⟨⟨v, rfl, hv⟩, j12, g12, tk12⟩
    have HG12 := hide (And.intro j12 (And.intro g12 tk12))
    obtain ⟨rv, rb, hvr⟩ : ∃ v rb, R K (F1, F2) (G1, G2) (H1, H2) = (v, rb) := ⟨_, _, rfl⟩
    rw [hvr] at hv ⊢
    have HVR := hide (And.intro hvr hv)
    clear j12 g12 tk12 hc heg cU d92 d93 d102 d103 d112 d113 hvr hv
    dsimp only
    obtain ⟨hgD, row3, x9, x10, x11, r14, r15, it1, it2, sy1, sy2, hp1, hp2, hrun1, hrun2, hcnt, he11, j11⟩ := HD.out
    obtain ⟨j12, g12, tk12⟩ := HG12.out
    obtain ⟨n1, n2, n3, ht, _, _, hK, _, _, _⟩ := HZ.out
    obtain ⟨so, sa, sb, _⟩ := HSS.out
    have k29 : keepTy 27 := by unfold keepTy; decide
    have m : Mid R K o a b f gg hh t1 t2' ks1 ks2 := by rw [hK]; rw [hK] at so sa sb; exact Runs.mid n1 so sa sb ht.so ht.sa ht.sb sy1 sy2
    have row3' := g12.own _ _ _ _ row3 k29
    have r14' := g12.own _ _ _ _ r14 k29
    have r15' := g12.own _ _ _ _ r15 k29
    have c14 : w12.cell? ⟨w7.heap.size, 0, none⟩ = some (.pointer p1) := (cell_of_row _ _ 0 _ 27 (0, 0) r14').trans rfl
    have c15 : w12.cell? ⟨w9.heap.size, 0, none⟩ = some (.pointer p2) := (cell_of_row _ _ 0 _ 27 (0, 0) r15').trans rfl
    have e12 : REnv w12 Tk Rn Ru (.func (.func g) #[] caps) X (Y + 1) z := ⟨g12.own _ _ _ _ he11.run (by unfold keepTy; decide), g12.own _ _ _ _ he11.rule (by unfold keepTy; decide), tk12 _ _ he11.took⟩
    have hgE := hgD.trans g12
    have hm1 := m.tn
    have fin : ∀ (W : World) (t : T) (pt : Option Addr), Below w12.heap.size w12 W → t.ptr = .pointer pt → In W t → (W.setCell ⟨w.heap.size + 1 + 1 + 1, 0, none⟩ (.pointer pt)).heap[w.heap.size + 1 + 1 + 1]? = some (.cells #[.pointer pt] 27 (0, 0)) ∧ In (W.setCell ⟨w.heap.size + 1 + 1 + 1, 0, none⟩ (.pointer pt)) t ∧ J (ks ++ ks1 ++ ks2 ++ [K]) (W.setCell ⟨w.heap.size + 1 + 1 + 1, 0, none⟩ (.pointer pt)) ∧ REnv (W.setCell ⟨w.heap.size + 1 + 1 + 1, 0, none⟩ (.pointer pt)) Tk Rn Ru (.func (.func g) #[] caps) X (Y + 1) z ∧ Goes B Tk w (W.setCell ⟨w.heap.size + 1 + 1 + 1, 0, none⟩ (.pointer pt)) ∧ W.cell? ⟨w.heap.size + 1 + 1 + 1, 0, none⟩ = some (.pointer none) ∧ W.frozen? ⟨w.heap.size + 1 + 1 + 1, 0, none⟩ = false := fun W t pt hW hpt it => by
      have rw3 := (hW.block _ (Array.getElem?_eq_some_iff.1 row3').1).trans row3'
      obtain ⟨u1, u2⟩ := set_one (i := 0) (.pointer pt) rw3
      have hgW := hgE.trans (Goes.of hW (Nat.le_trans hB hgE.low.size))
      exact ⟨by simpa using u1, In.aside rw3 u2 it, hru.box (hru.below j12 hW) rw3 u2 (by omega), (e12.below hW).box rw3 u2, hgW.later u2 (by omega) (by omega) (Nat.le_trans hB hgW.low.size), (cell_of_row _ _ 0 _ 27 (0, 0) rw3).trans rfl, frozen_of_row _ _ 0 _ 27 rw3⟩
    have cJ : Calls Tryz.prog 185 #[.agg #[.pointer p1], .string K, .string v, .agg #[.pointer p2]] w12 fun e w' => ∃ t pt, e = .returned (.agg #[.pointer pt]) ∧ t.ptr = .pointer pt ∧ Joined w.heap.size K v t1 t2' t ∧ In w' t ∧ Below w12.heap.size w12 w' := by
      have := joined_any t1 t2' K v w12 (In.goes g12 it1) (In.goes g12 it2) ((fits_is m.s1 m.s2).2 ⟨m.less, m.more⟩) (by omega)
      rw [mv_ptr hp1, mv_ptr hp2] at this
      refine this.mono ?_
      rintro e w' ⟨t, he, hjj, it, hbl⟩
      obtain ⟨pt, hpt⟩ := t.ptr_shape
      exact ⟨t, pt, by rw [he, mv_ptr hpt], hpt, hjj.mono hgE.low.size, it, hbl⟩
    have cC : Calls Tryz.prog 186 #[.agg #[.pointer p1], .agg #[.pointer p2]] w12 fun e w' => ∃ t pt, e = .returned (.agg #[.pointer pt]) ∧ t.ptr = .pointer pt ∧ Closes w.heap.size t1 t2' t ∧ (t1.bal → t2'.bal → t.bal) ∧ In w' t ∧ Below w12.heap.size w12 w' := by
      have := closed_any t1 t2' w12 (In.goes g12 it1) (In.goes g12 it2) (List.pairwise_append.2 ⟨m.s1, m.s2, fun x' hx' y' hy' => ord_B.trans _ _ _ (m.less x' hx') (m.more y' hy')⟩) (by omega)
      rw [mv_ptr hp1, mv_ptr hp2] at this
      refine this.mono ?_
      rintro e w' ⟨t, he, hcc, hbb, it, hbl⟩
      obtain ⟨pt, hpt⟩ := t.ptr_shape
      exact ⟨t, pt, by rw [he, mv_ptr hpt], hpt, hcc.mono hgE.low.size, hbb, it, hbl⟩
    have HFIN := hide fin
    have HRR := hide (And.intro hrun1 hrun2)
    clear hgD row3 x9 x10 x11 r14 r15 it1 it2 sy1 sy2 hp1 hp2 hrun1 hrun2 hcnt he11 j11 j12 g12 tk12 n1 n2 n3 ht hK so sa sb k29 m row3' r14' r15' e12 hgE hm1 fin
    have wrap : ∀ (t : T) (W : World) (pt : Option Addr), Runs w.heap.size R o a b t (ks1 ++ ks2 ++ [K]) → t.ptr = .pointer pt → In W t → J (ks ++ ks1 ++ ks2 ++ [K]) W → REnv W Tk Rn Ru (.func (.func g) #[] caps) X (Y + 1) z → Goes B Tk w W → ∃ t' ks', Ending.returned (.agg #[.pointer pt]) = Ending.returned (mv t') ∧ Runs w.heap.size R o a b t' ks' ∧ In W t' ∧ J (ks ++ ks') W ∧ REnv W Tk Rn Ru (.func (.func g) #[] caps) (x + ks'.length) (y + ks'.length) z ∧ Goes B Tk w W := fun t W pt h1 h2 h3 h4 h5 h6 => by
      refine ⟨t, ks1 ++ ks2 ++ [K], by rw [mv_ptr h2], h1, h3, by rw [← List.append_assoc, ← List.append_assoc]; exact h4, ?_, h6⟩
      have e1 : x + ((ks1 ++ ks2 ++ [K]).length : Nat) = X := by rw [HXY.out.1]; simp; omega
      have e2 : y + ((ks1 ++ ks2 ++ [K]).length : Nat) = Y + 1 := by rw [HXY.out.2]; simp; omega
      rw [e1, e2]
      exact h5
    have HW := hide wrap
    clear wrap
    cases rb with
    | true =>
      clear cC
      go_upto_region 15 with (fail)
      go_wp2_with (go_at_call 185; refine cJ.mono ?_; rintro e w13 ⟨t, pt, rfl, hpt, hjj, it, b13⟩; obtain ⟨y1, y2, y3, y4, y5, y6, y7⟩ := HFIN.out w13 t pt b13 hpt it; have HY := hide (And.intro y1 (And.intro y2 (And.intro y3 (And.intro y4 (And.intro y5 (And.intro hpt hjj)))))); clear y1 y2 y3 y4 y5 hpt hjj it b13; dsimp only)
      refine ret_row (w.heap.size + 1 + 1 + 1) [.pointer pt] rfl rfl Tryz.underlying27 rfl Tryz.info27 HY.out.1 rfl ?_
      obtain ⟨y1, y2, y3, y4, y5, hpt, hjj⟩ := HY.out
      obtain ⟨n1, n2, n3, ht, _, _, hK, _, _, _⟩ := HZ.out
      obtain ⟨so, sa, sb, _⟩ := HSS.out
      obtain ⟨hF, hG, hH⟩ := HFGH.out
      suffices hx : Runs w.heap.size R o a b t (ks1 ++ ks2 ++ [K]) by
        have hfin := HW.out t _ pt hx hpt y2 y3 y4 y5
        first
          | exact hfin
          | (obtain ⟨t9, ks9, u1, u2⟩ := hfin; exact ⟨t9, u1, ks9, u2⟩)
      obtain ⟨hvr, hv⟩ := HVR.out
      rw [← hv (by first | rfl | trivial)] at hvr
      rw [hF, hG, hH] at hvr
      rw [hK] at so sa sb hjj hvr ⊢
      exact .joins n1 n2 n3 so sa sb HRR.out.1 HRR.out.2 hvr hjj
    | false =>
      clear cJ
      go_upto_region 16 with (fail)
      go_wp2_with (go_at_call 186; refine cC.mono ?_; rintro e w13 ⟨t, pt, rfl, hpt, hjj, hbb, it, b13⟩; obtain ⟨y1, y2, y3, y4, y5, y6, y7⟩ := HFIN.out w13 t pt b13 hpt it; have HY := hide (And.intro y1 (And.intro y2 (And.intro y3 (And.intro y4 (And.intro y5 (And.intro hpt (And.intro hjj hbb))))))); clear y1 y2 y3 y4 y5 hpt hjj hbb it b13; dsimp only)
      refine ret_row (w.heap.size + 1 + 1 + 1) [.pointer pt] rfl rfl Tryz.underlying27 rfl Tryz.info27 HY.out.1 rfl ?_
      obtain ⟨y1, y2, y3, y4, y5, hpt, hjj, hbb⟩ := HY.out
      obtain ⟨n1, n2, n3, ht, _, _, hK, _, _, _⟩ := HZ.out
      obtain ⟨so, sa, sb, _⟩ := HSS.out
      obtain ⟨hF, hG, hH⟩ := HFGH.out
      suffices hx : Runs w.heap.size R o a b t (ks1 ++ ks2 ++ [K]) by
        have hfin := HW.out t _ pt hx hpt y2 y3 y4 y5
        first
          | exact hfin
          | (obtain ⟨t9, ks9, u1, u2⟩ := hfin; exact ⟨t9, u1, ks9, u2⟩)
      obtain ⟨hvr, -⟩ := HVR.out
      rw [hF, hG, hH] at hvr
      rw [hK] at so sa sb hvr ⊢
      exact .closes n1 n2 n3 so sa sb HRR.out.1 HRR.out.2 hvr hjj hbb
end Go.Proofs.YtkeldhohilmdcaaGreat.Pm
namespace Go.Proofs.YtkeldhohilmdcaaGreat.Pm
open Go.RowKit Go.Shelf
set_option linter.unusedSimpArgs false

/-- How many nodes of a map are none of those maps', as the program counts them. -/
def madeIn (os : List T) : T → Nat
  | .nil => 0
  | .node p k v l r => if os.any (fun o => decide (o.find k = .node p k v l r)) then 0 else madeIn os l + 1 + madeIn os r
theorem madeIn_le (os : List T) : ∀ t : T, madeIn os t ≤ t.n
  | .nil => Nat.le_refl _
  | .node p k v l r => by
    have h1 := madeIn_le os l
    have h2 := madeIn_le os r
    rw [madeIn]
    simp only [T.n]
    split <;> omega
/-- What the closure has. -/
structure MEnv (W : World) (Of Cn : Nat) (os : List T) : Prop where
  f : W.cell? ⟨Cn, 0, none⟩ = some (.func (.func 206) #[] #[.pointer (some ⟨Of, 0, none⟩), .pointer (some ⟨Cn, 0, none⟩)])
  ex : ∃ sb so cap, W.cell? ⟨Of, 0, none⟩ = some (.slice (some ⟨sb, so, none⟩) os.length cap) ∧ ∀ (i : Nat) (o : T), os[i]? = some o → W.cell? ⟨sb, so + i, none⟩ = some o.ptr
  ins : ∀ o ∈ os, In W o
theorem MEnv.below {W W' : World} {Of Cn : Nat} {os : List T} (h : MEnv W Of Cn os) (hb : Below W.heap.size W W') : MEnv W' Of Cn os := by
  obtain ⟨sb, so, cap, h1, h2⟩ := h.ex
  exact ⟨cell_stays h.f hb, ⟨sb, so, cap, cell_stays h1 hb, fun i o ho => cell_stays (h2 i o ho) hb⟩, fun o ho => In.below hb (h.ins o ho)⟩
set_option maxHeartbeats 8000000 in
set_option maxRecDepth 100000 in
theorem made55_any (Of Cn : Nat) (os : List T) (hos : os.length ≤ 1000) : ∀ (t : T) (w : World), In w t → t.n ≤ 100000 → MEnv w Of Cn os → Calls Tryz.prog 206 #[t.ptr, .pointer (some ⟨Of, 0, none⟩), .pointer (some ⟨Cn, 0, none⟩)] w fun e w' => e = .returned (.int .i64 (madeIn os t : Nat)) ∧ Below w.heap.size w w'
  | .nil, w, _, _, _ => by
    simp only [T.ptr, madeIn]
    go_enter Tryz.func206, Tryz.ntmps206
    go_wp2
    go_ret
    exact ⟨rfl, Below.refl _ _⟩
  | .node p k v l r, w, it, hn, he => by
    have hnl : l.n + r.n + 1 = (T.node p k v l r).n := by simp [T.n]
    obtain ⟨pl, hpl⟩ := l.ptr_shape
    obtain ⟨pr, hpr⟩ := r.ptr_shape
    have ls : ∀ W, Below w.heap.size w W → Calls Tryz.prog 157 #[.pointer (some ⟨p, 0, none⟩)] W fun e w' => e = .returned (.pointer pl) ∧ Below W.heap.size W w' := fun W hW => by
      have := left_any (.node p k v l r) W (In.below hW it)
      rw [show (T.node p k v l r).left.ptr = .pointer pl from hpl] at this
      exact this.mono fun e w' ⟨h1, h2⟩ => ⟨h1, by rw [h2]; exact Below.refl _ _⟩
    have rs : ∀ W, Below w.heap.size w W → Calls Tryz.prog 154 #[.pointer (some ⟨p, 0, none⟩)] W fun e w' => e = .returned (.pointer pr) ∧ Below W.heap.size W w' := fun W hW => by
      have := right_any (.node p k v l r) W (In.below hW it)
      rw [show (T.node p k v l r).right.ptr = .pointer pr from hpr] at this
      exact this.mono fun e w' ⟨h1, h2⟩ => ⟨h1, by rw [h2]; exact Below.refl _ _⟩
    have HL : Hid (∀ W, Below w.heap.size w W → Calls Tryz.prog 206 #[.pointer pl, .pointer (some ⟨Of, 0, none⟩), .pointer (some ⟨Cn, 0, none⟩)] W fun e w' => e = .returned (.int .i64 (madeIn os l : Nat)) ∧ Below W.heap.size W w') := hide (fun W hW => by
      have := made55_any Of Cn os hos l W (In.below hW it.2.1) (by omega) (he.below hW)
      rw [hpl] at this
      exact this)
    have HR : Hid (∀ W, Below w.heap.size w W → Calls Tryz.prog 206 #[.pointer pr, .pointer (some ⟨Of, 0, none⟩), .pointer (some ⟨Cn, 0, none⟩)] W fun e w' => e = .returned (.int .i64 (madeIn os r : Nat)) ∧ Below W.heap.size W w') := hide (fun W hW => by
      have := made55_any Of Cn os hos r W (In.below hW it.2.2) (by omega) (he.below hW)
      rw [hpr] at this
      exact this)
    have st : ∀ (o : T) (po : Option Addr) (W : World), Below w.heap.size w W → o ∈ os → o.ptr = .pointer po → Calls Tryz.prog 207 #[.pointer (some ⟨p, 0, none⟩), .agg #[.pointer po]] W fun e w' => e = .returned (.bool (decide (o.find k = .node p k v l r))) ∧ Below W.heap.size W w' := fun o po W hW ho hpo => by
      have := stands_any (.node p k v l r) o W (In.below hW it) (In.below hW (he.ins o ho))
      rw [mv_ptr hpo] at this
      exact this
    obtain ⟨sb, so, cap, cs, ce⟩ := he.ex
    have cf := he.f
    have hml := madeIn_le os l
    have hmr := madeIn_le os r
    have HV := hide (show madeIn os (.node p k v l r) = if os.any (fun o => decide (o.find k = .node p k v l r)) then 0 else madeIn os l + 1 + madeIn os r from rfl)
    obtain ⟨L, hLe⟩ : ∃ L, L = os.length := ⟨_, rfl⟩
    rw [← hLe] at cs hos
    have HLE := hide hLe
    have HCE := hide ce
    have HST := hide st
    simp only [T.ptr]
    clear it he ce st hLe hpl hpr
    generalize madeIn os l = ML at *
    generalize madeIn os r = MR at *
    go_enter Tryz.func206, Tryz.ntmps206
    go_wp2
    go_loopw [11] (fun v11 wr => ∃ i : Nat, i ≤ L ∧ v11 = .int .i64 i ∧ Hid ((os.take i).any (fun o => decide (o.find k = .node p k v l r)) = false ∧ Below w.heap.size w wr)) (fun v11 _ => L - (intOf v11).toNat)
    case atStart => exact ⟨0, by omega, rfl, hide ⟨rfl, Below.refl _ _⟩⟩
    case round =>
      obtain ⟨i, hi, rfl, HH⟩ := hrel
      by_cases hiL : i < L
      · have y1 : (i : Int) < (L : Int) := by omega
        have hlt : i < os.length := by rw [← HLE.out]; exact hiL
        obtain ⟨oo, hoo⟩ : ∃ oo, os[i]? = some oo := ⟨os[i], List.getElem?_eq_getElem hlt⟩
        obtain ⟨po, hpo⟩ := oo.ptr_shape
        have ce := cell_stays (HCE.out i oo hoo) HH.out.2
        rw [hpo] at ce
        have bal : Below wr.heap.size wr (wr.alloc (.cells #[.pointer po] 27)) := (Below.refl _ wr).alloc (Nat.le_refl _) _
        have bw := HH.out.2.trans (bal.mono HH.out.2.size)
        have cst := HST.out oo po _ bw (List.mem_of_getElem? hoo) hpo
        have htk : os.take (i + 1) = os.take i ++ [oo] := by rw [List.take_add_one, hoo]; rfl
        have HX := hide (And.intro bw htk)
        cases hD : decide (oo.find k = .node p k v l r) with
        | true =>
          rw [hD] at cst
          have HD := hide (And.intro hD hoo)
          clear hD htk bw hoo hpo bal
          go_wp2_with (go_at_call 207; refine cst.mono ?_; rintro e w1 ⟨rfl, b1⟩; dsimp only)
          go_ret
          refine ⟨?_, HX.out.1.trans (b1.mono HX.out.1.size)⟩
          have : os.any (fun o => decide (o.find k = .node p k v l r)) = true := List.any_eq_true.2 ⟨oo, List.mem_of_getElem? HD.out.2, HD.out.1⟩
          rw [HV.out, this]
          rfl
        | false =>
          rw [hD] at cst
          have HD := hide (And.intro hD hoo)
          clear hD htk bw hoo hpo bal
          go_wp2_with (go_at_call 207; refine cst.mono ?_; rintro e w1 ⟨rfl, b1⟩; replace b1 := hide b1; dsimp only)
          go_roundw
          case rel => exact ⟨i + 1, by omega, by go_num, hide ⟨by rw [HX.out.2, List.any_append, HH.out.1]; simpa using HD.out.1, HX.out.1.trans (b1.out.mono HX.out.1.size)⟩⟩
          case measure => simp [intOf]; omega
      · have ei : i = L := by omega
        subst ei
        have y1 : decide ((i : Int) < (i : Int)) = false := by simp
        have wA : IntKind.i64.wrap ((ML : Int) + 1) = (ML : Int) + 1 := by rw [IntKind.wrap_i64]; omega
        have wB : IntKind.i64.wrap ((ML : Int) + 1 + (MR : Int)) = (ML : Int) + 1 + (MR : Int) := by rw [IntKind.wrap_i64]; omega
        have q0 : wr.cell? ⟨Cn, 0, none⟩ = some (.func (.func 206) #[] #[.pointer (some ⟨Of, 0, none⟩), .pointer (some ⟨Cn, 0, none⟩)]) ∧ Hid (Below w.heap.size w wr) := ⟨cell_stays cf HH.out.2, hide HH.out.2⟩
        have hany : os.any (fun o => decide (o.find k = .node p k v l r)) = false := by have := HH.out.1; rw [HLE.out, List.take_length] at this; exact this
        have HA := hide hany
        clear hany
        go_upto_region 9 with (fail)
        have qd : wr.drew.cell? ⟨Cn, 0, none⟩ = some (.func (.func 206) #[] #[.pointer (some ⟨Of, 0, none⟩), .pointer (some ⟨Cn, 0, none⟩)]) ∧ Hid (Below w.heap.size w wr.drew) := ⟨q0.1, hide (q0.2.out.trans ((drew_below wr).mono q0.2.out.size))⟩
        refine wp_region_held_drew (S := (fun w' => w'.cell? ⟨Cn, 0, none⟩ = some (.func (.func 206) #[] #[.pointer (some ⟨Of, 0, none⟩), .pointer (some ⟨Cn, 0, none⟩)]) ∧ Hid (Below w.heap.size w w'))) (by kernel_rfl) qd (fun hHeld => ?_)
        try dsimp only at hHeld
        refine take_op (i := 0) (d := 19) (OP := Op.load 159 (Operand.tmp 2)) (T := 159) (v := ?vzz1) rfl rfl rfl rfl (by kernel_rfl) (by kernel_rfl) (by kernel_rfl) (fun _ _ _ h => h) (by rfl) ?hzz1 hHeld ?rzz1
        case hzz1 => (intro w' hSw; (try dsimp only at hSw); go_simp <;> with_reducible rfl)
        try simp only [Act.put, List.setIfInBounds_toArray, List.set_cons_zero, List.set_cons_succ]
        refine take_op (i := 1) (d := 20) (OP := Op.move (Operand.tmp 0)) (T := 25) (v := ?vzz2) rfl rfl rfl rfl (by kernel_rfl) (by kernel_rfl) (by kernel_rfl) (fun _ _ _ h => h) (by rfl) ?hzz2 hHeld ?rzz2
        case hzz2 => (intro w' hSw; (try dsimp only at hSw); go_simp <;> with_reducible rfl)
        try simp only [Act.put, List.setIfInBounds_toArray, List.set_cons_zero, List.set_cons_succ]
        refine take_op (i := 5) (d := 24) (OP := Op.load 159 (Operand.tmp 2)) (T := 159) (v := ?vzz3) rfl rfl rfl rfl (by kernel_rfl) (by kernel_rfl) (by kernel_rfl) (fun _ _ _ h => h) (by rfl) ?hzz3 hHeld ?rzz3
        case hzz3 => (intro w' hSw; (try dsimp only at hSw); go_simp <;> with_reducible rfl)
        try simp only [Act.put, List.setIfInBounds_toArray, List.set_cons_zero, List.set_cons_succ]
        refine take_op (i := 6) (d := 25) (OP := Op.move (Operand.tmp 0)) (T := 25) (v := ?vzz4) rfl rfl rfl rfl (by kernel_rfl) (by kernel_rfl) (by kernel_rfl) (fun _ _ _ h => h) (by rfl) ?hzz4 hHeld ?rzz4
        case hzz4 => (intro w' hSw; (try dsimp only at hSw); go_simp <;> with_reducible rfl)
        try simp only [Act.put, List.setIfInBounds_toArray, List.set_cons_zero, List.set_cons_succ]
        refine call_op (i := 2) (d := 21) (OP := Op.call { callee := Callee.value (Operand.func 157), args := #[Operand.tmp 20], argTypes := #[25] }) (T := 25) (f := 157) (args := #[.pointer (some ⟨p, 0, none⟩)]) rfl rfl rfl rfl (by kernel_rfl) (by rfl) (by go_simp) ?_
        refine (ls _ qd.2.out).mono ?_
        rintro e w1 ⟨rfl, bw1⟩
        have qw1 : w1.cell? ⟨Cn, 0, none⟩ = some (.func (.func 206) #[] #[.pointer (some ⟨Of, 0, none⟩), .pointer (some ⟨Cn, 0, none⟩)]) ∧ Hid (Below w.heap.size w w1) := ⟨cell_stays qd.1 bw1, hide (qd.2.out.trans (bw1.mono qd.2.out.size))⟩
        refine ⟨_, rfl, qw1, ?_⟩
        replace hHeld := qw1
        try simp only [Act.put, List.setIfInBounds_toArray, List.set_cons_zero, List.set_cons_succ]
        refine call_op (i := 3) (d := 22) (OP := Op.call { callee := Callee.value (Operand.tmp 19), args := #[Operand.tmp 21], argTypes := #[25] }) (T := 3) (f := 206) (args := #[.pointer pl, .pointer (some ⟨Of, 0, none⟩), .pointer (some ⟨Cn, 0, none⟩)]) rfl rfl rfl rfl (by kernel_rfl) (by rfl) (by go_simp) ?_
        refine (HL.out _ qw1.2.out).mono ?_
        rintro e w2 ⟨rfl, bw2⟩
        have qw2 : w2.cell? ⟨Cn, 0, none⟩ = some (.func (.func 206) #[] #[.pointer (some ⟨Of, 0, none⟩), .pointer (some ⟨Cn, 0, none⟩)]) ∧ Hid (Below w.heap.size w w2) := ⟨cell_stays qw1.1 bw2, hide (qw1.2.out.trans (bw2.mono qw1.2.out.size))⟩
        refine ⟨_, rfl, qw2, ?_⟩
        replace hHeld := qw2
        try simp only [Act.put, List.setIfInBounds_toArray, List.set_cons_zero, List.set_cons_succ]
        refine take_op (i := 4) (d := 23) (OP := Op.binOp BinOp.add 3 (Operand.tmp 22) (Operand.const (Value.int IntKind.i64 1)) 3) (T := 3) (v := ?vzz5) rfl rfl rfl rfl (by kernel_rfl) (by kernel_rfl) (by kernel_rfl) (fun _ _ _ h => h) (by rfl) ?hzz5 hHeld ?rzz5
        case hzz5 => (intro w' hSw; (try dsimp only at hSw); go_simp <;> with_reducible rfl)
        try simp only [Act.put, List.setIfInBounds_toArray, List.set_cons_zero, List.set_cons_succ]
        refine call_op (i := 7) (d := 26) (OP := Op.call { callee := Callee.value (Operand.func 154), args := #[Operand.tmp 25], argTypes := #[25] }) (T := 25) (f := 154) (args := #[.pointer (some ⟨p, 0, none⟩)]) rfl rfl rfl rfl (by kernel_rfl) (by rfl) (by go_simp) ?_
        refine (rs _ qw2.2.out).mono ?_
        rintro e w3 ⟨rfl, bw3⟩
        have qw3 : w3.cell? ⟨Cn, 0, none⟩ = some (.func (.func 206) #[] #[.pointer (some ⟨Of, 0, none⟩), .pointer (some ⟨Cn, 0, none⟩)]) ∧ Hid (Below w.heap.size w w3) := ⟨cell_stays qw2.1 bw3, hide (qw2.2.out.trans (bw3.mono qw2.2.out.size))⟩
        refine ⟨_, rfl, qw3, ?_⟩
        replace hHeld := qw3
        try simp only [Act.put, List.setIfInBounds_toArray, List.set_cons_zero, List.set_cons_succ]
        refine call_op (i := 8) (d := 27) (OP := Op.call { callee := Callee.value (Operand.tmp 24), args := #[Operand.tmp 26], argTypes := #[25] }) (T := 3) (f := 206) (args := #[.pointer pr, .pointer (some ⟨Of, 0, none⟩), .pointer (some ⟨Cn, 0, none⟩)]) rfl rfl rfl rfl (by kernel_rfl) (by rfl) (by go_simp) ?_
        refine (HR.out _ qw3.2.out).mono ?_
        rintro e w4 ⟨rfl, bw4⟩
        have qw4 : w4.cell? ⟨Cn, 0, none⟩ = some (.func (.func 206) #[] #[.pointer (some ⟨Of, 0, none⟩), .pointer (some ⟨Cn, 0, none⟩)]) ∧ Hid (Below w.heap.size w w4) := ⟨cell_stays qw3.1 bw4, hide (qw3.2.out.trans (bw4.mono qw3.2.out.size))⟩
        refine ⟨_, rfl, qw4, ?_⟩
        replace hHeld := qw4
        try simp only [Act.put, List.setIfInBounds_toArray, List.set_cons_zero, List.set_cons_succ]
        refine take_op (i := 9) (d := 28) (OP := Op.binOp BinOp.add 3 (Operand.tmp 23) (Operand.tmp 27) 3) (T := 3) (v := ?vzz6) rfl rfl rfl rfl (by kernel_rfl) (by kernel_rfl) (by kernel_rfl) (fun _ _ _ h => h) (by rfl) ?hzz6 hHeld ?rzz6
        case hzz6 => (intro w' hSw; (try dsimp only at hSw); go_simp <;> with_reducible rfl)
        try simp only [Act.put, List.setIfInBounds_toArray, List.set_cons_zero, List.set_cons_succ]
        refine take_op (i := 10) (d := 4) (OP := Op.assign (Operand.tmp 28)) (T := 3) (v := ?vzz7) rfl rfl rfl rfl (by kernel_rfl) (by kernel_rfl) (by kernel_rfl) (fun _ _ _ h => h) (by rfl) ?hzz7 hHeld ?rzz7
        case hzz7 => (intro w' hSw; (try dsimp only at hSw); go_simp <;> with_reducible rfl)
        try simp only [Act.put, List.setIfInBounds_toArray, List.set_cons_zero, List.set_cons_succ]
        refine wpAnyH_done (by kernel_rfl) ?_ _
        go_wp2
        go_ret
        refine ⟨?_, qw4.2.out⟩
        rw [HV.out, HA.out]
        simp
end Go.Proofs.YtkeldhohilmdcaaGreat.Pm
namespace Go.Proofs.YtkeldhohilmdcaaGreat.Pm
open Go.RowKit Go.Shelf
set_option linter.unusedSimpArgs false

set_option maxHeartbeats 4000000 in
theorem made36_any (os : List T) (t : T) (sb so cap : Nat) (w : World) (hos : os.length ≤ 1000) (it : In w t) (hn : t.n ≤ 100000) (ios : ∀ o ∈ os, In w o) (hsl : ∀ (i : Nat) (o : T), os[i]? = some o → w.cell? ⟨sb, so + i, none⟩ = some o.ptr) : Calls Tryz.prog 187 #[mv t, .slice (some ⟨sb, so, none⟩) os.length cap] w fun e w' => e = .returned (.int .i64 (madeIn os t : Nat)) ∧ Below w.heap.size w w' := by
  obtain ⟨x, hx⟩ := t.ptr_shape
  rw [mv_ptr hx]
  obtain ⟨m0, m1, m2, hb⟩ := new3 w (.cells #[.pointer x] 27) (.cells #[.slice (some ⟨sb, so, none⟩) os.length cap] 224) (.cells #[.func (.func 206) #[] #[.pointer (some ⟨w.heap.size + 1, 0, none⟩), .pointer (some ⟨w.heap.size + 1 + 1, 0, none⟩)]] 159)
  obtain ⟨w0, hw0⟩ : ∃ w0, w0 = (((w.alloc (.cells #[.pointer x] 27)).alloc (.cells #[.slice (some ⟨sb, so, none⟩) os.length cap] 224)).alloc (.cells #[.func (.func 206) #[] #[.pointer (some ⟨w.heap.size + 1, 0, none⟩), .pointer (some ⟨w.heap.size + 1 + 1, 0, none⟩)]] 159)) := ⟨_, rfl⟩
  rw [← hw0] at m0 m1 m2 hb
  have env : MEnv w0 (w.heap.size + 1) (w.heap.size + 1 + 1) os := ⟨(cell_of_row _ _ 0 _ 159 (0, 0) m2).trans rfl, ⟨sb, so, cap, (cell_of_row _ _ 0 _ 224 (0, 0) m1).trans rfl, fun i o ho => cell_stays (hsl i o ho) hb⟩, fun o ho => In.below hb (ios o ho)⟩
  have HM : Hid (∀ W, Below w0.heap.size w0 W → Calls Tryz.prog 206 #[.pointer x, .pointer (some ⟨w.heap.size + 1, 0, none⟩), .pointer (some ⟨w.heap.size + 1 + 1, 0, none⟩)] W fun e w' => e = .returned (.int .i64 (madeIn os t : Nat)) ∧ Below W.heap.size W w') := hide (fun W hW => by
    have := made55_any (w.heap.size + 1) (w.heap.size + 1 + 1) os hos t W (In.below hW (In.below hb it)) hn (env.below hW)
    rw [hx] at this
    exact this)
  have ro : ∀ W, Calls Tryz.prog 203 #[.agg #[.pointer x]] W fun e w' => e = .returned (.pointer x) ∧ Below W.heap.size W w' := fun W => by
    have := mRoot_any t W
    rw [mv_ptr hx, hx] at this
    exact this
  have q0 : w0.cell? ⟨w.heap.size + 1 + 1, 0, none⟩ = some (.func (.func 206) #[] #[.pointer (some ⟨w.heap.size + 1, 0, none⟩), .pointer (some ⟨w.heap.size + 1 + 1, 0, none⟩)]) ∧ w0.cell? ⟨w.heap.size, 0, none⟩ = some (.pointer x) ∧ Hid (Below w0.heap.size w0 w0) := ⟨env.f, (cell_of_row _ _ 0 _ 27 (0, 0) m0).trans rfl, hide (Below.refl _ _)⟩
  have HB := hide hb
  generalize madeIn os t = MM at *
  clear m0 m1 m2 hb env it ios hsl hx
  have hstf : ∀ a f x y m W, (store a (.func f x y) m).run Tryz.prog W = stored Tryz.prog W a (.func f x y) m := fun a f x y m W => run_store Tryz.prog W a _ m rfl
  go_enter Tryz.func187, Tryz.ntmps187
  go_upto_region 3 with (fail)
  rw [← hw0]
  clear hw0 hstf
  have qd : w0.drew.cell? ⟨w.heap.size + 1 + 1, 0, none⟩ = some (.func (.func 206) #[] #[.pointer (some ⟨w.heap.size + 1, 0, none⟩), .pointer (some ⟨w.heap.size + 1 + 1, 0, none⟩)]) ∧ w0.drew.cell? ⟨w.heap.size, 0, none⟩ = some (.pointer x) ∧ Hid (Below w0.heap.size w0 w0.drew) := ⟨q0.1, q0.2.1, hide (q0.2.2.out.trans ((drew_below w0).mono q0.2.2.out.size))⟩
  refine wp_region_held_drew (S := (fun w' => w'.cell? ⟨w.heap.size + 1 + 1, 0, none⟩ = some (.func (.func 206) #[] #[.pointer (some ⟨w.heap.size + 1, 0, none⟩), .pointer (some ⟨w.heap.size + 1 + 1, 0, none⟩)]) ∧ w'.cell? ⟨w.heap.size, 0, none⟩ = some (.pointer x) ∧ Hid (Below w0.heap.size w0 w'))) (by kernel_rfl) qd (fun hHeld => ?_)
  try dsimp only at hHeld
  refine take_op (i := 0) (d := 7) (OP := Op.load 159 (Operand.tmp 5)) (T := 159) (v := ?vzz1) rfl rfl rfl rfl (by kernel_rfl) (by kernel_rfl) (by kernel_rfl) (fun _ _ _ h => h) (by rfl) ?hzz1 hHeld ?rzz1
  case hzz1 => (intro w' hSw; (try dsimp only at hSw); go_simp <;> with_reducible rfl)
  try simp only [Act.put, List.setIfInBounds_toArray, List.set_cons_zero, List.set_cons_succ]
  refine take_op (i := 1) (d := 8) (OP := Op.load 27 (Operand.tmp 2)) (T := 27) (v := ?vzz2) rfl rfl rfl rfl (by kernel_rfl) (by kernel_rfl) (by kernel_rfl) (fun _ _ _ h => h) (by rfl) ?hzz2 hHeld ?rzz2
  case hzz2 => (intro w' hSw; (try dsimp only at hSw); go_simp <;> with_reducible rfl)
  try simp only [Act.put, List.setIfInBounds_toArray, List.set_cons_zero, List.set_cons_succ]
  refine call_op (i := 2) (d := 9) (OP := Op.call { callee := Callee.value (Operand.func 203), args := #[Operand.tmp 8], argTypes := #[27] }) (T := 25) (f := 203) (args := #[.agg #[.pointer x]]) rfl rfl rfl rfl (by kernel_rfl) (by rfl) (by go_simp) ?_
  refine (ro _).mono ?_
  rintro e w1 ⟨rfl, bw1⟩
  have qw1 : w1.cell? ⟨w.heap.size + 1 + 1, 0, none⟩ = some (.func (.func 206) #[] #[.pointer (some ⟨w.heap.size + 1, 0, none⟩), .pointer (some ⟨w.heap.size + 1 + 1, 0, none⟩)]) ∧ w1.cell? ⟨w.heap.size, 0, none⟩ = some (.pointer x) ∧ Hid (Below w0.heap.size w0 w1) := ⟨cell_stays qd.1 bw1, cell_stays qd.2.1 bw1, hide (qd.2.2.out.trans (bw1.mono qd.2.2.out.size))⟩
  refine ⟨_, rfl, qw1, ?_⟩
  replace hHeld := qw1
  try simp only [Act.put, List.setIfInBounds_toArray, List.set_cons_zero, List.set_cons_succ]
  refine call_op (i := 3) (d := 10) (OP := Op.call { callee := Callee.value (Operand.tmp 7), args := #[Operand.tmp 9], argTypes := #[25] }) (T := 3) (f := 206) (args := #[.pointer x, .pointer (some ⟨w.heap.size + 1, 0, none⟩), .pointer (some ⟨w.heap.size + 1 + 1, 0, none⟩)]) rfl rfl rfl rfl (by kernel_rfl) (by rfl) (by go_simp) ?_
  refine (HM.out _ qw1.2.2.out).mono ?_
  rintro e w2 ⟨rfl, bw2⟩
  have qw2 : w2.cell? ⟨w.heap.size + 1 + 1, 0, none⟩ = some (.func (.func 206) #[] #[.pointer (some ⟨w.heap.size + 1, 0, none⟩), .pointer (some ⟨w.heap.size + 1 + 1, 0, none⟩)]) ∧ w2.cell? ⟨w.heap.size, 0, none⟩ = some (.pointer x) ∧ Hid (Below w0.heap.size w0 w2) := ⟨cell_stays qw1.1 bw2, cell_stays qw1.2.1 bw2, hide (qw1.2.2.out.trans (bw2.mono qw1.2.2.out.size))⟩
  refine ⟨_, rfl, qw2, ?_⟩
  replace hHeld := qw2
  try simp only [Act.put, List.setIfInBounds_toArray, List.set_cons_zero, List.set_cons_succ]
  refine take_op (i := 4) (d := 4) (OP := Op.assign (Operand.tmp 10)) (T := 3) (v := ?vzz3) rfl rfl rfl rfl (by kernel_rfl) (by kernel_rfl) (by kernel_rfl) (fun _ _ _ h => h) (by rfl) ?hzz3 hHeld ?rzz3
  case hzz3 => (intro w' hSw; (try dsimp only at hSw); go_simp <;> with_reducible rfl)
  try simp only [Act.put, List.setIfInBounds_toArray, List.set_cons_zero, List.set_cons_succ]
  refine wpAnyH_done (by kernel_rfl) ?_ _
  go_wp2
  go_ret
  exact ⟨rfl, HB.out.trans (qw2.2.2.out.mono HB.out.size)⟩
end Go.Proofs.YtkeldhohilmdcaaGreat.Pm
namespace Go.Proofs.YtkeldhohilmdcaaGreat.Pm
open Go.RowKit Go.Shelf
set_option linter.unusedSimpArgs false

theorem ret_rr_t {P : Program} {fn : Func} {p q s : Tmp} {ty ty' : TypeId} (b c : Nat) (cs ds : List Value) {R : Ending → World → Prop} {a : Act} {w : World} (h : fn.results = #[.cell p ty, .cell q ty', .tmp s]) (hp : a.tmps.getD p undef = .pointer (some ⟨b, 0, none⟩)) (hq : a.tmps.getD q undef = .pointer (some ⟨c, 0, none⟩)) {v : Value} (hs : a.tmps.getD s undef = v)
    {d d' : TypeDesc} (hu : P.underlying ty = some d) (hd : d.isRow = true) (hu' : P.underlying ty' = some d') (hd' : d'.isRow = true) (hi : (P.info? ty).map (·.size) = some cs.length) (hi2 : (P.info? ty').map (·.size) = some ds.length) {t t2 : TypeId} {fr fr2 : Nat × Nat} (hc : w.heap[b]? = some (.cells cs.toArray t fr)) (hc2 : w.heap[c]? = some (.cells ds.toArray t2 fr2)) (hdef : a.defers = [])
    (hR : R (.returned (.tuple #[.agg cs.toArray, .agg ds.toArray, v])) w) : bodyPost P fn R .ret a w := by
  refine bodyPost_ret (v := .tuple #[.agg cs.toArray, .agg ds.toArray, v]) ?_ hdef hR
  have h1 := run_loadVar_mid (P := P) w b 0 ty cs _ (fun j v hv => by rw [cell_of_row w b (0 + j) cs.toArray t fr hc, Nat.zero_add]; simpa using hv) hu hd hi
  have h2 := run_loadVar_mid (P := P) w c 0 ty' ds _ (fun j v hv => by rw [cell_of_row w c (0 + j) ds.toArray t2 fr2 hc2, Nat.zero_add]; simpa using hv) hu' hd' hi2
  have hp' : a.tmps[p]?.getD undef = .pointer (some ⟨b, 0, none⟩) := by simpa using hp
  have hq' : a.tmps[q]?.getD undef = .pointer (some ⟨c, 0, none⟩) := by simpa using hq
  have hs' : a.tmps[s]?.getD undef = v := by simpa using hs
  simp [results, h, hp', hq', hs', asAddr, Sem.run_bind, Result.andThen, h1, h2]
theorem Tryz.info130 : (Tryz.prog.info? 130).map (·.size) = some 3 := by kernel_rfl
theorem set3 {w : World} {B : Nat} {x0 x1 x2 : Value} {ty : TypeId} (a b c : Value) (h : w.heap[B]? = some (.cells #[x0, x1, x2] ty (0, 0))) : (((w.setCell ⟨B, 0, none⟩ a).setCell ⟨B, 1, none⟩ b).setCell ⟨B, 2, none⟩ c).heap[B]? = some (.cells #[a, b, c] ty (0, 0)) ∧ Only (fun j => j = B) w (((w.setCell ⟨B, 0, none⟩ a).setCell ⟨B, 1, none⟩ b).setCell ⟨B, 2, none⟩ c) := by
  obtain ⟨h1, o1⟩ := set_one (i := 0) a h
  obtain ⟨h2, o2⟩ := set_one (i := 1) b h1
  obtain ⟨h3, o3⟩ := set_one (i := 2) c h2
  exact ⟨by simpa using h3, (o1.trans o2 (fun _ _ e => e)).trans o3 (fun _ _ e => e)⟩
theorem new8 (w : World) (o0 o1 o2 o3 o4 o5 o6 o7 : Obj) : ∃ w0, w0 = ((((((((w.alloc o0).alloc o1).alloc o2).alloc o3).alloc o4).alloc o5).alloc o6).alloc o7) ∧ w0.heap[w.heap.size]? = some o0 ∧ w0.heap[w.heap.size + 1]? = some o1 ∧ w0.heap[w.heap.size + 1 + 1]? = some o2 ∧ w0.heap[w.heap.size + 1 + 1 + 1]? = some o3 ∧ w0.heap[w.heap.size + 1 + 1 + 1 + 1]? = some o4 ∧ w0.heap[w.heap.size + 1 + 1 + 1 + 1 + 1]? = some o5 ∧ w0.heap[w.heap.size + 1 + 1 + 1 + 1 + 1 + 1]? = some o6 ∧ w0.heap[w.heap.size + 1 + 1 + 1 + 1 + 1 + 1 + 1]? = some o7 ∧ Below w.heap.size w w0 := by
  refine ⟨_, rfl, ?_⟩
  obtain ⟨m0, m1, m2, m3, hb⟩ := new4 w o0 o1 o2 o3
  obtain ⟨n0, n1, n2, n3, hc⟩ := new4 ((((w.alloc o0).alloc o1).alloc o2).alloc o3) o4 o5 o6 o7
  have hs : ((((w.alloc o0).alloc o1).alloc o2).alloc o3).heap.size = w.heap.size + 1 + 1 + 1 + 1 := by simp
  rw [hs] at n0 n1 n2 n3
  exact ⟨(hc.block _ (Array.getElem?_eq_some_iff.1 m0).1).trans m0, (hc.block _ (Array.getElem?_eq_some_iff.1 m1).1).trans m1, (hc.block _ (Array.getElem?_eq_some_iff.1 m2).1).trans m2, (hc.block _ (Array.getElem?_eq_some_iff.1 m3).1).trans m3, n0, n1, n2, n3, hb.trans (hc.mono hb.size)⟩
set_option maxHeartbeats 8000000 in
set_option maxRecDepth 100000 in
theorem walkRun_any {V : ByteArray → ByteArray × Bool → Prop} {R : ByteArray → ByteArray × Bool → ByteArray × Bool → ByteArray × Bool → ByteArray × Bool} {J : List ByteArray → World → Prop} {A : ByteArray → ByteArray × Bool → ByteArray × Bool → ByteArray × Bool → Prop} {B g : Nat} {caps : Array Value} (hR : Fair V R) (o a b : T) (w : World) (ks : List ByteArray) (hru : ∀ Tk, w.heap.size ≤ Tk → RuleOk A B Tk g caps R J) (hB : B ≤ w.heap.size) (ht : Trio V w o a b) (hask : AskOk A o a b) (hks : ks.length ≤ 1000) (hj : J ks w) :
    Calls Tryz.prog 147 #[mv o, mv a, mv b, .func (.func g) #[] caps] w fun e w' => ∃ t ks', e = .returned (.tuple #[mv t, .agg #[.int .i64 (ks'.length : Nat), .int .i64 (ks'.length : Nat), .int .i64 (madeIn [o, a, b] t : Nat)], .int .i64 0]) ∧ Runs w.heap.size R o a b t ks' ∧ In w' t ∧ J (ks ++ ks') w' ∧ Below B w w' := by
  obtain ⟨po, ho⟩ := o.ptr_shape
  obtain ⟨pa, ha⟩ := a.ptr_shape
  obtain ⟨pb, hb'⟩ := b.ptr_shape
  rw [mv_ptr ho, mv_ptr ha, mv_ptr hb']
  obtain ⟨w0, hw0, m0, m1, m2, m3, m4, m5, m6, m7, hb⟩ := new8 w (.cells #[.pointer po] 27) (.cells #[.pointer pa] 27) (.cells #[.pointer pb] 27) (.cells #[.func (.func g) #[] caps] 173) (.cells #[.pointer none] 27) (.cells #[.int .i64 0, .int .i64 0, .int .i64 0] 130) (.cells #[.int .i64 0, .int .i64 0, .int .i64 0] 130) (.cells #[.func (.func 182) #[] #[.pointer (some ⟨w.heap.size + 1 + 1 + 1 + 1 + 1 + 1, 0, none⟩), .pointer (some ⟨w.heap.size + 1 + 1 + 1 + 1 + 1 + 1 + 1, 0, none⟩), .pointer (some ⟨w.heap.size + 1 + 1 + 1, 0, none⟩)]] 201)
  have hT := hru (w.heap.size + 1 + 1 + 1 + 1 + 1 + 1) (by omega)
  have env : REnv w0 (w.heap.size + 1 + 1 + 1 + 1 + 1 + 1) (w.heap.size + 1 + 1 + 1 + 1 + 1 + 1 + 1) (w.heap.size + 1 + 1 + 1) (.func (.func g) #[] caps) 0 0 0 := ⟨m7, m3, m6⟩
  have ht0 : Trio V w0 o a b := ht.goes (Goes.of (B := B) (Tk := w.heap.size + 1 + 1 + 1 + 1 + 1 + 1) hb hB)
  have hB0 : B ≤ w0.heap.size := Nat.le_trans hB hb.size
  have hnab := ht.nab
  have hrun := run_any hR hT (by omega) (a.n + b.n) o a b w0 ks 0 0 0 (Nat.le_refl _) (by omega) (by omega) (by omega) (by omega) (by omega) ht0 hask env (hT.below hj hb) hB0
  rw [mv_ptr ho, mv_ptr ha, mv_ptr hb'] at hrun
  have cR : w0.cell? ⟨w.heap.size + 1 + 1 + 1 + 1 + 1 + 1 + 1, 0, none⟩ = some (.func (.func 182) #[] #[.pointer (some ⟨w.heap.size + 1 + 1 + 1 + 1 + 1 + 1, 0, none⟩), .pointer (some ⟨w.heap.size + 1 + 1 + 1 + 1 + 1 + 1 + 1, 0, none⟩), .pointer (some ⟨w.heap.size + 1 + 1 + 1, 0, none⟩)]) := (cell_of_row _ _ 0 _ 201 (0, 0) m7).trans rfl
  have d0 : w0.cell? ⟨w.heap.size, 0, none⟩ = some (.pointer po) := (cell_of_row _ _ 0 _ 27 (0, 0) m0).trans rfl
  have d1 : w0.cell? ⟨w.heap.size + 1, 0, none⟩ = some (.pointer pa) := (cell_of_row _ _ 0 _ 27 (0, 0) m1).trans rfl
  have d2 : w0.cell? ⟨w.heap.size + 1 + 1, 0, none⟩ = some (.pointer pb) := (cell_of_row _ _ 0 _ 27 (0, 0) m2).trans rfl
  have HM := hide (And.intro m0 (And.intro m1 (And.intro m2 (And.intro m4 (And.intro m5 (And.intro hb (And.intro ht0 (And.intro ho (And.intro ha hb')))))))))
  have hnil : ∀ W, (binOp .eql 173 (.func (.func g) #[] caps) .nilFunc).run Tryz.prog W = .ok (.bool false) W := fun W => by first | rfl | kernel_rfl | simp [binOp, go_sem]
  have hstf : ∀ a f x y m W, (store a (.func f x y) m).run Tryz.prog W = stored Tryz.prog W a (.func f x y) m := fun a f x y m W => run_store Tryz.prog W a _ m rfl
  clear m0 m1 m2 m3 m4 m5 m6 m7 hb env ht0 ho ha hb' ht
  go_enter Tryz.func147, Tryz.ntmps147
  go_upto_region 6 with (fail)
  rw [← hw0]
  clear hw0 hstf hnil
  go_upto_region 7 with (go_at_call 182; refine hrun.mono ?_; rintro e w1 ⟨t, ks', he, hruns, it, hj1, he1, hg1⟩; obtain ⟨pt, hpt⟩ := t.ptr_shape; rw [mv_ptr hpt] at he; subst he; have H1 := hide (And.intro hpt (And.intro hruns (And.intro it (And.intro hj1 (And.intro he1 hg1))))); clear hpt hruns it hj1 he1 hg1; dsimp only)
  obtain ⟨hpt, hruns, it, hj1, he1, hg1⟩ := H1.out
  obtain ⟨m0, m1, m2, m4, m5, hb, ht0, ho, ha, hb'⟩ := HM.out
  have hsz1 : w.heap.size + 1 + 1 + 1 + 1 + 1 < w1.heap.size := Nat.lt_of_lt_of_le (Array.getElem?_eq_some_iff.1 m5).1 hg1.low.size
  have k29 : keepTy 27 := by unfold keepTy; decide
  have sy := hruns.says hR ht0.so ht0.sa ht0.sb ht0.bo ht0.ba ht0.bb ht0.vo ht0.va ht0.vb
  have htn := sy.tn
  obtain ⟨w2, hw2⟩ : ∃ w2, w2 = w1.alloc (.cells #[.pointer pt] 27) := ⟨_, rfl⟩
  have b2 : Below w1.heap.size w1 w2 := by rw [hw2]; exact (Below.refl _ w1).alloc (Nat.le_refl _) _
  have r13 : w2.heap[w1.heap.size]? = some (.cells #[.pointer pt] 27 (0, 0)) := by rw [hw2]; exact heap_alloc_new w1 _
  have g2 : Goes B (w.heap.size + 1 + 1 + 1 + 1 + 1 + 1) w0 w2 := hg1.trans (Goes.of b2 (Nat.le_trans hB0 hg1.low.size))
  have n0 := g2.own _ _ _ _ m0 k29
  have n1 := g2.own _ _ _ _ m1 k29
  have n2 := g2.own _ _ _ _ m2 k29
  have n4 := g2.own _ _ _ _ m4 k29
  have n5 := g2.cnt _ _ _ m5 (by omega)
  have he2 := he1.below b2
  obtain ⟨w3, hw3⟩ : ∃ w3, w3 = w2.alloc (.cells #[.pointer po, .pointer pa, .pointer pb] 27) := ⟨_, rfl⟩
  have b3 : Below w2.heap.size w2 w3 := by rw [hw3]; exact (Below.refl _ w2).alloc (Nat.le_refl _) _
  have r3 : w3.heap[w2.heap.size]? = some (.cells #[.pointer po, .pointer pa, .pointer pb] 27 (0, 0)) := by rw [hw3]; exact heap_alloc_new w2 _
  have hmd := made36_any [o, a, b] t w2.heap.size 0 3 w3 (by simp) (In.below b3 (In.below b2 it)) (by omega) (fun s hs => by
    simp only [List.mem_cons, List.not_mem_nil, or_false] at hs
    rcases hs with rfl | rfl | rfl
    · exact In.below b3 (In.goes g2 ht0.io)
    · exact In.below b3 (In.goes g2 ht0.ia)
    · exact In.below b3 (In.goes g2 ht0.ib)) (fun i s hs => by
    rw [Nat.zero_add, cell_of_row _ _ i _ 27 (0, 0) r3]
    match i, hs with
    | 0, hs => simp at hs; subst hs; rw [ho]; rfl
    | 1, hs => simp at hs; subst hs; rw [ha]; rfl
    | 2, hs => simp at hs; subst hs; rw [hb']; rfl)
  rw [mv_ptr hpt] at hmd
  have hml := madeIn_le [o, a, b] t
  generalize hMM : madeIn [o, a, b] t = MM at *
  have c13 : w2.cell? ⟨w1.heap.size, 0, none⟩ = some (.pointer pt) := (cell_of_row _ _ 0 _ 27 (0, 0) r13).trans rfl
  have d0 : w2.cell? ⟨w.heap.size, 0, none⟩ = some (.pointer po) := (cell_of_row _ _ 0 _ 27 (0, 0) n0).trans rfl
  have d1 : w2.cell? ⟨w.heap.size + 1, 0, none⟩ = some (.pointer pa) := (cell_of_row _ _ 0 _ 27 (0, 0) n1).trans rfl
  have d2 : w2.cell? ⟨w.heap.size + 1 + 1, 0, none⟩ = some (.pointer pb) := (cell_of_row _ _ 0 _ 27 (0, 0) n2).trans rfl
  obtain ⟨L, hL⟩ : ∃ L : Nat, L = ks'.length := ⟨_, rfl⟩
  have htk2 : w2.heap[w.heap.size + 1 + 1 + 1 + 1 + 1 + 1]? = some (.cells #[.int .i64 (L : Nat), .int .i64 (L : Nat), .int .i64 0] 130 (0, 0)) := by have := he2.took; rw [hL]; simpa using this
  have HA := hide (And.intro (hb.mono hB) (And.intro g2 (And.intro b3 (And.intro n4 (And.intro n5 (And.intro htk2 (And.intro r13 (And.intro (In.below b2 it) (And.intro hpt (And.intro (hruns.mono hb.size) (And.intro (hT.below hj1 b2) (And.intro hMM hL))))))))))))
  rw [← hw2]
  clear hpt hruns it hj1 he1 hg1 m0 m1 m2 m4 m5 hb ht0 ho ha hb' sy htn b2 r13 g2 n0 n1 n2 n4 n5 he2 r3 hml hMM hL htk2 hrun H1 HM b3 hw2
  go_upto_region 7 with (fail)
  go_upto_region 8 with (go_at_call 187; rw [← hw3]; refine hmd.mono ?_; rintro e w4 ⟨rfl, b4⟩; obtain ⟨hb, g2, b3, n4, n5, htk2, r13, it, hpt, hruns, hj2, hMM, hL⟩ := HA.out; have b24 : Below w2.heap.size w2 w4 := b3.trans (b4.mono b3.size); have t4 := (b24.block _ (Array.getElem?_eq_some_iff.1 htk2).1).trans htk2; have e2 : w4.cell? ⟨w.heap.size + 1 + 1 + 1 + 1 + 1 + 1, 2, none⟩ = some (.int .i64 0) := (cell_of_row _ _ 2 _ 130 (0, 0) t4).trans rfl; have f2 : w4.frozen? ⟨w.heap.size + 1 + 1 + 1 + 1 + 1 + 1, 2, none⟩ = false := frozen_of_row _ _ 2 _ 130 t4; have HB4 := hide (And.intro b24 t4); clear hb g2 b3 n4 n5 htk2 r13 it hpt hruns hj2 hMM hL b24 t4 b4; dsimp only)
  obtain ⟨hb, g2, b3, n4, n5, htk2, r13, it, hpt, hruns, hj2, hMM, hL⟩ := HA.out
  obtain ⟨b24, t4⟩ := HB4.out
  obtain ⟨u5, o5⟩ := set_one (i := 2) (.int .i64 (MM : Nat)) t4
  obtain ⟨w5, hw5⟩ : ∃ w5, w5 = w4.setCell ⟨w.heap.size + 1 + 1 + 1 + 1 + 1 + 1, 2, none⟩ (.int .i64 (MM : Nat)) := ⟨_, rfl⟩
  rw [← hw5] at u5 o5
  have u5 : w5.heap[w.heap.size + 1 + 1 + 1 + 1 + 1 + 1]? = some (.cells #[.int .i64 (L : Nat), .int .i64 (L : Nat), .int .i64 (MM : Nat)] 130 (0, 0)) := by simpa using u5
  have hne13 : w1.heap.size ≠ w.heap.size + 1 + 1 + 1 + 1 + 1 + 1 := fun e => by have h1 := r13; rw [e, htk2] at h1; simp at h1
  have r13' := (o5.block _ (Array.getElem?_eq_some_iff.1 ((b24.block _ (Array.getElem?_eq_some_iff.1 r13).1).trans r13)).1 hne13).trans ((b24.block _ (Array.getElem?_eq_some_iff.1 r13).1).trans r13)
  have n4' := (o5.block _ (Array.getElem?_eq_some_iff.1 ((b24.block _ (Array.getElem?_eq_some_iff.1 n4).1).trans n4)).1 (by omega)).trans ((b24.block _ (Array.getElem?_eq_some_iff.1 n4).1).trans n4)
  have n5' := (o5.block _ (Array.getElem?_eq_some_iff.1 ((b24.block _ (Array.getElem?_eq_some_iff.1 n5).1).trans n5)).1 (by omega)).trans ((b24.block _ (Array.getElem?_eq_some_iff.1 n5).1).trans n5)
  have ty33 : ∀ (W' : World) (Bk : Nat) (cs : Array Value), W'.heap[Bk]? = some (.cells cs 130 (0, 0)) → ∀ j, j = Bk → ∀ o', W'.heap[j]? = some o' → ∃ cur e fr, o' = .cells cur e fr ∧ e ≠ 154 := fun W' Bk cs hr j e o' ho' => by
    subst e
    rw [hr] at ho'
    cases ho'
    exact ⟨_, _, _, rfl, by decide⟩
  have it5 := In.typed o5 (ty33 w4 _ _ t4) (In.below b24 it)
  have j5 : J (ks ++ ks') w5 := hT.set (hT.below hj2 b24) o5 (by omega) t4
  have hB2 : B ≤ w2.heap.size := Nat.le_trans hB0 g2.low.size
  have bl5 : Below B w w5 := Below.only ((hb.trans g2.low).trans (b24.mono hB2)) o5 (Nat.le_trans hB2 b24.size) (fun j e => by omega)
  have hB5 : B ≤ w5.heap.size := Nat.le_trans hB bl5.size
  -- the map's box
  obtain ⟨u6, o6⟩ := set_one (w := w5.drew) (i := 0) (.pointer pt) n4'
  obtain ⟨w6, hw6⟩ : ∃ w6, w6 = w5.drew.setCell ⟨w.heap.size + 1 + 1 + 1 + 1, 0, none⟩ (.pointer pt) := ⟨_, rfl⟩
  rw [← hw6] at u6 o6
  have n5'' := (o6.block _ (Array.getElem?_eq_some_iff.1 (show w5.drew.heap[w.heap.size + 1 + 1 + 1 + 1 + 1]? = _ from n5')).1 (by omega)).trans (show w5.drew.heap[w.heap.size + 1 + 1 + 1 + 1 + 1]? = _ from n5')
  obtain ⟨u7, o7⟩ := set3 (.int .i64 (L : Nat)) (.int .i64 (L : Nat)) (.int .i64 (MM : Nat)) n5''
  obtain ⟨w7, hw7⟩ : ∃ w7, w7 = (((w6.setCell ⟨w.heap.size + 1 + 1 + 1 + 1 + 1, 0, none⟩ (.int .i64 (L : Nat))).setCell ⟨w.heap.size + 1 + 1 + 1 + 1 + 1, 1, none⟩ (.int .i64 (L : Nat))).setCell ⟨w.heap.size + 1 + 1 + 1 + 1 + 1, 2, none⟩ (.int .i64 (MM : Nat))) := ⟨_, rfl⟩
  rw [← hw7] at u7 o7
  have u6' := (o7.block _ (Array.getElem?_eq_some_iff.1 u6).1 (by omega)).trans u6
  have it7 : In w7 t := In.typed o7 (ty33 w6 _ _ n5'') (In.aside (show w5.drew.heap[w.heap.size + 1 + 1 + 1 + 1]? = _ from n4') o6 (In.below (drew_below w5) it5))
  have j6 : J (ks ++ ks') w6 := hT.box (hT.below j5 (drew_below w5)) (show w5.drew.heap[w.heap.size + 1 + 1 + 1 + 1]? = _ from n4') o6 (by omega)
  have j7 : J (ks ++ ks') w7 := (hru (w.heap.size + 1 + 1 + 1 + 1 + 1) (by omega)).set j6 o7 (by omega) n5''
  have bl6 : Below B w w6 := Below.only (bl5.trans ((drew_below w5).mono hB5)) o6 hB5 (fun j e => by omega)
  have bl7 : Below B w w7 := Below.only bl6 o7 (Nat.le_trans hB bl6.size) (fun j e => by omega)
  have q0 : w5.cell? ⟨w1.heap.size, 0, none⟩ = some (.pointer pt) ∧ w5.cell? ⟨w.heap.size + 1 + 1 + 1 + 1 + 1 + 1, 0, none⟩ = some (.int .i64 (L : Nat)) ∧ w5.cell? ⟨w.heap.size + 1 + 1 + 1 + 1 + 1 + 1, 1, none⟩ = some (.int .i64 (L : Nat)) ∧ w5.cell? ⟨w.heap.size + 1 + 1 + 1 + 1 + 1 + 1, 2, none⟩ = some (.int .i64 (MM : Nat)) := ⟨(cell_of_row _ _ 0 _ 27 (0, 0) r13').trans rfl, (cell_of_row _ _ 0 _ 130 (0, 0) u5).trans rfl, (cell_of_row _ _ 1 _ 130 (0, 0) u5).trans rfl, (cell_of_row _ _ 2 _ 130 (0, 0) u5).trans rfl⟩
  have hne4 : w1.heap.size ≠ w.heap.size + 1 + 1 + 1 + 1 := by omega
  have hne5 : w1.heap.size ≠ w.heap.size + 1 + 1 + 1 + 1 + 1 := by omega
  have q6 : w6.cell? ⟨w1.heap.size, 0, none⟩ = some (.pointer pt) ∧ w6.cell? ⟨w.heap.size + 1 + 1 + 1 + 1 + 1 + 1, 0, none⟩ = some (.int .i64 (L : Nat)) ∧ w6.cell? ⟨w.heap.size + 1 + 1 + 1 + 1 + 1 + 1, 1, none⟩ = some (.int .i64 (L : Nat)) ∧ w6.cell? ⟨w.heap.size + 1 + 1 + 1 + 1 + 1 + 1, 2, none⟩ = some (.int .i64 (MM : Nat)) := ⟨o6.cell (show w5.drew.cell? _ = _ from q0.1) hne4, o6.cell (show w5.drew.cell? _ = _ from q0.2.1) (fun e => by simp only at e; omega), o6.cell (show w5.drew.cell? _ = _ from q0.2.2.1) (fun e => by simp only at e; omega), o6.cell (show w5.drew.cell? _ = _ from q0.2.2.2) (fun e => by simp only at e; omega)⟩
  have q7 : w7.cell? ⟨w1.heap.size, 0, none⟩ = some (.pointer pt) ∧ w7.cell? ⟨w.heap.size + 1 + 1 + 1 + 1 + 1 + 1, 0, none⟩ = some (.int .i64 (L : Nat)) ∧ w7.cell? ⟨w.heap.size + 1 + 1 + 1 + 1 + 1 + 1, 1, none⟩ = some (.int .i64 (L : Nat)) ∧ w7.cell? ⟨w.heap.size + 1 + 1 + 1 + 1 + 1 + 1, 2, none⟩ = some (.int .i64 (MM : Nat)) := ⟨o7.cell q6.1 hne5, o7.cell q6.2.1 (fun e => by simp only at e; omega), o7.cell q6.2.2.1 (fun e => by simp only at e; omega), o7.cell q6.2.2.2 (fun e => by simp only at e; omega)⟩
  have c4 : w5.drew.cell? ⟨w.heap.size + 1 + 1 + 1 + 1, 0, none⟩ = some (.pointer none) := (cell_of_row w5.drew _ 0 _ 27 (0, 0) n4').trans rfl
  have f4 : w5.drew.frozen? ⟨w.heap.size + 1 + 1 + 1 + 1, 0, none⟩ = false := frozen_of_row w5.drew _ 0 _ 27 n4'
  have c50 : w6.cell? ⟨w.heap.size + 1 + 1 + 1 + 1 + 1, 0, none⟩ = some (.int .i64 0) := (cell_of_row _ _ 0 _ 130 (0, 0) n5'').trans rfl
  have c51 : w6.cell? ⟨w.heap.size + 1 + 1 + 1 + 1 + 1, 1, none⟩ = some (.int .i64 0) := (cell_of_row _ _ 1 _ 130 (0, 0) n5'').trans rfl
  have c52 : w6.cell? ⟨w.heap.size + 1 + 1 + 1 + 1 + 1, 2, none⟩ = some (.int .i64 0) := (cell_of_row _ _ 2 _ 130 (0, 0) n5'').trans rfl
  have f50 : w6.frozen? ⟨w.heap.size + 1 + 1 + 1 + 1 + 1, 0, none⟩ = false := frozen_of_row _ _ 0 _ 130 n5''
  have f51 : w6.frozen? ⟨w.heap.size + 1 + 1 + 1 + 1 + 1, 1, none⟩ = false := frozen_of_row _ _ 1 _ 130 n5''
  have f52 : w6.frozen? ⟨w.heap.size + 1 + 1 + 1 + 1 + 1, 2, none⟩ = false := frozen_of_row _ _ 2 _ 130 n5''
  have HFI := hide (And.intro u6' (And.intro u7 (And.intro it7 (And.intro j7 (And.intro bl7 (And.intro hpt (And.intro hruns (And.intro hMM hL))))))))
  rw [← hw5]
  clear hb g2 b3 n4 n5 htk2 r13 it hpt hruns hj2 hMM hL b24 t4 u5 o5 hw5 r13' n4' n5' ty33 it5 j5 bl5 u6 o6 n5'' u7 o7 u6' it7 j6 j7 bl6 bl7 e2 f2 hmd hw3 HA HB4 c13 d0 d1 d2 cR
  have qd : w5.drew.cell? ⟨w1.heap.size, 0, none⟩ = some (.pointer pt) ∧ w5.drew.cell? ⟨w.heap.size + 1 + 1 + 1 + 1 + 1 + 1, 0, none⟩ = some (.int .i64 (L : Nat)) ∧ w5.drew.cell? ⟨w.heap.size + 1 + 1 + 1 + 1 + 1 + 1, 1, none⟩ = some (.int .i64 (L : Nat)) ∧ w5.drew.cell? ⟨w.heap.size + 1 + 1 + 1 + 1 + 1 + 1, 2, none⟩ = some (.int .i64 (MM : Nat)) := q0
  refine wp_region_held_drew (S := (fun w' => w'.cell? ⟨w1.heap.size, 0, none⟩ = some (.pointer pt) ∧ w'.cell? ⟨w.heap.size + 1 + 1 + 1 + 1 + 1 + 1, 0, none⟩ = some (.int .i64 (L : Nat)) ∧ w'.cell? ⟨w.heap.size + 1 + 1 + 1 + 1 + 1 + 1, 1, none⟩ = some (.int .i64 (L : Nat)) ∧ w'.cell? ⟨w.heap.size + 1 + 1 + 1 + 1 + 1 + 1, 2, none⟩ = some (.int .i64 (MM : Nat)))) (by kernel_rfl) qd (fun hHeld => ?_)
  try dsimp only at hHeld
  refine take_op (i := 0) (d := 31) (OP := Op.load 27 (Operand.tmp 13)) (T := 27) (v := ?vzz1) rfl rfl rfl rfl (by kernel_rfl) (by kernel_rfl) (by kernel_rfl) (fun _ _ _ h => h) (by rfl) ?hzz1 hHeld ?rzz1
  case hzz1 => (intro w' hSw; (try dsimp only at hSw); go_simp <;> with_reducible rfl)
  try simp only [Act.put, List.setIfInBounds_toArray, List.set_cons_zero, List.set_cons_succ]
  refine take_op (i := 1) (d := 32) (OP := Op.load 130 (Operand.tmp 11)) (T := 130) (v := ?vzz2) rfl rfl rfl rfl (by kernel_rfl) (by kernel_rfl) (by kernel_rfl) (fun _ _ _ h => h) (by rfl) ?hzz2 hHeld ?rzz2
  case hzz2 => (intro w' hSw; (try dsimp only at hSw); go_simp <;> with_reducible rfl)
  try simp only [Act.put, List.setIfInBounds_toArray, List.set_cons_zero, List.set_cons_succ]
  refine skip_op (i := 2) (OP := Op.store 27 (Operand.tmp 8) (Operand.tmp 31)) (T := 0) (w' := w6) rfl rfl rfl rfl (by kernel_rfl) (by rfl) (by rw [hw6]; go_simp) ⟨q6, ?_⟩
  try simp only [Act.put, List.setIfInBounds_toArray, List.set_cons_zero, List.set_cons_succ]
  replace hHeld := q6
  clear hw6
  refine skip_op (i := 3) (OP := Op.store 130 (Operand.tmp 9) (Operand.tmp 32)) (T := 0) (w' := w7) rfl rfl rfl rfl (by kernel_rfl) (by rfl) (by rw [hw7]; go_simp) ⟨q7, ?_⟩
  try simp only [Act.put, List.setIfInBounds_toArray, List.set_cons_zero, List.set_cons_succ]
  replace hHeld := q7
  refine take_op (i := 4) (d := 10) (OP := Op.assign (Operand.const (Value.int IntKind.i64 0))) (T := 28) (v := ?vzz3) rfl rfl rfl rfl (by kernel_rfl) (by kernel_rfl) (by kernel_rfl) (fun _ _ _ h => h) (by rfl) ?hzz3 hHeld ?rzz3
  case hzz3 => (intro w' hSw; (try dsimp only at hSw); go_simp <;> with_reducible rfl)
  try simp only [Act.put, List.setIfInBounds_toArray, List.set_cons_zero, List.set_cons_succ]
  refine wpAnyH_done (by kernel_rfl) ?_ _
  go_wp2
  refine ret_rr_t (w.heap.size + 1 + 1 + 1 + 1) (w.heap.size + 1 + 1 + 1 + 1 + 1) [.pointer pt] [.int .i64 (L : Nat), .int .i64 (L : Nat), .int .i64 (MM : Nat)] rfl rfl rfl rfl Tryz.underlying27 rfl Tryz.underlying130 rfl Tryz.info27 Tryz.info130 HFI.out.1 HFI.out.2.1 rfl ?_
  obtain ⟨_, _, it7, j7, bl7, hpt, hruns, hMM, hL⟩ := HFI.out
  exact ⟨t, ks', by rw [mv_ptr hpt, hMM, ← hL]; rfl, hruns, it7, j7, bl7⟩
end Go.Proofs.YtkeldhohilmdcaaGreat.Pm
namespace Go.Proofs.YtkeldhohilmdcaaGreat.Pm
open Go.RowKit Go.Shelf
set_option linter.unusedSimpArgs false

/-- Values are told by their keys. -/
def Told (fv : ByteArray → ByteArray) (k : ByteArray) (p : ByteArray × Bool) : Prop := p = (⟨#[]⟩, false) ∨ p = (fv k, true)
theorem keeps_fair (fv : ByteArray → ByteArray) : Fair (Told fv) (fun _ p q r => keeps p q r) := by
  refine ⟨fun k => .inl rfl, fun k p q hp hq => ?_, fun k p r hp hr => ?_, fun k p q hp hq => ?_, fun k p q r h => ?_⟩
  · rcases hp with rfl | rfl <;> rcases hq with rfl | rfl <;> simp [keeps]
  · rcases hp with rfl | rfl <;> rcases hr with rfl | rfl <;> simp [keeps]
  · rcases hp with rfl | rfl <;> rcases hq with rfl | rfl <;> simp [keeps]
  · unfold keeps at h ⊢
    split
    · rename_i h1; simp [h1] at h
    · split
      · rename_i h1 h2; simp [h1, h2] at h
      · rfl
/-- Keep may be asked. -/
theorem keep_ok (B Tk : Nat) : RuleOk (fun _ _ _ _ => True) B Tk 148 #[] (fun _ p q r => keeps p q r) (fun _ _ => True) := by
  refine ⟨fun args W => enters_of Tryz.func148 (by kernel_rfl) rfl args W, fun W ks k p q r hB _ _ _ => ?_, fun _ _ _ _ _ => trivial⟩
  refine (keep_any k p q r W).mono ?_
  rintro e w' ⟨rfl, hb⟩
  exact ⟨⟨_, rfl, fun _ => rfl⟩, trivial, Goes.of hb hB, fun _ _ ho => (hb.block _ (Array.getElem?_eq_some_iff.1 ho).1).trans ho⟩
/-- Run by the elements' rule. -/
theorem runKeep_any (fv : ByteArray → ByteArray) (o a b : T) (w : World) (ht : Trio (Told fv) w o a b) :
    Calls Tryz.prog 147 #[mv o, mv a, mv b, .func (.func 148) #[] #[]] w fun e w' => ∃ t ks, e = .returned (.tuple #[mv t, .agg #[.int .i64 (ks.length : Nat), .int .i64 (ks.length : Nat), .int .i64 (madeIn [o, a, b] t : Nat)], .int .i64 0]) ∧ Runs w.heap.size (fun _ p q r => keeps p q r) o a b t ks ∧ In w' t ∧ RunSays (fun _ p q r => keeps p q r) o a b t ks ∧ Below w.heap.size w w' := by
  refine (walkRun_any (B := w.heap.size) (J := fun _ _ => True) (keeps_fair fv) o a b w [] (fun Tk _ => keep_ok _ Tk) (Nat.le_refl _) ht (fun _ _ => trivial) (by simp) trivial).mono ?_
  rintro e w' ⟨t, ks, he, hr, it, _, hb⟩
  exact ⟨t, ks, he, hr, it, hr.says (keeps_fair fv) ht.so ht.sa ht.sb ht.bo ht.ba ht.bb ht.vo ht.va ht.vb, hb⟩
end Go.Proofs.YtkeldhohilmdcaaGreat.Pm
namespace Go.Proofs.YtkeldhohilmdcaaGreat.Pm
open Go.RowKit Go.Shelf
set_option linter.unusedSimpArgs false

theorem ret_rr {P : Program} {fn : Func} {p q : Tmp} {ty ty' : TypeId} (b c : Nat) (cs ds : List Value) {R : Ending → World → Prop} {a : Act} {w : World} (h : fn.results = #[.cell p ty, .cell q ty']) (hp : a.tmps.getD p undef = .pointer (some ⟨b, 0, none⟩)) (hq : a.tmps.getD q undef = .pointer (some ⟨c, 0, none⟩))
    {d d' : TypeDesc} (hu : P.underlying ty = some d) (hd : d.isRow = true) (hu' : P.underlying ty' = some d') (hd' : d'.isRow = true) (hi : (P.info? ty).map (·.size) = some cs.length) (hi2 : (P.info? ty').map (·.size) = some ds.length) {t t2 : TypeId} {fr fr2 : Nat × Nat} (hc : w.heap[b]? = some (.cells cs.toArray t fr)) (hc2 : w.heap[c]? = some (.cells ds.toArray t2 fr2)) (hdef : a.defers = [])
    (hR : R (.returned (.tuple #[.agg cs.toArray, .agg ds.toArray])) w) : bodyPost P fn R .ret a w := by
  refine bodyPost_ret (v := .tuple #[.agg cs.toArray, .agg ds.toArray]) ?_ hdef hR
  have h1 := run_loadVar_mid (P := P) w b 0 ty cs _ (fun j v hv => by rw [cell_of_row w b (0 + j) cs.toArray t fr hc, Nat.zero_add]; simpa using hv) hu hd hi
  have h2 := run_loadVar_mid (P := P) w c 0 ty' ds _ (fun j v hv => by rw [cell_of_row w c (0 + j) ds.toArray t2 fr2 hc2, Nat.zero_add]; simpa using hv) hu' hd' hi2
  have hp' : a.tmps[p]?.getD undef = .pointer (some ⟨b, 0, none⟩) := by simpa using hp
  have hq' : a.tmps[q]?.getD undef = .pointer (some ⟨c, 0, none⟩) := by simpa using hq
  simp [results, h, hp', hq', asAddr, Sem.run_bind, Result.andThen, h1, h2]
theorem new5 (w : World) (o0 o1 o2 o3 o4 : Obj) : ∃ w0, w0 = (((((w.alloc o0).alloc o1).alloc o2).alloc o3).alloc o4) ∧ w0.heap[w.heap.size]? = some o0 ∧ w0.heap[w.heap.size + 1]? = some o1 ∧ w0.heap[w.heap.size + 1 + 1]? = some o2 ∧ w0.heap[w.heap.size + 1 + 1 + 1]? = some o3 ∧ w0.heap[w.heap.size + 1 + 1 + 1 + 1]? = some o4 ∧ Below w.heap.size w w0 := by
  refine ⟨_, rfl, ?_⟩
  obtain ⟨m0, m1, m2, m3, hb⟩ := new4 w o0 o1 o2 o3
  have hc : Below ((((w.alloc o0).alloc o1).alloc o2).alloc o3).heap.size ((((w.alloc o0).alloc o1).alloc o2).alloc o3) (((((w.alloc o0).alloc o1).alloc o2).alloc o3).alloc o4) := (Below.refl _ _).alloc (Nat.le_refl _) _
  have h4 := heap_alloc_new ((((w.alloc o0).alloc o1).alloc o2).alloc o3) o4
  rw [show ((((w.alloc o0).alloc o1).alloc o2).alloc o3).heap.size = w.heap.size + 1 + 1 + 1 + 1 from by simp] at h4
  exact ⟨(hc.block _ (Array.getElem?_eq_some_iff.1 m0).1).trans m0, (hc.block _ (Array.getElem?_eq_some_iff.1 m1).1).trans m1, (hc.block _ (Array.getElem?_eq_some_iff.1 m2).1).trans m2, (hc.block _ (Array.getElem?_eq_some_iff.1 m3).1).trans m3, h4, hb.trans (hc.mono hb.size)⟩
set_option maxHeartbeats 8000000 in
set_option maxRecDepth 100000 in
theorem elements_any (fv : ByteArray → ByteArray) (o a b : T) (w : World) (ht : Trio (Told fv) w o a b) :
    Calls Tryz.prog 104 #[mv o, mv a, mv b] w fun e w' => ∃ t ks, e = .returned (.tuple #[mv t, .agg #[.int .i64 (ks.length : Nat), .int .i64 (ks.length : Nat), .int .i64 (madeIn [o, a, b] t : Nat)]]) ∧ Runs w.heap.size (fun _ p q r => keeps p q r) o a b t ks ∧ In w' t ∧ RunSays (fun _ p q r => keeps p q r) o a b t ks ∧ Below w.heap.size w w' := by
  obtain ⟨po, ho⟩ := o.ptr_shape
  obtain ⟨pa, ha⟩ := a.ptr_shape
  obtain ⟨pb, hb'⟩ := b.ptr_shape
  rw [mv_ptr ho, mv_ptr ha, mv_ptr hb']
  obtain ⟨w0, hw0, m0, m1, m2, m3, m4, hb⟩ := new5 w (.cells #[.pointer po] 27) (.cells #[.pointer pa] 27) (.cells #[.pointer pb] 27) (.cells #[.pointer none] 27) (.cells #[.int .i64 0, .int .i64 0, .int .i64 0] 130)
  have hrun := runKeep_any fv o a b w0 (ht.goes (Goes.of (B := 0) (Tk := 0) hb (Nat.zero_le _)))
  rw [mv_ptr ho, mv_ptr ha, mv_ptr hb'] at hrun
  have d0 : w0.cell? ⟨w.heap.size, 0, none⟩ = some (.pointer po) := (cell_of_row _ _ 0 _ 27 (0, 0) m0).trans rfl
  have d1 : w0.cell? ⟨w.heap.size + 1, 0, none⟩ = some (.pointer pa) := (cell_of_row _ _ 0 _ 27 (0, 0) m1).trans rfl
  have d2 : w0.cell? ⟨w.heap.size + 1 + 1, 0, none⟩ = some (.pointer pb) := (cell_of_row _ _ 0 _ 27 (0, 0) m2).trans rfl
  have HM := hide (And.intro m3 (And.intro m4 hb))
  clear m0 m1 m2 m3 m4 hb ho ha hb' ht
  go_enter Tryz.func104, Tryz.ntmps104
  go_upto_region 1 with (fail)
  rw [← hw0]
  clear hw0
  go_upto_region 2 with (go_at_call 147; refine hrun.mono ?_; rintro e w1 ⟨t, ks, he, hruns, it, sy, b1⟩; obtain ⟨pt, hpt⟩ := t.ptr_shape; rw [mv_ptr hpt] at he; subst he; have H1 := hide (And.intro hpt (And.intro hruns (And.intro it (And.intro sy b1)))); clear hpt hruns it sy b1; dsimp only)
  obtain ⟨hpt, hruns, it, sy, b1⟩ := H1.out
  obtain ⟨m3, m4, hb⟩ := HM.out
  generalize hMM : madeIn [o, a, b] t = MM at *
  obtain ⟨L, hL⟩ : ∃ L : Nat, L = ks.length := ⟨_, rfl⟩
  rw [← hL]
  obtain ⟨r8, r9⟩ := new2 w1 (.cells #[.pointer pt] 27) (.cells #[.int .i64 (L : Nat), .int .i64 (L : Nat), .int .i64 (MM : Nat)] 130)
  have b2 : Below w1.heap.size w1 ((w1.alloc (.cells #[.pointer pt] 27)).alloc (.cells #[.int .i64 (L : Nat), .int .i64 (L : Nat), .int .i64 (MM : Nat)] 130)) := ((Below.refl _ w1).alloc (Nat.le_refl _) _).alloc (by simp) _
  obtain ⟨w2, hw2⟩ : ∃ w2, w2 = ((w1.alloc (.cells #[.pointer pt] 27)).alloc (.cells #[.int .i64 (L : Nat), .int .i64 (L : Nat), .int .i64 (MM : Nat)] 130)) := ⟨_, rfl⟩
  rw [← hw2] at r8 r9 b2 ⊢
  have b02 := b1.trans (b2.mono b1.size)
  have k3 := (b02.block _ (Array.getElem?_eq_some_iff.1 m3).1).trans m3
  have k4 := (b02.block _ (Array.getElem?_eq_some_iff.1 m4).1).trans m4
  have hsz : w.heap.size + 1 + 1 + 1 + 1 < w1.heap.size := Nat.lt_of_lt_of_le (Array.getElem?_eq_some_iff.1 m4).1 b1.size
  have bw2 := hb.trans (b02.mono hb.size)
  obtain ⟨u6, o6⟩ := set_one (w := w2.drew) (i := 0) (.pointer pt) k3
  obtain ⟨w6, hw6⟩ : ∃ w6, w6 = w2.drew.setCell ⟨w.heap.size + 1 + 1 + 1, 0, none⟩ (.pointer pt) := ⟨_, rfl⟩
  rw [← hw6] at u6 o6
  have k4' := (o6.block _ (Array.getElem?_eq_some_iff.1 (show w2.drew.heap[w.heap.size + 1 + 1 + 1 + 1]? = _ from k4)).1 (by omega)).trans (show w2.drew.heap[w.heap.size + 1 + 1 + 1 + 1]? = _ from k4)
  obtain ⟨u7, o7⟩ := set3 (.int .i64 (L : Nat)) (.int .i64 (L : Nat)) (.int .i64 (MM : Nat)) k4'
  obtain ⟨w7, hw7⟩ : ∃ w7, w7 = (((w6.setCell ⟨w.heap.size + 1 + 1 + 1 + 1, 0, none⟩ (.int .i64 (L : Nat))).setCell ⟨w.heap.size + 1 + 1 + 1 + 1, 1, none⟩ (.int .i64 (L : Nat))).setCell ⟨w.heap.size + 1 + 1 + 1 + 1, 2, none⟩ (.int .i64 (MM : Nat))) := ⟨_, rfl⟩
  rw [← hw7] at u7 o7
  have u6' := (o7.block _ (Array.getElem?_eq_some_iff.1 u6).1 (by omega)).trans u6
  have it7 : In w7 t := In.typed o7 (fun j e o' ho' => by subst e; rw [k4'] at ho'; cases ho'; exact ⟨_, _, _, rfl, by decide⟩) (In.aside (show w2.drew.heap[w.heap.size + 1 + 1 + 1]? = _ from k3) o6 (In.below (drew_below w2) (In.below b2 it)))
  have bl6 : Below w.heap.size w w6 := Below.only (bw2.trans ((drew_below w2).mono bw2.size)) o6 bw2.size (fun j e => by omega)
  have bl7 : Below w.heap.size w w7 := Below.only bl6 o7 bl6.size (fun j e => by omega)
  have q0 : w2.cell? ⟨w1.heap.size, 0, none⟩ = some (.pointer pt) ∧ w2.cell? ⟨w1.heap.size + 1, 0, none⟩ = some (.int .i64 (L : Nat)) ∧ w2.cell? ⟨w1.heap.size + 1, 1, none⟩ = some (.int .i64 (L : Nat)) ∧ w2.cell? ⟨w1.heap.size + 1, 2, none⟩ = some (.int .i64 (MM : Nat)) := ⟨(cell_of_row _ _ 0 _ 27 (0, 0) r8).trans rfl, (cell_of_row _ _ 0 _ 130 (0, 0) r9).trans rfl, (cell_of_row _ _ 1 _ 130 (0, 0) r9).trans rfl, (cell_of_row _ _ 2 _ 130 (0, 0) r9).trans rfl⟩
  have q6 : w6.cell? ⟨w1.heap.size, 0, none⟩ = some (.pointer pt) ∧ w6.cell? ⟨w1.heap.size + 1, 0, none⟩ = some (.int .i64 (L : Nat)) ∧ w6.cell? ⟨w1.heap.size + 1, 1, none⟩ = some (.int .i64 (L : Nat)) ∧ w6.cell? ⟨w1.heap.size + 1, 2, none⟩ = some (.int .i64 (MM : Nat)) := ⟨o6.cell (show w2.drew.cell? _ = _ from q0.1) (fun e => by simp only at e; omega), o6.cell (show w2.drew.cell? _ = _ from q0.2.1) (fun e => by simp only at e; omega), o6.cell (show w2.drew.cell? _ = _ from q0.2.2.1) (fun e => by simp only at e; omega), o6.cell (show w2.drew.cell? _ = _ from q0.2.2.2) (fun e => by simp only at e; omega)⟩
  have q7 : w7.cell? ⟨w1.heap.size, 0, none⟩ = some (.pointer pt) ∧ w7.cell? ⟨w1.heap.size + 1, 0, none⟩ = some (.int .i64 (L : Nat)) ∧ w7.cell? ⟨w1.heap.size + 1, 1, none⟩ = some (.int .i64 (L : Nat)) ∧ w7.cell? ⟨w1.heap.size + 1, 2, none⟩ = some (.int .i64 (MM : Nat)) := ⟨o7.cell q6.1 (fun e => by simp only at e; omega), o7.cell q6.2.1 (fun e => by simp only at e; omega), o7.cell q6.2.2.1 (fun e => by simp only at e; omega), o7.cell q6.2.2.2 (fun e => by simp only at e; omega)⟩
  have c4 : w2.drew.cell? ⟨w.heap.size + 1 + 1 + 1, 0, none⟩ = some (.pointer none) := (cell_of_row w2.drew _ 0 _ 27 (0, 0) k3).trans rfl
  have f4 : w2.drew.frozen? ⟨w.heap.size + 1 + 1 + 1, 0, none⟩ = false := frozen_of_row w2.drew _ 0 _ 27 k3
  have c50 : w6.cell? ⟨w.heap.size + 1 + 1 + 1 + 1, 0, none⟩ = some (.int .i64 0) := (cell_of_row _ _ 0 _ 130 (0, 0) k4').trans rfl
  have c51 : w6.cell? ⟨w.heap.size + 1 + 1 + 1 + 1, 1, none⟩ = some (.int .i64 0) := (cell_of_row _ _ 1 _ 130 (0, 0) k4').trans rfl
  have c52 : w6.cell? ⟨w.heap.size + 1 + 1 + 1 + 1, 2, none⟩ = some (.int .i64 0) := (cell_of_row _ _ 2 _ 130 (0, 0) k4').trans rfl
  have f50 : w6.frozen? ⟨w.heap.size + 1 + 1 + 1 + 1, 0, none⟩ = false := frozen_of_row _ _ 0 _ 130 k4'
  have f51 : w6.frozen? ⟨w.heap.size + 1 + 1 + 1 + 1, 1, none⟩ = false := frozen_of_row _ _ 1 _ 130 k4'
  have f52 : w6.frozen? ⟨w.heap.size + 1 + 1 + 1 + 1, 2, none⟩ = false := frozen_of_row _ _ 2 _ 130 k4'
  have HFI := hide (And.intro u6' (And.intro u7 (And.intro it7 (And.intro bl7 (And.intro hpt (And.intro (hruns.mono hb.size) (And.intro hMM (And.intro hL sy))))))))
  clear hpt hruns it sy b1 m3 m4 hb hMM hL r8 r9 b2 hw2 b02 k3 k4 bw2 u6 o6 k4' u7 o7 u6' it7 bl6 bl7 H1 HM hrun d0 d1 d2
  have qd : w2.drew.cell? ⟨w1.heap.size, 0, none⟩ = some (.pointer pt) ∧ w2.drew.cell? ⟨w1.heap.size + 1, 0, none⟩ = some (.int .i64 (L : Nat)) ∧ w2.drew.cell? ⟨w1.heap.size + 1, 1, none⟩ = some (.int .i64 (L : Nat)) ∧ w2.drew.cell? ⟨w1.heap.size + 1, 2, none⟩ = some (.int .i64 (MM : Nat)) := q0
  refine wp_region_held_drew (S := (fun w' => w'.cell? ⟨w1.heap.size, 0, none⟩ = some (.pointer pt) ∧ w'.cell? ⟨w1.heap.size + 1, 0, none⟩ = some (.int .i64 (L : Nat)) ∧ w'.cell? ⟨w1.heap.size + 1, 1, none⟩ = some (.int .i64 (L : Nat)) ∧ w'.cell? ⟨w1.heap.size + 1, 2, none⟩ = some (.int .i64 (MM : Nat)))) (by kernel_rfl) qd (fun hHeld => ?_)
  try dsimp only at hHeld
  refine take_op (i := 0) (d := 19) (OP := Op.load 27 (Operand.tmp 8)) (T := 27) (v := ?vzz1) rfl rfl rfl rfl (by kernel_rfl) (by kernel_rfl) (by kernel_rfl) (fun _ _ _ h => h) (by rfl) ?hzz1 hHeld ?rzz1
  case hzz1 => (intro w' hSw; (try dsimp only at hSw); go_simp <;> with_reducible rfl)
  try simp only [Act.put, List.setIfInBounds_toArray, List.set_cons_zero, List.set_cons_succ]
  refine take_op (i := 1) (d := 20) (OP := Op.load 130 (Operand.tmp 9)) (T := 130) (v := ?vzz2) rfl rfl rfl rfl (by kernel_rfl) (by kernel_rfl) (by kernel_rfl) (fun _ _ _ h => h) (by rfl) ?hzz2 hHeld ?rzz2
  case hzz2 => (intro w' hSw; (try dsimp only at hSw); go_simp <;> with_reducible rfl)
  try simp only [Act.put, List.setIfInBounds_toArray, List.set_cons_zero, List.set_cons_succ]
  refine skip_op (i := 2) (OP := Op.store 27 (Operand.tmp 6) (Operand.tmp 19)) (T := 0) (w' := w6) rfl rfl rfl rfl (by kernel_rfl) (by rfl) (by rw [hw6]; go_simp) ⟨q6, ?_⟩
  try simp only [Act.put, List.setIfInBounds_toArray, List.set_cons_zero, List.set_cons_succ]
  replace hHeld := q6
  clear hw6
  refine skip_op (i := 3) (OP := Op.store 130 (Operand.tmp 7) (Operand.tmp 20)) (T := 0) (w' := w7) rfl rfl rfl rfl (by kernel_rfl) (by rfl) (by rw [hw7]; go_simp) ⟨q7, ?_⟩
  try simp only [Act.put, List.setIfInBounds_toArray, List.set_cons_zero, List.set_cons_succ]
  replace hHeld := q7
  clear hw7
  refine wpAnyH_done (by kernel_rfl) ?_ _
  go_wp2
  refine ret_rr (w.heap.size + 1 + 1 + 1) (w.heap.size + 1 + 1 + 1 + 1) [.pointer pt] [.int .i64 (L : Nat), .int .i64 (L : Nat), .int .i64 (MM : Nat)] rfl rfl rfl Tryz.underlying27 rfl Tryz.underlying130 rfl Tryz.info27 Tryz.info130 HFI.out.1 HFI.out.2.1 rfl ?_
  obtain ⟨_, _, it7, bl7, hpt, hruns, hMM, hL, sy⟩ := HFI.out
  exact ⟨t, ks, by rw [mv_ptr hpt, hMM, ← hL], hruns, it7, sy, bl7⟩
end Go.Proofs.YtkeldhohilmdcaaGreat.Pm
namespace Go.Proofs.YtkeldhohilmdcaaGreat.Pm
open Go.RowKit Go.Shelf
set_option linter.unusedSimpArgs false

end Go.Proofs.YtkeldhohilmdcaaGreat.Pm
