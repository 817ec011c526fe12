/-
  MAPS, as the program has them: Take, Split, Join, Make.
  walk: THE SMALL FUNCTIONS: top 135, joined 137, closed 138, cutAt 33.
  walk: stands 56: IS A NODE ONE OF A MAP's?
-/
import Derived.Test.YtkkpdgfllnbigaaGreatMg5
namespace Go.Proofs.YtkkpdgfllnbigaaGreat.Pm
open Go.RowKit Go.Shelf
set_option linter.unusedSimpArgs false

set_option maxHeartbeats 1000000 in
theorem mTake_any (t : T) (k : ByteArray) (w : World) (h : In w t) (hn : t.n ≤ 700000) : Calls Tryz.prog 131 #[mv t, .string k] w fun e w' => ∃ t', e = .returned (mv t') ∧ In w' t' ∧ Takes w.heap.size k t t' ∧ Below w.heap.size w w' := by
  obtain ⟨hb, hc, hf⟩ := two_boxes w t.ptr
  have hB := (new2 w (.cells #[t.ptr] 27) (.cells #[.pointer none] 27)).2
  have hp := take_any t.n t k _ (Nat.le_refl _) (In.below hb h) hn
  have key : ∀ w1 t', Gives ((w.alloc (.cells #[t.ptr] 27)).alloc (.cells #[.pointer none] 27)) (.returned t'.ptr) w1 t' → Takes ((w.alloc (.cells #[t.ptr] 27)).alloc (.cells #[.pointer none] 27)).heap.size k t t' →
      w1.cell? ⟨w.heap.size + 1, 0, none⟩ = some (.pointer none) ∧ w1.frozen? ⟨w.heap.size + 1, 0, none⟩ = false ∧ Hid ((w1.setCell ⟨w.heap.size + 1, 0, none⟩ t'.ptr).heap[w.heap.size + 1]? = some (.cells #[t'.ptr] 27 (0, 0)) ∧ In (w1.setCell ⟨w.heap.size + 1, 0, none⟩ t'.ptr) t' ∧ Takes w.heap.size k t t' ∧ Below w.heap.size w (w1.setCell ⟨w.heap.size + 1, 0, none⟩ t'.ptr)) := fun w1 t' hg hp => by
    have hw1 := (hg.2.2.block (w.heap.size + 1) (by simp)).trans hB
    have hb1 := hb.trans (hg.2.2.mono hb.size)
    obtain ⟨o1, o2, o3⟩ := out_box (y := t'.ptr) hw1 (by omega) hb1
    refine ⟨by rw [cell_of_row _ _ 0 _ 27 (0, 0) hw1]; rfl, frozen_of_row _ _ 0 _ 27 hw1, hide ⟨o1, In.aside hw1 o3 hg.2.1, hp.mono hb.size, o2⟩⟩
  unfold mv
  obtain ⟨a, ha⟩ := t.ptr_shape
  rw [ha] at hp hb key ⊢
  have HK := hide key
  clear h ha hb hc hf key hB hn
  go_enter Tryz.func131, Tryz.ntmps131
  go_wp2_with (go_at_call 183; refine hp.mono ?_; rintro e w1 ⟨t', hg, hpp⟩; have he := hg.1; subst he; obtain ⟨q1, q2, HQ⟩ := HK.out w1 t' hg hpp; obtain ⟨b, hb⟩ := t'.ptr_shape; have HX := hide hb; rw [hb] at HQ ⊢; clear hb hg hpp)
  refine ret_row (w.heap.size + 1) [.pointer b] rfl rfl Tryz.underlying27 rfl Tryz.info27 HQ.out.1 rfl ?_
  exact ⟨t', by rw [HX.out], HQ.out.2.1, HQ.out.2.2.1, HQ.out.2.2.2⟩

/-- Two structs out of their blocks, and two values between them, are handed back. -/
theorem ret_rows4 {P : Program} {fn : Func} {p q s r : Tmp} {ty : TypeId} (b c : Nat) (cs ds : List Value) {R : Ending → World → Prop} {a : Act} {w : World} (h : fn.results = #[.cell p ty, .tmp q, .tmp s, .cell r ty]) (hp : a.tmps.getD p undef = .pointer (some ⟨b, 0, none⟩)) {v u : Value} (hq : a.tmps.getD q undef = v) (hs : a.tmps.getD s undef = u) (hr : a.tmps.getD r undef = .pointer (some ⟨c, 0, none⟩))
    {d : TypeDesc} (hu : P.underlying ty = some d) (hd : d.isRow = true) (hi : (P.info? ty).map (·.size) = some cs.length) (hi2 : (P.info? ty).map (·.size) = some ds.length) {t t2 : TypeId} {fr fr2 : Nat × Nat} (hc : w.heap[b]? = some (.cells cs.toArray t fr)) (hc2 : w.heap[c]? = some (.cells ds.toArray t2 fr2)) (hdef : a.defers = [])
    (hR : R (.returned (.tuple #[.agg cs.toArray, v, u, .agg ds.toArray])) w) : bodyPost P fn R .ret a w := by
  refine bodyPost_ret (v := .tuple #[.agg cs.toArray, v, u, .agg ds.toArray]) ?_ hdef hR
  have h1 := run_loadVar_mid (P := P) w b 0 ty cs _ (fun j v hv => by rw [cell_of_row w b (0 + j) cs.toArray t fr hc, Nat.zero_add]; simpa using hv) hu hd hi
  have h2 := run_loadVar_mid (P := P) w c 0 ty ds _ (fun j v hv => by rw [cell_of_row w c (0 + j) ds.toArray t2 fr2 hc2, Nat.zero_add]; simpa using hv) hu hd hi2
  have hp' : a.tmps[p]?.getD undef = .pointer (some ⟨b, 0, none⟩) := by simpa using hp
  have hr' : a.tmps[r]?.getD undef = .pointer (some ⟨c, 0, none⟩) := by simpa using hr
  have hq' : a.tmps[q]?.getD undef = v := by simpa using hq
  have hs' : a.tmps[s]?.getD undef = u := by simpa using hs
  simp [results, h, hp', hq', hs', hr', asAddr, Sem.run_bind, Result.andThen, h1, h2]

theorem new3 (w : World) (o1 o2 o3 : Obj) : (((w.alloc o1).alloc o2).alloc o3).heap[w.heap.size]? = some o1 ∧ (((w.alloc o1).alloc o2).alloc o3).heap[w.heap.size + 1]? = some o2 ∧ (((w.alloc o1).alloc o2).alloc o3).heap[w.heap.size + 1 + 1]? = some o3 ∧ Below w.heap.size w (((w.alloc o1).alloc o2).alloc o3) := by
  obtain ⟨h1, h2⟩ := new2 w o1 o2
  have s2 : ((w.alloc o1).alloc o2).heap.size = w.heap.size + 1 + 1 := by simp
  refine ⟨(Below.heap_alloc _ _ _ (by rw [s2]; omega)).trans h1, (Below.heap_alloc _ _ _ (by rw [s2]; omega)).trans h2, ?_, (((Below.refl _ w).alloc (Nat.le_refl _) _).alloc (by simp) _).alloc (by simp; omega) _⟩
  have := heap_alloc_new ((w.alloc o1).alloc o2) o3
  rw [s2] at this
  exact this

set_option maxHeartbeats 2000000 in
theorem mSplit_any (t : T) (k : ByteArray) (w : World) (h : In w t) (hn : t.n ≤ 700000) : Calls Tryz.prog 246 #[mv t, .string k] w fun e w' => ∃ a f b, e = .returned (.tuple #[mv a, .string f.val, .bool f.isSome, mv b]) ∧ Splits w.heap.size k t a f b ∧ In w' a ∧ In w' b ∧ Below w.heap.size w w' := by
  obtain ⟨m0, m1, m2, hb⟩ := new3 w (.cells #[t.ptr] 27) (.cells #[.pointer none] 27) (.cells #[.pointer none] 27)
  have hp := split_any k t _ (In.below hb h) hn
  have key : ∀ w1 a f b, Splits (((w.alloc (.cells #[t.ptr] 27)).alloc (.cells #[.pointer none] 27)).alloc (.cells #[.pointer none] 27)).heap.size k t a f b → In w1 a → In w1 f → In w1 b → Below (((w.alloc (.cells #[t.ptr] 27)).alloc (.cells #[.pointer none] 27)).alloc (.cells #[.pointer none] 27)).heap.size (((w.alloc (.cells #[t.ptr] 27)).alloc (.cells #[.pointer none] 27)).alloc (.cells #[.pointer none] 27)) w1 →
      w1.cell? ⟨w.heap.size + 1, 0, none⟩ = some (.pointer none) ∧ w1.frozen? ⟨w.heap.size + 1, 0, none⟩ = false ∧ (w1.setCell ⟨w.heap.size + 1, 0, none⟩ a.ptr).cell? ⟨w.heap.size + 1 + 1, 0, none⟩ = some (.pointer none) ∧ (w1.setCell ⟨w.heap.size + 1, 0, none⟩ a.ptr).frozen? ⟨w.heap.size + 1 + 1, 0, none⟩ = false ∧
      Hid (((w1.setCell ⟨w.heap.size + 1, 0, none⟩ a.ptr).setCell ⟨w.heap.size + 1 + 1, 0, none⟩ b.ptr).heap[w.heap.size + 1]? = some (.cells #[a.ptr] 27 (0, 0)) ∧ ((w1.setCell ⟨w.heap.size + 1, 0, none⟩ a.ptr).setCell ⟨w.heap.size + 1 + 1, 0, none⟩ b.ptr).heap[w.heap.size + 1 + 1]? = some (.cells #[b.ptr] 27 (0, 0)) ∧
        In ((w1.setCell ⟨w.heap.size + 1, 0, none⟩ a.ptr).setCell ⟨w.heap.size + 1 + 1, 0, none⟩ b.ptr) a ∧ In ((w1.setCell ⟨w.heap.size + 1, 0, none⟩ a.ptr).setCell ⟨w.heap.size + 1 + 1, 0, none⟩ b.ptr) b ∧ Splits w.heap.size k t a f b ∧ Below w.heap.size w ((w1.setCell ⟨w.heap.size + 1, 0, none⟩ a.ptr).setCell ⟨w.heap.size + 1 + 1, 0, none⟩ b.ptr)) ∧
      Calls Tryz.prog 120 #[f.ptr] w1 (fun e w' => e = .returned (.string f.val) ∧ w' = w1) := fun w1 a f b hs ia if_ ib hb1 => by
    have hw1 := (hb1.block (w.heap.size + 1) (by simp)).trans m1
    have hw2 := (hb1.block (w.heap.size + 1 + 1) (by simp)).trans m2
    have hbb := hb.trans (hb1.mono hb.size)
    obtain ⟨o1, o2, o3⟩ := out_box (y := a.ptr) hw1 (by omega) hbb
    have hw2' := (o3.block (w.heap.size + 1 + 1) (gI hw2).1 (by omega)).trans hw2
    obtain ⟨p1, p2, p3⟩ := out_box (y := b.ptr) hw2' (by omega) o2
    have o1' := (p3.block (w.heap.size + 1) (gI o1).1 (by omega)).trans o1
    exact ⟨by rw [cell_of_row _ _ 0 _ 27 (0, 0) hw1]; rfl, frozen_of_row _ _ 0 _ 27 hw1, by rw [cell_of_row _ _ 0 _ 27 (0, 0) hw2']; rfl, frozen_of_row _ _ 0 _ 27 hw2', hide ⟨o1', p1, In.aside hw2' p3 (In.aside hw1 o3 ia), In.aside hw2' p3 (In.aside hw1 o3 ib), hs.mono hb.size, p2⟩, value_any f w1 if_⟩
  unfold mv
  obtain ⟨x, hx⟩ := t.ptr_shape
  rw [hx] at hp hb key ⊢
  have HK := hide key
  clear h hx hb key hn m0 m1 m2
  go_enter Tryz.func246, Tryz.ntmps246
  go_wp2_with (first
    | (go_at_call 265; refine hp.mono ?_; rintro e w1 ⟨a, f, b, rfl, hs, ia, if_, ib, hb1⟩; obtain ⟨q1, q2, q3, q4, HQ, hv⟩ := HK.out w1 a f b hs ia if_ ib hb1; obtain ⟨xa, ha⟩ := a.ptr_shape; obtain ⟨xf, hf⟩ := f.ptr_shape; obtain ⟨xb, hb⟩ := b.ptr_shape; have hi := (isSome_ptr hf).2; rw [ha, hb] at HQ; rw [ha] at q3 q4; rw [hf] at hv; rw [ha, hf, hb]; have HX := hide (And.intro ha (And.intro hf hb)); clear ha hf hb hs ia if_ ib hb1)
    | (go_at_call 120; refine hv.mono ?_; rintro e w' ⟨rfl, hw⟩; replace hw := hw.symm; subst hw))
  refine ret_rows4 (w.heap.size + 1) (w.heap.size + 1 + 1) [.pointer xa] [.pointer xb] rfl rfl rfl rfl rfl Tryz.underlying27 rfl Tryz.info27 Tryz.info27 HQ.out.1 HQ.out.2.1 rfl ?_
  refine ⟨a, f, b, ?_, HQ.out.2.2.2.2.1, HQ.out.2.2.1, HQ.out.2.2.2.1, HQ.out.2.2.2.2.2⟩
  rw [HX.out.1, HX.out.2.2]
  simp [hi]

set_option maxHeartbeats 2000000 in
theorem mJoin_any (l r : T) (k : ByteArray) (v : ByteArray) (w : World) (hl : In w l) (hr : In w r) (hn : l.n + r.n ≤ 700000) : Calls Tryz.prog 247 #[mv l, .string k, .string v, mv r] w fun e w' => ∃ t, e = .returned (.tuple #[mv t, .int .i64 (if fitsB l k r then 0 else 2)]) ∧ (fitsB l k r = false → t = .nil) ∧ (fitsB l k r = true → Joined w.heap.size k v l r t) ∧ In w' t ∧ Below w.heap.size w w' := by
  obtain ⟨m0, m1, m2, hb⟩ := new3 w (.cells #[l.ptr] 27) (.cells #[r.ptr] 27) (.cells #[.pointer none] 27)
  have hf := fits_any l r k _ (In.below hb hl) (In.below hb hr)
  have hj := join_any k v 800000 l r _ (by omega) (by omega) (In.below hb hl) (In.below hb hr)
  have key : ∀ w1 t, Gives (((w.alloc (.cells #[l.ptr] 27)).alloc (.cells #[r.ptr] 27)).alloc (.cells #[.pointer none] 27)) (.returned t.ptr) w1 t → Joined (((w.alloc (.cells #[l.ptr] 27)).alloc (.cells #[r.ptr] 27)).alloc (.cells #[.pointer none] 27)).heap.size k v l r t →
      w1.cell? ⟨w.heap.size + 1 + 1, 0, none⟩ = some (.pointer none) ∧ w1.frozen? ⟨w.heap.size + 1 + 1, 0, none⟩ = false ∧ Hid ((w1.setCell ⟨w.heap.size + 1 + 1, 0, none⟩ t.ptr).heap[w.heap.size + 1 + 1]? = some (.cells #[t.ptr] 27 (0, 0)) ∧ In (w1.setCell ⟨w.heap.size + 1 + 1, 0, none⟩ t.ptr) t ∧ Joined w.heap.size k v l r t ∧ Below w.heap.size w (w1.setCell ⟨w.heap.size + 1 + 1, 0, none⟩ t.ptr)) := fun w1 t hg hp => by
    have hw1 := (hg.2.2.block (w.heap.size + 1 + 1) (by simp)).trans m2
    have hb1 := hb.trans (hg.2.2.mono hb.size)
    obtain ⟨o1, o2, o3⟩ := out_box (y := t.ptr) hw1 (by omega) hb1
    exact ⟨by rw [cell_of_row _ _ 0 _ 27 (0, 0) hw1]; rfl, frozen_of_row _ _ 0 _ 27 hw1, hide ⟨o1, In.aside hw1 o3 hg.2.1, hp.mono hb.size, o2⟩⟩
  unfold mv
  obtain ⟨x, hx⟩ := l.ptr_shape
  obtain ⟨y, hy⟩ := r.ptr_shape
  rw [hx, hy] at hf hj hb m2 ⊢
  rw [hx, hy] at key
  have HK := hide key
  clear hl hr hx hy key hn m0 m1
  generalize hF : fitsB l k r = F at *
  cases F with
  | false =>
    clear hj
    have HB := hide (And.intro hb m2)
    clear hb m2
    go_enter Tryz.func247, Tryz.ntmps247
    go_wp2_with (go_at_call 266; refine hf.mono ?_; rintro e w' ⟨rfl, rfl⟩)
    refine ret_row_tmp (w.heap.size + 1 + 1) [.pointer none] rfl rfl rfl Tryz.underlying27 rfl Tryz.info27 HB.out.2 rfl ?_
    exact ⟨.nil, rfl, rfl, trivial, HB.out.1⟩
  | true =>
    have HB := hide (And.intro hb m2)
    clear hb m2
    go_enter Tryz.func247, Tryz.ntmps247
    go_wp2_with (first
      | (go_at_call 266; refine hf.mono ?_; rintro e w' ⟨rfl, hw⟩; replace hw := hw.symm; subst hw)
      | (go_at_call 209; refine hj.mono ?_; rintro e w1 ⟨t, hg, hpp⟩; have he := hg.1; subst he; obtain ⟨q1, q2, HQ⟩ := HK.out w1 t hg hpp; obtain ⟨b, hb⟩ := t.ptr_shape; have HX := hide hb; rw [hb] at HQ ⊢; clear hb hg hpp))
    refine ret_row_tmp (w.heap.size + 1 + 1) [.pointer b] rfl rfl rfl Tryz.underlying27 rfl Tryz.info27 HQ.out.1 rfl ?_
    exact ⟨t, by rw [HX.out]; rfl, HQ.out.2.2.1, HQ.out.2.1, HQ.out.2.2.2⟩
end Go.Proofs.YtkkpdgfllnbigaaGreat.Pm
namespace Go.Proofs.YtkkpdgfllnbigaaGreat.Pm
open Go.RowKit Go.Shelf
set_option linter.unusedSimpArgs false

/-- What is written into a map's box. -/
theorem put_box {w w1 : World} {B : Nat} {x y : Value} (hw : w1.heap[B]? = some (.cells #[x] 27 (0, 0))) (hB : w.heap.size ≤ B) (hb : Below w.heap.size w w1) : (w1.setCell ⟨B, 0, none⟩ y).heap[B]? = some (.cells #[y] 27 (0, 0)) ∧ Below w.heap.size w (w1.setCell ⟨B, 0, none⟩ y) ∧ Only (fun j => j = B) w1 (w1.setCell ⟨B, 0, none⟩ y) := by
  refine ⟨?_, hb.setCell (p := ⟨B, 0, none⟩) hB _, (Only.ofGrown (grown_setCell w1 ⟨B, 0, none⟩ _)).mono (fun j _ e => by simpa using e.symm)⟩
  rw [heap_setCell_same _ _ _ _ 27 _ hw]
  simp
theorem mv_ptr {t : T} {a : Option Addr} (h : t.ptr = .pointer a) : mv t = .agg #[.pointer a] := by unfold mv; rw [h]
/-- top: the key of a's root, or of b's. -/
theorem top_any (s t : T) (w : World) (hs : In w s) (ht : In w t) : Calls Tryz.prog 224 #[mv s, mv t] w fun e w' => e = .returned (.string (if s = .nil then t.key else s.key)) ∧ Below w.heap.size w w' := by
  have hb : Below w.heap.size w ((w.alloc (.cells #[s.ptr] 27)).alloc (.cells #[t.ptr] 27)) := ((Below.refl _ w).alloc (Nat.le_refl _) _).alloc (by simp) _
  cases s with
  | nil =>
    rw [if_pos rfl]
    obtain ⟨b, hb'⟩ := t.ptr_shape
    have r1 := mRoot_any .nil ((w.alloc (.cells #[.pointer none] 27)).alloc (.cells #[.pointer b] 27))
    have r2 : ∀ W, Calls Tryz.prog 245 #[.agg #[.pointer b]] W fun e w' => e = .returned (.pointer b) ∧ Below W.heap.size W w' := fun W => by
      have := mRoot_any t W
      rw [mv_ptr hb', hb'] at this
      exact this
    have k2 : ∀ W, In W t → Calls Tryz.prog 233 #[.pointer b] W fun e w' => e = .returned (.string t.key) ∧ w' = W := fun W hW => by
      have := key_any t W hW
      rw [hb'] at this
      exact this
    unfold mv at r1 ⊢
    rw [hb'] at hb ⊢
    simp only [T.ptr] at r1 hb ⊢
    have HT := hide (And.intro ht (And.intro hb k2))
    clear hs ht hb' hb k2
    go_enter Tryz.func224, Tryz.ntmps224
    go_upto_region 2 with (go_at_call 245; refine r1.mono ?_; rintro e w1 ⟨rfl, b1⟩; dsimp only)
    obtain ⟨ht, hb, k2⟩ := HT.out
    obtain ⟨n0, n1⟩ := new2 w (.cells #[.pointer none] 27) (.cells #[.pointer b] 27)
    have h0 := (b1.block w.heap.size (by simp; omega)).trans n0
    have h1 := (b1.block (w.heap.size + 1) (by simp)).trans n1
    have c0 : w1.cell? ⟨w.heap.size, 0, none⟩ = some (.pointer none) := (cell_of_row _ _ 0 _ 27 (0, 0) h0).trans rfl
    have f0 : w1.frozen? ⟨w.heap.size, 0, none⟩ = false := frozen_of_row _ _ 0 _ 27 h0
    have c1 : w1.cell? ⟨w.heap.size + 1, 0, none⟩ = some (.pointer b) := (cell_of_row _ _ 0 _ 27 (0, 0) h1).trans rfl
    have bw1 := hb.trans (b1.mono hb.size)
    obtain ⟨o1, o2, o3⟩ := put_box (y := .pointer b) h0 (Nat.le_refl _) bw1
    have it : In (w1.setCell ⟨w.heap.size, 0, none⟩ (.pointer b)) t := In.aside h0 o3 (In.below bw1 ht)
    have c2 : (w1.setCell ⟨w.heap.size, 0, none⟩ (.pointer b)).cell? ⟨w.heap.size, 0, none⟩ = some (.pointer b) := (cell_of_row _ _ 0 _ 27 (0, 0) o1).trans rfl
    have HI := hide (And.intro it o2)
    clear ht hb n0 n1 h0 h1 bw1 o1 o2 o3 it b1 HT r1
    go_wp2_with (first
      | (go_at_call 245; refine (r2 _).mono ?_; rintro e w3 ⟨rfl, b3⟩; have k3 := k2 w3 (In.below b3 HI.out.1); dsimp only)
      | (go_at_call 233; refine k3.mono ?_; rintro e w4 ⟨rfl, hw⟩; replace hw := hw.symm; subst hw))
    go_ret
    exact ⟨rfl, HI.out.2.trans (b3.mono HI.out.2.size)⟩
  | node p k v l r =>
    rw [if_neg (by simp)]
    obtain ⟨b, hb'⟩ := t.ptr_shape
    have r1 := fun W => mRoot_any (.node p k v l r) W
    have k2 : ∀ W, In W (T.node p k v l r) → Calls Tryz.prog 233 #[.pointer (some ⟨p, 0, none⟩)] W fun e w' => e = .returned (.string k) ∧ w' = W := fun W hW => key_any (.node p k v l r) W hW
    unfold mv at r1 ⊢
    rw [hb'] at hb ⊢
    simp only [T.ptr, T.key] at r1 hb ⊢
    obtain ⟨n0, n1⟩ := new2 w (.cells #[.pointer (some ⟨p, 0, none⟩)] 27) (.cells #[.pointer b] 27)
    have HT := hide (And.intro hs (And.intro hb (And.intro k2 n0)))
    clear hs ht hb' hb k2 n0 n1
    have tk : True := trivial
    go_enter Tryz.func224, Tryz.ntmps224
    go_wp2_with (first
      | (go_at_call 245; clear tk; refine (r1 _).mono ?_; rintro e w1 ⟨rfl, b1⟩; have c1 : w1.cell? ⟨w.heap.size, 0, none⟩ = some (.pointer (some ⟨p, 0, none⟩)) := (cell_of_row _ _ 0 _ 27 (0, 0) ((b1.block w.heap.size (by simp; omega)).trans HT.out.2.2.2)).trans rfl; replace b1 := hide b1; dsimp only)
      | (go_at_call 245; refine (r1 _).mono ?_; rintro e w3 ⟨rfl, b3⟩; have bw3 := (HT.out.2.1.trans (b1.out.mono HT.out.2.1.size)).trans (b3.mono (HT.out.2.1.trans (b1.out.mono HT.out.2.1.size)).size); have k3 := HT.out.2.2.1 w3 (In.below bw3 HT.out.1); replace bw3 := hide bw3; dsimp only)
      | (go_at_call 233; refine k3.mono ?_; rintro e w4 ⟨rfl, hw⟩; replace hw := hw.symm; subst hw))
    go_ret
    exact ⟨rfl, bw3.out⟩
/-- joined: both sides with a key that fits between them. -/
theorem joined_any (l r : T) (k : ByteArray) (v : ByteArray) (w : World) (hl : In w l) (hr : In w r) (hf : fitsB l k r = true) (hn : l.n + r.n ≤ 700000) : Calls Tryz.prog 226 #[mv l, .string k, .string v, mv r] w fun e w' => ∃ t, e = .returned (mv t) ∧ Joined w.heap.size k v l r t ∧ In w' t ∧ Below w.heap.size w w' := by
  obtain ⟨m0, m1, m2, hb⟩ := new3 w (.cells #[l.ptr] 27) (.cells #[r.ptr] 27) (.cells #[.pointer none] 27)
  have hj := mJoin_any l r k v _ (In.below hb hl) (In.below hb hr) hn
  rw [hf] at hj
  have key : ∀ w1 t a, In w1 t → t.ptr = .pointer a → Joined (((w.alloc (.cells #[l.ptr] 27)).alloc (.cells #[r.ptr] 27)).alloc (.cells #[.pointer none] 27)).heap.size k v l r t → Below (((w.alloc (.cells #[l.ptr] 27)).alloc (.cells #[r.ptr] 27)).alloc (.cells #[.pointer none] 27)).heap.size (((w.alloc (.cells #[l.ptr] 27)).alloc (.cells #[r.ptr] 27)).alloc (.cells #[.pointer none] 27)) w1 →
      (w1.alloc (.cells #[.pointer a] 27)).cell? ⟨w.heap.size + 1 + 1, 0, none⟩ = some (.pointer none) ∧ (w1.alloc (.cells #[.pointer a] 27)).frozen? ⟨w.heap.size + 1 + 1, 0, none⟩ = false ∧ Hid (((w1.alloc (.cells #[.pointer a] 27)).setCell ⟨w.heap.size + 1 + 1, 0, none⟩ (.pointer a)).heap[w.heap.size + 1 + 1]? = some (.cells #[.pointer a] 27 (0, 0)) ∧ In ((w1.alloc (.cells #[.pointer a] 27)).setCell ⟨w.heap.size + 1 + 1, 0, none⟩ (.pointer a)) t ∧ Joined w.heap.size k v l r t ∧ Below w.heap.size w ((w1.alloc (.cells #[.pointer a] 27)).setCell ⟨w.heap.size + 1 + 1, 0, none⟩ (.pointer a))) := fun w1 t a it hp hj hb1 => by
    have ba : Below w1.heap.size w1 (w1.alloc (.cells #[.pointer a] 27)) := (Below.refl _ w1).alloc (Nat.le_refl _) _
    have hw0 := (hb1.block (w.heap.size + 1 + 1) (by simp)).trans m2
    have hw1 := (ba.block _ (gI hw0).1).trans hw0
    have hbb := hb.trans (hb1.mono hb.size)
    obtain ⟨o1, o2, o3⟩ := out_box (y := .pointer a) hw1 (by omega) (hbb.trans (ba.mono hbb.size))
    exact ⟨by rw [cell_of_row _ _ 0 _ 27 (0, 0) hw1]; rfl, frozen_of_row _ _ 0 _ 27 hw1, hide ⟨o1, In.aside hw1 o3 (In.below ba it), hj.mono hb.size, o2⟩⟩
  unfold mv at hj ⊢
  obtain ⟨x, hx⟩ := l.ptr_shape
  obtain ⟨y, hy⟩ := r.ptr_shape
  rw [hx, hy] at hj key ⊢
  have HK := hide key
  clear hl hr hx hy hb key hn m0 m1 m2 hf
  go_enter Tryz.func226, Tryz.ntmps226
  go_wp2_with (go_at_call 247; refine hj.mono ?_; rintro e w1 ⟨t, he, _, hjj, it, hb1⟩; obtain ⟨a, ha⟩ := t.ptr_shape; rw [ha, if_pos rfl] at he; subst he; obtain ⟨q1, q2, HQ⟩ := HK.out w1 t a it ha (hjj rfl) hb1; have HX := hide ha; clear ha it hb1 hjj)
  refine ret_row (w.heap.size + 1 + 1) [.pointer a] rfl rfl Tryz.underlying27 rfl Tryz.info27 HQ.out.1 rfl ?_
  exact ⟨t, by rw [HX.out], HQ.out.2.2.1, HQ.out.2.1, HQ.out.2.2.2⟩
/-- Trees stand where only blocks that are no nodes are written. -/
theorem In.typed {D : Nat → Prop} {w w' : World} (h : Only D w w') (ha : ∀ j, D j → ∀ o, w.heap[j]? = some o → ∃ cur e fr, o = .cells cur e fr ∧ e ≠ 162) : ∀ {t : T}, In w t → In w' t
  | .nil, _ => trivial
  | .node p _ _ _ _, ⟨h1, h2, h3⟩ => by
    refine ⟨(h.block p (gI h1).1 (fun d => ?_)).trans h1, In.typed h ha h2, In.typed h ha h3⟩
    obtain ⟨cur, e, fr, he, hne⟩ := ha p d _ h1
    simp only [Obj.cells.injEq] at he
    exact hne he.2.1.symm
theorem set_one {w : World} {B i : Nat} {cs : Array Value} {ty : TypeId} (v : Value) (h : w.heap[B]? = some (.cells cs ty (0, 0))) : (w.setCell ⟨B, i, none⟩ v).heap[B]? = some (.cells (cs.setIfInBounds i v) ty (0, 0)) ∧ Only (fun j => j = B) w (w.setCell ⟨B, i, none⟩ v) := by
  refine ⟨?_, (Only.ofGrown (grown_setCell w ⟨B, i, none⟩ _)).mono (fun j _ e => by simpa using e.symm)⟩
  rw [heap_setCell_same _ _ _ _ ty _ h]
theorem set4 {w : World} {B : Nat} {x0 x1 x2 x3 : Value} {ty : TypeId} (a b c d : Value) (h : w.heap[B]? = some (.cells #[x0, x1, x2, x3] ty (0, 0))) : ((((w.setCell ⟨B, 0, none⟩ a).setCell ⟨B, 1, none⟩ b).setCell ⟨B, 2, none⟩ c).setCell ⟨B, 3, none⟩ d).heap[B]? = some (.cells #[a, b, c, d] ty (0, 0)) ∧ Only (fun j => j = B) w ((((w.setCell ⟨B, 0, none⟩ a).setCell ⟨B, 1, none⟩ b).setCell ⟨B, 2, none⟩ c).setCell ⟨B, 3, none⟩ d) := by
  obtain ⟨h1, o1⟩ := set_one (i := 0) a h
  obtain ⟨h2, o2⟩ := set_one (i := 1) b h1
  obtain ⟨h3, o3⟩ := set_one (i := 2) c h2
  obtain ⟨h4, o4⟩ := set_one (i := 3) d h3
  exact ⟨by simpa using h4, ((o1.trans o2 (fun _ _ e => e)).trans o3 (fun _ _ e => e)).trans o4 (fun _ _ e => e)⟩
/-- What a split tells, in one value. -/
def cv (a b : T) (f : T) : Value := .agg #[a.ptr, b.ptr, .string f.val, .bool f.isSome]
theorem Tryz.info213 : (Tryz.prog.info? 213).map (·.size) = some 4 := by kernel_rfl
set_option maxHeartbeats 2000000 in
theorem cutAt_any (t : T) (k : ByteArray) (w : World) (h : In w t) (hn : t.n ≤ 700000) : Calls Tryz.prog 225 #[mv t, .string k] w fun e w' => ∃ a f b, e = .returned (cv a b f) ∧ Splits w.heap.size k t a f b ∧ In w' a ∧ In w' b ∧ Below w.heap.size w w' := by
  have hs := fun W (hW : In W t) => mSplit_any t k W hW hn
  unfold mv at hs ⊢
  obtain ⟨x, hx⟩ := t.ptr_shape
  rw [hx] at hs ⊢
  obtain ⟨n0, n1⟩ := new2 w (.cells #[.pointer x] 27) (.cells #[.pointer none, .pointer none, .string ⟨#[]⟩, .bool false] 213)
  have hb : Below w.heap.size w ((w.alloc (.cells #[.pointer x] 27)).alloc (.cells #[.pointer none, .pointer none, .string ⟨#[]⟩, .bool false] 213)) := ((Below.refl _ w).alloc (Nat.le_refl _) _).alloc (by simp) _
  have hs0 := hs _ (In.below hb h)
  have HN := hide (And.intro n1 hb)
  clear hs h n0 n1 hb
  go_enter Tryz.func225, Tryz.ntmps225
  go_upto_region 2 with (go_at_call 246; refine hs0.mono ?_; rintro e w1 ⟨ta, f, tb, he, hsp, ia, ib, b1⟩; obtain ⟨pa, hpa⟩ := ta.ptr_shape; obtain ⟨pb, hpb⟩ := tb.ptr_shape; rw [hpa, hpb] at he; subst he; have H1 := hide (And.intro hpa (And.intro hpb (And.intro hsp (And.intro ia (And.intro ib b1))))); clear hpa hpb hsp ia ib b1; dsimp only)
  obtain ⟨hpa, hpb, hsp, ia, ib, b1⟩ := H1.out
  have bw1 := HN.out.2.trans (b1.mono HN.out.2.size)
  have h1 := (b1.block (w.heap.size + 1) (by simp)).trans HN.out.1
  have ba : Below w1.heap.size w1 ((w1.alloc (.cells #[.pointer pa] 27)).alloc (.cells #[.pointer pb] 27)) := ((Below.refl _ w1).alloc (Nat.le_refl _) _).alloc (by simp) _
  have h2 := (ba.block _ (gI h1).1).trans h1
  obtain ⟨w2, hw2⟩ : ∃ w2, w2 = ((w1.alloc (.cells #[.pointer pa] 27)).alloc (.cells #[.pointer pb] 27)) := ⟨_, rfl⟩
  have k5 : w2.cell? ⟨w1.heap.size, 0, none⟩ = some (.pointer pa) ∧ w2.cell? ⟨w1.heap.size + 1, 0, none⟩ = some (.pointer pb) := by
    obtain ⟨n0, n1⟩ := new2 w1 (.cells #[.pointer pa] 27) (.cells #[.pointer pb] 27)
    rw [hw2]
    exact ⟨(cell_of_row _ _ 0 _ 27 (0, 0) n0).trans rfl, (cell_of_row _ _ 0 _ 27 (0, 0) n1).trans rfl⟩
  rw [← hw2] at h2 ba ⊢
  have d0 : w2.cell? ⟨w.heap.size + 1, 0, none⟩ = some (.pointer none) := (cell_of_row _ _ 0 _ 213 (0, 0) h2).trans rfl
  have d1 : w2.cell? ⟨w.heap.size + 1, 1, none⟩ = some (.pointer none) := (cell_of_row _ _ 1 _ 213 (0, 0) h2).trans rfl
  have d2 : w2.cell? ⟨w.heap.size + 1, 2, none⟩ = some (.string ⟨#[]⟩) := (cell_of_row _ _ 2 _ 213 (0, 0) h2).trans rfl
  have d3 : w2.cell? ⟨w.heap.size + 1, 3, none⟩ = some (.bool false) := (cell_of_row _ _ 3 _ 213 (0, 0) h2).trans rfl
  obtain ⟨k5, k8⟩ := k5
  have f0 : w2.frozen? ⟨w.heap.size + 1, 0, none⟩ = false := frozen_of_row _ _ 0 _ 213 h2
  have f1 : w2.frozen? ⟨w.heap.size + 1, 1, none⟩ = false := frozen_of_row _ _ 1 _ 213 h2
  have f2 : w2.frozen? ⟨w.heap.size + 1, 2, none⟩ = false := frozen_of_row _ _ 2 _ 213 h2
  have f3 : w2.frozen? ⟨w.heap.size + 1, 3, none⟩ = false := frozen_of_row _ _ 3 _ 213 h2
  obtain ⟨g1, g2⟩ := set4 (.pointer pa) (.pointer pb) (.string f.val) (.bool f.isSome) h2
  have bw2 := bw1.trans (ba.mono bw1.size)
  have hty : ∀ j, j = w.heap.size + 1 → ∀ o, w2.heap[j]? = some o → ∃ cur e fr, o = .cells cur e fr ∧ e ≠ 162 := fun j e o ho => by
    subst e
    rw [h2] at ho
    cases ho
    exact ⟨_, _, _, rfl, by decide⟩
  have HF := hide (And.intro g1 (And.intro (In.typed g2 hty (In.below ba ia)) (And.intro (In.typed g2 hty (In.below ba ib)) (And.intro (hsp.mono HN.out.2.size) (Below.only bw2 g2 bw2.size (fun j e => by omega))))))
  clear hpa hpb hsp ia ib b1 bw1 h1 hw2 hs0 g1 g2 hty h2 bw2 ba
  go_wp2
  refine ret_row (w.heap.size + 1) [.pointer pa, .pointer pb, .string f.val, .bool f.isSome] rfl rfl Tryz.underlying213 rfl Tryz.info213 HF.out.1 rfl ?_
  exact ⟨ta, f, tb, by unfold cv; rw [H1.out.1, H1.out.2.1], HF.out.2.2.2.1, HF.out.2.1, HF.out.2.2.1, HF.out.2.2.2.2⟩
end Go.Proofs.YtkkpdgfllnbigaaGreat.Pm
namespace Go.Proofs.YtkkpdgfllnbigaaGreat.Pm
open Go.RowKit Go.Shelf
set_option linter.unusedSimpArgs false

/-- Nodes compared. -/
theorem eqT (s n : T) (W : World) (hs : In W s) (hn : In W n) : (binOp .eql 25 s.ptr n.ptr).run Tryz.prog W = .ok (.bool (decide (s = n))) W := by
  by_cases e : s = n
  · subst e; simp only [decide_true]; exact eql_same s _
  · rw [decide_eq_false e]; exact eql_other hs hn e
set_option maxHeartbeats 4000000 in
theorem stands_any (n t : T) (w : World) (hn : In w n) (ht : In w t) : Calls Tryz.prog 249 #[n.ptr, mv t] w fun e w' => e = .returned (.bool (decide (t.find n.key = n))) ∧ Below w.heap.size w w' := by
  have hb : Below w.heap.size w (w.alloc (.cells #[t.ptr] 27)) := (Below.refl _ w).alloc (Nat.le_refl _) _
  have r1 := mRoot_any t (w.alloc (.cells #[t.ptr] 27))
  unfold mv at r1 ⊢
  obtain ⟨a, ha⟩ := n.ptr_shape
  obtain ⟨b, hb'⟩ := t.ptr_shape
  rw [hb'] at r1 hb ⊢
  rw [ha]
  have HI := hide (And.intro hn (And.intro ht (And.intro hb (And.intro ha hb'))))
  clear hn ht hb ha hb'
  go_enter Tryz.func249, Tryz.ntmps249
  go_wp2_with (go_at_call 245; refine r1.mono ?_; rintro e w1 ⟨rfl, b1⟩; replace b1 := hide b1; dsimp only)
  have bw1 := hide (HI.out.2.2.1.trans (b1.out.mono HI.out.2.2.1.size))
  clear b1 r1
  go_loopg [5] t.h (fun k v5 wr => ∃ (s : T) (b : Option Addr), v5 = .pointer b ∧ Hid (s.ptr = .pointer b ∧ In w1 s ∧ s.find n.key = t.find n.key ∧ s.h = k) ∧ wr = w1)
  case atStart => exact ⟨t, b, rfl, hide ⟨HI.out.2.2.2.2, In.below bw1.out HI.out.2.1, rfl, rfl⟩, rfl⟩
  case round =>
    obtain ⟨s, b, rfl, HS, rfl⟩ := hrel
    obtain ⟨hp, hs, hf, hh⟩ := HS.out
    have hq := eqT s n wr hs (In.below bw1.out HI.out.1)
    rw [hp, HI.out.2.2.2.1] at hq
    have kn : Calls Tryz.prog 233 #[.pointer a] wr fun e w' => e = .returned (.string n.key) ∧ w' = wr := by
      have := key_any n wr (In.below bw1.out HI.out.1)
      rw [HI.out.2.2.2.1] at this
      exact this
    cases s with
    | nil =>
      have hb0 : b = none := by simpa [T.ptr] using hp.symm
      subst hb0
      have HF := hide hf
      clear hp hs hf hh HS kn
      go_wp2
      go_ret
      refine ⟨?_, bw1.out⟩
      rw [← HF.out]
      rfl
    | node p k v l r =>
      simp only [T.ptr] at hp
      cases hp
      have ks : Calls Tryz.prog 233 #[.pointer (some ⟨p, 0, none⟩)] wr fun e w' => e = .returned (.string k) ∧ w' = wr := key_any (.node p k v l r) wr hs
      have ls : Calls Tryz.prog 194 #[.pointer (some ⟨p, 0, none⟩)] wr fun e w' => e = .returned l.ptr ∧ w' = wr := left_any (.node p k v l r) wr hs
      have rs : Calls Tryz.prog 191 #[.pointer (some ⟨p, 0, none⟩)] wr fun e w' => e = .returned r.ptr ∧ w' = wr := right_any (.node p k v l r) wr hs
      obtain ⟨la, hla⟩ := l.ptr_shape
      obtain ⟨ra, hra⟩ := r.ptr_shape
      rw [hla] at ls
      rw [hra] at rs
      have HX := hide (And.intro hs (And.intro hf (And.intro hh (And.intro hla hra))))
      clear hs hf hh HS hla hra
      obtain ⟨D, hD⟩ : ∃ D, D = decide (T.node p k v l r = n) := ⟨_, rfl⟩
      rw [← hD] at hq
      have HD := hide hD
      clear hD
      by_cases e : k = n.key
      · have HFF := hide (show t.find n.key = .node p k v l r by
          rw [← HX.out.2.1, ← e]
          simp [T.find, ord_B.refl])
        have HE := hide e
        rw [← e] at kn
        clear e
        have tk : True := trivial
        go_wp2_with (first
          | (go_at_call 233; clear tk; refine ks.mono ?_; rintro e w' ⟨rfl, hw⟩; replace hw := hw.symm; subst hw)
          | (go_at_call 233; refine kn.mono ?_; rintro e w' ⟨rfl, hw⟩; replace hw := hw.symm; subst hw))
        go_ret
        exact ⟨by rw [HFF.out, HD.out]; rfl, bw1.out⟩
      · obtain ⟨K, hK⟩ : ∃ K, K = n.key := ⟨_, rfl⟩
        rw [← hK] at kn e
        have e1 : (k.toList == K.toList) = false := by
          simp only [beq_eq_false_iff_ne, ne_eq]
          intro h
          rw [ByteArray.toList_eq, ByteArray.toList_eq] at h
          exact e (ByteArray.ext (Array.toList_inj.1 h))
        have hlb := less_B K k
        have HKK := hide hK
        by_cases hlt : cmpB K k = -1
        · rw [decide_eq_true hlt] at hlb
          have HFF := hide (show l.find n.key = t.find n.key by rw [← HX.out.2.1, ← hK]; simp [T.find, hlt])
          clear hK e hlt hq
          have tk : True := trivial
          have tk2 : True ∧ True := ⟨trivial, trivial⟩
          have tk3 : True ∧ True ∧ True := ⟨trivial, trivial, trivial⟩
          go_wp2_with (first
            | (go_at_call 233; clear tk; refine ks.mono ?_; rintro e w' ⟨rfl, hw⟩; replace hw := hw.symm; subst hw)
            | (go_at_call 233; clear tk2; refine kn.mono ?_; rintro e w' ⟨rfl, hw⟩; replace hw := hw.symm; subst hw)
            | (go_at_call 233; clear tk3; refine kn.mono ?_; rintro e w' ⟨rfl, hw⟩; replace hw := hw.symm; subst hw)
            | (go_at_call 233; refine ks.mono ?_; rintro e w' ⟨rfl, hw⟩; replace hw := hw.symm; subst hw)
            | (go_at_call 194; refine ls.mono ?_; rintro e w' ⟨rfl, hw⟩; replace hw := hw.symm; subst hw))
          go_roundg l.h
          case measure => have := HX.out.2.2.1; simp only [T.h] at this; omega
          case rel => exact ⟨l, la, rfl, hide ⟨HX.out.2.2.2.1, HX.out.1.2.1, HFF.out, rfl⟩, rfl⟩
        · rw [decide_eq_false hlt] at hlb
          have h1 : cmpB K k = 1 := by
            rcases ord_B.range K k with h | h | h
            · exact (hlt h).elim
            · exact (e (ord_B.eq _ _ h).symm).elim
            · exact h
          have HFF := hide (show r.find n.key = t.find n.key by rw [← HX.out.2.1, ← hK]; simp [T.find, h1])
          clear hK e hlt hq h1
          have tk : True := trivial
          have tk2 : True ∧ True := ⟨trivial, trivial⟩
          have tk3 : True ∧ True ∧ True := ⟨trivial, trivial, trivial⟩
          go_wp2_with (first
            | (go_at_call 233; clear tk; refine ks.mono ?_; rintro e w' ⟨rfl, hw⟩; replace hw := hw.symm; subst hw)
            | (go_at_call 233; clear tk2; refine kn.mono ?_; rintro e w' ⟨rfl, hw⟩; replace hw := hw.symm; subst hw)
            | (go_at_call 233; clear tk3; refine kn.mono ?_; rintro e w' ⟨rfl, hw⟩; replace hw := hw.symm; subst hw)
            | (go_at_call 233; refine ks.mono ?_; rintro e w' ⟨rfl, hw⟩; replace hw := hw.symm; subst hw)
            | (go_at_call 191; refine rs.mono ?_; rintro e w' ⟨rfl, hw⟩; replace hw := hw.symm; subst hw))
          go_roundg r.h
          case measure => have := HX.out.2.2.1; simp only [T.h] at this; omega
          case rel => exact ⟨r, ra, rfl, hide ⟨HX.out.2.2.2.2, HX.out.1.2.2, HFF.out, rfl⟩, rfl⟩
end Go.Proofs.YtkkpdgfllnbigaaGreat.Pm
