/-
  walk: THE SMALL FUNCTIONS: top 135, joined 137, closed 138, cutAt 33.
  walk: stands 56: IS A NODE ONE OF A MAP's?
  walk: closed 138: BOTH SIDES WITHOUT A KEY BETWEEN THEM.
  walk: THE ELEMENTS' RULE: Keep 14.
-/
import Derived.Test.YtkkpdgfllnbigaaGreatMg11
namespace Go.Proofs.YtkkpdgfllnbigaaGreat.Pm
open Go.RowKit Go.Shelf
set_option linter.unusedSimpArgs false

/-- What is written into a map's box. -/
theorem put_box {w w1 : World} {B : Nat} {x y : Value} (hw : w1.heap[B]? = some (.cells #[x] 27 (0, 0))) (hB : w.heap.size ≤ B) (hb : Below w.heap.size w w1) : (w1.setCell ⟨B, 0, none⟩ y).heap[B]? = some (.cells #[y] 27 (0, 0)) ∧ Below w.heap.size w (w1.setCell ⟨B, 0, none⟩ y) ∧ Only (fun j => j = B) w1 (w1.setCell ⟨B, 0, none⟩ y) := by
  refine ⟨?_, hb.setCell (p := ⟨B, 0, none⟩) hB _, (Only.ofGrown (grown_setCell w1 ⟨B, 0, none⟩ _)).mono (fun j _ e => by simpa using e.symm)⟩
  rw [heap_setCell_same _ _ _ _ 27 _ hw]
  simp
theorem mv_ptr {t : T} {a : Option Addr} (h : t.ptr = .pointer a) : mv t = .agg #[.pointer a] := by unfold mv; rw [h]
/-- top: the key of a's root, or of b's. -/
theorem top_any (s t : T) (w : World) (hs : In w s) (ht : In w t) : Calls Tryz.prog 224 #[mv s, mv t] w fun e w' => e = .returned (.string (if s = .nil then t.key else s.key)) ∧ Below w.heap.size w w' := by
  have hb : Below w.heap.size w ((w.alloc (.cells #[s.ptr] 27)).alloc (.cells #[t.ptr] 27)) := ((Below.refl _ w).alloc (Nat.le_refl _) _).alloc (by simp) _
  cases s with
  | nil =>
    rw [if_pos rfl]
    obtain ⟨b, hb'⟩ := t.ptr_shape
    have r1 := mRoot_any .nil ((w.alloc (.cells #[.pointer none] 27)).alloc (.cells #[.pointer b] 27))
    have r2 : ∀ W, Calls Tryz.prog 245 #[.agg #[.pointer b]] W fun e w' => e = .returned (.pointer b) ∧ Below W.heap.size W w' := fun W => by
      have := mRoot_any t W
      rw [mv_ptr hb', hb'] at this
      exact this
    have k2 : ∀ W, In W t → Calls Tryz.prog 233 #[.pointer b] W fun e w' => e = .returned (.string t.key) ∧ w' = W := fun W hW => by
      have := key_any t W hW
      rw [hb'] at this
      exact this
    unfold mv at r1 ⊢
    rw [hb'] at hb ⊢
    simp only [T.ptr] at r1 hb ⊢
    have HT := hide (And.intro ht (And.intro hb k2))
    clear hs ht hb' hb k2
    go_enter Tryz.func224, Tryz.ntmps224
    go_upto_region 2 with (go_at_call 245; refine r1.mono ?_; rintro e w1 ⟨rfl, b1⟩; dsimp only)
    obtain ⟨ht, hb, k2⟩ := HT.out
    obtain ⟨n0, n1⟩ := new2 w (.cells #[.pointer none] 27) (.cells #[.pointer b] 27)
    have h0 := (b1.block w.heap.size (by simp; omega)).trans n0
    have h1 := (b1.block (w.heap.size + 1) (by simp)).trans n1
    have c0 : w1.cell? ⟨w.heap.size, 0, none⟩ = some (.pointer none) := (cell_of_row _ _ 0 _ 27 (0, 0) h0).trans rfl
    have f0 : w1.frozen? ⟨w.heap.size, 0, none⟩ = false := frozen_of_row _ _ 0 _ 27 h0
    have c1 : w1.cell? ⟨w.heap.size + 1, 0, none⟩ = some (.pointer b) := (cell_of_row _ _ 0 _ 27 (0, 0) h1).trans rfl
    have bw1 := hb.trans (b1.mono hb.size)
    obtain ⟨o1, o2, o3⟩ := put_box (y := .pointer b) h0 (Nat.le_refl _) bw1
    have it : In (w1.setCell ⟨w.heap.size, 0, none⟩ (.pointer b)) t := In.aside h0 o3 (In.below bw1 ht)
    have c2 : (w1.setCell ⟨w.heap.size, 0, none⟩ (.pointer b)).cell? ⟨w.heap.size, 0, none⟩ = some (.pointer b) := (cell_of_row _ _ 0 _ 27 (0, 0) o1).trans rfl
    have HI := hide (And.intro it o2)
    clear ht hb n0 n1 h0 h1 bw1 o1 o2 o3 it b1 HT r1
    go_wp2_with (first
      | (go_at_call 245; refine (r2 _).mono ?_; rintro e w3 ⟨rfl, b3⟩; have k3 := k2 w3 (In.below b3 HI.out.1); dsimp only)
      | (go_at_call 233; refine k3.mono ?_; rintro e w4 ⟨rfl, hw⟩; replace hw := hw.symm; subst hw))
    go_ret
    exact ⟨rfl, HI.out.2.trans (b3.mono HI.out.2.size)⟩
  | node p k v l r =>
    rw [if_neg (by simp)]
    obtain ⟨b, hb'⟩ := t.ptr_shape
    have r1 := fun W => mRoot_any (.node p k v l r) W
    have k2 : ∀ W, In W (T.node p k v l r) → Calls Tryz.prog 233 #[.pointer (some ⟨p, 0, none⟩)] W fun e w' => e = .returned (.string k) ∧ w' = W := fun W hW => key_any (.node p k v l r) W hW
    unfold mv at r1 ⊢
    rw [hb'] at hb ⊢
    simp only [T.ptr, T.key] at r1 hb ⊢
    obtain ⟨n0, n1⟩ := new2 w (.cells #[.pointer (some ⟨p, 0, none⟩)] 27) (.cells #[.pointer b] 27)
    have HT := hide (And.intro hs (And.intro hb (And.intro k2 n0)))
    clear hs ht hb' hb k2 n0 n1
    have tk : True := trivial
    go_enter Tryz.func224, Tryz.ntmps224
    go_wp2_with (first
      | (go_at_call 245; clear tk; refine (r1 _).mono ?_; rintro e w1 ⟨rfl, b1⟩; have c1 : w1.cell? ⟨w.heap.size, 0, none⟩ = some (.pointer (some ⟨p, 0, none⟩)) := (cell_of_row _ _ 0 _ 27 (0, 0) ((b1.block w.heap.size (by simp; omega)).trans HT.out.2.2.2)).trans rfl; replace b1 := hide b1; dsimp only)
      | (go_at_call 245; refine (r1 _).mono ?_; rintro e w3 ⟨rfl, b3⟩; have bw3 := (HT.out.2.1.trans (b1.out.mono HT.out.2.1.size)).trans (b3.mono (HT.out.2.1.trans (b1.out.mono HT.out.2.1.size)).size); have k3 := HT.out.2.2.1 w3 (In.below bw3 HT.out.1); replace bw3 := hide bw3; dsimp only)
      | (go_at_call 233; refine k3.mono ?_; rintro e w4 ⟨rfl, hw⟩; replace hw := hw.symm; subst hw))
    go_ret
    exact ⟨rfl, bw3.out⟩
/-- joined: both sides with a key that fits between them. -/
theorem joined_any (l r : T) (k : ByteArray) (v : ByteArray) (w : World) (hl : In w l) (hr : In w r) (hf : fitsB l k r = true) (hn : l.n + r.n ≤ 700000) : Calls Tryz.prog 226 #[mv l, .string k, .string v, mv r] w fun e w' => ∃ t, e = .returned (mv t) ∧ Joined w.heap.size k v l r t ∧ In w' t ∧ Below w.heap.size w w' := by
  obtain ⟨m0, m1, m2, hb⟩ := new3 w (.cells #[l.ptr] 27) (.cells #[r.ptr] 27) (.cells #[.pointer none] 27)
  have hj := mJoin_any l r k v _ (In.below hb hl) (In.below hb hr) hn
  rw [hf] at hj
  have key : ∀ w1 t a, In w1 t → t.ptr = .pointer a → Joined (((w.alloc (.cells #[l.ptr] 27)).alloc (.cells #[r.ptr] 27)).alloc (.cells #[.pointer none] 27)).heap.size k v l r t → Below (((w.alloc (.cells #[l.ptr] 27)).alloc (.cells #[r.ptr] 27)).alloc (.cells #[.pointer none] 27)).heap.size (((w.alloc (.cells #[l.ptr] 27)).alloc (.cells #[r.ptr] 27)).alloc (.cells #[.pointer none] 27)) w1 →
      (w1.alloc (.cells #[.pointer a] 27)).cell? ⟨w.heap.size + 1 + 1, 0, none⟩ = some (.pointer none) ∧ (w1.alloc (.cells #[.pointer a] 27)).frozen? ⟨w.heap.size + 1 + 1, 0, none⟩ = false ∧ Hid (((w1.alloc (.cells #[.pointer a] 27)).setCell ⟨w.heap.size + 1 + 1, 0, none⟩ (.pointer a)).heap[w.heap.size + 1 + 1]? = some (.cells #[.pointer a] 27 (0, 0)) ∧ In ((w1.alloc (.cells #[.pointer a] 27)).setCell ⟨w.heap.size + 1 + 1, 0, none⟩ (.pointer a)) t ∧ Joined w.heap.size k v l r t ∧ Below w.heap.size w ((w1.alloc (.cells #[.pointer a] 27)).setCell ⟨w.heap.size + 1 + 1, 0, none⟩ (.pointer a))) := fun w1 t a it hp hj hb1 => by
    have ba : Below w1.heap.size w1 (w1.alloc (.cells #[.pointer a] 27)) := (Below.refl _ w1).alloc (Nat.le_refl _) _
    have hw0 := (hb1.block (w.heap.size + 1 + 1) (by simp)).trans m2
    have hw1 := (ba.block _ (gI hw0).1).trans hw0
    have hbb := hb.trans (hb1.mono hb.size)
    obtain ⟨o1, o2, o3⟩ := out_box (y := .pointer a) hw1 (by omega) (hbb.trans (ba.mono hbb.size))
    exact ⟨by rw [cell_of_row _ _ 0 _ 27 (0, 0) hw1]; rfl, frozen_of_row _ _ 0 _ 27 hw1, hide ⟨o1, In.aside hw1 o3 (In.below ba it), hj.mono hb.size, o2⟩⟩
  unfold mv at hj ⊢
  obtain ⟨x, hx⟩ := l.ptr_shape
  obtain ⟨y, hy⟩ := r.ptr_shape
  rw [hx, hy] at hj key ⊢
  have HK := hide key
  clear hl hr hx hy hb key hn m0 m1 m2 hf
  go_enter Tryz.func226, Tryz.ntmps226
  go_wp2_with (go_at_call 247; refine hj.mono ?_; rintro e w1 ⟨t, he, _, hjj, it, hb1⟩; obtain ⟨a, ha⟩ := t.ptr_shape; rw [ha, if_pos rfl] at he; subst he; obtain ⟨q1, q2, HQ⟩ := HK.out w1 t a it ha (hjj rfl) hb1; have HX := hide ha; clear ha it hb1 hjj)
  refine ret_row (w.heap.size + 1 + 1) [.pointer a] rfl rfl Tryz.underlying27 rfl Tryz.info27 HQ.out.1 rfl ?_
  exact ⟨t, by rw [HX.out], HQ.out.2.2.1, HQ.out.2.1, HQ.out.2.2.2⟩
/-- Trees stand where only blocks that are no nodes are written. -/
theorem In.typed {D : Nat → Prop} {w w' : World} (h : Only D w w') (ha : ∀ j, D j → ∀ o, w.heap[j]? = some o → ∃ cur e fr, o = .cells cur e fr ∧ e ≠ 162) : ∀ {t : T}, In w t → In w' t
  | .nil, _ => trivial
  | .node p _ _ _ _, ⟨h1, h2, h3⟩ => by
    refine ⟨(h.block p (gI h1).1 (fun d => ?_)).trans h1, In.typed h ha h2, In.typed h ha h3⟩
    obtain ⟨cur, e, fr, he, hne⟩ := ha p d _ h1
    simp only [Obj.cells.injEq] at he
    exact hne he.2.1.symm
theorem set_one {w : World} {B i : Nat} {cs : Array Value} {ty : TypeId} (v : Value) (h : w.heap[B]? = some (.cells cs ty (0, 0))) : (w.setCell ⟨B, i, none⟩ v).heap[B]? = some (.cells (cs.setIfInBounds i v) ty (0, 0)) ∧ Only (fun j => j = B) w (w.setCell ⟨B, i, none⟩ v) := by
  refine ⟨?_, (Only.ofGrown (grown_setCell w ⟨B, i, none⟩ _)).mono (fun j _ e => by simpa using e.symm)⟩
  rw [heap_setCell_same _ _ _ _ ty _ h]
theorem set4 {w : World} {B : Nat} {x0 x1 x2 x3 : Value} {ty : TypeId} (a b c d : Value) (h : w.heap[B]? = some (.cells #[x0, x1, x2, x3] ty (0, 0))) : ((((w.setCell ⟨B, 0, none⟩ a).setCell ⟨B, 1, none⟩ b).setCell ⟨B, 2, none⟩ c).setCell ⟨B, 3, none⟩ d).heap[B]? = some (.cells #[a, b, c, d] ty (0, 0)) ∧ Only (fun j => j = B) w ((((w.setCell ⟨B, 0, none⟩ a).setCell ⟨B, 1, none⟩ b).setCell ⟨B, 2, none⟩ c).setCell ⟨B, 3, none⟩ d) := by
  obtain ⟨h1, o1⟩ := set_one (i := 0) a h
  obtain ⟨h2, o2⟩ := set_one (i := 1) b h1
  obtain ⟨h3, o3⟩ := set_one (i := 2) c h2
  obtain ⟨h4, o4⟩ := set_one (i := 3) d h3
  exact ⟨by simpa using h4, ((o1.trans o2 (fun _ _ e => e)).trans o3 (fun _ _ e => e)).trans o4 (fun _ _ e => e)⟩
/-- What a split tells, in one value. -/
def cv (a b : T) (f : T) : Value := .agg #[a.ptr, b.ptr, .string f.val, .bool f.isSome]
theorem Tryz.info213 : (Tryz.prog.info? 213).map (·.size) = some 4 := by kernel_rfl
set_option maxHeartbeats 2000000 in
theorem cutAt_any (t : T) (k : ByteArray) (w : World) (h : In w t) (hn : t.n ≤ 700000) : Calls Tryz.prog 225 #[mv t, .string k] w fun e w' => ∃ a f b, e = .returned (cv a b f) ∧ Splits w.heap.size k t a f b ∧ In w' a ∧ In w' b ∧ Below w.heap.size w w' := by
  have hs := fun W (hW : In W t) => mSplit_any t k W hW hn
  unfold mv at hs ⊢
  obtain ⟨x, hx⟩ := t.ptr_shape
  rw [hx] at hs ⊢
  obtain ⟨n0, n1⟩ := new2 w (.cells #[.pointer x] 27) (.cells #[.pointer none, .pointer none, .string ⟨#[]⟩, .bool false] 213)
  have hb : Below w.heap.size w ((w.alloc (.cells #[.pointer x] 27)).alloc (.cells #[.pointer none, .pointer none, .string ⟨#[]⟩, .bool false] 213)) := ((Below.refl _ w).alloc (Nat.le_refl _) _).alloc (by simp) _
  have hs0 := hs _ (In.below hb h)
  have HN := hide (And.intro n1 hb)
  clear hs h n0 n1 hb
  go_enter Tryz.func225, Tryz.ntmps225
  go_upto_region 2 with (go_at_call 246; refine hs0.mono ?_; rintro e w1 ⟨ta, f, tb, he, hsp, ia, ib, b1⟩; obtain ⟨pa, hpa⟩ := ta.ptr_shape; obtain ⟨pb, hpb⟩ := tb.ptr_shape; rw [hpa, hpb] at he; subst he; have H1 := hide (And.intro hpa (And.intro hpb (And.intro hsp (And.intro ia (And.intro ib b1))))); clear hpa hpb hsp ia ib b1; dsimp only)
  obtain ⟨hpa, hpb, hsp, ia, ib, b1⟩ := H1.out
  have bw1 := HN.out.2.trans (b1.mono HN.out.2.size)
  have h1 := (b1.block (w.heap.size + 1) (by simp)).trans HN.out.1
  have ba : Below w1.heap.size w1 ((w1.alloc (.cells #[.pointer pa] 27)).alloc (.cells #[.pointer pb] 27)) := ((Below.refl _ w1).alloc (Nat.le_refl _) _).alloc (by simp) _
  have h2 := (ba.block _ (gI h1).1).trans h1
  obtain ⟨w2, hw2⟩ : ∃ w2, w2 = ((w1.alloc (.cells #[.pointer pa] 27)).alloc (.cells #[.pointer pb] 27)) := ⟨_, rfl⟩
  have k5 : w2.cell? ⟨w1.heap.size, 0, none⟩ = some (.pointer pa) ∧ w2.cell? ⟨w1.heap.size + 1, 0, none⟩ = some (.pointer pb) := by
    obtain ⟨n0, n1⟩ := new2 w1 (.cells #[.pointer pa] 27) (.cells #[.pointer pb] 27)
    rw [hw2]
    exact ⟨(cell_of_row _ _ 0 _ 27 (0, 0) n0).trans rfl, (cell_of_row _ _ 0 _ 27 (0, 0) n1).trans rfl⟩
  rw [← hw2] at h2 ba ⊢
  have d0 : w2.cell? ⟨w.heap.size + 1, 0, none⟩ = some (.pointer none) := (cell_of_row _ _ 0 _ 213 (0, 0) h2).trans rfl
  have d1 : w2.cell? ⟨w.heap.size + 1, 1, none⟩ = some (.pointer none) := (cell_of_row _ _ 1 _ 213 (0, 0) h2).trans rfl
  have d2 : w2.cell? ⟨w.heap.size + 1, 2, none⟩ = some (.string ⟨#[]⟩) := (cell_of_row _ _ 2 _ 213 (0, 0) h2).trans rfl
  have d3 : w2.cell? ⟨w.heap.size + 1, 3, none⟩ = some (.bool false) := (cell_of_row _ _ 3 _ 213 (0, 0) h2).trans rfl
  obtain ⟨k5, k8⟩ := k5
  have f0 : w2.frozen? ⟨w.heap.size + 1, 0, none⟩ = false := frozen_of_row _ _ 0 _ 213 h2
  have f1 : w2.frozen? ⟨w.heap.size + 1, 1, none⟩ = false := frozen_of_row _ _ 1 _ 213 h2
  have f2 : w2.frozen? ⟨w.heap.size + 1, 2, none⟩ = false := frozen_of_row _ _ 2 _ 213 h2
  have f3 : w2.frozen? ⟨w.heap.size + 1, 3, none⟩ = false := frozen_of_row _ _ 3 _ 213 h2
  obtain ⟨g1, g2⟩ := set4 (.pointer pa) (.pointer pb) (.string f.val) (.bool f.isSome) h2
  have bw2 := bw1.trans (ba.mono bw1.size)
  have hty : ∀ j, j = w.heap.size + 1 → ∀ o, w2.heap[j]? = some o → ∃ cur e fr, o = .cells cur e fr ∧ e ≠ 162 := fun j e o ho => by
    subst e
    rw [h2] at ho
    cases ho
    exact ⟨_, _, _, rfl, by decide⟩
  have HF := hide (And.intro g1 (And.intro (In.typed g2 hty (In.below ba ia)) (And.intro (In.typed g2 hty (In.below ba ib)) (And.intro (hsp.mono HN.out.2.size) (Below.only bw2 g2 bw2.size (fun j e => by omega))))))
  clear hpa hpb hsp ia ib b1 bw1 h1 hw2 hs0 g1 g2 hty h2 bw2 ba
  go_wp2
  refine ret_row (w.heap.size + 1) [.pointer pa, .pointer pb, .string f.val, .bool f.isSome] rfl rfl Tryz.underlying213 rfl Tryz.info213 HF.out.1 rfl ?_
  exact ⟨ta, f, tb, by unfold cv; rw [H1.out.1, H1.out.2.1], HF.out.2.2.2.1, HF.out.2.1, HF.out.2.2.1, HF.out.2.2.2.2⟩
end Go.Proofs.YtkkpdgfllnbigaaGreat.Pm
namespace Go.Proofs.YtkkpdgfllnbigaaGreat.Pm
open Go.RowKit Go.Shelf
set_option linter.unusedSimpArgs false

/-- Nodes compared. -/
theorem eqT (s n : T) (W : World) (hs : In W s) (hn : In W n) : (binOp .eql 25 s.ptr n.ptr).run Tryz.prog W = .ok (.bool (decide (s = n))) W := by
  by_cases e : s = n
  · subst e; simp only [decide_true]; exact eql_same s _
  · rw [decide_eq_false e]; exact eql_other hs hn e
set_option maxHeartbeats 4000000 in
theorem stands_any (n t : T) (w : World) (hn : In w n) (ht : In w t) : Calls Tryz.prog 249 #[n.ptr, mv t] w fun e w' => e = .returned (.bool (decide (t.find n.key = n))) ∧ Below w.heap.size w w' := by
  have hb : Below w.heap.size w (w.alloc (.cells #[t.ptr] 27)) := (Below.refl _ w).alloc (Nat.le_refl _) _
  have r1 := mRoot_any t (w.alloc (.cells #[t.ptr] 27))
  unfold mv at r1 ⊢
  obtain ⟨a, ha⟩ := n.ptr_shape
  obtain ⟨b, hb'⟩ := t.ptr_shape
  rw [hb'] at r1 hb ⊢
  rw [ha]
  have HI := hide (And.intro hn (And.intro ht (And.intro hb (And.intro ha hb'))))
  clear hn ht hb ha hb'
  go_enter Tryz.func249, Tryz.ntmps249
  go_wp2_with (go_at_call 245; refine r1.mono ?_; rintro e w1 ⟨rfl, b1⟩; replace b1 := hide b1; dsimp only)
  have bw1 := hide (HI.out.2.2.1.trans (b1.out.mono HI.out.2.2.1.size))
  clear b1 r1
  go_loopg [5] t.h (fun k v5 wr => ∃ (s : T) (b : Option Addr), v5 = .pointer b ∧ Hid (s.ptr = .pointer b ∧ In w1 s ∧ s.find n.key = t.find n.key ∧ s.h = k) ∧ wr = w1)
  case atStart => exact ⟨t, b, rfl, hide ⟨HI.out.2.2.2.2, In.below bw1.out HI.out.2.1, rfl, rfl⟩, rfl⟩
  case round =>
    obtain ⟨s, b, rfl, HS, rfl⟩ := hrel
    obtain ⟨hp, hs, hf, hh⟩ := HS.out
    have hq := eqT s n wr hs (In.below bw1.out HI.out.1)
    rw [hp, HI.out.2.2.2.1] at hq
    have kn : Calls Tryz.prog 233 #[.pointer a] wr fun e w' => e = .returned (.string n.key) ∧ w' = wr := by
      have := key_any n wr (In.below bw1.out HI.out.1)
      rw [HI.out.2.2.2.1] at this
      exact this
    cases s with
    | nil =>
      have hb0 : b = none := by simpa [T.ptr] using hp.symm
      subst hb0
      have HF := hide hf
      clear hp hs hf hh HS kn
      go_wp2
      go_ret
      refine ⟨?_, bw1.out⟩
      rw [← HF.out]
      rfl
    | node p k v l r =>
      simp only [T.ptr] at hp
      cases hp
      have ks : Calls Tryz.prog 233 #[.pointer (some ⟨p, 0, none⟩)] wr fun e w' => e = .returned (.string k) ∧ w' = wr := key_any (.node p k v l r) wr hs
      have ls : Calls Tryz.prog 194 #[.pointer (some ⟨p, 0, none⟩)] wr fun e w' => e = .returned l.ptr ∧ w' = wr := left_any (.node p k v l r) wr hs
      have rs : Calls Tryz.prog 191 #[.pointer (some ⟨p, 0, none⟩)] wr fun e w' => e = .returned r.ptr ∧ w' = wr := right_any (.node p k v l r) wr hs
      obtain ⟨la, hla⟩ := l.ptr_shape
      obtain ⟨ra, hra⟩ := r.ptr_shape
      rw [hla] at ls
      rw [hra] at rs
      have HX := hide (And.intro hs (And.intro hf (And.intro hh (And.intro hla hra))))
      clear hs hf hh HS hla hra
      obtain ⟨D, hD⟩ : ∃ D, D = decide (T.node p k v l r = n) := ⟨_, rfl⟩
      rw [← hD] at hq
      have HD := hide hD
      clear hD
      by_cases e : k = n.key
      · have HFF := hide (show t.find n.key = .node p k v l r by
          rw [← HX.out.2.1, ← e]
          simp [T.find, ord_B.refl])
        have HE := hide e
        rw [← e] at kn
        clear e
        have tk : True := trivial
        go_wp2_with (first
          | (go_at_call 233; clear tk; refine ks.mono ?_; rintro e w' ⟨rfl, hw⟩; replace hw := hw.symm; subst hw)
          | (go_at_call 233; refine kn.mono ?_; rintro e w' ⟨rfl, hw⟩; replace hw := hw.symm; subst hw))
        go_ret
        exact ⟨by rw [HFF.out, HD.out]; rfl, bw1.out⟩
      · obtain ⟨K, hK⟩ : ∃ K, K = n.key := ⟨_, rfl⟩
        rw [← hK] at kn e
        have e1 : (k.toList == K.toList) = false := by
          simp only [beq_eq_false_iff_ne, ne_eq]
          intro h
          rw [ByteArray.toList_eq, ByteArray.toList_eq] at h
          exact e (ByteArray.ext (Array.toList_inj.1 h))
        have hlb := less_B K k
        have HKK := hide hK
        by_cases hlt : cmpB K k = -1
        · rw [decide_eq_true hlt] at hlb
          have HFF := hide (show l.find n.key = t.find n.key by rw [← HX.out.2.1, ← hK]; simp [T.find, hlt])
          clear hK e hlt hq
          have tk : True := trivial
          have tk2 : True ∧ True := ⟨trivial, trivial⟩
          have tk3 : True ∧ True ∧ True := ⟨trivial, trivial, trivial⟩
          go_wp2_with (first
            | (go_at_call 233; clear tk; refine ks.mono ?_; rintro e w' ⟨rfl, hw⟩; replace hw := hw.symm; subst hw)
            | (go_at_call 233; clear tk2; refine kn.mono ?_; rintro e w' ⟨rfl, hw⟩; replace hw := hw.symm; subst hw)
            | (go_at_call 233; clear tk3; refine kn.mono ?_; rintro e w' ⟨rfl, hw⟩; replace hw := hw.symm; subst hw)
            | (go_at_call 233; refine ks.mono ?_; rintro e w' ⟨rfl, hw⟩; replace hw := hw.symm; subst hw)
            | (go_at_call 194; refine ls.mono ?_; rintro e w' ⟨rfl, hw⟩; replace hw := hw.symm; subst hw))
          go_roundg l.h
          case measure => have := HX.out.2.2.1; simp only [T.h] at this; omega
          case rel => exact ⟨l, la, rfl, hide ⟨HX.out.2.2.2.1, HX.out.1.2.1, HFF.out, rfl⟩, rfl⟩
        · rw [decide_eq_false hlt] at hlb
          have h1 : cmpB K k = 1 := by
            rcases ord_B.range K k with h | h | h
            · exact (hlt h).elim
            · exact (e (ord_B.eq _ _ h).symm).elim
            · exact h
          have HFF := hide (show r.find n.key = t.find n.key by rw [← HX.out.2.1, ← hK]; simp [T.find, h1])
          clear hK e hlt hq h1
          have tk : True := trivial
          have tk2 : True ∧ True := ⟨trivial, trivial⟩
          have tk3 : True ∧ True ∧ True := ⟨trivial, trivial, trivial⟩
          go_wp2_with (first
            | (go_at_call 233; clear tk; refine ks.mono ?_; rintro e w' ⟨rfl, hw⟩; replace hw := hw.symm; subst hw)
            | (go_at_call 233; clear tk2; refine kn.mono ?_; rintro e w' ⟨rfl, hw⟩; replace hw := hw.symm; subst hw)
            | (go_at_call 233; clear tk3; refine kn.mono ?_; rintro e w' ⟨rfl, hw⟩; replace hw := hw.symm; subst hw)
            | (go_at_call 233; refine ks.mono ?_; rintro e w' ⟨rfl, hw⟩; replace hw := hw.symm; subst hw)
            | (go_at_call 191; refine rs.mono ?_; rintro e w' ⟨rfl, hw⟩; replace hw := hw.symm; subst hw))
          go_roundg r.h
          case measure => have := HX.out.2.2.1; simp only [T.h] at this; omega
          case rel => exact ⟨r, ra, rfl, hide ⟨HX.out.2.2.2.2, HX.out.1.2.2, HFF.out, rfl⟩, rfl⟩
end Go.Proofs.YtkkpdgfllnbigaaGreat.Pm
namespace Go.Proofs.YtkkpdgfllnbigaaGreat.Pm
open Go.RowKit Go.Shelf
set_option linter.unusedSimpArgs false

theorem In.underP {w : World} : ∀ {t : T}, In w t → t.under w.heap.size
  | .nil, _ => trivial
  | .node _ _ _ _ _, h => ⟨h.lt, In.underP h.2.1, In.underP h.2.2⟩
/-- What closed makes. -/
def Closes (B : Nat) (l r t : T) : Prop := (r = .nil ∧ t = l) ∨ (r ≠ .nil ∧ ∃ r' t0, Takes B r.first.key r r' ∧ Joined B r.first.key r.first.val l r' t0 ∧ t = t0)
theorem Closes.list {B : Nat} {l r t : T} (h : Closes B l r t) (hr : Srt r.list) : t.list = l.list ++ r.list := by
  rcases h with ⟨rfl, rfl⟩ | ⟨hn, r', t0, ht, hj, rfl⟩
  · simp [T.list]
  · obtain ⟨_, fk, fv, _, frest, f1, f2, _⟩ := T.first_spec hn
    rw [hj.list, ht.list hr]
    have e1 : r.first.key = fk := by rw [f1]; rfl
    have e2 : r.first.val = fv := by rw [f1]; rfl
    rw [e1, e2, f2]
    congr 1
    have hp : pos fk ((fk, fv) :: frest) = 0 := by simp [pos, ord_B.refl]
    have hh : has fk ((fk, fv) :: frest) = true := by unfold has; rw [hp]; simp
    unfold del
    rw [hh, hp]
    simp
theorem Closes.fits {l r r' : T} {B : Nat} (hn : r ≠ .nil) (hs : Srt (l.list ++ r.list)) (ht : Takes B r.first.key r r') : fitsB l r.first.key r' = true := by
  obtain ⟨_, fk, fv, _, frest, f1, f2, _⟩ := T.first_spec hn
  have e1 : r.first.key = fk := by rw [f1]; rfl
  rw [e1] at ht ⊢
  rw [f2] at hs
  obtain ⟨s1, s2, s3, s4⟩ := Srt.app.1 hs
  have hr : Srt r.list := by rw [f2]; exact (List.pairwise_append.1 hs).2.1
  have hl : r'.list = frest := by
    rw [ht.list hr, f2]
    have hp : pos fk ((fk, fv) :: frest) = 0 := by simp [pos, ord_B.refl]
    have hh : has fk ((fk, fv) :: frest) = true := by unfold has; rw [hp]; simp
    unfold del
    rw [hh, hp]
    simp
  exact (fits_is s1 (by rw [hl]; exact s2)).2 ⟨s3, by rw [hl]; exact s4⟩
set_option maxHeartbeats 4000000 in
theorem closed_any (l r : T) (w : World) (hl : In w l) (hr : In w r) (hs : Srt (l.list ++ r.list)) (hn : l.n + r.n ≤ 700000) : Calls Tryz.prog 227 #[mv l, mv r] w fun e w' => ∃ t, e = .returned (mv t) ∧ Closes w.heap.size l r t ∧ (l.bal → r.bal → t.bal) ∧ In w' t ∧ Below w.heap.size w w' := by
  have hsr : Srt r.list := (List.pairwise_append.1 hs).2.1
  obtain ⟨m0, m1, m2, hb⟩ := new3 w (.cells #[l.ptr] 27) (.cells #[r.ptr] 27) (.cells #[.pointer none] 27)
  have hf := mFirst_any r _ (In.below hb hr)
  by_cases hrn : r = .nil
  · subst hrn
    obtain ⟨x, hx⟩ := l.ptr_shape
    unfold mv at hf ⊢
    rw [hx] at hf hb m0 m1 m2 ⊢
    simp only [T.ptr, T.first, T.key, T.val, T.isSome] at hf hb m0 m1 m2 ⊢
    have HH := hide (And.intro hl (And.intro hb (And.intro m0 m2)))
    clear hl hr hs hn hb m0 m1 m2
    go_enter Tryz.func227, Tryz.ntmps227
    go_upto_region 3 with (go_at_call 145; refine hf.mono ?_; rintro e w1 ⟨rfl, b1⟩; dsimp only)
    obtain ⟨hl, hb, m0, m2⟩ := HH.out
    have h0 := (b1.block w.heap.size (by simp; omega)).trans m0
    have h2 := (b1.block (w.heap.size + 1 + 1) (by simp)).trans m2
    have c0 : w1.cell? ⟨w.heap.size, 0, none⟩ = some (.pointer x) := (cell_of_row _ _ 0 _ 27 (0, 0) h0).trans rfl
    have c2 : w1.cell? ⟨w.heap.size + 1 + 1, 0, none⟩ = some (.pointer none) := (cell_of_row _ _ 0 _ 27 (0, 0) h2).trans rfl
    have f2 : w1.frozen? ⟨w.heap.size + 1 + 1, 0, none⟩ = false := frozen_of_row _ _ 0 _ 27 h2
    have bw := hb.trans (b1.mono hb.size)
    obtain ⟨o1, o2, o3⟩ := out_box (y := .pointer x) h2 (by omega) bw
    have HO := hide (And.intro o1 (And.intro o2 (In.aside h2 o3 (In.below bw hl))))
    clear hl hb m0 m2 h0 h2 bw o1 o2 o3 b1 HH hf
    go_wp2
    refine ret_row (w.heap.size + 1 + 1) [.pointer x] rfl rfl Tryz.underlying27 rfl Tryz.info27 HO.out.1 rfl ?_
    exact ⟨l, congrArg (fun v => Ending.returned (Value.agg #[v])) hx.symm, .inl ⟨rfl, rfl⟩, fun h _ => h, HO.out.2.2, HO.out.2.1⟩
  · obtain ⟨x, hx⟩ := l.ptr_shape
    obtain ⟨y, hy⟩ := r.ptr_shape
    obtain ⟨_, _, _, _, _, fe, _⟩ := T.first_spec hrn
    have hsome : r.first.isSome = true := by rw [fe]; rfl
    have tk : ∀ W w1 : World, Below w1.heap.size w1 W → Below w.heap.size w w1 → Calls Tryz.prog 131 #[.agg #[.pointer y], .string r.first.key] W fun e w' => ∃ t' p', e = .returned (.agg #[.pointer p']) ∧ t'.ptr = .pointer p' ∧ In w' t' ∧ Takes w.heap.size r.first.key r t' ∧ (r.bal → t'.bal) ∧ Below W.heap.size W w' := fun W w1 hW hw1 => by
      have bW := hw1.trans (hW.mono hw1.size)
      have := mTake_any r r.first.key W (In.below bW hr) (by omega)
      rw [mv_ptr hy] at this
      refine this.mono ?_
      rintro e w' ⟨t', he, i1, ht, b1⟩
      obtain ⟨p', hp'⟩ := t'.ptr_shape
      exact ⟨t', p', by rw [he, mv_ptr hp'], hp', i1, ht.mono bW.size, fun hbal => (ht.says hsr hbal (In.underP (In.below bW hr))).bal, b1⟩
    have jn : ∀ (W w1 : World) (t' : T) (p' : Option Addr), Below w1.heap.size w1 W → Below w.heap.size w w1 → t'.ptr = .pointer p' → In W t' → Takes w.heap.size r.first.key r t' → Calls Tryz.prog 226 #[.agg #[.pointer x], .string r.first.key, .string r.first.val, .agg #[.pointer p']] W fun e w' => ∃ z pz, e = .returned (.agg #[.pointer pz]) ∧ z.ptr = .pointer pz ∧ Joined w.heap.size r.first.key r.first.val l t' z ∧ In w' z ∧ Below W.heap.size W w' := fun W w1 t' p' hW hw1 hp' it ht => by
      have bW := hw1.trans (hW.mono hw1.size)
      have hln : l.n + t'.n ≤ 700000 := by have := ht.n; omega
      have := joined_any l t' r.first.key r.first.val W (In.below bW hl) it (Closes.fits hrn hs ht) hln
      rw [mv_ptr hx, mv_ptr hp'] at this
      refine this.mono ?_
      rintro e w' ⟨z, he, hj, iz, b1⟩
      obtain ⟨pz, hpz⟩ := z.ptr_shape
      exact ⟨z, pz, by rw [he, mv_ptr hpz], hpz, hj.mono bW.size, iz, b1⟩
    rw [hsome] at hf
    unfold mv at hf ⊢
    rw [hx, hy] at hf hb m0 m1 m2 ⊢
    generalize hk : r.first.key = k at *
    generalize hv : r.first.val = v at *
    have HKV := hide (And.intro hk hv)
    clear hk hv
    have HH := hide (And.intro hb (And.intro m0 (And.intro m1 (And.intro m2 (And.intro tk jn)))))
    have HXY := hide (And.intro hx hrn)
    clear hl hr hs hn hb m0 m1 m2 tk jn hx hy hrn fe hsome hsr
    go_enter Tryz.func227, Tryz.ntmps227
    go_upto_region 4 with (go_at_call 145; refine hf.mono ?_; rintro e w1 ⟨rfl, b1⟩; dsimp only)
    obtain ⟨hb, m0, m1, m2, tk, jn⟩ := HH.out
    have h0 := (b1.block w.heap.size (by simp; omega)).trans m0
    have h1 := (b1.block (w.heap.size + 1) (by simp)).trans m1
    have HR := hide ((b1.block (w.heap.size + 1 + 1) (by simp)).trans m2)
    have c0 : w1.cell? ⟨w.heap.size, 0, none⟩ = some (.pointer x) := (cell_of_row _ _ 0 _ 27 (0, 0) h0).trans rfl
    have c1 : w1.cell? ⟨w.heap.size + 1, 0, none⟩ = some (.pointer y) := (cell_of_row _ _ 0 _ 27 (0, 0) h1).trans rfl
    have bw := hb.trans (b1.mono hb.size)
    have HJ := hide (fun (W : World) (t' : T) (p' : Option Addr) (hW : Below w1.heap.size w1 W) => jn W w1 t' p' hW bw)
    have tk := fun (W : World) (hW : Below w1.heap.size w1 W) => tk W w1 hW bw
    have q0 : w1.cell? ⟨w.heap.size, 0, none⟩ = some (.pointer x) ∧ w1.cell? ⟨w.heap.size + 1, 0, none⟩ = some (.pointer y) ∧ Hid (Below w.heap.size w w1) := ⟨c0, c1, hide bw⟩
    clear hb m0 m1 m2 jn h0 h1 b1 c0 c1 HH hf bw
    have qd : w1.drew.cell? ⟨w.heap.size, 0, none⟩ = some (.pointer x) ∧ w1.drew.cell? ⟨w.heap.size + 1, 0, none⟩ = some (.pointer y) ∧ Hid (Below w.heap.size w w1.drew) := ⟨q0.1, q0.2.1, hide (q0.2.2.out.trans ((drew_below w1).mono q0.2.2.out.size))⟩
    refine wp_region_held_drew (S := (fun w' => w'.cell? ⟨w.heap.size, 0, none⟩ = some (.pointer x) ∧ w'.cell? ⟨w.heap.size + 1, 0, none⟩ = some (.pointer y) ∧ Hid (Below w.heap.size w w'))) (by kernel_rfl) qd (fun hHeld => ?_)
    try dsimp only at hHeld
    refine take_op (i := 0) (d := 17) (OP := Op.load 27 (Operand.tmp 2)) (T := 27) (v := ?v1) rfl rfl rfl rfl (by kernel_rfl) (by kernel_rfl) (by kernel_rfl) (fun _ _ _ h => h) (by rfl) ?h1 hHeld ?r1
    case h1 => (intro w' hSw; (try dsimp only at hSw); go_simp <;> with_reducible rfl)
    try simp only [Act.put, sI, sZ, sS]
    refine take_op (i := 1) (d := 18) (OP := Op.move (Operand.tmp 5)) (T := 9) (v := ?v2) rfl rfl rfl rfl (by kernel_rfl) (by kernel_rfl) (by kernel_rfl) (fun _ _ _ h => h) (by rfl) ?h2 hHeld ?r2
    case h2 => (intro w' hSw; (try dsimp only at hSw); go_simp <;> with_reducible rfl)
    try simp only [Act.put, sI, sZ, sS]
    refine take_op (i := 2) (d := 19) (OP := Op.move (Operand.tmp 6)) (T := 9) (v := ?v3) rfl rfl rfl rfl (by kernel_rfl) (by kernel_rfl) (by kernel_rfl) (fun _ _ _ h => h) (by rfl) ?h3 hHeld ?r3
    case h3 => (intro w' hSw; (try dsimp only at hSw); go_simp <;> with_reducible rfl)
    try simp only [Act.put, sI, sZ, sS]
    refine take_op (i := 3) (d := 20) (OP := Op.load 27 (Operand.tmp 3)) (T := 27) (v := ?v4) rfl rfl rfl rfl (by kernel_rfl) (by kernel_rfl) (by kernel_rfl) (fun _ _ _ h => h) (by rfl) ?h4 hHeld ?r4
    case h4 => (intro w' hSw; (try dsimp only at hSw); go_simp <;> with_reducible rfl)
    try simp only [Act.put, sI, sZ, sS]
    refine take_op (i := 4) (d := 21) (OP := Op.move (Operand.tmp 5)) (T := 9) (v := ?v5) rfl rfl rfl rfl (by kernel_rfl) (by kernel_rfl) (by kernel_rfl) (fun _ _ _ h => h) (by rfl) ?h5 hHeld ?r5
    case h5 => (intro w' hSw; (try dsimp only at hSw); go_simp <;> with_reducible rfl)
    try simp only [Act.put, sI, sZ, sS]
    refine call_op (i := 5) (d := 22) (OP := Op.call { callee := Callee.value (Operand.func 131), args := #[Operand.tmp 20, Operand.tmp 21], argTypes := #[27, 9] }) (T := 27) (f := 131) (args := #[.agg #[.pointer y], .string k]) rfl rfl rfl rfl (by kernel_rfl) (by rfl) (by go_simp) ?_
    refine (tk _ (drew_below w1)).mono ?_
    rintro e w2 ⟨t', p', rfl, hp', i2, ht, tb', b2⟩
    have bd2 : Below w1.heap.size w1 w2 := (drew_below w1).trans (b2.mono (drew_below w1).size)
    have qw2 : w2.cell? ⟨w.heap.size, 0, none⟩ = some (.pointer x) ∧ w2.cell? ⟨w.heap.size + 1, 0, none⟩ = some (.pointer y) ∧ Hid (Below w.heap.size w w2) := ⟨cell_stays qd.1 b2, cell_stays qd.2.1 b2, hide (qd.2.2.out.trans (b2.mono qd.2.2.out.size))⟩
    refine ⟨_, rfl, qw2, ?_⟩
    replace hHeld := qw2
    try simp only [Act.put, sI, sZ, sS]
    refine call_op (i := 6) (d := 23) (OP := Op.call { callee := Callee.value (Operand.func 226), args := #[Operand.tmp 17, Operand.tmp 18, Operand.tmp 19, Operand.tmp 22], argTypes := #[27, 9, 9, 27] }) (T := 27) (f := 226) (args := #[.agg #[.pointer x], .string k, .string v, .agg #[.pointer p']]) rfl rfl rfl rfl (by kernel_rfl) (by rfl) (by go_simp) ?_
    refine (HJ.out _ t' p' bd2 hp' i2 ht).mono ?_
    rintro e w3 ⟨z, pz, rfl, hpz, hj, i3, b3⟩
    have bd3 : Below w1.heap.size w1 w3 := bd2.trans (b3.mono bd2.size)
    have qw3 : w3.cell? ⟨w.heap.size, 0, none⟩ = some (.pointer x) ∧ w3.cell? ⟨w.heap.size + 1, 0, none⟩ = some (.pointer y) ∧ Hid (Below w.heap.size w w3) := ⟨cell_stays qw2.1 b3, cell_stays qw2.2.1 b3, hide (qw2.2.2.out.trans (b3.mono qw2.2.2.out.size))⟩
    refine ⟨_, rfl, qw3, ?_⟩
    replace hHeld := qw3
    try simp only [Act.put, sI, sZ, sS]
    have h3 : w3.heap[w.heap.size + 1 + 1]? = some (.cells #[.pointer none] 27 (0, 0)) := (bd3.block _ (gI HR.out).1).trans HR.out
    have c3 : w3.cell? ⟨w.heap.size + 1 + 1, 0, none⟩ = some (.pointer none) := (cell_of_row _ _ 0 _ 27 (0, 0) h3).trans rfl
    have f3 : w3.frozen? ⟨w.heap.size + 1 + 1, 0, none⟩ = false := frozen_of_row _ _ 0 _ 27 h3
    obtain ⟨o1, o2, o3⟩ := out_box (y := .pointer pz) h3 (by omega) qw3.2.2.out
    have q9 : (w3.setCell ⟨w.heap.size + 1 + 1, 0, none⟩ (.pointer pz)).cell? ⟨w.heap.size, 0, none⟩ = some (.pointer x) ∧ (w3.setCell ⟨w.heap.size + 1 + 1, 0, none⟩ (.pointer pz)).cell? ⟨w.heap.size + 1, 0, none⟩ = some (.pointer y) ∧ Hid (Below w.heap.size w (w3.setCell ⟨w.heap.size + 1 + 1, 0, none⟩ (.pointer pz))) := ⟨o3.cell qw3.1 (by simp; omega), o3.cell qw3.2.1 (by simp), hide o2⟩
    have iz := In.aside h3 o3 i3
    refine skip_op (i := 7) (OP := Op.store 27 (Operand.tmp 4) (Operand.tmp 23)) (T := 0) (w' := (w3.setCell ⟨w.heap.size + 1 + 1, 0, none⟩ (.pointer pz))) rfl rfl rfl rfl (by kernel_rfl) (by rfl) (by go_simp) ⟨q9, ?_⟩
    try simp only [Act.put, sI, sZ, sS]
    replace hHeld := q9
    refine wpAnyH_done (by kernel_rfl) ?_ _
    have HO := hide (And.intro o1 (And.intro o2 (And.intro iz (And.intro hpz (And.intro ht hj)))))
    have HTB := hide tb'
    go_wp2
    refine ret_row (w.heap.size + 1 + 1) [.pointer pz] rfl rfl Tryz.underlying27 rfl Tryz.info27 HO.out.1 rfl ?_
    refine ⟨z, by rw [HO.out.2.2.2.1], .inr ⟨HXY.out.2, t', z, ?_, ?_, rfl⟩, fun h1 h2 => (HO.out.2.2.2.2.2.says h1 (HTB.out h2)).bal, HO.out.2.2.1, HO.out.2.1⟩
    · rw [HKV.out.1]; exact HO.out.2.2.2.2.1
    · rw [HKV.out.1, HKV.out.2]; exact HO.out.2.2.2.2.2
end Go.Proofs.YtkkpdgfllnbigaaGreat.Pm
namespace Go.Proofs.YtkkpdgfllnbigaaGreat.Pm
open Go.RowKit Go.Shelf
set_option linter.unusedSimpArgs false

/-- What a map has under a key. -/
def pv (p : ByteArray × Bool) : Value := .agg #[.string p.1, .bool p.2]
/-- The elements' rule: does a key stay, and with what? -/
def keeps (p q r : ByteArray × Bool) : ByteArray × Bool := if q.2 && (r.2 || !p.2) then (q.1, true) else if r.2 && !p.2 then (r.1, true) else (⟨#[]⟩, false)
set_option maxHeartbeats 2000000 in
theorem keep_any (k : ByteArray) (p q r : ByteArray × Bool) (w : World) : Calls Tryz.prog 185 #[.string k, pv p, pv q, pv r] w fun e w' => e = .returned (.tuple #[.string (keeps p q r).1, .bool (keeps p q r).2]) ∧ Below w.heap.size w w' := by
  obtain ⟨p1, p2⟩ := p
  obtain ⟨q1, q2⟩ := q
  obtain ⟨r1, r2⟩ := r
  have hb : Below w.heap.size w (((w.alloc (.cells #[.string p1, .bool p2] 211)).alloc (.cells #[.string q1, .bool q2] 211)).alloc (.cells #[.string r1, .bool r2] 211)) := (new3 w _ _ _).2.2.2
  unfold pv
  have HB := hide hb
  clear hb
  cases p2 <;> cases q2 <;> cases r2 <;> (go_enter Tryz.func185, Tryz.ntmps185; go_wp2; go_ret2; exact ⟨rfl, HB.out⟩)
end Go.Proofs.YtkkpdgfllnbigaaGreat.Pm
