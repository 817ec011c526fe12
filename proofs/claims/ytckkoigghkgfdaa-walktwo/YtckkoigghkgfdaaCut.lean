/-
  walk: THE SMALL FUNCTIONS: top 32, joined 34, closed 35, cutAt 33.
-/
import Derived.Test.YtckkoigghkgfdaaMaps3
namespace Go.Proofs.Ytckkoigghkgfdaa
open Go.RowKit Go.Shelf
set_option linter.unusedSimpArgs false

theorem drew_below (w : World) : Below w.heap.size w w.drew := (Below.refl _ w).drew
/-- What is written into a map's box. -/
theorem put_box {w w1 : World} {B : Nat} {x y : Value} (hw : w1.heap[B]? = some (.cells #[x] 29 (0, 0))) (hB : w.heap.size ≤ B) (hb : Below w.heap.size w w1) : (w1.setCell ⟨B, 0, none⟩ y).heap[B]? = some (.cells #[y] 29 (0, 0)) ∧ Below w.heap.size w (w1.setCell ⟨B, 0, none⟩ y) ∧ Only (fun j => j = B) w1 (w1.setCell ⟨B, 0, none⟩ y) := by
  refine ⟨?_, hb.setCell (p := ⟨B, 0, none⟩) hB _, (Only.ofGrown (grown_setCell w1 ⟨B, 0, none⟩ _)).mono (fun j _ e => by simpa using e.symm)⟩
  rw [heap_setCell_same _ _ _ _ 29 _ hw]
  simp
theorem mv_ptr {t : T} {a : Option Addr} (h : t.ptr = .pointer a) : mv t = .agg #[.pointer a] := by unfold mv; rw [h]
/-- top: the key of a's root, or of b's. -/
theorem top_any (s t : T) (w : World) (hs : In w s) (ht : In w t) : Calls Try.prog 32 #[mv s, mv t] w fun e w' => e = .returned (.string (if s = .nil then t.key else s.key)) ∧ Below w.heap.size w w' := by
  have hb : Below w.heap.size w ((w.alloc (.cells #[s.ptr] 29)).alloc (.cells #[t.ptr] 29)) := ((Below.refl _ w).alloc (Nat.le_refl _) _).alloc (by simp) _
  cases s with
  | nil =>
    rw [if_pos rfl]
    obtain ⟨b, hb'⟩ := t.ptr_shape
    have r1 := mRoot_any .nil ((w.alloc (.cells #[.pointer none] 29)).alloc (.cells #[.pointer b] 29))
    have r2 : ∀ W, Calls Try.prog 50 #[.agg #[.pointer b]] W fun e w' => e = .returned (.pointer b) ∧ Below W.heap.size W w' := fun W => by
      have := mRoot_any t W
      rw [mv_ptr hb', hb'] at this
      exact this
    have k2 : ∀ W, In W t → Calls Try.prog 51 #[.pointer b] W fun e w' => e = .returned (.string t.key) ∧ w' = W := fun W hW => by
      have := key_any t W hW
      rw [hb'] at this
      exact this
    unfold mv at r1 ⊢
    rw [hb'] at hb ⊢
    simp only [T.ptr] at r1 hb ⊢
    have HT := hide (And.intro ht (And.intro hb k2))
    clear hs ht hb' hb k2
    go_enter Try.func32, Try.ntmps32
    go_upto_region 2 with (go_at_call 50; refine r1.mono ?_; rintro e w1 ⟨rfl, b1⟩; dsimp only)
    obtain ⟨ht, hb, k2⟩ := HT.out
    obtain ⟨n0, n1⟩ := new2 w (.cells #[.pointer none] 29) (.cells #[.pointer b] 29)
    have h0 := (b1.block w.heap.size (by simp; omega)).trans n0
    have h1 := (b1.block (w.heap.size + 1) (by simp)).trans n1
    have c0 : w1.cell? ⟨w.heap.size, 0, none⟩ = some (.pointer none) := (cell_of_row _ _ 0 _ 29 (0, 0) h0).trans rfl
    have f0 : w1.frozen? ⟨w.heap.size, 0, none⟩ = false := frozen_of_row _ _ 0 _ 29 h0
    have c1 : w1.cell? ⟨w.heap.size + 1, 0, none⟩ = some (.pointer b) := (cell_of_row _ _ 0 _ 29 (0, 0) h1).trans rfl
    have bw1 := hb.trans (b1.mono hb.size)
    obtain ⟨o1, o2, o3⟩ := put_box (y := .pointer b) h0 (Nat.le_refl _) bw1
    have it : In (w1.setCell ⟨w.heap.size, 0, none⟩ (.pointer b)) t := In.aside h0 o3 (In.below bw1 ht)
    have c2 : (w1.setCell ⟨w.heap.size, 0, none⟩ (.pointer b)).cell? ⟨w.heap.size, 0, none⟩ = some (.pointer b) := (cell_of_row _ _ 0 _ 29 (0, 0) o1).trans rfl
    have HI := hide (And.intro it o2)
    clear ht hb n0 n1 h0 h1 bw1 o1 o2 o3 it b1 HT r1
    go_wp2_with (first
      | (go_at_call 50; refine (r2 _).mono ?_; rintro e w3 ⟨rfl, b3⟩; have k3 := k2 w3 (In.below b3 HI.out.1); dsimp only)
      | (go_at_call 51; refine k3.mono ?_; rintro e w4 ⟨rfl, hw⟩; replace hw := hw.symm; subst hw))
    go_ret
    exact ⟨rfl, HI.out.2.trans (b3.mono HI.out.2.size)⟩
  | node p k v l r =>
    rw [if_neg (by simp)]
    obtain ⟨b, hb'⟩ := t.ptr_shape
    have r1 := fun W => mRoot_any (.node p k v l r) W
    have k2 : ∀ W, In W (T.node p k v l r) → Calls Try.prog 51 #[.pointer (some ⟨p, 0, none⟩)] W fun e w' => e = .returned (.string k) ∧ w' = W := fun W hW => key_any (.node p k v l r) W hW
    unfold mv at r1 ⊢
    rw [hb'] at hb ⊢
    simp only [T.ptr, T.key] at r1 hb ⊢
    obtain ⟨n0, n1⟩ := new2 w (.cells #[.pointer (some ⟨p, 0, none⟩)] 29) (.cells #[.pointer b] 29)
    have HT := hide (And.intro hs (And.intro hb (And.intro k2 n0)))
    clear hs ht hb' hb k2 n0 n1
    have tk : True := trivial
    go_enter Try.func32, Try.ntmps32
    go_wp2_with (first
      | (go_at_call 50; clear tk; refine (r1 _).mono ?_; rintro e w1 ⟨rfl, b1⟩; have c1 : w1.cell? ⟨w.heap.size, 0, none⟩ = some (.pointer (some ⟨p, 0, none⟩)) := (cell_of_row _ _ 0 _ 29 (0, 0) ((b1.block w.heap.size (by simp; omega)).trans HT.out.2.2.2)).trans rfl; replace b1 := hide b1; dsimp only)
      | (go_at_call 50; refine (r1 _).mono ?_; rintro e w3 ⟨rfl, b3⟩; have bw3 := (HT.out.2.1.trans (b1.out.mono HT.out.2.1.size)).trans (b3.mono (HT.out.2.1.trans (b1.out.mono HT.out.2.1.size)).size); have k3 := HT.out.2.2.1 w3 (In.below bw3 HT.out.1); replace bw3 := hide bw3; dsimp only)
      | (go_at_call 51; refine k3.mono ?_; rintro e w4 ⟨rfl, hw⟩; replace hw := hw.symm; subst hw))
    go_ret
    exact ⟨rfl, bw3.out⟩
/-- joined: both sides with a key that fits between them. -/
theorem joined_any (l r : T) (k : ByteArray) (v : Int) (w : World) (hl : In w l) (hr : In w r) (hf : fitsB l k r = true) (hn : l.n + r.n ≤ 700000) : Calls Try.prog 34 #[mv l, .string k, .int .i64 v, mv r] w fun e w' => ∃ t, e = .returned (mv t) ∧ Joined w.heap.size k v l r t ∧ In w' t ∧ Below w.heap.size w w' := by
  obtain ⟨m0, m1, m2, hb⟩ := new3 w (.cells #[l.ptr] 29) (.cells #[r.ptr] 29) (.cells #[.pointer none] 29)
  have hj := mJoin_any l r k v _ (In.below hb hl) (In.below hb hr) hn
  rw [hf] at hj
  have key : ∀ w1 t a, In w1 t → t.ptr = .pointer a → Joined (((w.alloc (.cells #[l.ptr] 29)).alloc (.cells #[r.ptr] 29)).alloc (.cells #[.pointer none] 29)).heap.size k v l r t → Below (((w.alloc (.cells #[l.ptr] 29)).alloc (.cells #[r.ptr] 29)).alloc (.cells #[.pointer none] 29)).heap.size (((w.alloc (.cells #[l.ptr] 29)).alloc (.cells #[r.ptr] 29)).alloc (.cells #[.pointer none] 29)) w1 →
      (w1.alloc (.cells #[.pointer a] 29)).cell? ⟨w.heap.size + 1 + 1, 0, none⟩ = some (.pointer none) ∧ (w1.alloc (.cells #[.pointer a] 29)).frozen? ⟨w.heap.size + 1 + 1, 0, none⟩ = false ∧ Hid (((w1.alloc (.cells #[.pointer a] 29)).setCell ⟨w.heap.size + 1 + 1, 0, none⟩ (.pointer a)).heap[w.heap.size + 1 + 1]? = some (.cells #[.pointer a] 29 (0, 0)) ∧ In ((w1.alloc (.cells #[.pointer a] 29)).setCell ⟨w.heap.size + 1 + 1, 0, none⟩ (.pointer a)) t ∧ Joined w.heap.size k v l r t ∧ Below w.heap.size w ((w1.alloc (.cells #[.pointer a] 29)).setCell ⟨w.heap.size + 1 + 1, 0, none⟩ (.pointer a))) := fun w1 t a it hp hj hb1 => by
    have ba : Below w1.heap.size w1 (w1.alloc (.cells #[.pointer a] 29)) := (Below.refl _ w1).alloc (Nat.le_refl _) _
    have hw0 := (hb1.block (w.heap.size + 1 + 1) (by simp)).trans m2
    have hw1 := (ba.block _ (Array.getElem?_eq_some_iff.1 hw0).1).trans hw0
    have hbb := hb.trans (hb1.mono hb.size)
    obtain ⟨o1, o2, o3⟩ := out_box (y := .pointer a) hw1 (by omega) (hbb.trans (ba.mono hbb.size))
    exact ⟨by rw [cell_of_row _ _ 0 _ 29 (0, 0) hw1]; rfl, frozen_of_row _ _ 0 _ 29 hw1, hide ⟨o1, In.aside hw1 o3 (In.below ba it), hj.mono hb.size, o2⟩⟩
  unfold mv at hj ⊢
  obtain ⟨x, hx⟩ := l.ptr_shape
  obtain ⟨y, hy⟩ := r.ptr_shape
  rw [hx, hy] at hj key ⊢
  have HK := hide key
  clear hl hr hx hy hb key hn m0 m1 m2 hf
  go_enter Try.func34, Try.ntmps34
  go_wp2_with (go_at_call 53; refine hj.mono ?_; rintro e w1 ⟨t, he, _, hjj, it, hb1⟩; obtain ⟨a, ha⟩ := t.ptr_shape; rw [ha, if_pos rfl] at he; subst he; obtain ⟨q1, q2, HQ⟩ := HK.out w1 t a it ha (hjj rfl) hb1; have HX := hide ha; clear ha it hb1 hjj)
  refine ret_row (w.heap.size + 1 + 1) [.pointer a] rfl rfl Try.underlying29 rfl Try.info29 HQ.out.1 rfl ?_
  exact ⟨t, by rw [HX.out], HQ.out.2.2.1, HQ.out.2.1, HQ.out.2.2.2⟩
/-- Trees stand where only blocks that are no nodes are written. -/
theorem In.typed {D : Nat → Prop} {w w' : World} (h : Only D w w') (ha : ∀ j, D j → ∀ o, w.heap[j]? = some o → ∃ cur e fr, o = .cells cur e fr ∧ e ≠ 83) : ∀ {t : T}, In w t → In w' t
  | .nil, _ => trivial
  | .node p _ _ _ _, ⟨h1, h2, h3⟩ => by
    refine ⟨(h.block p (Array.getElem?_eq_some_iff.1 h1).1 (fun d => ?_)).trans h1, In.typed h ha h2, In.typed h ha h3⟩
    obtain ⟨cur, e, fr, he, hne⟩ := ha p d _ h1
    simp only [Obj.cells.injEq] at he
    exact hne he.2.1.symm
theorem set_one {w : World} {B i : Nat} {cs : Array Value} {ty : TypeId} (v : Value) (h : w.heap[B]? = some (.cells cs ty (0, 0))) : (w.setCell ⟨B, i, none⟩ v).heap[B]? = some (.cells (cs.setIfInBounds i v) ty (0, 0)) ∧ Only (fun j => j = B) w (w.setCell ⟨B, i, none⟩ v) := by
  refine ⟨?_, (Only.ofGrown (grown_setCell w ⟨B, i, none⟩ _)).mono (fun j _ e => by simpa using e.symm)⟩
  rw [heap_setCell_same _ _ _ _ ty _ h]
theorem set4 {w : World} {B : Nat} {x0 x1 x2 x3 : Value} {ty : TypeId} (a b c d : Value) (h : w.heap[B]? = some (.cells #[x0, x1, x2, x3] ty (0, 0))) : ((((w.setCell ⟨B, 0, none⟩ a).setCell ⟨B, 1, none⟩ b).setCell ⟨B, 2, none⟩ c).setCell ⟨B, 3, none⟩ d).heap[B]? = some (.cells #[a, b, c, d] ty (0, 0)) ∧ Only (fun j => j = B) w ((((w.setCell ⟨B, 0, none⟩ a).setCell ⟨B, 1, none⟩ b).setCell ⟨B, 2, none⟩ c).setCell ⟨B, 3, none⟩ d) := by
  obtain ⟨h1, o1⟩ := set_one (i := 0) a h
  obtain ⟨h2, o2⟩ := set_one (i := 1) b h1
  obtain ⟨h3, o3⟩ := set_one (i := 2) c h2
  obtain ⟨h4, o4⟩ := set_one (i := 3) d h3
  exact ⟨by simpa using h4, ((o1.trans o2 (fun _ _ e => e)).trans o3 (fun _ _ e => e)).trans o4 (fun _ _ e => e)⟩
/-- What a split tells, in one value. -/
def cv (a b : T) (f : T) : Value := .agg #[a.ptr, b.ptr, .int .i64 f.val, .bool f.isSome]
theorem Try.info70 : (Try.prog.info? 70).map (·.size) = some 4 := by kernel_rfl
set_option maxHeartbeats 2000000 in
theorem cutAt_any (t : T) (k : ByteArray) (w : World) (h : In w t) (hn : t.n ≤ 700000) : Calls Try.prog 33 #[mv t, .string k] w fun e w' => ∃ a f b, e = .returned (cv a b f) ∧ Splits w.heap.size k t a f b ∧ In w' a ∧ In w' b ∧ Below w.heap.size w w' := by
  have hs := fun W (hW : In W t) => mSplit_any t k W hW hn
  unfold mv at hs ⊢
  obtain ⟨x, hx⟩ := t.ptr_shape
  rw [hx] at hs ⊢
  obtain ⟨n0, n1⟩ := new2 w (.cells #[.pointer x] 29) (.cells #[.pointer none, .pointer none, .int .i64 0, .bool false] 70)
  have hb : Below w.heap.size w ((w.alloc (.cells #[.pointer x] 29)).alloc (.cells #[.pointer none, .pointer none, .int .i64 0, .bool false] 70)) := ((Below.refl _ w).alloc (Nat.le_refl _) _).alloc (by simp) _
  have hs0 := hs _ (In.below hb h)
  have HN := hide (And.intro n1 hb)
  clear hs h n0 n1 hb
  go_enter Try.func33, Try.ntmps33
  go_upto_region 2 with (go_at_call 52; refine hs0.mono ?_; rintro e w1 ⟨ta, f, tb, he, hsp, ia, ib, b1⟩; obtain ⟨pa, hpa⟩ := ta.ptr_shape; obtain ⟨pb, hpb⟩ := tb.ptr_shape; rw [hpa, hpb] at he; subst he; have H1 := hide (And.intro hpa (And.intro hpb (And.intro hsp (And.intro ia (And.intro ib b1))))); clear hpa hpb hsp ia ib b1; dsimp only)
  obtain ⟨hpa, hpb, hsp, ia, ib, b1⟩ := H1.out
  have bw1 := HN.out.2.trans (b1.mono HN.out.2.size)
  have h1 := (b1.block (w.heap.size + 1) (by simp)).trans HN.out.1
  have ba : Below w1.heap.size w1 ((w1.alloc (.cells #[.pointer pa] 29)).alloc (.cells #[.pointer pb] 29)) := ((Below.refl _ w1).alloc (Nat.le_refl _) _).alloc (by simp) _
  have h2 := (ba.block _ (Array.getElem?_eq_some_iff.1 h1).1).trans h1
  obtain ⟨w2, hw2⟩ : ∃ w2, w2 = ((w1.alloc (.cells #[.pointer pa] 29)).alloc (.cells #[.pointer pb] 29)) := ⟨_, rfl⟩
  have k5 : w2.cell? ⟨w1.heap.size, 0, none⟩ = some (.pointer pa) ∧ w2.cell? ⟨w1.heap.size + 1, 0, none⟩ = some (.pointer pb) := by
    obtain ⟨n0, n1⟩ := new2 w1 (.cells #[.pointer pa] 29) (.cells #[.pointer pb] 29)
    rw [hw2]
    exact ⟨(cell_of_row _ _ 0 _ 29 (0, 0) n0).trans rfl, (cell_of_row _ _ 0 _ 29 (0, 0) n1).trans rfl⟩
  rw [← hw2] at h2 ba ⊢
  have d0 : w2.cell? ⟨w.heap.size + 1, 0, none⟩ = some (.pointer none) := (cell_of_row _ _ 0 _ 70 (0, 0) h2).trans rfl
  have d1 : w2.cell? ⟨w.heap.size + 1, 1, none⟩ = some (.pointer none) := (cell_of_row _ _ 1 _ 70 (0, 0) h2).trans rfl
  have d2 : w2.cell? ⟨w.heap.size + 1, 2, none⟩ = some (.int .i64 0) := (cell_of_row _ _ 2 _ 70 (0, 0) h2).trans rfl
  have d3 : w2.cell? ⟨w.heap.size + 1, 3, none⟩ = some (.bool false) := (cell_of_row _ _ 3 _ 70 (0, 0) h2).trans rfl
  obtain ⟨k5, k8⟩ := k5
  have f0 : w2.frozen? ⟨w.heap.size + 1, 0, none⟩ = false := frozen_of_row _ _ 0 _ 70 h2
  have f1 : w2.frozen? ⟨w.heap.size + 1, 1, none⟩ = false := frozen_of_row _ _ 1 _ 70 h2
  have f2 : w2.frozen? ⟨w.heap.size + 1, 2, none⟩ = false := frozen_of_row _ _ 2 _ 70 h2
  have f3 : w2.frozen? ⟨w.heap.size + 1, 3, none⟩ = false := frozen_of_row _ _ 3 _ 70 h2
  obtain ⟨g1, g2⟩ := set4 (.pointer pa) (.pointer pb) (.int .i64 f.val) (.bool f.isSome) h2
  have bw2 := bw1.trans (ba.mono bw1.size)
  have hty : ∀ j, j = w.heap.size + 1 → ∀ o, w2.heap[j]? = some o → ∃ cur e fr, o = .cells cur e fr ∧ e ≠ 83 := fun j e o ho => by
    subst e
    rw [h2] at ho
    cases ho
    exact ⟨_, _, _, rfl, by decide⟩
  have HF := hide (And.intro g1 (And.intro (In.typed g2 hty (In.below ba ia)) (And.intro (In.typed g2 hty (In.below ba ib)) (And.intro (hsp.mono HN.out.2.size) (Below.only bw2 g2 bw2.size (fun j e => by omega))))))
  clear hpa hpb hsp ia ib b1 bw1 h1 hw2 hs0 g1 g2 hty h2 bw2 ba
  go_wp2
  refine ret_row (w.heap.size + 1) [.pointer pa, .pointer pb, .int .i64 f.val, .bool f.isSome] rfl rfl Try.underlying70 rfl Try.info70 HF.out.1 rfl ?_
  exact ⟨ta, f, tb, by unfold cv; rw [H1.out.1, H1.out.2.1], HF.out.2.2.2.1, HF.out.2.1, HF.out.2.2.1, HF.out.2.2.2.2⟩
end Go.Proofs.Ytckkoigghkgfdaa
