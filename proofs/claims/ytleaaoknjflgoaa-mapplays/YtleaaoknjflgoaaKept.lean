/-
  WHAT MapPlays KEEPS: the maps and the lists of all rounds, in two slices that grow.
-/
import Derived.Test.YtleaaoknjflgoaaEntries3
import Derived.Test.YtleaaoknjflgoaaTells
namespace Go.Proofs.Ytleaaoknjflgoaa
open Go.RowKit Go.Shelf
set_option linter.unusedSimpArgs false

theorem _root_.Go.Proofs.Try.info26z : (Try.prog.info? 26).map (fun i => (i.zero, i.size, i.bytes)) = some (some (.agg #[.pointer none]), 1, 8) := by kernel_rfl
theorem _root_.Go.Proofs.Try.info27z : (Try.prog.info? 27).map (fun i => (i.zero, i.size, i.bytes)) = some (some (.slice none 0 0), 1, 24) := by kernel_rfl
/-- Only blocks of maps, or of lists, are written. -/
def Afar (D : Nat → Prop) (w : World) : Prop := ∀ j, D j → ∀ o, w.heap[j]? = some o → ∃ cur e fr, o = .cells cur e fr ∧ (e = 26 ∨ e = 27)
theorem In.afar {D : Nat → Prop} {w w' : World} (h : Only D w w') (ha : Afar D w) : ∀ {t : T}, In w t → In w' t
  | .nil, _ => trivial
  | .node p _ _ _ _, ⟨h1, h2, h3⟩ => by
    refine ⟨(h.block p (Array.getElem?_eq_some_iff.1 h1).1 (fun d => ?_)).trans h1, In.afar h ha h2, In.afar h ha h3⟩
    obtain ⟨cur, e, fr, he, h26 | h26⟩ := ha p d _ h1
    · simp only [Obj.cells.injEq] at he; rw [h26] at he; exact absurd he.2.1 (by decide)
    · simp only [Obj.cells.injEq] at he; rw [h26] at he; exact absurd he.2.1 (by decide)
theorem Ty.afar {D : Nat → Prop} {w w' : World} (h : Only D w w') (ha : Afar D w) {v : Value} (ht : Ty w v) : Ty w' v := fun a n c e => by
  obtain ⟨cur, fr, hc⟩ := ht a n c e
  refine ⟨cur, fr, (h.block _ (Array.getElem?_eq_some_iff.1 hc).1 (fun d => ?_)).trans hc⟩
  obtain ⟨cur, e, fr, he, h26 | h26⟩ := ha _ d _ hc
  · simp only [Obj.cells.injEq] at he; rw [h26] at he; exact absurd he.2.1 (by decide)
  · simp only [Obj.cells.injEq] at he; rw [h26] at he; exact absurd he.2.1 (by decide)
theorem Es.afar {D : Nat → Prop} {w w' : World} (h : Only D w w') (ha : Afar D w) {v : Value} {l : List Nm} (ht : Ty w v) (he : Es w v l) : Es w' v l := by
  obtain ⟨ao, cap, e, hr, hc, hn, hs⟩ := he.ex
  refine ⟨ao, cap, e, ⟨hr.1, fun a hao j u hj => ?_⟩, hc, hn, hs⟩
  have h1 := hr.2 a hao j u hj
  have hsp := hs a hao
  obtain ⟨b, off, s⟩ := a
  simp only at hsp
  subst hsp
  rw [add_lit] at h1 ⊢
  refine h.cell h1 (fun d => ?_)
  simp only at d
  rw [hao] at e
  obtain ⟨cur, fr, hcc⟩ := ht _ _ _ e
  obtain ⟨cur, e, fr, he, h26 | h26⟩ := ha _ d _ hcc
  · simp only [Obj.cells.injEq] at he; rw [h26] at he; exact absurd he.2.1 (by decide)
  · simp only [Obj.cells.injEq] at he; rw [h26] at he; exact absurd he.2.1 (by decide)
theorem Good.afar {D : Nat → Prop} {w w' : World} (h : Only D w w') (ha : Afar D w) {t : T} (hg : Good w t) : Good w' t := ⟨In.afar h ha hg.tree, hg.bal, hg.srt, hg.few⟩
/-- Rows of maps, and of lists. -/
def OnP (w : World) (B : Nat) (v : Value) (ts : List T) : Prop := w.ownsRow B 26 1 v ts.length (ts.map T.ptr)
def OnV (w : World) (B : Nat) (v : Value) (vs : List Value) : Prop := w.ownsRow B 27 1 v vs.length vs
theorem row_afar {w : World} {B n e : Nat} {v : Value} {xs : List Value} (h : w.ownsRow B e 1 v n xs) (he : e = 26 ∨ e = 27) : Afar (fun k => v.ownBlock = some k) w := fun j hj o ho => by
  rcases h.2 with ⟨rfl, _⟩ | ⟨g, cap, cur, rfl, _, hg, _⟩
  · simp [Value.ownBlock] at hj
  · simp [Value.ownBlock] at hj
    subst hj
    rw [hg] at ho
    cases ho
    exact ⟨_, _, _, rfl, he⟩
/-- What is kept. -/
structure Kept (w : World) (B : Nat) (v9 v10 : Value) (ts : List T) (vs : List Value) : Prop where
  maps : OnP w B v9 ts
  lists : OnV w B v10 vs
  len : vs.length = ts.length
  each : ∀ (j : Nat) t v, ts[j]? = some t → vs[j]? = some v → Good w t ∧ Es w v t.list ∧ Ty w v
theorem kept_none (w : World) (B : Nat) : Kept w B (.slice none 0 0) (.slice none 0 0) [] [] := ⟨World.ownsRow_nil _ _ _ _, World.ownsRow_nil _ _ _ _, rfl, by simp⟩
theorem Kept.below {w w' : World} {B : Nat} {v9 v10 : Value} {ts : List T} {vs : List Value} (h : Kept w B v9 v10 ts vs) (hb : Below w.heap.size w w') : Kept w' B v9 v10 ts vs :=
  ⟨(Only.ofBelow hb).row h.maps (fun _ _ d => d.elim), (Only.ofBelow hb).row h.lists (fun _ _ d => d.elim), h.len, fun j t v ht hv => by
    obtain ⟨h1, h2, h3⟩ := h.each j t v ht hv
    exact ⟨h1.below hb, h2.below hb, h3.below hb⟩⟩
/-- The map's box is written. -/
theorem Kept.aside {w w' : World} {B C : Nat} {x : Value} {v9 v10 : Value} {ts : List T} {vs : List Value} (hw : w.heap[C]? = some (.cells #[x] 26 (0, 0))) (hC : C < B) (ho : Only (fun j => j = C) w w') (h : Kept w B v9 v10 ts vs) : Kept w' B v9 v10 ts vs := by
  have ha : Afar (fun j => j = C) w := fun j e o hj => by
    subst e
    rw [hw] at hj
    cases hj
    exact ⟨_, _, _, rfl, .inl rfl⟩
  refine ⟨ho.row h.maps (fun k hk e => ?_), ho.row h.lists (fun k hk e => ?_), h.len, fun j t v ht hv => ?_⟩
  · have := (World.ownsRow.lt h.maps k hk).1; omega
  · have := (World.ownsRow.lt h.lists k hk).1; omega
  · obtain ⟨h1, h2, h3⟩ := h.each j t v ht hv
    exact ⟨h1.afar ho ha, h2.afar ho ha h3, h3.afar ho ha⟩
theorem one_ptr (t : T) : t.ptr.oneCell' = true := by obtain ⟨a, e⟩ := t.ptr_shape; rw [e]; rfl
theorem cell_one (w : World) (x : Value) (ty : TypeId) : ∀ j u, [x][j]? = some u → (w.alloc (.cells #[x] ty)).cell? ((⟨w.heap.size, 0, none⟩ : Addr).add j) = some u := fun j u hj => by
  rw [add_lit, Nat.zero_add]
  refine (cell_of_row (w.alloc (.cells #[x] ty)) w.heap.size j _ ty (0, 0) (heap_alloc_new w _)).trans ?_
  simpa using hj
theorem alloc_only (w : World) (o : Obj) : Only None w (w.alloc o) := (Only.refl None w).alloc o
/-- A round's map and list are kept. -/
theorem Kept.step {W : World} {B : Nat} {v9 v10 sv : Value} {ts : List T} {vs : List Value} {t : T} (h : Kept W B v9 v10 ts vs) (hg : Good W t) (he : Es W sv t.list) (hty : Ty W sv) (hB : B ≤ W.heap.size) (hn : ts.length ≤ 1000) :
    ∃ v9' w2 v10' w4,
      (Builtin.append_ #[28, 28] 28 #[v9, .slice (some ⟨W.heap.size, 0, none⟩) 1 1]).run Try.prog (W.alloc (.cells #[t.ptr] 26)) = .ok v9' w2 ∧
      (Builtin.append_ #[29, 29] 29 #[v10, .slice (some ⟨w2.heap.size, 0, none⟩) 1 1]).run Try.prog (w2.alloc (.cells #[sv] 27)) = .ok v10' w4 ∧
      Kept w4 B v9' v10' (ts ++ [t]) (vs ++ [sv]) ∧ Good w4 t ∧ Es w4 sv t.list ∧ Ty w4 sv ∧ Below B W w4 := by
  obtain ⟨i0, hi, hz0, hz1, hz2⟩ := info_parts Try.info26z
  obtain ⟨i1, hi', hz0', hz1', hz2'⟩ := info_parts Try.info27z
  have b1 : Below W.heap.size W (W.alloc (.cells #[t.ptr] 26)) := (Below.refl _ W).alloc (Nat.le_refl _) _
  have k1 := h.below b1
  have hsz1 : B ≤ (W.alloc (.cells #[t.ptr] 26)).heap.size := Nat.le_trans hB b1.size
  obtain ⟨v9', w2, r1, o1, g1, _⟩ := run_append_own (P := Try.prog) (W.alloc (.cells #[t.ptr] 26)) B 28 28 26 i0 (.agg #[.pointer none]) 1 8 Try.underlying28 hi hz0 hz1 hz2 rfl (by decide) v9 ts.length (ts.map T.ptr) k1.maps ⟨W.heap.size, 0, none⟩ 1 1 [t.ptr] rfl (cell_one W _ 26) (fun u hu => by simp only [List.mem_singleton] at hu; subst hu; exact one_ptr t) (by unfold maxLen; omega) (by omega) hsz1
  have a1 := row_afar k1.maps (.inl rfl)
  have n1 := Only.ofGrown g1
  have c1 : Below B W w2 := (b1.mono hB).grown g1 hsz1 (fun k hk => (World.ownsRow.lt k1.maps k hk).1)
  have d1 : v10.ownBlock = none ∨ v10.ownBlock ≠ v9.ownBlock := by
    cases hv : v10.ownBlock with
    | none => exact .inl rfl
    | some g =>
      right
      intro e
      rcases k1.lists.2 with ⟨e1, _⟩ | ⟨g1, cap, cur, e1, _, hg1, _⟩
      · rw [e1] at hv; simp [Value.ownBlock] at hv
      · rw [e1] at hv
        simp [Value.ownBlock] at hv
        subst hv
        rcases k1.maps.2 with ⟨e2, _⟩ | ⟨g2, cap2, cur2, e2, _, hg2, _⟩
        · rw [e2] at e; simp [Value.ownBlock] at e
        · rw [e2] at e
          simp [Value.ownBlock] at e
          subst e
          rw [hg1] at hg2
          simp at hg2
  have l2 : OnV w2 B v10 vs := World.ownsRow.kept k1.lists g1 d1
  have m2 : OnP w2 B v9' (ts ++ [t]) := by unfold OnP; rw [List.length_append, List.map_append]; exact o1
  have b3 : Below w2.heap.size w2 (w2.alloc (.cells #[sv] 27)) := (Below.refl _ w2).alloc (Nat.le_refl _) _
  have hsz2 : B ≤ (w2.alloc (.cells #[sv] 27)).heap.size := Nat.le_trans (Nat.le_trans hB c1.size) b3.size
  have l3 : OnV (w2.alloc (.cells #[sv] 27)) B v10 vs := World.ownsRow.alloc l2 _
  have m3 : OnP (w2.alloc (.cells #[sv] 27)) B v9' (ts ++ [t]) := World.ownsRow.alloc m2 _
  have hone : sv.oneCell' = true := by obtain ⟨ao, cap, e, _⟩ := he.ex; rw [e]; rfl
  have hvl := h.len
  obtain ⟨v10', w4, r2, o2, g2, _⟩ := run_append_own (P := Try.prog) (w2.alloc (.cells #[sv] 27)) B 29 29 27 i1 (.slice none 0 0) 1 24 Try.underlying29 hi' hz0' hz1' hz2' rfl (by decide) v10 vs.length vs l3 ⟨w2.heap.size, 0, none⟩ 1 1 [sv] rfl (cell_one w2 _ 27) (fun u hu => by simp only [List.mem_singleton] at hu; subst hu; exact hone) (by unfold maxLen; omega) (by omega) hsz2
  have a2 := row_afar l3 (.inr rfl)
  have n2 := Only.ofGrown g2
  have d2 : v9'.ownBlock = none ∨ v9'.ownBlock ≠ v10.ownBlock := by
    cases hv : v9'.ownBlock with
    | none => exact .inl rfl
    | some g =>
      right
      intro e
      rcases m3.2 with ⟨e1, _⟩ | ⟨g1, cap, cur, e1, _, hg1, _⟩
      · rw [e1] at hv; simp [Value.ownBlock] at hv
      · rw [e1] at hv
        simp [Value.ownBlock] at hv
        subst hv
        rcases l3.2 with ⟨e2, _⟩ | ⟨g2, cap2, cur2, e2, _, hg2, _⟩
        · rw [e2] at e; simp [Value.ownBlock] at e
        · rw [e2] at e
          simp [Value.ownBlock] at e
          subst e
          rw [hg1] at hg2
          simp at hg2
  have go : ∀ (t : T) (v : Value), Good W t → Es W v t.list → Ty W v → Good w4 t ∧ Es w4 v t.list ∧ Ty w4 v := fun t v q1 q2 q3 => by
    have q1 := q1.below b1
    have q2 := q2.below b1
    have q3 := q3.below b1
    have p1 := q1.afar n1 a1
    have p2 := q2.afar n1 a1 q3
    have p3 := q3.afar n1 a1
    have p1 := p1.below b3
    have p2 := p2.below b3
    have p3 := p3.below b3
    exact ⟨p1.afar n2 a2, p2.afar n2 a2 p3, p3.afar n2 a2⟩
  have m4 : OnP w4 B v9' (ts ++ [t]) := World.ownsRow.kept m3 g2 d2
  have l4 : OnV w4 B v10' (vs ++ [sv]) := by unfold OnV; rw [List.length_append]; exact o2
  have c4 : Below B W w4 := (c1.trans (b3.mono (Nat.le_trans hB c1.size))).grown g2 hsz2 (fun k hk => (World.ownsRow.lt l3 k hk).1)
  obtain ⟨x1, x2, x3⟩ := go t sv hg he hty
  refine ⟨v9', w2, v10', w4, r1, r2, ⟨m4, l4, by simp [hvl], fun j t' v' ht hv => ?_⟩, x1, x2, x3, c4⟩
  by_cases hj : j < ts.length
  · rw [List.getElem?_append_left hj] at ht
    rw [List.getElem?_append_left (by omega)] at hv
    obtain ⟨y1, y2, y3⟩ := h.each j t' v' ht hv
    exact go t' v' y1 y2 y3
  · rw [List.getElem?_append_right (by omega)] at ht
    rw [List.getElem?_append_right (by omega)] at hv
    have hj0 : j - ts.length = 0 := by
      have := (List.getElem?_eq_some_iff.1 ht).1
      simp at this
      omega
    rw [hj0] at ht
    rw [hvl, hj0] at hv
    simp at ht hv
    subst ht hv
    exact ⟨x1, x2, x3⟩
/-- What is written into a map's box. -/
theorem put_box {w w1 : World} {B : Nat} {x y : Value} (hw : w1.heap[B]? = some (.cells #[x] 26 (0, 0))) (hB : w.heap.size ≤ B) (hb : Below w.heap.size w w1) : (w1.setCell ⟨B, 0, none⟩ y).heap[B]? = some (.cells #[y] 26 (0, 0)) ∧ Below w.heap.size w (w1.setCell ⟨B, 0, none⟩ y) ∧ Only (fun j => j = B) w1 (w1.setCell ⟨B, 0, none⟩ y) := by
  refine ⟨?_, hb.setCell (p := ⟨B, 0, none⟩) hB _, (Only.ofGrown (grown_setCell w1 ⟨B, 0, none⟩ _)).mono (fun j _ e => by simpa using e.symm)⟩
  rw [heap_setCell_same _ _ _ _ 26 _ hw]
  simp
theorem srt_delP {l : List Nm} (h : Srt l) (k : ByteArray) : Srt (del k l) := by
  unfold del
  split
  · refine List.Pairwise.sublist ?_ h
    have h1 : List.Sublist (l.take (pos k l) ++ l.drop (pos k l + 1)) (l.take (pos k l) ++ l.drop (pos k l)) := List.Sublist.append (List.Sublist.refl _) (List.drop_sublist_drop_left _ (by omega))
    rw [List.take_append_drop] at h1
    exact h1
  · exact h
theorem ins_lessP {x : Nm} {k : ByteArray} {v : Int} {l : List Nm} (h : cmpB x.1 k = -1) : ins k v (x :: l) = x :: ins k v l := by
  have hp : pos k (x :: l) = pos k l + 1 := by simp [pos, h]
  have hh : has k (x :: l) = has k l := by unfold has; rw [hp]; simp
  unfold ins
  rw [hp, hh]
  split <;> simp
theorem ins_memP {k : ByteArray} {v : Int} {l : List Nm} {y : Nm} (h : y ∈ ins k v l) : y = (k, v) ∨ y ∈ l := by
  unfold ins at h
  rcases List.mem_append.1 h with h | h
  · exact .inr (List.mem_of_mem_take h)
  · rcases List.mem_cons.1 h with h | h
    · exact .inl h
    · exact .inr (List.mem_of_mem_drop h)
theorem srt_insP {l : List Nm} (h : Srt l) (k : ByteArray) (v : Int) : Srt (ins k v l) := by
  induction l with
  | nil => simp [ins, pos, has, Srt]
  | cons x l ih =>
    obtain ⟨h1, h2⟩ := List.pairwise_cons.1 h
    by_cases hc : cmpB x.1 k = -1
    · rw [ins_lessP hc]
      refine List.Pairwise.cons (fun y hy => ?_) (ih h2)
      rcases ins_memP hy with rfl | hy
      · exact hc
      · exact h1 y hy
    · have hp : pos k (x :: l) = 0 := by simp [pos, hc]
      have hh : has k (x :: l) = decide (x.1 = k) := by unfold has; rw [hp]; rfl
      unfold ins
      rw [hp, hh]
      by_cases he : x.1 = k
      · simp only [he, decide_true, if_true, List.take_zero, List.nil_append, Nat.zero_add, List.drop_succ_cons, List.drop_zero]
        exact List.Pairwise.cons (fun y hy => by have := h1 y hy; rw [he] at this; exact this) h2
      · simp only [he, decide_false, Bool.false_eq_true, if_false, List.take_zero, List.nil_append, List.drop_zero]
        have hk : cmpB k x.1 = -1 := by
          have h3 := ord_B.range x.1 k
          have h4 := ord_B.anti k x.1
          rcases h3 with h3 | h3 | h3
          · exact (hc h3).elim
          · exact (he (ord_B.eq _ _ h3)).elim
          · have := ord_B.anti x.1 k; omega
        refine List.Pairwise.cons (fun y hy => ?_) h
        rcases List.mem_cons.1 hy with rfl | hy
        · exact hk
        · exact ord_B.trans _ _ _ hk (h1 y hy)
theorem In.underP {w : World} : ∀ {t : T}, In w t → t.under w.heap.size
  | .nil, _ => trivial
  | .node _ _ _ _ _, h => ⟨h.lt, In.underP h.2.1, In.underP h.2.2⟩
end Go.Proofs.Ytleaaoknjflgoaa
