/-
  THE STATEMENT's OWN nodes: how many nodes a map goes over, each behind its sides.
-/
import Derived.Test.YtleaaoknjflgoaaGoes
import Derived.Test.YtleaaoknjflgoaaInL
namespace Go.Proofs.Ytleaaoknjflgoaa
open Go.RowKit Go.Shelf
set_option linter.unusedSimpArgs false
attribute [local go_sem] Oper.semAt_some

theorem post_sub : ∀ {t x : T}, x ∈ t.post → Sub x t ∧ ∃ p k v l r, x = .node p k v l r
  | .nil, x, h => by simp [T.post] at h
  | .node p k v l r, x, h => by
    simp only [T.post, List.mem_append, List.mem_singleton] at h
    rcases h with h | h | rfl
    · exact ⟨.left (post_sub h).1, (post_sub h).2⟩
    · exact ⟨.right (post_sub h).1, (post_sub h).2⟩
    · exact ⟨.here, _, _, _, _, _, rfl⟩
theorem post_last {p k v l r} : (T.node p k v l r) ∈ (T.node p k v l r).post := by simp [T.post]
theorem post_mem {t : T} (h : t ≠ .nil) : t ∈ t.post := by cases t with | nil => exact (h rfl).elim | node => exact post_last
/-- A node comes behind its sides. -/
theorem post_sides : ∀ {t x : T} {c : Nat}, t.post[c]? = some x → (x.left = .nil ∨ x.left ∈ t.post.take c) ∧ (x.right = .nil ∨ x.right ∈ t.post.take c)
  | .nil, x, c, h => by simp [T.post] at h
  | .node p k v l r, x, c, h => by
    simp only [T.post] at h ⊢
    by_cases h1 : c < l.post.length
    · rw [List.getElem?_append_left h1] at h
      rw [List.take_append_of_le_length (Nat.le_of_lt h1)]
      exact post_sides h
    · rw [List.getElem?_append_right (by omega)] at h
      rw [List.take_append, List.take_of_length_le (by omega)]
      by_cases h2 : c - l.post.length < r.post.length
      · rw [List.getElem?_append_left h2] at h
        rw [List.take_append_of_le_length (Nat.le_of_lt h2)]
        have := post_sides h
        exact ⟨this.1.imp id (fun e => List.mem_append_right _ e), this.2.imp id (fun e => List.mem_append_right _ e)⟩
      · rw [List.getElem?_append_right (by omega)] at h
        rw [List.take_append, List.take_of_length_le (by omega)]
        have h3 : c - l.post.length - r.post.length = 0 := by have := (List.getElem?_eq_some_iff.1 h).1; simp at this; omega
        rw [h3] at h
        simp only [List.getElem?_cons_zero, Option.some.injEq] at h
        subst h
        simp only [T.left, T.right]
        constructor
        · by_cases e : l = .nil
          · exact .inl e
          · exact .inr (List.mem_append_left _ (post_mem e))
        · by_cases e : r = .nil
          · exact .inl e
          · exact .inr (List.mem_append_right _ (List.mem_append_left _ (post_mem e)))
theorem key_in {x t : T} (h : x ∈ t.post) : (x.key, x.val) ∈ t.list := by
  obtain ⟨hs, p, k, v, l, r, rfl⟩ := post_sub h
  exact hs.mem _ (by simp [T.list, T.key, T.val])
theorem post_nodup : ∀ {t : T}, Srt t.list → t.post.Nodup
  | .nil, _ => by simp [T.post]
  | .node p k v l r, h => by
    obtain ⟨s1, s2, s3, s4⟩ := Srt.app.1 h
    have kl : ∀ x ∈ l.post, cmpB x.key k = -1 := fun x hx => s3 _ (key_in hx)
    have kr : ∀ x ∈ r.post, cmpB k x.key = -1 := fun x hx => s4 _ (key_in hx)
    simp only [T.post]
    rw [List.nodup_append]
    refine ⟨post_nodup s1, ?_, ?_⟩
    · rw [List.nodup_append]
      refine ⟨post_nodup s2, by simp, ?_⟩
      intro a ha b hb
      simp only [List.mem_singleton] at hb
      subst hb
      rintro rfl
      have := kr _ ha
      rw [show (T.node p k v l r).key = k from rfl, ord_B.refl] at this
      omega
    · intro a ha b hb
      rintro rfl
      have h1 := kl a ha
      simp only [List.mem_append, List.mem_singleton] at hb
      rcases hb with hb | rfl
      · have h2 := kr a hb
        have := ord_B.anti a.key k
        omega
      · rw [show (T.node p k v l r).key = k from rfl, ord_B.refl] at h1
        omega
theorem nodup_take {l : List T} (h : l.Nodup) {c : Nat} {x : T} (hx : l[c]? = some x) : x ∉ l.take c := by
  intro hm
  obtain ⟨i, hi, he⟩ := List.getElem_of_mem hm
  have h1 : l[i]? = some x := by
    rw [List.length_take] at hi
    rw [List.getElem_take] at he
    rw [← he]
    exact List.getElem?_eq_getElem _
  have h2 := (List.getElem?_eq_some_iff.1 hx).1
  have h3 := (List.getElem?_eq_some_iff.1 h1).1
  have e1 := (List.getElem?_eq_some_iff.1 hx).2
  have e2 := (List.getElem?_eq_some_iff.1 h1).2
  have := (List.getElem_inj (h₀ := h3) (h₁ := h2) h).1 (e2.trans e1.symm)
  rw [List.length_take] at hi
  omega
/-- An operation of a plain region within a round that turns the world. -/
theorem turn_in {r n : Nat} {P : Program} {ops : Array Oper} {rest : List Oper} {o : Oper} {a : Act} {w w' : World} {Q : Exit → Act → World → Prop} {OP : Op} {T : TypeId} {v : Value} (hgd : o.guard = none) (ho : o.op = OP) (ht : o.type = T) (hd : ∀ c, OP ≠ .defer c)
    (hy : (execOp a.eval { dst := none, op := OP, type := T, pos := "", after := #[], guard := none }).run P w = .ok (.value v) w') (h : wpListIn (Fence.wide.inRound r) n P ops Q rest (a.put o.dst v) w') : wpListIn (Fence.wide.inRound r) n P ops Q (o :: rest) a w :=
  wpListIn_plain hgd fun K hK => by
    refine ⟨fun _ _ => trivial, ?_⟩
    rw [Oper.semAt_eq _ _ _ (by rw [ho]; exact hd), exec_same a.eval o ho ht, hy]
    exact hK _ _ h
theorem fn_nil79 (f : Fn) (x y : Array Value) (w : World) : (binOp .eql 79 (.func f x y) .nilFunc).run Try.prog w = .ok (.bool false) w := by kernel_rfl
/-- A number's cell is handed back, behind a range over a function. -/
theorem leave_num {fn : Func} {tmps : Array Value} {p : Tmp} (b : Nat) {x : Int} {R : Ending → World → Prop} {W : World} (h : fn.results = #[.cell p 3]) (hp : tmps.getD p undef = .pointer (some ⟨b, 0, none⟩))
    (hc : W.cell? ⟨b, 0, none⟩ = some (.int .i64 x)) (hR : R (.returned (.int .i64 x)) W) : LeavesInM Fence.wide 6 Try.prog fn tmps R [] .returning W := by
  refine leave_none (v := .int .i64 x) ?_ hR
  rw [results_cell h, hp]
  have : (loadVar 3 ⟨b, 0, none⟩).run Try.prog W = .ok (.int .i64 x) W := by go_simp
  simp [asAddr, Result.andThen, this]
/-- Behind c nodes: those that were seen. -/
structure SeenI (w : World) (t : T) (c : Nat) (W : World) : Prop where
  low : Below w.heap.size w W
  res : W.heap[w.heap.size + 1]? = some (.cells #[.int .i64 0] 3 (0, 0))
  ex : ∃ v, W.heap[w.heap.size + 3]? = some (.cells #[v] 98 (0, 0)) ∧ Ns W (w.heap.size + 8) v (t.post.take c)
theorem SeenI.only {w W W' : World} {t : T} {c : Nat} {D : Nat → Prop} (h : SeenI w t c W) (ho : Only D W W') (hD : ∀ j, D j → w.heap.size + 3 < j ∧ j < w.heap.size + 8) : SeenI w t c W' := by
  obtain ⟨v, h1, h2⟩ := h.ex
  refine ⟨Below.only h.low ho h.low.size (fun j d => by have := hD j d; omega), (ho.block _ (Array.getElem?_eq_some_iff.1 h.res).1 (fun d => by have := hD _ d; omega)).trans h.res, v, (ho.block _ (Array.getElem?_eq_some_iff.1 h1).1 (fun d => by have := hD _ d; omega)).trans h1, h2.only ho (fun k hk d => ?_)⟩
  have := (World.ownsRow.lt h2 k hk).1
  have := hD k d
  omega
/-- One node more. -/
theorem SeenI.push {w W : World} {t x : T} {c : Nat} {v : Value} (h1 : W.heap[w.heap.size + 3]? = some (.cells #[v] 98 (0, 0))) (h2 : Ns W (w.heap.size + 8) v (t.post.take c)) (low : Below w.heap.size w W) (res : W.heap[w.heap.size + 1]? = some (.cells #[.int .i64 0] 3 (0, 0)))
    (hx : t.post[c]? = some x) (hz : w.heap.size + 8 ≤ W.heap.size) (hn : c ≤ 100000) : ∃ v' w', (Builtin.append_ #[98, 98] 98 #[v, .slice (some ⟨W.heap.size, 0, none⟩) 1 1]).run Try.prog (W.alloc (.cells #[x.ptr] 24)) = .ok v' w' ∧ (∃ a' c', v' = .slice a' (c + 1) c') ∧ w'.cell? ⟨w.heap.size + 3, 0, none⟩ = some v ∧ w'.frozen? ⟨w.heap.size + 3, 0, none⟩ = false ∧ (w'.setCell ⟨w.heap.size + 3, 0, none⟩ v').cell? ⟨w.heap.size + 3, 0, none⟩ = some v' ∧
      SeenI w t (c + 1) (w'.setCell ⟨w.heap.size + 3, 0, none⟩ v') ∧ Only (fun j => j = w.heap.size + 3 ∨ w.heap.size + 8 ≤ j) W (w'.setCell ⟨w.heap.size + 3, 0, none⟩ v') := by
  obtain ⟨i0, hi, hz0, hz1, hz2⟩ := info_parts Try.info24
  have ha : Below W.heap.size W (W.alloc (.cells #[x.ptr] 24)) := (Below.refl _ W).alloc (Nat.le_refl _) _
  have hlen : (t.post.take c).length = c := by rw [List.length_take]; have := (List.getElem?_eq_some_iff.1 hx).1; omega
  have q1 : ∀ (j : Nat) (u : Value), [x.ptr][j]? = some u → (W.alloc (.cells #[x.ptr] 24)).cell? ((⟨W.heap.size, 0, none⟩ : Addr).add j) = some u := fun j u hj => by
    match j, hj with
    | 0, hj => simp only [List.getElem?_cons_zero, Option.some.injEq] at hj; subst hj; rw [add_lit, cell_of_row _ _ _ _ 24 (0, 0) (heap_alloc_new W _)]; rfl
  obtain ⟨v', w', r1, hO, hg, _⟩ := run_append_own (P := Try.prog) (W.alloc (.cells #[x.ptr] 24)) (w.heap.size + 8) 98 98 24 i0 (.pointer none) 1 8 Try.underlying98 hi hz0 hz1 hz2 rfl (by decide) v (t.post.take c).length _ (h2.below ha) ⟨W.heap.size, 0, none⟩ 1 1 [x.ptr] rfl q1 (fun u hu => by simp only [List.mem_singleton] at hu; subst hu; obtain ⟨a, e⟩ := x.ptr_shape; rw [e]; rfl) (by unfold maxLen; omega) (by omega) (by simp; omega)
  have htk : t.post.take (c + 1) = t.post.take c ++ [x] := by rw [List.take_add_one, hx]; rfl
  have hN : Ns w' (w.heap.size + 8) v' (t.post.take (c + 1)) := by
    unfold Ns
    rw [htk, List.length_append, List.map_append]
    exact hO
  have hv : ∃ a' c', v' = .slice a' (c + 1) c' := by
    rcases hN.shape with ⟨e, e2⟩ | ⟨g, cap, e, _⟩
    · rw [htk] at e2; simp at e2
    · rw [htk, List.length_append, hlen] at e; exact ⟨_, cap, e⟩
  have hlt := World.ownsRow.lt (h2.below ha)
  have ho1 : Only (fun j => w.heap.size + 8 ≤ j) W w' := (below_only ha).next ((Only.ofGrown hg).mono (fun j _ e => (hlt j e).1))
  have hb3 := (ho1.block (w.heap.size + 3) (by omega) (by omega)).trans h1
  have hb1 := (ho1.block (w.heap.size + 1) (by omega) (by omega)).trans res
  have hset : Only (fun j => j = w.heap.size + 3) w' (w'.setCell ⟨w.heap.size + 3, 0, none⟩ v') := (Only.ofGrown (grown_setCell w' ⟨w.heap.size + 3, 0, none⟩ v')).mono (fun j _ e => by simpa using e.symm)
  have hall : Only (fun j => j = w.heap.size + 3 ∨ w.heap.size + 8 ≤ j) W (w'.setCell ⟨w.heap.size + 3, 0, none⟩ v') := (ho1.mono (fun j _ e => .inr e)).next (hset.mono (fun j _ e => .inl e))
  refine ⟨v', w', r1, hv, by rw [cell_of_row _ _ 0 _ 98 (0, 0) hb3]; rfl, frozen_of_row _ _ 0 _ 98 hb3, by rw [cell_of_row _ _ 0 _ 98 (0, 0) (heap_setCell_same _ _ _ _ 98 _ hb3)]; rfl, ⟨Below.only low hall low.size (fun j e => by omega), (hset.block _ (Array.getElem?_eq_some_iff.1 hb1).1 (by omega)).trans hb1, v', ?_, hN.only hset (fun k hk e => ?_)⟩, hall⟩
  · rw [heap_setCell_same _ _ _ _ 98 _ hb3]; simp
  · have := (World.ownsRow.lt hN k hk).1
    omega

set_option maxHeartbeats 8000000 in
set_option maxRecDepth 100000 in
theorem nodes_any (t : T) (w : World) (ht : In w t) (hs : Srt t.list) (hn : t.n ≤ 5000) : Calls Try.prog 40 #[mv t] w fun e w' => e = .returned (.int .i64 (t.n : Nat)) ∧ Below w.heap.size w w' := by
  obtain ⟨m0, m1, m2, m3, hb4, hs4⟩ := new4 w (.cells #[t.ptr] 26) (.cells #[.int .i64 0] 3) (.cells #[t.ptr] 26) (.cells #[.slice none 0 0] 98)
  have hs2 : ((w.alloc (.cells #[t.ptr] 26)).alloc (.cells #[.int .i64 0] 3)).heap.size = w.heap.size + 2 := by simp
  have hcm := mNodes_any t ((w.alloc (.cells #[t.ptr] 26)).alloc (.cells #[.int .i64 0] 3))
  rw [hs2] at hcm
  obtain ⟨wA, hwA⟩ : ∃ wA, wA = (((w.alloc (.cells #[t.ptr] 26)).alloc (.cells #[.int .i64 0] 3)).alloc (.cells #[t.ptr] 26)).alloc (.cells #[.slice none 0 0] 98) := ⟨_, rfl⟩
  rw [← hwA] at m0 m1 m2 m3 hb4 hs4
  have hit := iter_nodes t (w.heap.size + 2) wA (In.below hb4 ht) (by rw [cell_of_row _ _ 0 _ 26 (0, 0) m2]; rfl)
  have hI0 : SeenI w t 0 wA := ⟨hb4, m1, _, m3, Ns.nil _ _⟩
  have hKlt : ∀ j, KN t (w.heap.size + 2) j → j < wA.heap.size ∧ j < w.heap.size + 3 := fun j hj => by
    rcases hj with rfl | hj
    · omega
    · have := ht.blk_lt hj; omega
  rw [← T.post_n t] at hn ⊢
  have HT := hide (And.intro ht hs)
  have hfn := fun f x y W => fn_nil79 f x y W
  obtain ⟨a, ha⟩ := t.ptr_shape
  unfold mv at *
  rw [ha] at hcm hwA ⊢
  have HW := hide hwA
  have HSZ := hide hs4
  clear ht hs ha m0 m1 m2 m3 hs2 hb4 hs4
  refine calls_marks Try.func40 rfl ?_
  simp only [Try.ntmps40, List.size_toArray, List.length_cons, List.length_nil, Nat.reduceAdd, Nat.reduceSub, Array.replicate_succ, Array.replicate_zero, List.push_toArray, List.append_toArray, List.nil_append, List.cons_append]
  go_wp2_with (go_at_call 58; refine hcm.mono ?_; rintro e w' ⟨rfl, rfl⟩)
  rw [← hwA]
  clear hwA hcm
  refine range_it 70 enters70 _ t.post (fun x => #[x.ptr]) _ hit rfl (fun _ _ => rfl) (fun j hj => (hKlt j hj).1) (fun j => j = w.heap.size + 3 ∨ w.heap.size + 8 ≤ j) (fun j e hj => by have := (hKlt j hj).2; omega) (by have := HSZ.out; omega) (by have := HSZ.out; omega) (by have := HSZ.out; omega) (by have := HSZ.out; omega)
    (SeenI w t) (fun _ _ => False) (fun k W W' hi ho => hi.only ho (fun j d => by have := HSZ.out; omega)) (fun _ _ _ h => h.elim) hI0 ?hround ?hdone (fun _ _ h => h.elim)
  case hround =>
    intro c x W hx hi hS hsz
    obtain ⟨hxs, p, k, v, xl, xr, rfl⟩ := post_sub (List.mem_of_getElem? hx)
    have hsd := post_sides hx
    have hnt := nodup_take (post_nodup HT.out.2) hx
    have hcn : c < t.post.length := (List.getElem?_eq_some_iff.1 hx).1
    rw [node_ptr]
    clear hS
    gi_wp2
    refine ⟨Only.refl _ W, fun W2 ho2 => ?_⟩
    have hi2 : SeenI w t c W2 := hi.only ho2 (fun j d => by have := HSZ.out; omega)
    have hz2 : w.heap.size + 8 ≤ W2.heap.size := by have := ho2.size; have := HSZ.out; omega
    obtain ⟨sv, g1, g2⟩ := hi2.ex
    have hin : ∀ y, Sub y t → In W2.drew y := fun y hy => In.drew (In.below hi2.low (In.sub hy HT.out.1))
    have hinl : ∀ y ∈ t.post.take c, In W2.drew y := fun y hy => hin y (post_sub (List.mem_of_mem_take hy)).1
    have g2d : Ns W2.drew (w.heap.size + 8) sv (t.post.take c) := g2.below (drew_below W2)
    have hcl : (t.post.take c).length ≤ 100000 := by rw [List.length_take]; omega
    have hsvx : ∃ ao cap, sv = .slice ao c cap := by
      have hlen : (t.post.take c).length = c := by rw [List.length_take]; omega
      rcases g2.shape with ⟨e, e2⟩ | ⟨g, cap, e, _⟩
      · exact ⟨none, 0, by rw [e2] at hlen; simp at hlen; rw [e, ← hlen]⟩
      · rw [hlen] at e; exact ⟨_, cap, e⟩
    have cL := left_any _ _ (hin _ hxs)
    have cR := right_any _ _ (hin _ hxs)
    have cI : ∀ y, In W2.drew y → Calls Try.prog 59 #[sv, y.ptr] W2.drew fun e w' => e = .returned (.bool (decide (y ∈ t.post.take c))) ∧ w' = W2.drew := fun y hy => in_any _ y sv _ _ g2d hinl hy hcl
    have cX := cI _ (hin _ hxs)
    rw [decide_eq_false hnt] at cX
    have s1 : W2.drew.cell? ⟨w.heap.size + 3, 0, none⟩ = some sv := by show W2.cell? _ = _; rw [cell_of_row _ _ 0 _ 98 (0, 0) g1]; rfl
    have s1' : W2.cell? ⟨w.heap.size + 3, 0, none⟩ = some sv := s1
    obtain ⟨v', w5, r1, hv', c5, f5, hc5, hI5, hO5⟩ := SeenI.push (W := W2.drew) (x := .node p k v xl xr) g1 g2d (hi2.low.trans ((drew_below W2).mono hi2.low.size)) hi2.res hx hz2 (by omega)
    have HP := hide (show rpost (fun j => j = w.heap.size + 3 ∨ w.heap.size + 8 ≤ j) (SeenI w t) (fun _ _ => False) W2 (c + 1) .normal { tmps := #[], defers := [] } (w5.setCell ⟨w.heap.size + 3, 0, none⟩ v') from ⟨(below_only (drew_below W2)).next hO5, hI5⟩)
    obtain ⟨av, cv, rfl⟩ := hv'
    have z5 : ¬ (5000 : Int) < (c : Int) + 1 := by omega
    have r1' := r1
    rw [node_ptr] at cL cR cX r1
    simp only [T.left, T.right] at cL cR hsd
    have hszd : W2.drew.heap.size = W2.heap.size := rfl
    rw [hszd] at r1
    obtain ⟨sa, sc, rfl⟩ := hsvx
    have s1n : (W2.drew.alloc (.cells #[.pointer (some ⟨p, 0, none⟩)] 24)).cell? ⟨w.heap.size + 3, 0, none⟩ = some (.slice sa c sc) := cell_stays s1 ((Below.refl _ W2.drew).alloc (Nat.le_refl _) _)
    clear hi hi2 g1 g2 g2d hinl hx ho2 hnt hI5 hO5 r1' hI0 hit hKlt hsz
    by_cases el : xl = .nil
    · by_cases er : xr = .nil
      · subst el
        simp only [T.ptr] at cL
        subst er
        simp only [T.ptr] at cR
        clear cI hin hsd
        gi_wp2
        refine region_in (S := (fun w' => w'.cell? ⟨w.heap.size + 3, 0, none⟩ = some (.slice sa c sc))) (by kernel_rfl) (by kernel_rfl) (fun _ _ h => h) s1 (fun hHeld => ?_)
        try dsimp only at hHeld
        refine take_op (i := 0) (d := 12) (OP := Op.move (Operand.tmp 5)) (T := 24) (v := ?vzz1) rfl rfl rfl rfl (by kernel_rfl) (by kernel_rfl) (by kernel_rfl) (fun _ _ _ h => h) (by rfl) ?hzz1 hHeld ?rzz1
        case hzz1 => (intro w' hSw; (try dsimp only at hSw); go_simp <;> with_reducible rfl)
        try simp only [Act.put, List.setIfInBounds_toArray, List.set_cons_zero, List.set_cons_succ]
        refine take_op (i := 1) (d := 13) (OP := Op.binOp BinOp.eql 24 (Operand.tmp 12) (Operand.const (Value.pointer none)) 24) (T := 4) (v := ?vzz2) rfl rfl rfl rfl (by kernel_rfl) (by kernel_rfl) (by kernel_rfl) (fun _ _ _ h => h) (by rfl) ?hzz2 hHeld ?rzz2
        case hzz2 => (intro w' hSw; (try dsimp only at hSw); go_simp <;> with_reducible rfl)
        try simp only [Act.put, List.setIfInBounds_toArray, List.set_cons_zero, List.set_cons_succ]
        refine take_op (i := 2) (d := 14) (OP := Op.move (Operand.tmp 13)) (T := 4) (v := ?vzz3) rfl rfl rfl rfl (by kernel_rfl) (by kernel_rfl) (by kernel_rfl) (fun _ _ _ h => h) (by rfl) ?hzz3 hHeld ?rzz3
        case hzz3 => (intro w' hSw; (try dsimp only at hSw); go_simp <;> with_reducible rfl)
        try simp only [Act.put, List.setIfInBounds_toArray, List.set_cons_zero, List.set_cons_succ]
        refine take_op (i := 3) (d := 15) (OP := Op.move (Operand.tmp 5)) (T := 24) (v := ?vzz4) rfl rfl rfl rfl (by kernel_rfl) (by kernel_rfl) (by kernel_rfl) (fun _ _ _ h => h) (by rfl) ?hzz4 hHeld ?rzz4
        case hzz4 => (intro w' hSw; (try dsimp only at hSw); go_simp <;> with_reducible rfl)
        try simp only [Act.put, List.setIfInBounds_toArray, List.set_cons_zero, List.set_cons_succ]
        refine call_op (i := 4) (d := 16) (OP := Op.call { callee := Callee.value (Operand.func 24), args := #[Operand.tmp 15], argTypes := #[24] }) (T := 24) (f := 24) (args := #[.pointer (some ⟨p, 0, none⟩)]) rfl rfl rfl rfl (by kernel_rfl) (by rfl) (by go_simp) ?_
        refine (cL).mono ?_
        rintro e w' ⟨rfl, hw⟩
        replace hw := hw.symm
        subst hw
        refine ⟨_, rfl, s1, ?_⟩
        try simp only [Act.put, List.setIfInBounds_toArray, List.set_cons_zero, List.set_cons_succ]
        refine take_op (i := 5) (d := 17) (OP := Op.binOp BinOp.neq 24 (Operand.tmp 16) (Operand.const (Value.pointer none)) 24) (T := 4) (v := ?vzz5) rfl rfl rfl rfl (by kernel_rfl) (by kernel_rfl) (by kernel_rfl) (fun _ _ _ h => h) (by rfl) ?hzz5 hHeld ?rzz5
        case hzz5 => (intro w' hSw; (try dsimp only at hSw); go_simp <;> with_reducible rfl)
        try simp only [Act.put, List.setIfInBounds_toArray, List.set_cons_zero, List.set_cons_succ]
        refine take_op (i := 6) (d := 18) (OP := Op.move (Operand.tmp 17)) (T := 4) (v := ?vzz6) rfl rfl rfl rfl (by kernel_rfl) (by kernel_rfl) (by kernel_rfl) (fun _ _ _ h => h) (by rfl) ?hzz6 hHeld ?rzz6
        case hzz6 => (intro w' hSw; (try dsimp only at hSw); go_simp <;> with_reducible rfl)
        try simp only [Act.put, List.setIfInBounds_toArray, List.set_cons_zero, List.set_cons_succ]
        refine pass_op (i := 7) (d := 19) rfl rfl (by kernel_rfl) (by kernel_rfl) (by kernel_rfl) (fun _ _ _ h => h) (by rfl) hHeld ?_
        try simp only [Act.put, List.setIfInBounds_toArray, List.set_cons_zero, List.set_cons_succ]
        refine pass_op (i := 8) (d := 20) rfl rfl (by kernel_rfl) (by kernel_rfl) (by kernel_rfl) (fun _ _ _ h => h) (by rfl) hHeld ?_
        try simp only [Act.put, List.setIfInBounds_toArray, List.set_cons_zero, List.set_cons_succ]
        refine pass_op (i := 9) (d := 21) rfl rfl (by kernel_rfl) (by kernel_rfl) (by kernel_rfl) (fun _ _ _ h => h) (by rfl) hHeld ?_
        try simp only [Act.put, List.setIfInBounds_toArray, List.set_cons_zero, List.set_cons_succ]
        refine pass_op (i := 10) (d := 22) rfl rfl (by kernel_rfl) (by kernel_rfl) (by kernel_rfl) (fun _ _ _ h => h) (by rfl) hHeld ?_
        try simp only [Act.put, List.setIfInBounds_toArray, List.set_cons_zero, List.set_cons_succ]
        refine pass_op (i := 11) (d := 23) rfl rfl (by kernel_rfl) (by kernel_rfl) (by kernel_rfl) (fun _ _ _ h => h) (by rfl) hHeld ?_
        try simp only [Act.put, List.setIfInBounds_toArray, List.set_cons_zero, List.set_cons_succ]
        refine take_op (i := 12) (d := 24) (OP := Op.pick (Operand.tmp 18) (Operand.tmp 23) (Operand.const (Value.bool false))) (T := 4) (v := ?vzz7) rfl rfl rfl rfl (by kernel_rfl) (by kernel_rfl) (by kernel_rfl) (fun _ _ _ h => h) (by rfl) ?hzz7 hHeld ?rzz7
        case hzz7 => (intro w' hSw; (try dsimp only at hSw); go_simp <;> with_reducible rfl)
        try simp only [Act.put, List.setIfInBounds_toArray, List.set_cons_zero, List.set_cons_succ]
        refine take_op (i := 13) (d := 25) (OP := Op.pick (Operand.tmp 14) (Operand.const (Value.bool true)) (Operand.tmp 24)) (T := 4) (v := ?vzz8) rfl rfl rfl rfl (by kernel_rfl) (by kernel_rfl) (by kernel_rfl) (fun _ _ _ h => h) (by rfl) ?hzz8 hHeld ?rzz8
        case hzz8 => (intro w' hSw; (try dsimp only at hSw); go_simp <;> with_reducible rfl)
        try simp only [Act.put, List.setIfInBounds_toArray, List.set_cons_zero, List.set_cons_succ]
        refine take_op (i := 14) (d := 26) (OP := Op.move (Operand.tmp 25)) (T := 4) (v := ?vzz9) rfl rfl rfl rfl (by kernel_rfl) (by kernel_rfl) (by kernel_rfl) (fun _ _ _ h => h) (by rfl) ?hzz9 hHeld ?rzz9
        case hzz9 => (intro w' hSw; (try dsimp only at hSw); go_simp <;> with_reducible rfl)
        try simp only [Act.put, List.setIfInBounds_toArray, List.set_cons_zero, List.set_cons_succ]
        refine take_op (i := 15) (d := 27) (OP := Op.move (Operand.tmp 5)) (T := 24) (v := ?vzz10) rfl rfl rfl rfl (by kernel_rfl) (by kernel_rfl) (by kernel_rfl) (fun _ _ _ h => h) (by rfl) ?hzz10 hHeld ?rzz10
        case hzz10 => (intro w' hSw; (try dsimp only at hSw); go_simp <;> with_reducible rfl)
        try simp only [Act.put, List.setIfInBounds_toArray, List.set_cons_zero, List.set_cons_succ]
        refine call_op (i := 16) (d := 28) (OP := Op.call { callee := Callee.value (Operand.func 25), args := #[Operand.tmp 27], argTypes := #[24] }) (T := 24) (f := 25) (args := #[.pointer (some ⟨p, 0, none⟩)]) rfl rfl rfl rfl (by kernel_rfl) (by rfl) (by go_simp) ?_
        refine (cR).mono ?_
        rintro e w' ⟨rfl, hw⟩
        replace hw := hw.symm
        subst hw
        refine ⟨_, rfl, s1, ?_⟩
        try simp only [Act.put, List.setIfInBounds_toArray, List.set_cons_zero, List.set_cons_succ]
        refine take_op (i := 17) (d := 29) (OP := Op.binOp BinOp.neq 24 (Operand.tmp 28) (Operand.const (Value.pointer none)) 24) (T := 4) (v := ?vzz11) rfl rfl rfl rfl (by kernel_rfl) (by kernel_rfl) (by kernel_rfl) (fun _ _ _ h => h) (by rfl) ?hzz11 hHeld ?rzz11
        case hzz11 => (intro w' hSw; (try dsimp only at hSw); go_simp <;> with_reducible rfl)
        try simp only [Act.put, List.setIfInBounds_toArray, List.set_cons_zero, List.set_cons_succ]
        refine take_op (i := 18) (d := 30) (OP := Op.move (Operand.tmp 29)) (T := 4) (v := ?vzz12) rfl rfl rfl rfl (by kernel_rfl) (by kernel_rfl) (by kernel_rfl) (fun _ _ _ h => h) (by rfl) ?hzz12 hHeld ?rzz12
        case hzz12 => (intro w' hSw; (try dsimp only at hSw); go_simp <;> with_reducible rfl)
        try simp only [Act.put, List.setIfInBounds_toArray, List.set_cons_zero, List.set_cons_succ]
        refine pass_op (i := 19) (d := 31) rfl rfl (by kernel_rfl) (by kernel_rfl) (by kernel_rfl) (fun _ _ _ h => h) (by rfl) hHeld ?_
        try simp only [Act.put, List.setIfInBounds_toArray, List.set_cons_zero, List.set_cons_succ]
        refine pass_op (i := 20) (d := 32) rfl rfl (by kernel_rfl) (by kernel_rfl) (by kernel_rfl) (fun _ _ _ h => h) (by rfl) hHeld ?_
        try simp only [Act.put, List.setIfInBounds_toArray, List.set_cons_zero, List.set_cons_succ]
        refine pass_op (i := 21) (d := 33) rfl rfl (by kernel_rfl) (by kernel_rfl) (by kernel_rfl) (fun _ _ _ h => h) (by rfl) hHeld ?_
        try simp only [Act.put, List.setIfInBounds_toArray, List.set_cons_zero, List.set_cons_succ]
        refine pass_op (i := 22) (d := 34) rfl rfl (by kernel_rfl) (by kernel_rfl) (by kernel_rfl) (fun _ _ _ h => h) (by rfl) hHeld ?_
        try simp only [Act.put, List.setIfInBounds_toArray, List.set_cons_zero, List.set_cons_succ]
        refine pass_op (i := 23) (d := 35) rfl rfl (by kernel_rfl) (by kernel_rfl) (by kernel_rfl) (fun _ _ _ h => h) (by rfl) hHeld ?_
        try simp only [Act.put, List.setIfInBounds_toArray, List.set_cons_zero, List.set_cons_succ]
        refine take_op (i := 24) (d := 36) (OP := Op.pick (Operand.tmp 30) (Operand.tmp 35) (Operand.const (Value.bool false))) (T := 4) (v := ?vzz13) rfl rfl rfl rfl (by kernel_rfl) (by kernel_rfl) (by kernel_rfl) (fun _ _ _ h => h) (by rfl) ?hzz13 hHeld ?rzz13
        case hzz13 => (intro w' hSw; (try dsimp only at hSw); go_simp <;> with_reducible rfl)
        try simp only [Act.put, List.setIfInBounds_toArray, List.set_cons_zero, List.set_cons_succ]
        refine take_op (i := 25) (d := 37) (OP := Op.pick (Operand.tmp 26) (Operand.const (Value.bool true)) (Operand.tmp 36)) (T := 4) (v := ?vzz14) rfl rfl rfl rfl (by kernel_rfl) (by kernel_rfl) (by kernel_rfl) (fun _ _ _ h => h) (by rfl) ?hzz14 hHeld ?rzz14
        case hzz14 => (intro w' hSw; (try dsimp only at hSw); go_simp <;> with_reducible rfl)
        try simp only [Act.put, List.setIfInBounds_toArray, List.set_cons_zero, List.set_cons_succ]
        refine take_op (i := 26) (d := 38) (OP := Op.move (Operand.tmp 37)) (T := 4) (v := ?vzz15) rfl rfl rfl rfl (by kernel_rfl) (by kernel_rfl) (by kernel_rfl) (fun _ _ _ h => h) (by rfl) ?hzz15 hHeld ?rzz15
        case hzz15 => (intro w' hSw; (try dsimp only at hSw); go_simp <;> with_reducible rfl)
        try simp only [Act.put, List.setIfInBounds_toArray, List.set_cons_zero, List.set_cons_succ]
        refine take_op (i := 27) (d := 39) (OP := Op.load 98 (Operand.tmp 4)) (T := 98) (v := ?vzz16) rfl rfl rfl rfl (by kernel_rfl) (by kernel_rfl) (by kernel_rfl) (fun _ _ _ h => h) (by rfl) ?hzz16 hHeld ?rzz16
        case hzz16 => (intro w' hSw; (try dsimp only at hSw); go_simp <;> with_reducible rfl)
        try simp only [Act.put, List.setIfInBounds_toArray, List.set_cons_zero, List.set_cons_succ]
        refine take_op (i := 28) (d := 40) (OP := Op.move (Operand.tmp 5)) (T := 24) (v := ?vzz17) rfl rfl rfl rfl (by kernel_rfl) (by kernel_rfl) (by kernel_rfl) (fun _ _ _ h => h) (by rfl) ?hzz17 hHeld ?rzz17
        case hzz17 => (intro w' hSw; (try dsimp only at hSw); go_simp <;> with_reducible rfl)
        try simp only [Act.put, List.setIfInBounds_toArray, List.set_cons_zero, List.set_cons_succ]
        refine call_op (i := 29) (d := 41) (OP := Op.call { callee := Callee.value (Operand.func 59), args := #[Operand.tmp 39, Operand.tmp 40], argTypes := #[98, 24] }) (T := 4) (f := 59) (args := #[.slice sa c sc, .pointer (some ⟨p, 0, none⟩)]) rfl rfl rfl rfl (by kernel_rfl) (by rfl) (by go_simp) ?_
        refine (cX).mono ?_
        rintro e w' ⟨rfl, hw⟩
        replace hw := hw.symm
        subst hw
        refine ⟨_, rfl, s1, ?_⟩
        try simp only [Act.put, List.setIfInBounds_toArray, List.set_cons_zero, List.set_cons_succ]
        refine take_op (i := 30) (d := 42) (OP := Op.pick (Operand.tmp 38) (Operand.const (Value.bool true)) (Operand.tmp 41)) (T := 4) (v := ?vzz18) rfl rfl rfl rfl (by kernel_rfl) (by kernel_rfl) (by kernel_rfl) (fun _ _ _ h => h) (by rfl) ?hzz18 hHeld ?rzz18
        case hzz18 => (intro w' hSw; (try dsimp only at hSw); go_simp <;> with_reducible rfl)
        try simp only [Act.put, List.setIfInBounds_toArray, List.set_cons_zero, List.set_cons_succ]
        refine wpAnyH_done (by kernel_rfl) ?_ _
        clear cL cR cX
        gi_wp2_with (gi_at_builtin; refine turn_in (OP := .call { callee := .builtin .append, args := #[.tmp 43, .tmp 45], argTypes := #[98, 98] }) (T := 98) rfl rfl rfl (by intro c e; cases e) (exec_append rfl rfl r1) ?_)
        exact HP.out
      · subst el
        simp only [T.ptr] at cL
        obtain ⟨rp, rk, rv, ra, rb, rfl⟩ : ∃ q k' v' a b, xr = .node q k' v' a b := by cases xr with | nil => exact (er rfl).elim | node => exact ⟨_, _, _, _, _, rfl⟩
        have cIr := cI _ (hin _ ((Sub.right .here).trans hxs))
        rw [decide_eq_true (hsd.2.resolve_left er), node_ptr] at cIr
        rw [node_ptr] at cR
        clear cI hin hsd er
        gi_wp2
        refine region_in (S := (fun w' => w'.cell? ⟨w.heap.size + 3, 0, none⟩ = some (.slice sa c sc))) (by kernel_rfl) (by kernel_rfl) (fun _ _ h => h) s1 (fun hHeld => ?_)
        try dsimp only at hHeld
        refine take_op (i := 0) (d := 12) (OP := Op.move (Operand.tmp 5)) (T := 24) (v := ?vzz19) rfl rfl rfl rfl (by kernel_rfl) (by kernel_rfl) (by kernel_rfl) (fun _ _ _ h => h) (by rfl) ?hzz19 hHeld ?rzz19
        case hzz19 => (intro w' hSw; (try dsimp only at hSw); go_simp <;> with_reducible rfl)
        try simp only [Act.put, List.setIfInBounds_toArray, List.set_cons_zero, List.set_cons_succ]
        refine take_op (i := 1) (d := 13) (OP := Op.binOp BinOp.eql 24 (Operand.tmp 12) (Operand.const (Value.pointer none)) 24) (T := 4) (v := ?vzz20) rfl rfl rfl rfl (by kernel_rfl) (by kernel_rfl) (by kernel_rfl) (fun _ _ _ h => h) (by rfl) ?hzz20 hHeld ?rzz20
        case hzz20 => (intro w' hSw; (try dsimp only at hSw); go_simp <;> with_reducible rfl)
        try simp only [Act.put, List.setIfInBounds_toArray, List.set_cons_zero, List.set_cons_succ]
        refine take_op (i := 2) (d := 14) (OP := Op.move (Operand.tmp 13)) (T := 4) (v := ?vzz21) rfl rfl rfl rfl (by kernel_rfl) (by kernel_rfl) (by kernel_rfl) (fun _ _ _ h => h) (by rfl) ?hzz21 hHeld ?rzz21
        case hzz21 => (intro w' hSw; (try dsimp only at hSw); go_simp <;> with_reducible rfl)
        try simp only [Act.put, List.setIfInBounds_toArray, List.set_cons_zero, List.set_cons_succ]
        refine take_op (i := 3) (d := 15) (OP := Op.move (Operand.tmp 5)) (T := 24) (v := ?vzz22) rfl rfl rfl rfl (by kernel_rfl) (by kernel_rfl) (by kernel_rfl) (fun _ _ _ h => h) (by rfl) ?hzz22 hHeld ?rzz22
        case hzz22 => (intro w' hSw; (try dsimp only at hSw); go_simp <;> with_reducible rfl)
        try simp only [Act.put, List.setIfInBounds_toArray, List.set_cons_zero, List.set_cons_succ]
        refine call_op (i := 4) (d := 16) (OP := Op.call { callee := Callee.value (Operand.func 24), args := #[Operand.tmp 15], argTypes := #[24] }) (T := 24) (f := 24) (args := #[.pointer (some ⟨p, 0, none⟩)]) rfl rfl rfl rfl (by kernel_rfl) (by rfl) (by go_simp) ?_
        refine (cL).mono ?_
        rintro e w' ⟨rfl, hw⟩
        replace hw := hw.symm
        subst hw
        refine ⟨_, rfl, s1, ?_⟩
        try simp only [Act.put, List.setIfInBounds_toArray, List.set_cons_zero, List.set_cons_succ]
        refine take_op (i := 5) (d := 17) (OP := Op.binOp BinOp.neq 24 (Operand.tmp 16) (Operand.const (Value.pointer none)) 24) (T := 4) (v := ?vzz23) rfl rfl rfl rfl (by kernel_rfl) (by kernel_rfl) (by kernel_rfl) (fun _ _ _ h => h) (by rfl) ?hzz23 hHeld ?rzz23
        case hzz23 => (intro w' hSw; (try dsimp only at hSw); go_simp <;> with_reducible rfl)
        try simp only [Act.put, List.setIfInBounds_toArray, List.set_cons_zero, List.set_cons_succ]
        refine take_op (i := 6) (d := 18) (OP := Op.move (Operand.tmp 17)) (T := 4) (v := ?vzz24) rfl rfl rfl rfl (by kernel_rfl) (by kernel_rfl) (by kernel_rfl) (fun _ _ _ h => h) (by rfl) ?hzz24 hHeld ?rzz24
        case hzz24 => (intro w' hSw; (try dsimp only at hSw); go_simp <;> with_reducible rfl)
        try simp only [Act.put, List.setIfInBounds_toArray, List.set_cons_zero, List.set_cons_succ]
        refine pass_op (i := 7) (d := 19) rfl rfl (by kernel_rfl) (by kernel_rfl) (by kernel_rfl) (fun _ _ _ h => h) (by rfl) hHeld ?_
        try simp only [Act.put, List.setIfInBounds_toArray, List.set_cons_zero, List.set_cons_succ]
        refine pass_op (i := 8) (d := 20) rfl rfl (by kernel_rfl) (by kernel_rfl) (by kernel_rfl) (fun _ _ _ h => h) (by rfl) hHeld ?_
        try simp only [Act.put, List.setIfInBounds_toArray, List.set_cons_zero, List.set_cons_succ]
        refine pass_op (i := 9) (d := 21) rfl rfl (by kernel_rfl) (by kernel_rfl) (by kernel_rfl) (fun _ _ _ h => h) (by rfl) hHeld ?_
        try simp only [Act.put, List.setIfInBounds_toArray, List.set_cons_zero, List.set_cons_succ]
        refine pass_op (i := 10) (d := 22) rfl rfl (by kernel_rfl) (by kernel_rfl) (by kernel_rfl) (fun _ _ _ h => h) (by rfl) hHeld ?_
        try simp only [Act.put, List.setIfInBounds_toArray, List.set_cons_zero, List.set_cons_succ]
        refine pass_op (i := 11) (d := 23) rfl rfl (by kernel_rfl) (by kernel_rfl) (by kernel_rfl) (fun _ _ _ h => h) (by rfl) hHeld ?_
        try simp only [Act.put, List.setIfInBounds_toArray, List.set_cons_zero, List.set_cons_succ]
        refine take_op (i := 12) (d := 24) (OP := Op.pick (Operand.tmp 18) (Operand.tmp 23) (Operand.const (Value.bool false))) (T := 4) (v := ?vzz25) rfl rfl rfl rfl (by kernel_rfl) (by kernel_rfl) (by kernel_rfl) (fun _ _ _ h => h) (by rfl) ?hzz25 hHeld ?rzz25
        case hzz25 => (intro w' hSw; (try dsimp only at hSw); go_simp <;> with_reducible rfl)
        try simp only [Act.put, List.setIfInBounds_toArray, List.set_cons_zero, List.set_cons_succ]
        refine take_op (i := 13) (d := 25) (OP := Op.pick (Operand.tmp 14) (Operand.const (Value.bool true)) (Operand.tmp 24)) (T := 4) (v := ?vzz26) rfl rfl rfl rfl (by kernel_rfl) (by kernel_rfl) (by kernel_rfl) (fun _ _ _ h => h) (by rfl) ?hzz26 hHeld ?rzz26
        case hzz26 => (intro w' hSw; (try dsimp only at hSw); go_simp <;> with_reducible rfl)
        try simp only [Act.put, List.setIfInBounds_toArray, List.set_cons_zero, List.set_cons_succ]
        refine take_op (i := 14) (d := 26) (OP := Op.move (Operand.tmp 25)) (T := 4) (v := ?vzz27) rfl rfl rfl rfl (by kernel_rfl) (by kernel_rfl) (by kernel_rfl) (fun _ _ _ h => h) (by rfl) ?hzz27 hHeld ?rzz27
        case hzz27 => (intro w' hSw; (try dsimp only at hSw); go_simp <;> with_reducible rfl)
        try simp only [Act.put, List.setIfInBounds_toArray, List.set_cons_zero, List.set_cons_succ]
        refine take_op (i := 15) (d := 27) (OP := Op.move (Operand.tmp 5)) (T := 24) (v := ?vzz28) rfl rfl rfl rfl (by kernel_rfl) (by kernel_rfl) (by kernel_rfl) (fun _ _ _ h => h) (by rfl) ?hzz28 hHeld ?rzz28
        case hzz28 => (intro w' hSw; (try dsimp only at hSw); go_simp <;> with_reducible rfl)
        try simp only [Act.put, List.setIfInBounds_toArray, List.set_cons_zero, List.set_cons_succ]
        refine call_op (i := 16) (d := 28) (OP := Op.call { callee := Callee.value (Operand.func 25), args := #[Operand.tmp 27], argTypes := #[24] }) (T := 24) (f := 25) (args := #[.pointer (some ⟨p, 0, none⟩)]) rfl rfl rfl rfl (by kernel_rfl) (by rfl) (by go_simp) ?_
        refine (cR).mono ?_
        rintro e w' ⟨rfl, hw⟩
        replace hw := hw.symm
        subst hw
        refine ⟨_, rfl, s1, ?_⟩
        try simp only [Act.put, List.setIfInBounds_toArray, List.set_cons_zero, List.set_cons_succ]
        refine take_op (i := 17) (d := 29) (OP := Op.binOp BinOp.neq 24 (Operand.tmp 28) (Operand.const (Value.pointer none)) 24) (T := 4) (v := ?vzz29) rfl rfl rfl rfl (by kernel_rfl) (by kernel_rfl) (by kernel_rfl) (fun _ _ _ h => h) (by rfl) ?hzz29 hHeld ?rzz29
        case hzz29 => (intro w' hSw; (try dsimp only at hSw); go_simp <;> with_reducible rfl)
        try simp only [Act.put, List.setIfInBounds_toArray, List.set_cons_zero, List.set_cons_succ]
        refine take_op (i := 18) (d := 30) (OP := Op.move (Operand.tmp 29)) (T := 4) (v := ?vzz30) rfl rfl rfl rfl (by kernel_rfl) (by kernel_rfl) (by kernel_rfl) (fun _ _ _ h => h) (by rfl) ?hzz30 hHeld ?rzz30
        case hzz30 => (intro w' hSw; (try dsimp only at hSw); go_simp <;> with_reducible rfl)
        try simp only [Act.put, List.setIfInBounds_toArray, List.set_cons_zero, List.set_cons_succ]
        refine take_op (i := 19) (d := 31) (OP := Op.load 98 (Operand.tmp 4)) (T := 98) (v := ?vzz31) rfl rfl rfl rfl (by kernel_rfl) (by kernel_rfl) (by kernel_rfl) (fun _ _ _ h => h) (by rfl) ?hzz31 hHeld ?rzz31
        case hzz31 => (intro w' hSw; (try dsimp only at hSw); go_simp <;> with_reducible rfl)
        try simp only [Act.put, List.setIfInBounds_toArray, List.set_cons_zero, List.set_cons_succ]
        refine take_op (i := 20) (d := 32) (OP := Op.move (Operand.tmp 5)) (T := 24) (v := ?vzz32) rfl rfl rfl rfl (by kernel_rfl) (by kernel_rfl) (by kernel_rfl) (fun _ _ _ h => h) (by rfl) ?hzz32 hHeld ?rzz32
        case hzz32 => (intro w' hSw; (try dsimp only at hSw); go_simp <;> with_reducible rfl)
        try simp only [Act.put, List.setIfInBounds_toArray, List.set_cons_zero, List.set_cons_succ]
        refine call_op (i := 21) (d := 33) (OP := Op.call { callee := Callee.value (Operand.func 25), args := #[Operand.tmp 32], argTypes := #[24] }) (T := 24) (f := 25) (args := #[.pointer (some ⟨p, 0, none⟩)]) rfl rfl rfl rfl (by kernel_rfl) (by rfl) (by go_simp) ?_
        refine (cR).mono ?_
        rintro e w' ⟨rfl, hw⟩
        replace hw := hw.symm
        subst hw
        refine ⟨_, rfl, s1, ?_⟩
        try simp only [Act.put, List.setIfInBounds_toArray, List.set_cons_zero, List.set_cons_succ]
        refine call_op (i := 22) (d := 34) (OP := Op.call { callee := Callee.value (Operand.func 59), args := #[Operand.tmp 31, Operand.tmp 33], argTypes := #[98, 24] }) (T := 4) (f := 59) (args := #[.slice sa c sc, .pointer (some ⟨rp, 0, none⟩)]) rfl rfl rfl rfl (by kernel_rfl) (by rfl) (by go_simp) ?_
        refine (cIr).mono ?_
        rintro e w' ⟨rfl, hw⟩
        replace hw := hw.symm
        subst hw
        refine ⟨_, rfl, s1, ?_⟩
        try simp only [Act.put, List.setIfInBounds_toArray, List.set_cons_zero, List.set_cons_succ]
        refine take_op (i := 23) (d := 35) (OP := Op.unOp UnOp.not 4 (Operand.tmp 34)) (T := 4) (v := ?vzz33) rfl rfl rfl rfl (by kernel_rfl) (by kernel_rfl) (by kernel_rfl) (fun _ _ _ h => h) (by rfl) ?hzz33 hHeld ?rzz33
        case hzz33 => (intro w' hSw; (try dsimp only at hSw); go_simp <;> with_reducible rfl)
        try simp only [Act.put, List.setIfInBounds_toArray, List.set_cons_zero, List.set_cons_succ]
        refine take_op (i := 24) (d := 36) (OP := Op.pick (Operand.tmp 30) (Operand.tmp 35) (Operand.const (Value.bool false))) (T := 4) (v := ?vzz34) rfl rfl rfl rfl (by kernel_rfl) (by kernel_rfl) (by kernel_rfl) (fun _ _ _ h => h) (by rfl) ?hzz34 hHeld ?rzz34
        case hzz34 => (intro w' hSw; (try dsimp only at hSw); go_simp <;> with_reducible rfl)
        try simp only [Act.put, List.setIfInBounds_toArray, List.set_cons_zero, List.set_cons_succ]
        refine take_op (i := 25) (d := 37) (OP := Op.pick (Operand.tmp 26) (Operand.const (Value.bool true)) (Operand.tmp 36)) (T := 4) (v := ?vzz35) rfl rfl rfl rfl (by kernel_rfl) (by kernel_rfl) (by kernel_rfl) (fun _ _ _ h => h) (by rfl) ?hzz35 hHeld ?rzz35
        case hzz35 => (intro w' hSw; (try dsimp only at hSw); go_simp <;> with_reducible rfl)
        try simp only [Act.put, List.setIfInBounds_toArray, List.set_cons_zero, List.set_cons_succ]
        refine take_op (i := 26) (d := 38) (OP := Op.move (Operand.tmp 37)) (T := 4) (v := ?vzz36) rfl rfl rfl rfl (by kernel_rfl) (by kernel_rfl) (by kernel_rfl) (fun _ _ _ h => h) (by rfl) ?hzz36 hHeld ?rzz36
        case hzz36 => (intro w' hSw; (try dsimp only at hSw); go_simp <;> with_reducible rfl)
        try simp only [Act.put, List.setIfInBounds_toArray, List.set_cons_zero, List.set_cons_succ]
        refine take_op (i := 27) (d := 39) (OP := Op.load 98 (Operand.tmp 4)) (T := 98) (v := ?vzz37) rfl rfl rfl rfl (by kernel_rfl) (by kernel_rfl) (by kernel_rfl) (fun _ _ _ h => h) (by rfl) ?hzz37 hHeld ?rzz37
        case hzz37 => (intro w' hSw; (try dsimp only at hSw); go_simp <;> with_reducible rfl)
        try simp only [Act.put, List.setIfInBounds_toArray, List.set_cons_zero, List.set_cons_succ]
        refine take_op (i := 28) (d := 40) (OP := Op.move (Operand.tmp 5)) (T := 24) (v := ?vzz38) rfl rfl rfl rfl (by kernel_rfl) (by kernel_rfl) (by kernel_rfl) (fun _ _ _ h => h) (by rfl) ?hzz38 hHeld ?rzz38
        case hzz38 => (intro w' hSw; (try dsimp only at hSw); go_simp <;> with_reducible rfl)
        try simp only [Act.put, List.setIfInBounds_toArray, List.set_cons_zero, List.set_cons_succ]
        refine call_op (i := 29) (d := 41) (OP := Op.call { callee := Callee.value (Operand.func 59), args := #[Operand.tmp 39, Operand.tmp 40], argTypes := #[98, 24] }) (T := 4) (f := 59) (args := #[.slice sa c sc, .pointer (some ⟨p, 0, none⟩)]) rfl rfl rfl rfl (by kernel_rfl) (by rfl) (by go_simp) ?_
        refine (cX).mono ?_
        rintro e w' ⟨rfl, hw⟩
        replace hw := hw.symm
        subst hw
        refine ⟨_, rfl, s1, ?_⟩
        try simp only [Act.put, List.setIfInBounds_toArray, List.set_cons_zero, List.set_cons_succ]
        refine take_op (i := 30) (d := 42) (OP := Op.pick (Operand.tmp 38) (Operand.const (Value.bool true)) (Operand.tmp 41)) (T := 4) (v := ?vzz39) rfl rfl rfl rfl (by kernel_rfl) (by kernel_rfl) (by kernel_rfl) (fun _ _ _ h => h) (by rfl) ?hzz39 hHeld ?rzz39
        case hzz39 => (intro w' hSw; (try dsimp only at hSw); go_simp <;> with_reducible rfl)
        try simp only [Act.put, List.setIfInBounds_toArray, List.set_cons_zero, List.set_cons_succ]
        refine wpAnyH_done (by kernel_rfl) ?_ _
        clear cL cR cX cIr
        gi_wp2_with (gi_at_builtin; refine turn_in (OP := .call { callee := .builtin .append, args := #[.tmp 43, .tmp 45], argTypes := #[98, 98] }) (T := 98) rfl rfl rfl (by intro c e; cases e) (exec_append rfl rfl r1) ?_)
        exact HP.out
    · by_cases er : xr = .nil
      · obtain ⟨lp, lk, lv, la, lb, rfl⟩ : ∃ q k' v' a b, xl = .node q k' v' a b := by cases xl with | nil => exact (el rfl).elim | node => exact ⟨_, _, _, _, _, rfl⟩
        have cIl := cI _ (hin _ ((Sub.left .here).trans hxs))
        rw [decide_eq_true (hsd.1.resolve_left el), node_ptr] at cIl
        rw [node_ptr] at cL
        subst er
        simp only [T.ptr] at cR
        clear cI hin hsd el
        gi_wp2
        refine region_in (S := (fun w' => w'.cell? ⟨w.heap.size + 3, 0, none⟩ = some (.slice sa c sc))) (by kernel_rfl) (by kernel_rfl) (fun _ _ h => h) s1 (fun hHeld => ?_)
        try dsimp only at hHeld
        refine take_op (i := 0) (d := 12) (OP := Op.move (Operand.tmp 5)) (T := 24) (v := ?vzz40) rfl rfl rfl rfl (by kernel_rfl) (by kernel_rfl) (by kernel_rfl) (fun _ _ _ h => h) (by rfl) ?hzz40 hHeld ?rzz40
        case hzz40 => (intro w' hSw; (try dsimp only at hSw); go_simp <;> with_reducible rfl)
        try simp only [Act.put, List.setIfInBounds_toArray, List.set_cons_zero, List.set_cons_succ]
        refine take_op (i := 1) (d := 13) (OP := Op.binOp BinOp.eql 24 (Operand.tmp 12) (Operand.const (Value.pointer none)) 24) (T := 4) (v := ?vzz41) rfl rfl rfl rfl (by kernel_rfl) (by kernel_rfl) (by kernel_rfl) (fun _ _ _ h => h) (by rfl) ?hzz41 hHeld ?rzz41
        case hzz41 => (intro w' hSw; (try dsimp only at hSw); go_simp <;> with_reducible rfl)
        try simp only [Act.put, List.setIfInBounds_toArray, List.set_cons_zero, List.set_cons_succ]
        refine take_op (i := 2) (d := 14) (OP := Op.move (Operand.tmp 13)) (T := 4) (v := ?vzz42) rfl rfl rfl rfl (by kernel_rfl) (by kernel_rfl) (by kernel_rfl) (fun _ _ _ h => h) (by rfl) ?hzz42 hHeld ?rzz42
        case hzz42 => (intro w' hSw; (try dsimp only at hSw); go_simp <;> with_reducible rfl)
        try simp only [Act.put, List.setIfInBounds_toArray, List.set_cons_zero, List.set_cons_succ]
        refine take_op (i := 3) (d := 15) (OP := Op.move (Operand.tmp 5)) (T := 24) (v := ?vzz43) rfl rfl rfl rfl (by kernel_rfl) (by kernel_rfl) (by kernel_rfl) (fun _ _ _ h => h) (by rfl) ?hzz43 hHeld ?rzz43
        case hzz43 => (intro w' hSw; (try dsimp only at hSw); go_simp <;> with_reducible rfl)
        try simp only [Act.put, List.setIfInBounds_toArray, List.set_cons_zero, List.set_cons_succ]
        refine call_op (i := 4) (d := 16) (OP := Op.call { callee := Callee.value (Operand.func 24), args := #[Operand.tmp 15], argTypes := #[24] }) (T := 24) (f := 24) (args := #[.pointer (some ⟨p, 0, none⟩)]) rfl rfl rfl rfl (by kernel_rfl) (by rfl) (by go_simp) ?_
        refine (cL).mono ?_
        rintro e w' ⟨rfl, hw⟩
        replace hw := hw.symm
        subst hw
        refine ⟨_, rfl, s1, ?_⟩
        try simp only [Act.put, List.setIfInBounds_toArray, List.set_cons_zero, List.set_cons_succ]
        refine take_op (i := 5) (d := 17) (OP := Op.binOp BinOp.neq 24 (Operand.tmp 16) (Operand.const (Value.pointer none)) 24) (T := 4) (v := ?vzz44) rfl rfl rfl rfl (by kernel_rfl) (by kernel_rfl) (by kernel_rfl) (fun _ _ _ h => h) (by rfl) ?hzz44 hHeld ?rzz44
        case hzz44 => (intro w' hSw; (try dsimp only at hSw); go_simp <;> with_reducible rfl)
        try simp only [Act.put, List.setIfInBounds_toArray, List.set_cons_zero, List.set_cons_succ]
        refine take_op (i := 6) (d := 18) (OP := Op.move (Operand.tmp 17)) (T := 4) (v := ?vzz45) rfl rfl rfl rfl (by kernel_rfl) (by kernel_rfl) (by kernel_rfl) (fun _ _ _ h => h) (by rfl) ?hzz45 hHeld ?rzz45
        case hzz45 => (intro w' hSw; (try dsimp only at hSw); go_simp <;> with_reducible rfl)
        try simp only [Act.put, List.setIfInBounds_toArray, List.set_cons_zero, List.set_cons_succ]
        refine take_op (i := 7) (d := 19) (OP := Op.load 98 (Operand.tmp 4)) (T := 98) (v := ?vzz46) rfl rfl rfl rfl (by kernel_rfl) (by kernel_rfl) (by kernel_rfl) (fun _ _ _ h => h) (by rfl) ?hzz46 hHeld ?rzz46
        case hzz46 => (intro w' hSw; (try dsimp only at hSw); go_simp <;> with_reducible rfl)
        try simp only [Act.put, List.setIfInBounds_toArray, List.set_cons_zero, List.set_cons_succ]
        refine take_op (i := 8) (d := 20) (OP := Op.move (Operand.tmp 5)) (T := 24) (v := ?vzz47) rfl rfl rfl rfl (by kernel_rfl) (by kernel_rfl) (by kernel_rfl) (fun _ _ _ h => h) (by rfl) ?hzz47 hHeld ?rzz47
        case hzz47 => (intro w' hSw; (try dsimp only at hSw); go_simp <;> with_reducible rfl)
        try simp only [Act.put, List.setIfInBounds_toArray, List.set_cons_zero, List.set_cons_succ]
        refine call_op (i := 9) (d := 21) (OP := Op.call { callee := Callee.value (Operand.func 24), args := #[Operand.tmp 20], argTypes := #[24] }) (T := 24) (f := 24) (args := #[.pointer (some ⟨p, 0, none⟩)]) rfl rfl rfl rfl (by kernel_rfl) (by rfl) (by go_simp) ?_
        refine (cL).mono ?_
        rintro e w' ⟨rfl, hw⟩
        replace hw := hw.symm
        subst hw
        refine ⟨_, rfl, s1, ?_⟩
        try simp only [Act.put, List.setIfInBounds_toArray, List.set_cons_zero, List.set_cons_succ]
        refine call_op (i := 10) (d := 22) (OP := Op.call { callee := Callee.value (Operand.func 59), args := #[Operand.tmp 19, Operand.tmp 21], argTypes := #[98, 24] }) (T := 4) (f := 59) (args := #[.slice sa c sc, .pointer (some ⟨lp, 0, none⟩)]) rfl rfl rfl rfl (by kernel_rfl) (by rfl) (by go_simp) ?_
        refine (cIl).mono ?_
        rintro e w' ⟨rfl, hw⟩
        replace hw := hw.symm
        subst hw
        refine ⟨_, rfl, s1, ?_⟩
        try simp only [Act.put, List.setIfInBounds_toArray, List.set_cons_zero, List.set_cons_succ]
        refine take_op (i := 11) (d := 23) (OP := Op.unOp UnOp.not 4 (Operand.tmp 22)) (T := 4) (v := ?vzz48) rfl rfl rfl rfl (by kernel_rfl) (by kernel_rfl) (by kernel_rfl) (fun _ _ _ h => h) (by rfl) ?hzz48 hHeld ?rzz48
        case hzz48 => (intro w' hSw; (try dsimp only at hSw); go_simp <;> with_reducible rfl)
        try simp only [Act.put, List.setIfInBounds_toArray, List.set_cons_zero, List.set_cons_succ]
        refine take_op (i := 12) (d := 24) (OP := Op.pick (Operand.tmp 18) (Operand.tmp 23) (Operand.const (Value.bool false))) (T := 4) (v := ?vzz49) rfl rfl rfl rfl (by kernel_rfl) (by kernel_rfl) (by kernel_rfl) (fun _ _ _ h => h) (by rfl) ?hzz49 hHeld ?rzz49
        case hzz49 => (intro w' hSw; (try dsimp only at hSw); go_simp <;> with_reducible rfl)
        try simp only [Act.put, List.setIfInBounds_toArray, List.set_cons_zero, List.set_cons_succ]
        refine take_op (i := 13) (d := 25) (OP := Op.pick (Operand.tmp 14) (Operand.const (Value.bool true)) (Operand.tmp 24)) (T := 4) (v := ?vzz50) rfl rfl rfl rfl (by kernel_rfl) (by kernel_rfl) (by kernel_rfl) (fun _ _ _ h => h) (by rfl) ?hzz50 hHeld ?rzz50
        case hzz50 => (intro w' hSw; (try dsimp only at hSw); go_simp <;> with_reducible rfl)
        try simp only [Act.put, List.setIfInBounds_toArray, List.set_cons_zero, List.set_cons_succ]
        refine take_op (i := 14) (d := 26) (OP := Op.move (Operand.tmp 25)) (T := 4) (v := ?vzz51) rfl rfl rfl rfl (by kernel_rfl) (by kernel_rfl) (by kernel_rfl) (fun _ _ _ h => h) (by rfl) ?hzz51 hHeld ?rzz51
        case hzz51 => (intro w' hSw; (try dsimp only at hSw); go_simp <;> with_reducible rfl)
        try simp only [Act.put, List.setIfInBounds_toArray, List.set_cons_zero, List.set_cons_succ]
        refine take_op (i := 15) (d := 27) (OP := Op.move (Operand.tmp 5)) (T := 24) (v := ?vzz52) rfl rfl rfl rfl (by kernel_rfl) (by kernel_rfl) (by kernel_rfl) (fun _ _ _ h => h) (by rfl) ?hzz52 hHeld ?rzz52
        case hzz52 => (intro w' hSw; (try dsimp only at hSw); go_simp <;> with_reducible rfl)
        try simp only [Act.put, List.setIfInBounds_toArray, List.set_cons_zero, List.set_cons_succ]
        refine call_op (i := 16) (d := 28) (OP := Op.call { callee := Callee.value (Operand.func 25), args := #[Operand.tmp 27], argTypes := #[24] }) (T := 24) (f := 25) (args := #[.pointer (some ⟨p, 0, none⟩)]) rfl rfl rfl rfl (by kernel_rfl) (by rfl) (by go_simp) ?_
        refine (cR).mono ?_
        rintro e w' ⟨rfl, hw⟩
        replace hw := hw.symm
        subst hw
        refine ⟨_, rfl, s1, ?_⟩
        try simp only [Act.put, List.setIfInBounds_toArray, List.set_cons_zero, List.set_cons_succ]
        refine take_op (i := 17) (d := 29) (OP := Op.binOp BinOp.neq 24 (Operand.tmp 28) (Operand.const (Value.pointer none)) 24) (T := 4) (v := ?vzz53) rfl rfl rfl rfl (by kernel_rfl) (by kernel_rfl) (by kernel_rfl) (fun _ _ _ h => h) (by rfl) ?hzz53 hHeld ?rzz53
        case hzz53 => (intro w' hSw; (try dsimp only at hSw); go_simp <;> with_reducible rfl)
        try simp only [Act.put, List.setIfInBounds_toArray, List.set_cons_zero, List.set_cons_succ]
        refine take_op (i := 18) (d := 30) (OP := Op.move (Operand.tmp 29)) (T := 4) (v := ?vzz54) rfl rfl rfl rfl (by kernel_rfl) (by kernel_rfl) (by kernel_rfl) (fun _ _ _ h => h) (by rfl) ?hzz54 hHeld ?rzz54
        case hzz54 => (intro w' hSw; (try dsimp only at hSw); go_simp <;> with_reducible rfl)
        try simp only [Act.put, List.setIfInBounds_toArray, List.set_cons_zero, List.set_cons_succ]
        refine pass_op (i := 19) (d := 31) rfl rfl (by kernel_rfl) (by kernel_rfl) (by kernel_rfl) (fun _ _ _ h => h) (by rfl) hHeld ?_
        try simp only [Act.put, List.setIfInBounds_toArray, List.set_cons_zero, List.set_cons_succ]
        refine pass_op (i := 20) (d := 32) rfl rfl (by kernel_rfl) (by kernel_rfl) (by kernel_rfl) (fun _ _ _ h => h) (by rfl) hHeld ?_
        try simp only [Act.put, List.setIfInBounds_toArray, List.set_cons_zero, List.set_cons_succ]
        refine pass_op (i := 21) (d := 33) rfl rfl (by kernel_rfl) (by kernel_rfl) (by kernel_rfl) (fun _ _ _ h => h) (by rfl) hHeld ?_
        try simp only [Act.put, List.setIfInBounds_toArray, List.set_cons_zero, List.set_cons_succ]
        refine pass_op (i := 22) (d := 34) rfl rfl (by kernel_rfl) (by kernel_rfl) (by kernel_rfl) (fun _ _ _ h => h) (by rfl) hHeld ?_
        try simp only [Act.put, List.setIfInBounds_toArray, List.set_cons_zero, List.set_cons_succ]
        refine pass_op (i := 23) (d := 35) rfl rfl (by kernel_rfl) (by kernel_rfl) (by kernel_rfl) (fun _ _ _ h => h) (by rfl) hHeld ?_
        try simp only [Act.put, List.setIfInBounds_toArray, List.set_cons_zero, List.set_cons_succ]
        refine take_op (i := 24) (d := 36) (OP := Op.pick (Operand.tmp 30) (Operand.tmp 35) (Operand.const (Value.bool false))) (T := 4) (v := ?vzz55) rfl rfl rfl rfl (by kernel_rfl) (by kernel_rfl) (by kernel_rfl) (fun _ _ _ h => h) (by rfl) ?hzz55 hHeld ?rzz55
        case hzz55 => (intro w' hSw; (try dsimp only at hSw); go_simp <;> with_reducible rfl)
        try simp only [Act.put, List.setIfInBounds_toArray, List.set_cons_zero, List.set_cons_succ]
        refine take_op (i := 25) (d := 37) (OP := Op.pick (Operand.tmp 26) (Operand.const (Value.bool true)) (Operand.tmp 36)) (T := 4) (v := ?vzz56) rfl rfl rfl rfl (by kernel_rfl) (by kernel_rfl) (by kernel_rfl) (fun _ _ _ h => h) (by rfl) ?hzz56 hHeld ?rzz56
        case hzz56 => (intro w' hSw; (try dsimp only at hSw); go_simp <;> with_reducible rfl)
        try simp only [Act.put, List.setIfInBounds_toArray, List.set_cons_zero, List.set_cons_succ]
        refine take_op (i := 26) (d := 38) (OP := Op.move (Operand.tmp 37)) (T := 4) (v := ?vzz57) rfl rfl rfl rfl (by kernel_rfl) (by kernel_rfl) (by kernel_rfl) (fun _ _ _ h => h) (by rfl) ?hzz57 hHeld ?rzz57
        case hzz57 => (intro w' hSw; (try dsimp only at hSw); go_simp <;> with_reducible rfl)
        try simp only [Act.put, List.setIfInBounds_toArray, List.set_cons_zero, List.set_cons_succ]
        refine take_op (i := 27) (d := 39) (OP := Op.load 98 (Operand.tmp 4)) (T := 98) (v := ?vzz58) rfl rfl rfl rfl (by kernel_rfl) (by kernel_rfl) (by kernel_rfl) (fun _ _ _ h => h) (by rfl) ?hzz58 hHeld ?rzz58
        case hzz58 => (intro w' hSw; (try dsimp only at hSw); go_simp <;> with_reducible rfl)
        try simp only [Act.put, List.setIfInBounds_toArray, List.set_cons_zero, List.set_cons_succ]
        refine take_op (i := 28) (d := 40) (OP := Op.move (Operand.tmp 5)) (T := 24) (v := ?vzz59) rfl rfl rfl rfl (by kernel_rfl) (by kernel_rfl) (by kernel_rfl) (fun _ _ _ h => h) (by rfl) ?hzz59 hHeld ?rzz59
        case hzz59 => (intro w' hSw; (try dsimp only at hSw); go_simp <;> with_reducible rfl)
        try simp only [Act.put, List.setIfInBounds_toArray, List.set_cons_zero, List.set_cons_succ]
        refine call_op (i := 29) (d := 41) (OP := Op.call { callee := Callee.value (Operand.func 59), args := #[Operand.tmp 39, Operand.tmp 40], argTypes := #[98, 24] }) (T := 4) (f := 59) (args := #[.slice sa c sc, .pointer (some ⟨p, 0, none⟩)]) rfl rfl rfl rfl (by kernel_rfl) (by rfl) (by go_simp) ?_
        refine (cX).mono ?_
        rintro e w' ⟨rfl, hw⟩
        replace hw := hw.symm
        subst hw
        refine ⟨_, rfl, s1, ?_⟩
        try simp only [Act.put, List.setIfInBounds_toArray, List.set_cons_zero, List.set_cons_succ]
        refine take_op (i := 30) (d := 42) (OP := Op.pick (Operand.tmp 38) (Operand.const (Value.bool true)) (Operand.tmp 41)) (T := 4) (v := ?vzz60) rfl rfl rfl rfl (by kernel_rfl) (by kernel_rfl) (by kernel_rfl) (fun _ _ _ h => h) (by rfl) ?hzz60 hHeld ?rzz60
        case hzz60 => (intro w' hSw; (try dsimp only at hSw); go_simp <;> with_reducible rfl)
        try simp only [Act.put, List.setIfInBounds_toArray, List.set_cons_zero, List.set_cons_succ]
        refine wpAnyH_done (by kernel_rfl) ?_ _
        clear cL cR cX cIl
        gi_wp2_with (gi_at_builtin; refine turn_in (OP := .call { callee := .builtin .append, args := #[.tmp 43, .tmp 45], argTypes := #[98, 98] }) (T := 98) rfl rfl rfl (by intro c e; cases e) (exec_append rfl rfl r1) ?_)
        exact HP.out
      · obtain ⟨lp, lk, lv, la, lb, rfl⟩ : ∃ q k' v' a b, xl = .node q k' v' a b := by cases xl with | nil => exact (el rfl).elim | node => exact ⟨_, _, _, _, _, rfl⟩
        have cIl := cI _ (hin _ ((Sub.left .here).trans hxs))
        rw [decide_eq_true (hsd.1.resolve_left el), node_ptr] at cIl
        rw [node_ptr] at cL
        obtain ⟨rp, rk, rv, ra, rb, rfl⟩ : ∃ q k' v' a b, xr = .node q k' v' a b := by cases xr with | nil => exact (er rfl).elim | node => exact ⟨_, _, _, _, _, rfl⟩
        have cIr := cI _ (hin _ ((Sub.right .here).trans hxs))
        rw [decide_eq_true (hsd.2.resolve_left er), node_ptr] at cIr
        rw [node_ptr] at cR
        clear cI hin hsd el er
        gi_wp2
        refine region_in (S := (fun w' => w'.cell? ⟨w.heap.size + 3, 0, none⟩ = some (.slice sa c sc))) (by kernel_rfl) (by kernel_rfl) (fun _ _ h => h) s1 (fun hHeld => ?_)
        try dsimp only at hHeld
        refine take_op (i := 0) (d := 12) (OP := Op.move (Operand.tmp 5)) (T := 24) (v := ?vzz61) rfl rfl rfl rfl (by kernel_rfl) (by kernel_rfl) (by kernel_rfl) (fun _ _ _ h => h) (by rfl) ?hzz61 hHeld ?rzz61
        case hzz61 => (intro w' hSw; (try dsimp only at hSw); go_simp <;> with_reducible rfl)
        try simp only [Act.put, List.setIfInBounds_toArray, List.set_cons_zero, List.set_cons_succ]
        refine take_op (i := 1) (d := 13) (OP := Op.binOp BinOp.eql 24 (Operand.tmp 12) (Operand.const (Value.pointer none)) 24) (T := 4) (v := ?vzz62) rfl rfl rfl rfl (by kernel_rfl) (by kernel_rfl) (by kernel_rfl) (fun _ _ _ h => h) (by rfl) ?hzz62 hHeld ?rzz62
        case hzz62 => (intro w' hSw; (try dsimp only at hSw); go_simp <;> with_reducible rfl)
        try simp only [Act.put, List.setIfInBounds_toArray, List.set_cons_zero, List.set_cons_succ]
        refine take_op (i := 2) (d := 14) (OP := Op.move (Operand.tmp 13)) (T := 4) (v := ?vzz63) rfl rfl rfl rfl (by kernel_rfl) (by kernel_rfl) (by kernel_rfl) (fun _ _ _ h => h) (by rfl) ?hzz63 hHeld ?rzz63
        case hzz63 => (intro w' hSw; (try dsimp only at hSw); go_simp <;> with_reducible rfl)
        try simp only [Act.put, List.setIfInBounds_toArray, List.set_cons_zero, List.set_cons_succ]
        refine take_op (i := 3) (d := 15) (OP := Op.move (Operand.tmp 5)) (T := 24) (v := ?vzz64) rfl rfl rfl rfl (by kernel_rfl) (by kernel_rfl) (by kernel_rfl) (fun _ _ _ h => h) (by rfl) ?hzz64 hHeld ?rzz64
        case hzz64 => (intro w' hSw; (try dsimp only at hSw); go_simp <;> with_reducible rfl)
        try simp only [Act.put, List.setIfInBounds_toArray, List.set_cons_zero, List.set_cons_succ]
        refine call_op (i := 4) (d := 16) (OP := Op.call { callee := Callee.value (Operand.func 24), args := #[Operand.tmp 15], argTypes := #[24] }) (T := 24) (f := 24) (args := #[.pointer (some ⟨p, 0, none⟩)]) rfl rfl rfl rfl (by kernel_rfl) (by rfl) (by go_simp) ?_
        refine (cL).mono ?_
        rintro e w' ⟨rfl, hw⟩
        replace hw := hw.symm
        subst hw
        refine ⟨_, rfl, s1, ?_⟩
        try simp only [Act.put, List.setIfInBounds_toArray, List.set_cons_zero, List.set_cons_succ]
        refine take_op (i := 5) (d := 17) (OP := Op.binOp BinOp.neq 24 (Operand.tmp 16) (Operand.const (Value.pointer none)) 24) (T := 4) (v := ?vzz65) rfl rfl rfl rfl (by kernel_rfl) (by kernel_rfl) (by kernel_rfl) (fun _ _ _ h => h) (by rfl) ?hzz65 hHeld ?rzz65
        case hzz65 => (intro w' hSw; (try dsimp only at hSw); go_simp <;> with_reducible rfl)
        try simp only [Act.put, List.setIfInBounds_toArray, List.set_cons_zero, List.set_cons_succ]
        refine take_op (i := 6) (d := 18) (OP := Op.move (Operand.tmp 17)) (T := 4) (v := ?vzz66) rfl rfl rfl rfl (by kernel_rfl) (by kernel_rfl) (by kernel_rfl) (fun _ _ _ h => h) (by rfl) ?hzz66 hHeld ?rzz66
        case hzz66 => (intro w' hSw; (try dsimp only at hSw); go_simp <;> with_reducible rfl)
        try simp only [Act.put, List.setIfInBounds_toArray, List.set_cons_zero, List.set_cons_succ]
        refine take_op (i := 7) (d := 19) (OP := Op.load 98 (Operand.tmp 4)) (T := 98) (v := ?vzz67) rfl rfl rfl rfl (by kernel_rfl) (by kernel_rfl) (by kernel_rfl) (fun _ _ _ h => h) (by rfl) ?hzz67 hHeld ?rzz67
        case hzz67 => (intro w' hSw; (try dsimp only at hSw); go_simp <;> with_reducible rfl)
        try simp only [Act.put, List.setIfInBounds_toArray, List.set_cons_zero, List.set_cons_succ]
        refine take_op (i := 8) (d := 20) (OP := Op.move (Operand.tmp 5)) (T := 24) (v := ?vzz68) rfl rfl rfl rfl (by kernel_rfl) (by kernel_rfl) (by kernel_rfl) (fun _ _ _ h => h) (by rfl) ?hzz68 hHeld ?rzz68
        case hzz68 => (intro w' hSw; (try dsimp only at hSw); go_simp <;> with_reducible rfl)
        try simp only [Act.put, List.setIfInBounds_toArray, List.set_cons_zero, List.set_cons_succ]
        refine call_op (i := 9) (d := 21) (OP := Op.call { callee := Callee.value (Operand.func 24), args := #[Operand.tmp 20], argTypes := #[24] }) (T := 24) (f := 24) (args := #[.pointer (some ⟨p, 0, none⟩)]) rfl rfl rfl rfl (by kernel_rfl) (by rfl) (by go_simp) ?_
        refine (cL).mono ?_
        rintro e w' ⟨rfl, hw⟩
        replace hw := hw.symm
        subst hw
        refine ⟨_, rfl, s1, ?_⟩
        try simp only [Act.put, List.setIfInBounds_toArray, List.set_cons_zero, List.set_cons_succ]
        refine call_op (i := 10) (d := 22) (OP := Op.call { callee := Callee.value (Operand.func 59), args := #[Operand.tmp 19, Operand.tmp 21], argTypes := #[98, 24] }) (T := 4) (f := 59) (args := #[.slice sa c sc, .pointer (some ⟨lp, 0, none⟩)]) rfl rfl rfl rfl (by kernel_rfl) (by rfl) (by go_simp) ?_
        refine (cIl).mono ?_
        rintro e w' ⟨rfl, hw⟩
        replace hw := hw.symm
        subst hw
        refine ⟨_, rfl, s1, ?_⟩
        try simp only [Act.put, List.setIfInBounds_toArray, List.set_cons_zero, List.set_cons_succ]
        refine take_op (i := 11) (d := 23) (OP := Op.unOp UnOp.not 4 (Operand.tmp 22)) (T := 4) (v := ?vzz69) rfl rfl rfl rfl (by kernel_rfl) (by kernel_rfl) (by kernel_rfl) (fun _ _ _ h => h) (by rfl) ?hzz69 hHeld ?rzz69
        case hzz69 => (intro w' hSw; (try dsimp only at hSw); go_simp <;> with_reducible rfl)
        try simp only [Act.put, List.setIfInBounds_toArray, List.set_cons_zero, List.set_cons_succ]
        refine take_op (i := 12) (d := 24) (OP := Op.pick (Operand.tmp 18) (Operand.tmp 23) (Operand.const (Value.bool false))) (T := 4) (v := ?vzz70) rfl rfl rfl rfl (by kernel_rfl) (by kernel_rfl) (by kernel_rfl) (fun _ _ _ h => h) (by rfl) ?hzz70 hHeld ?rzz70
        case hzz70 => (intro w' hSw; (try dsimp only at hSw); go_simp <;> with_reducible rfl)
        try simp only [Act.put, List.setIfInBounds_toArray, List.set_cons_zero, List.set_cons_succ]
        refine take_op (i := 13) (d := 25) (OP := Op.pick (Operand.tmp 14) (Operand.const (Value.bool true)) (Operand.tmp 24)) (T := 4) (v := ?vzz71) rfl rfl rfl rfl (by kernel_rfl) (by kernel_rfl) (by kernel_rfl) (fun _ _ _ h => h) (by rfl) ?hzz71 hHeld ?rzz71
        case hzz71 => (intro w' hSw; (try dsimp only at hSw); go_simp <;> with_reducible rfl)
        try simp only [Act.put, List.setIfInBounds_toArray, List.set_cons_zero, List.set_cons_succ]
        refine take_op (i := 14) (d := 26) (OP := Op.move (Operand.tmp 25)) (T := 4) (v := ?vzz72) rfl rfl rfl rfl (by kernel_rfl) (by kernel_rfl) (by kernel_rfl) (fun _ _ _ h => h) (by rfl) ?hzz72 hHeld ?rzz72
        case hzz72 => (intro w' hSw; (try dsimp only at hSw); go_simp <;> with_reducible rfl)
        try simp only [Act.put, List.setIfInBounds_toArray, List.set_cons_zero, List.set_cons_succ]
        refine take_op (i := 15) (d := 27) (OP := Op.move (Operand.tmp 5)) (T := 24) (v := ?vzz73) rfl rfl rfl rfl (by kernel_rfl) (by kernel_rfl) (by kernel_rfl) (fun _ _ _ h => h) (by rfl) ?hzz73 hHeld ?rzz73
        case hzz73 => (intro w' hSw; (try dsimp only at hSw); go_simp <;> with_reducible rfl)
        try simp only [Act.put, List.setIfInBounds_toArray, List.set_cons_zero, List.set_cons_succ]
        refine call_op (i := 16) (d := 28) (OP := Op.call { callee := Callee.value (Operand.func 25), args := #[Operand.tmp 27], argTypes := #[24] }) (T := 24) (f := 25) (args := #[.pointer (some ⟨p, 0, none⟩)]) rfl rfl rfl rfl (by kernel_rfl) (by rfl) (by go_simp) ?_
        refine (cR).mono ?_
        rintro e w' ⟨rfl, hw⟩
        replace hw := hw.symm
        subst hw
        refine ⟨_, rfl, s1, ?_⟩
        try simp only [Act.put, List.setIfInBounds_toArray, List.set_cons_zero, List.set_cons_succ]
        refine take_op (i := 17) (d := 29) (OP := Op.binOp BinOp.neq 24 (Operand.tmp 28) (Operand.const (Value.pointer none)) 24) (T := 4) (v := ?vzz74) rfl rfl rfl rfl (by kernel_rfl) (by kernel_rfl) (by kernel_rfl) (fun _ _ _ h => h) (by rfl) ?hzz74 hHeld ?rzz74
        case hzz74 => (intro w' hSw; (try dsimp only at hSw); go_simp <;> with_reducible rfl)
        try simp only [Act.put, List.setIfInBounds_toArray, List.set_cons_zero, List.set_cons_succ]
        refine take_op (i := 18) (d := 30) (OP := Op.move (Operand.tmp 29)) (T := 4) (v := ?vzz75) rfl rfl rfl rfl (by kernel_rfl) (by kernel_rfl) (by kernel_rfl) (fun _ _ _ h => h) (by rfl) ?hzz75 hHeld ?rzz75
        case hzz75 => (intro w' hSw; (try dsimp only at hSw); go_simp <;> with_reducible rfl)
        try simp only [Act.put, List.setIfInBounds_toArray, List.set_cons_zero, List.set_cons_succ]
        refine take_op (i := 19) (d := 31) (OP := Op.load 98 (Operand.tmp 4)) (T := 98) (v := ?vzz76) rfl rfl rfl rfl (by kernel_rfl) (by kernel_rfl) (by kernel_rfl) (fun _ _ _ h => h) (by rfl) ?hzz76 hHeld ?rzz76
        case hzz76 => (intro w' hSw; (try dsimp only at hSw); go_simp <;> with_reducible rfl)
        try simp only [Act.put, List.setIfInBounds_toArray, List.set_cons_zero, List.set_cons_succ]
        refine take_op (i := 20) (d := 32) (OP := Op.move (Operand.tmp 5)) (T := 24) (v := ?vzz77) rfl rfl rfl rfl (by kernel_rfl) (by kernel_rfl) (by kernel_rfl) (fun _ _ _ h => h) (by rfl) ?hzz77 hHeld ?rzz77
        case hzz77 => (intro w' hSw; (try dsimp only at hSw); go_simp <;> with_reducible rfl)
        try simp only [Act.put, List.setIfInBounds_toArray, List.set_cons_zero, List.set_cons_succ]
        refine call_op (i := 21) (d := 33) (OP := Op.call { callee := Callee.value (Operand.func 25), args := #[Operand.tmp 32], argTypes := #[24] }) (T := 24) (f := 25) (args := #[.pointer (some ⟨p, 0, none⟩)]) rfl rfl rfl rfl (by kernel_rfl) (by rfl) (by go_simp) ?_
        refine (cR).mono ?_
        rintro e w' ⟨rfl, hw⟩
        replace hw := hw.symm
        subst hw
        refine ⟨_, rfl, s1, ?_⟩
        try simp only [Act.put, List.setIfInBounds_toArray, List.set_cons_zero, List.set_cons_succ]
        refine call_op (i := 22) (d := 34) (OP := Op.call { callee := Callee.value (Operand.func 59), args := #[Operand.tmp 31, Operand.tmp 33], argTypes := #[98, 24] }) (T := 4) (f := 59) (args := #[.slice sa c sc, .pointer (some ⟨rp, 0, none⟩)]) rfl rfl rfl rfl (by kernel_rfl) (by rfl) (by go_simp) ?_
        refine (cIr).mono ?_
        rintro e w' ⟨rfl, hw⟩
        replace hw := hw.symm
        subst hw
        refine ⟨_, rfl, s1, ?_⟩
        try simp only [Act.put, List.setIfInBounds_toArray, List.set_cons_zero, List.set_cons_succ]
        refine take_op (i := 23) (d := 35) (OP := Op.unOp UnOp.not 4 (Operand.tmp 34)) (T := 4) (v := ?vzz78) rfl rfl rfl rfl (by kernel_rfl) (by kernel_rfl) (by kernel_rfl) (fun _ _ _ h => h) (by rfl) ?hzz78 hHeld ?rzz78
        case hzz78 => (intro w' hSw; (try dsimp only at hSw); go_simp <;> with_reducible rfl)
        try simp only [Act.put, List.setIfInBounds_toArray, List.set_cons_zero, List.set_cons_succ]
        refine take_op (i := 24) (d := 36) (OP := Op.pick (Operand.tmp 30) (Operand.tmp 35) (Operand.const (Value.bool false))) (T := 4) (v := ?vzz79) rfl rfl rfl rfl (by kernel_rfl) (by kernel_rfl) (by kernel_rfl) (fun _ _ _ h => h) (by rfl) ?hzz79 hHeld ?rzz79
        case hzz79 => (intro w' hSw; (try dsimp only at hSw); go_simp <;> with_reducible rfl)
        try simp only [Act.put, List.setIfInBounds_toArray, List.set_cons_zero, List.set_cons_succ]
        refine take_op (i := 25) (d := 37) (OP := Op.pick (Operand.tmp 26) (Operand.const (Value.bool true)) (Operand.tmp 36)) (T := 4) (v := ?vzz80) rfl rfl rfl rfl (by kernel_rfl) (by kernel_rfl) (by kernel_rfl) (fun _ _ _ h => h) (by rfl) ?hzz80 hHeld ?rzz80
        case hzz80 => (intro w' hSw; (try dsimp only at hSw); go_simp <;> with_reducible rfl)
        try simp only [Act.put, List.setIfInBounds_toArray, List.set_cons_zero, List.set_cons_succ]
        refine take_op (i := 26) (d := 38) (OP := Op.move (Operand.tmp 37)) (T := 4) (v := ?vzz81) rfl rfl rfl rfl (by kernel_rfl) (by kernel_rfl) (by kernel_rfl) (fun _ _ _ h => h) (by rfl) ?hzz81 hHeld ?rzz81
        case hzz81 => (intro w' hSw; (try dsimp only at hSw); go_simp <;> with_reducible rfl)
        try simp only [Act.put, List.setIfInBounds_toArray, List.set_cons_zero, List.set_cons_succ]
        refine take_op (i := 27) (d := 39) (OP := Op.load 98 (Operand.tmp 4)) (T := 98) (v := ?vzz82) rfl rfl rfl rfl (by kernel_rfl) (by kernel_rfl) (by kernel_rfl) (fun _ _ _ h => h) (by rfl) ?hzz82 hHeld ?rzz82
        case hzz82 => (intro w' hSw; (try dsimp only at hSw); go_simp <;> with_reducible rfl)
        try simp only [Act.put, List.setIfInBounds_toArray, List.set_cons_zero, List.set_cons_succ]
        refine take_op (i := 28) (d := 40) (OP := Op.move (Operand.tmp 5)) (T := 24) (v := ?vzz83) rfl rfl rfl rfl (by kernel_rfl) (by kernel_rfl) (by kernel_rfl) (fun _ _ _ h => h) (by rfl) ?hzz83 hHeld ?rzz83
        case hzz83 => (intro w' hSw; (try dsimp only at hSw); go_simp <;> with_reducible rfl)
        try simp only [Act.put, List.setIfInBounds_toArray, List.set_cons_zero, List.set_cons_succ]
        refine call_op (i := 29) (d := 41) (OP := Op.call { callee := Callee.value (Operand.func 59), args := #[Operand.tmp 39, Operand.tmp 40], argTypes := #[98, 24] }) (T := 4) (f := 59) (args := #[.slice sa c sc, .pointer (some ⟨p, 0, none⟩)]) rfl rfl rfl rfl (by kernel_rfl) (by rfl) (by go_simp) ?_
        refine (cX).mono ?_
        rintro e w' ⟨rfl, hw⟩
        replace hw := hw.symm
        subst hw
        refine ⟨_, rfl, s1, ?_⟩
        try simp only [Act.put, List.setIfInBounds_toArray, List.set_cons_zero, List.set_cons_succ]
        refine take_op (i := 30) (d := 42) (OP := Op.pick (Operand.tmp 38) (Operand.const (Value.bool true)) (Operand.tmp 41)) (T := 4) (v := ?vzz84) rfl rfl rfl rfl (by kernel_rfl) (by kernel_rfl) (by kernel_rfl) (fun _ _ _ h => h) (by rfl) ?hzz84 hHeld ?rzz84
        case hzz84 => (intro w' hSw; (try dsimp only at hSw); go_simp <;> with_reducible rfl)
        try simp only [Act.put, List.setIfInBounds_toArray, List.set_cons_zero, List.set_cons_succ]
        refine wpAnyH_done (by kernel_rfl) ?_ _
        clear cL cR cX cIl cIr
        gi_wp2_with (gi_at_builtin; refine turn_in (OP := .call { callee := .builtin .append, args := #[.tmp 43, .tmp 45], argTypes := #[98, 98] }) (T := 98) rfl rfl rfl (by intro c e; cases e) (exec_append rfl rfl r1) ?_)
        exact HP.out
  case hdone =>
    intro W hi hlt hK
    obtain ⟨sv, g1, g2⟩ := hi.ex
    have htl : (t.post.take t.post.length) = t.post := List.take_length
    rw [htl] at g2
    obtain ⟨ao, cap, hv⟩ : ∃ ao cap, sv = .slice ao t.post.length cap := by
      rcases g2.shape with ⟨e, e2⟩ | ⟨g, cap, e, _⟩
      · exact ⟨none, 0, by rw [e2, e]; rfl⟩
      · exact ⟨_, cap, e⟩
    subst hv
    have c3 : W.cell? ⟨w.heap.size + 3, 0, none⟩ = some (.slice ao t.post.length cap) := by rw [cell_of_row _ _ 0 _ 98 (0, 0) g1]; rfl
    have c1 : W.cell? ⟨w.heap.size + 1, 0, none⟩ = some (.int .i64 0) := by rw [cell_of_row _ _ 0 _ 3 (0, 0) hi.res]; rfl
    have f1 : W.frozen? ⟨w.heap.size + 1, 0, none⟩ = false := frozen_of_row _ _ 0 _ 3 hi.res
    have HX := hide (And.intro hi.low (And.intro hi.res hK))
    clear hi g1 g2 hK hI0 hit hKlt htl
    go_wp2
    obtain ⟨hlow, hres, hK⟩ := HX.out
    have hsz := HSZ.out
    have hset : Only (fun j => j = w.heap.size + 1) W (W.setCell ⟨w.heap.size + 1, 0, none⟩ (.int .i64 (t.post.length : Int))) := (Only.ofGrown (grown_setCell W ⟨w.heap.size + 1, 0, none⟩ _)).mono (fun j _ e => by simpa using e.symm)
    have k0 := (hset.block _ (Array.getElem?_eq_some_iff.1 hK).1 (by omega)).trans hK
    have hcell : (W.setCell ⟨w.heap.size + 1, 0, none⟩ (.int .i64 (t.post.length : Int))).cell? ⟨w.heap.size + 1, 0, none⟩ = some (.int .i64 (t.post.length : Int)) := by rw [cell_of_row _ _ 0 _ 3 (0, 0) (heap_setCell_same _ _ _ _ 3 _ hres)]; rfl
    have hB6 : Below w.heap.size w (W.setCell ⟨w.heap.size + 1, 0, none⟩ (.int .i64 (t.post.length : Int))) := hlow.setCell (by simp only; omega) _
    have o1 := only_putObj (W.setCell ⟨w.heap.size + 1, 0, none⟩ (.int .i64 (t.post.length : Int))) wA.heap.size (.deferred none)
    exact leave_mark (fn := Try.f40) k0 (leave_num (w.heap.size + 1) rfl rfl (o1.cell hcell (by simp only; omega)) ⟨rfl, Below.only hB6 o1 hB6.size (by intro j e; omega)⟩)
end Go.Proofs.Ytleaaoknjflgoaa
