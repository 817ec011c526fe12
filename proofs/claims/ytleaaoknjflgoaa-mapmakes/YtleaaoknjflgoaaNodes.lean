/-
  NODES GONE OVER: the closure that Nodes makes, and the one within it that calls itself.
-/
import Derived.Test.YtleaaoknjflgoaaIterF
namespace Go.Proofs.Ytleaaoknjflgoaa
open Go.RowKit Go.Shelf
set_option linter.unusedSimpArgs false
attribute [local go_sem] Oper.semAt_some

/-- The nodes, each behind its sides. -/
def T.post : T → List T
  | .nil => []
  | .node p k v l r => l.post ++ (r.post ++ [.node p k v l r])
theorem T.post_n : ∀ t : T, t.post.length = t.n
  | .nil => rfl
  | .node p k v l r => by simp only [T.post, List.length_append, List.length_singleton, T.post_n l, T.post_n r, T.n]; omega
structure NEnv (W : World) (t : T) (L2 L3 l : Nat) : Prop where
  tree : In W t
  b2 : W.cell? ⟨L2, 0, none⟩ = some (.func (.func 71) #[] #[.pointer (some ⟨L2, 0, none⟩), .pointer (some ⟨L3, 0, none⟩)])
  b3 : W.cell? ⟨L3, 0, none⟩ = some (.func (.yield l) #[] #[])
theorem NEnv.only {D : Nat → Prop} {W W' : World} {t : T} {L2 L3 l : Nat} (h : NEnv W t L2 L3 l) (ho : Only D W W') (hD : ∀ j, D j → ¬ t.blk j) (d2 : ¬ D L2) (d3 : ¬ D L3) : NEnv W' t L2 L3 l :=
  ⟨h.tree.over ho hD, ho.cell h.b2 d2, ho.cell h.b3 d3⟩
theorem NEnv.below {W W' : World} {t : T} {L2 L3 l : Nat} (h : NEnv W t L2 L3 l) (hb : Below W.heap.size W W') : NEnv W' t L2 L3 l :=
  ⟨In.below hb h.tree, cell_stays h.b2 hb, cell_stays h.b3 hb⟩

set_option maxHeartbeats 4000000 in
set_option maxRecDepth 100000 in
theorem over_nodes (t : T) (L2 L3 l : Nat) (xs : List T) (D : Nat → Prop) (J : Nat → World → Prop) (Jx : World → Prop)
    (hD : ∀ j, D j → ¬ t.blk j) (d2 : ¬ D L2) (d3 : ¬ D L3) (hJB : ∀ c W W', J c W → Below W.heap.size W W' → J c W')
    (hY : ∀ c x W, xs[c]? = some x → J c W → NEnv W t L2 L3 l → YieldAt Fence.wide 4 Try.prog l #[x.ptr] W (Went D J Jx W (c + 1))) (s : T) :
    ∀ c W, Sub s t ∨ s = .nil → NEnv W t L2 L3 l → J c W → (∀ i x, s.post[i]? = some x → xs[c + i]? = some x) →
      Calls Try.prog 71 #[s.ptr, .pointer (some ⟨L2, 0, none⟩), .pointer (some ⟨L3, 0, none⟩)] W (Went D J Jx W (c + s.post.length)) := by
  induction s with
  | nil =>
    intro c W _ _ hJ _
    have hfin : Went D J Jx W (c + T.nil.post.length) (.returned (.bool true)) W.drew := ⟨below_only (drew_below W), .inl ⟨rfl, hJB c W _ hJ (drew_below W)⟩⟩
    have HF := hide hfin
    clear hfin
    simp only [T.ptr]
    refine (callsIn_wide (n := 5)).1 (callsIn_of_wp Try.func71 rfl trivial ?_ rfl)
    simp only [Try.ntmps71, List.size_toArray, List.length_cons, List.length_nil, Nat.reduceAdd, Nat.reduceSub, Array.replicate_succ, Array.replicate_zero, List.push_toArray, List.append_toArray, List.nil_append, List.cons_append]
    gi_wp2
    refine in_region (S := (fun _ => True)) (by kernel_rfl) trivial (fun hHeld => ?_)
    try dsimp only at hHeld
    refine in_take (i := 0) (d := 5) (OP := Op.move (Operand.tmp 0)) (T := 24) (v := ?vzz1) rfl rfl rfl rfl (by kernel_rfl) (by kernel_rfl) (by kernel_rfl) (fun _ _ _ h => h) (by rfl) ?hzz1 hHeld ?rzz1
    case hzz1 => (intro w' hSw; (try dsimp only at hSw); go_simp <;> with_reducible rfl)
    try simp only [Act.put, List.setIfInBounds_toArray, List.set_cons_zero, List.set_cons_succ]
    refine in_take (i := 1) (d := 6) (OP := Op.binOp BinOp.eql 24 (Operand.tmp 5) (Operand.const (Value.pointer none)) 24) (T := 4) (v := ?vzz2) rfl rfl rfl rfl (by kernel_rfl) (by kernel_rfl) (by kernel_rfl) (fun _ _ _ h => h) (by rfl) ?hzz2 hHeld ?rzz2
    case hzz2 => (intro w' hSw; (try dsimp only at hSw); go_simp <;> with_reducible rfl)
    try simp only [Act.put, List.setIfInBounds_toArray, List.set_cons_zero, List.set_cons_succ]
    refine in_take (i := 2) (d := 7) (OP := Op.move (Operand.tmp 6)) (T := 4) (v := ?vzz3) rfl rfl rfl rfl (by kernel_rfl) (by kernel_rfl) (by kernel_rfl) (fun _ _ _ h => h) (by rfl) ?hzz3 hHeld ?rzz3
    case hzz3 => (intro w' hSw; (try dsimp only at hSw); go_simp <;> with_reducible rfl)
    try simp only [Act.put, List.setIfInBounds_toArray, List.set_cons_zero, List.set_cons_succ]
    refine in_pass (i := 3) (d := 8) rfl rfl (by kernel_rfl) (by kernel_rfl) (by kernel_rfl) (fun _ _ _ h => h) (by rfl) hHeld ?_
    try simp only [Act.put, List.setIfInBounds_toArray, List.set_cons_zero, List.set_cons_succ]
    refine in_pass (i := 4) (d := 9) rfl rfl (by kernel_rfl) (by kernel_rfl) (by kernel_rfl) (fun _ _ _ h => h) (by rfl) hHeld ?_
    try simp only [Act.put, List.setIfInBounds_toArray, List.set_cons_zero, List.set_cons_succ]
    refine in_pass (i := 5) (d := 10) rfl rfl (by kernel_rfl) (by kernel_rfl) (by kernel_rfl) (fun _ _ _ h => h) (by rfl) hHeld ?_
    try simp only [Act.put, List.setIfInBounds_toArray, List.set_cons_zero, List.set_cons_succ]
    refine in_pass (i := 6) (d := 11) rfl rfl (by kernel_rfl) (by kernel_rfl) (by kernel_rfl) (fun _ _ _ h => h) (by rfl) hHeld ?_
    try simp only [Act.put, List.setIfInBounds_toArray, List.set_cons_zero, List.set_cons_succ]
    refine in_pass (i := 7) (d := 12) rfl rfl (by kernel_rfl) (by kernel_rfl) (by kernel_rfl) (fun _ _ _ h => h) (by rfl) hHeld ?_
    try simp only [Act.put, List.setIfInBounds_toArray, List.set_cons_zero, List.set_cons_succ]
    refine in_pass (i := 8) (d := 13) rfl rfl (by kernel_rfl) (by kernel_rfl) (by kernel_rfl) (fun _ _ _ h => h) (by rfl) hHeld ?_
    try simp only [Act.put, List.setIfInBounds_toArray, List.set_cons_zero, List.set_cons_succ]
    refine in_pass (i := 9) (d := 14) rfl rfl (by kernel_rfl) (by kernel_rfl) (by kernel_rfl) (fun _ _ _ h => h) (by rfl) hHeld ?_
    try simp only [Act.put, List.setIfInBounds_toArray, List.set_cons_zero, List.set_cons_succ]
    refine in_pass (i := 10) (d := 15) rfl rfl (by kernel_rfl) (by kernel_rfl) (by kernel_rfl) (fun _ _ _ h => h) (by rfl) hHeld ?_
    try simp only [Act.put, List.setIfInBounds_toArray, List.set_cons_zero, List.set_cons_succ]
    refine in_pass (i := 11) (d := 16) rfl rfl (by kernel_rfl) (by kernel_rfl) (by kernel_rfl) (fun _ _ _ h => h) (by rfl) hHeld ?_
    try simp only [Act.put, List.setIfInBounds_toArray, List.set_cons_zero, List.set_cons_succ]
    refine in_pass (i := 12) (d := 17) rfl rfl (by kernel_rfl) (by kernel_rfl) (by kernel_rfl) (fun _ _ _ h => h) (by rfl) hHeld ?_
    try simp only [Act.put, List.setIfInBounds_toArray, List.set_cons_zero, List.set_cons_succ]
    refine in_pass (i := 13) (d := 18) rfl rfl (by kernel_rfl) (by kernel_rfl) (by kernel_rfl) (fun _ _ _ h => h) (by rfl) hHeld ?_
    try simp only [Act.put, List.setIfInBounds_toArray, List.set_cons_zero, List.set_cons_succ]
    refine in_pass (i := 14) (d := 19) rfl rfl (by kernel_rfl) (by kernel_rfl) (by kernel_rfl) (fun _ _ _ h => h) (by rfl) hHeld ?_
    try simp only [Act.put, List.setIfInBounds_toArray, List.set_cons_zero, List.set_cons_succ]
    refine in_pass (i := 15) (d := 20) rfl rfl (by kernel_rfl) (by kernel_rfl) (by kernel_rfl) (fun _ _ _ h => h) (by rfl) hHeld ?_
    try simp only [Act.put, List.setIfInBounds_toArray, List.set_cons_zero, List.set_cons_succ]
    refine in_pass (i := 16) (d := 21) rfl rfl (by kernel_rfl) (by kernel_rfl) (by kernel_rfl) (fun _ _ _ h => h) (by rfl) hHeld ?_
    try simp only [Act.put, List.setIfInBounds_toArray, List.set_cons_zero, List.set_cons_succ]
    refine in_pass (i := 17) (d := 22) rfl rfl (by kernel_rfl) (by kernel_rfl) (by kernel_rfl) (fun _ _ _ h => h) (by rfl) hHeld ?_
    try simp only [Act.put, List.setIfInBounds_toArray, List.set_cons_zero, List.set_cons_succ]
    refine in_pass (i := 18) (d := 23) rfl rfl (by kernel_rfl) (by kernel_rfl) (by kernel_rfl) (fun _ _ _ h => h) (by rfl) hHeld ?_
    try simp only [Act.put, List.setIfInBounds_toArray, List.set_cons_zero, List.set_cons_succ]
    refine in_pass (i := 19) (d := 24) rfl rfl (by kernel_rfl) (by kernel_rfl) (by kernel_rfl) (fun _ _ _ h => h) (by rfl) hHeld ?_
    try simp only [Act.put, List.setIfInBounds_toArray, List.set_cons_zero, List.set_cons_succ]
    refine in_pass (i := 20) (d := 25) rfl rfl (by kernel_rfl) (by kernel_rfl) (by kernel_rfl) (fun _ _ _ h => h) (by rfl) hHeld ?_
    try simp only [Act.put, List.setIfInBounds_toArray, List.set_cons_zero, List.set_cons_succ]
    refine in_pass (i := 21) (d := 26) rfl rfl (by kernel_rfl) (by kernel_rfl) (by kernel_rfl) (fun _ _ _ h => h) (by rfl) hHeld ?_
    try simp only [Act.put, List.setIfInBounds_toArray, List.set_cons_zero, List.set_cons_succ]
    refine in_take (i := 22) (d := 27) (OP := Op.pick (Operand.tmp 7) (Operand.const (Value.bool true)) (Operand.tmp 26)) (T := 4) (v := ?vzz4) rfl rfl rfl rfl (by kernel_rfl) (by kernel_rfl) (by kernel_rfl) (fun _ _ _ h => h) (by rfl) ?hzz4 hHeld ?rzz4
    case hzz4 => (intro w' hSw; (try dsimp only at hSw); go_simp <;> with_reducible rfl)
    try simp only [Act.put, List.setIfInBounds_toArray, List.set_cons_zero, List.set_cons_succ]
    refine in_take (i := 23) (d := 4) (OP := Op.assign (Operand.tmp 27)) (T := 4) (v := ?vzz5) rfl rfl rfl rfl (by kernel_rfl) (by kernel_rfl) (by kernel_rfl) (fun _ _ _ h => h) (by rfl) ?hzz5 hHeld ?rzz5
    case hzz5 => (intro w' hSw; (try dsimp only at hSw); go_simp <;> with_reducible rfl)
    try simp only [Act.put, List.setIfInBounds_toArray, List.set_cons_zero, List.set_cons_succ]
    refine in_done (by kernel_rfl) ?_
    gi_wp2
    refine bodyPost_ret (results_tmp rfl _ _ _) rfl ?_
    exact HF.out
  | node p nk nv sl sr ihl ihr =>
    intro c W hsub hE hJ hxs
    have hsub : Sub (.node p nk nv sl sr) t := by
      rcases hsub with h | h
      · exact h
      · cases h
    have hsl : Sub sl t := (Sub.left .here).trans hsub
    have hsr : Sub sr t := (Sub.right .here).trans hsub
    obtain ⟨al, hal⟩ := sl.ptr_shape
    obtain ⟨ar, har⟩ := sr.ptr_shape
    have key : ∀ W', NEnv W' t L2 L3 l → W'.cell? ⟨L2, 0, none⟩ = some (.func (.func 71) #[] #[.pointer (some ⟨L2, 0, none⟩), .pointer (some ⟨L3, 0, none⟩)]) ∧ W'.cell? ⟨L3, 0, none⟩ = some (.func (.yield l) #[] #[]) ∧ W'.cell? ⟨p, 2, none⟩ = some (.pointer al) ∧ W'.cell? ⟨p, 3, none⟩ = some (.pointer ar) := fun W' h => by
      obtain ⟨c0, c1, c2, c3, _, _⟩ := (In.sub hsub h.tree).cells
      rw [hal] at c2
      rw [har] at c3
      exact ⟨h.b2, h.b3, c2, c3⟩
    have onl : ∀ W1 W2, NEnv W1 t L2 L3 l → Only D W1 W2 → NEnv W2 t L2 L3 l := fun W1 W2 h ho => h.only ho hD d2 d3
    have hEd := hE.below (drew_below W)
    have hJd := hJB c W _ hJ (drew_below W)
    simp only [hal] at ihl
    simp only [har] at ihr
    rw [node_ptr]
    rw [T.post] at hxs ⊢
    have x1 : ∀ i x, sl.post[i]? = some x → xs[c + i]? = some x := fun i x h => hxs i x (by rw [List.getElem?_append_left (List.getElem?_eq_some_iff.1 h).1]; exact h)
    have x2 : ∀ i x, sr.post[i]? = some x → xs[c + sl.post.length + i]? = some x := fun i x h => by
      have := hxs (sl.post.length + i) x (by rw [List.getElem?_append_right (by omega), Nat.add_sub_cancel_left, List.getElem?_append_left (List.getElem?_eq_some_iff.1 h).1]; exact h)
      rw [← this]; congr 1; omega
    have x3 : xs[c + sl.post.length + sr.post.length]? = some (.node p nk nv sl sr) := by
      have := hxs (sl.post.length + sr.post.length) (.node p nk nv sl sr) (by rw [List.getElem?_append_right (by omega), Nat.add_sub_cancel_left, List.getElem?_append_right (Nat.le_refl _)]; simp)
      rw [← this]; congr 1; omega
    have hlen : c + (sl.post ++ (sr.post ++ [T.node p nk nv sl sr])).length = c + sl.post.length + sr.post.length + 1 := by simp; omega
    rw [hlen]
    have HB := hide (And.intro x1 (And.intro x2 x3))
    clear hJ hxs x1 x2 x3 hlen hE
    have hq := key _ hEd
    refine (callsIn_wide (n := 5)).1 (callsIn_of_wp Try.func71 rfl trivial ?_ rfl)
    simp only [Try.ntmps71, List.size_toArray, List.length_cons, List.length_nil, Nat.reduceAdd, Nat.reduceSub, Array.replicate_succ, Array.replicate_zero, List.push_toArray, List.append_toArray, List.nil_append, List.cons_append]
    gi_wp2
    refine in_region (S := (fun w' => w'.cell? ⟨L2, 0, none⟩ = some (.func (.func 71) #[] #[.pointer (some ⟨L2, 0, none⟩), .pointer (some ⟨L3, 0, none⟩)]) ∧ w'.cell? ⟨L3, 0, none⟩ = some (.func (.yield l) #[] #[]) ∧ w'.cell? ⟨p, 2, none⟩ = some (.pointer al) ∧ w'.cell? ⟨p, 3, none⟩ = some (.pointer ar))) (by kernel_rfl) hq (fun hHeld => ?_)
    try dsimp only at hHeld
    refine in_take (i := 0) (d := 5) (OP := Op.move (Operand.tmp 0)) (T := 24) (v := ?vzz6) rfl rfl rfl rfl (by kernel_rfl) (by kernel_rfl) (by kernel_rfl) (fun _ _ _ h => h) (by rfl) ?hzz6 hHeld ?rzz6
    case hzz6 => (intro w' hSw; (try dsimp only at hSw); go_simp <;> with_reducible rfl)
    try simp only [Act.put, List.setIfInBounds_toArray, List.set_cons_zero, List.set_cons_succ]
    refine in_take (i := 1) (d := 6) (OP := Op.binOp BinOp.eql 24 (Operand.tmp 5) (Operand.const (Value.pointer none)) 24) (T := 4) (v := ?vzz7) rfl rfl rfl rfl (by kernel_rfl) (by kernel_rfl) (by kernel_rfl) (fun _ _ _ h => h) (by rfl) ?hzz7 hHeld ?rzz7
    case hzz7 => (intro w' hSw; (try dsimp only at hSw); go_simp <;> with_reducible rfl)
    try simp only [Act.put, List.setIfInBounds_toArray, List.set_cons_zero, List.set_cons_succ]
    refine in_take (i := 2) (d := 7) (OP := Op.move (Operand.tmp 6)) (T := 4) (v := ?vzz8) rfl rfl rfl rfl (by kernel_rfl) (by kernel_rfl) (by kernel_rfl) (fun _ _ _ h => h) (by rfl) ?hzz8 hHeld ?rzz8
    case hzz8 => (intro w' hSw; (try dsimp only at hSw); go_simp <;> with_reducible rfl)
    try simp only [Act.put, List.setIfInBounds_toArray, List.set_cons_zero, List.set_cons_succ]
    refine in_take (i := 3) (d := 8) (OP := Op.load 100 (Operand.tmp 1)) (T := 100) (v := ?vzz9) rfl rfl rfl rfl (by kernel_rfl) (by kernel_rfl) (by kernel_rfl) (fun _ _ _ h => h) (by rfl) ?hzz9 hHeld ?rzz9
    case hzz9 => (intro w' hSw; (try dsimp only at hSw); go_simp <;> with_reducible rfl)
    try simp only [Act.put, List.setIfInBounds_toArray, List.set_cons_zero, List.set_cons_succ]
    refine in_take (i := 4) (d := 9) (OP := Op.move (Operand.tmp 0)) (T := 24) (v := ?vzz10) rfl rfl rfl rfl (by kernel_rfl) (by kernel_rfl) (by kernel_rfl) (fun _ _ _ h => h) (by rfl) ?hzz10 hHeld ?rzz10
    case hzz10 => (intro w' hSw; (try dsimp only at hSw); go_simp <;> with_reducible rfl)
    try simp only [Act.put, List.setIfInBounds_toArray, List.set_cons_zero, List.set_cons_succ]
    refine in_take (i := 5) (d := 10) (OP := Op.nilCheck (Operand.tmp 9)) (T := 0) (v := ?vzz11) rfl rfl rfl rfl (by kernel_rfl) (by kernel_rfl) (by kernel_rfl) (fun _ _ _ h => h) (by rfl) ?hzz11 hHeld ?rzz11
    case hzz11 => (intro w' hSw; (try dsimp only at hSw); go_simp <;> with_reducible rfl)
    try simp only [Act.put, List.setIfInBounds_toArray, List.set_cons_zero, List.set_cons_succ]
    refine in_take (i := 6) (d := 11) (OP := Op.fieldAddr 82 (Operand.tmp 10) 2) (T := 0) (v := ?vzz12) rfl rfl rfl rfl (by kernel_rfl) (by kernel_rfl) (by kernel_rfl) (fun _ _ _ h => h) (by rfl) ?hzz12 hHeld ?rzz12
    case hzz12 => (intro w' hSw; (try dsimp only at hSw); go_simp <;> with_reducible rfl)
    try simp only [Act.put, List.setIfInBounds_toArray, List.set_cons_zero, List.set_cons_succ]
    refine in_take (i := 7) (d := 12) (OP := Op.load 24 (Operand.tmp 11)) (T := 24) (v := ?vzz13) rfl rfl rfl rfl (by kernel_rfl) (by kernel_rfl) (by kernel_rfl) (fun _ _ _ h => h) (by rfl) ?hzz13 hHeld ?rzz13
    case hzz13 => (intro w' hSw; (try dsimp only at hSw); go_simp <;> with_reducible rfl)
    try simp only [Act.put, List.setIfInBounds_toArray, List.set_cons_zero, List.set_cons_succ]
    refine in_call (i := 8) (d := 13) (OP := Op.call { callee := Callee.value (Operand.tmp 8), args := #[Operand.tmp 12], argTypes := #[24] }) (T := 4) (g := 71) (args := #[.pointer al, .pointer (some ⟨L2, 0, none⟩), .pointer (some ⟨L3, 0, none⟩)]) rfl rfl rfl rfl (by kernel_rfl) (by rfl) (by go_simp) ?_
    refine (ihl c W.drew (.inl hsl) hEd hJd HB.out.1).mono ?_
    intro e W3 hw3
    have hE3 := onl _ _ hEd hw3.1
    have hq3 := key _ hE3
    have hO3 : Only D W W3 := (below_only (D := D) (drew_below W)).next hw3.1
    rcases hw3.2 with ⟨rfl, hJ3⟩ | ⟨rfl, hJx3⟩
    · refine ⟨_, rfl, hq3, ?_⟩
      replace hHeld := hq3
      try simp only [Act.put, List.setIfInBounds_toArray, List.set_cons_zero, List.set_cons_succ]
      refine in_take (i := 9) (d := 14) (OP := Op.move (Operand.tmp 13)) (T := 4) (v := ?vzz20) rfl rfl rfl rfl (by kernel_rfl) (by kernel_rfl) (by kernel_rfl) (fun _ _ _ h => h) (by rfl) ?hzz20 hHeld ?rzz20
      case hzz20 => (intro w' hSw; (try dsimp only at hSw); go_simp <;> with_reducible rfl)
      try simp only [Act.put, List.setIfInBounds_toArray, List.set_cons_zero, List.set_cons_succ]
      refine in_take (i := 10) (d := 15) (OP := Op.load 100 (Operand.tmp 1)) (T := 100) (v := ?vzz21) rfl rfl rfl rfl (by kernel_rfl) (by kernel_rfl) (by kernel_rfl) (fun _ _ _ h => h) (by rfl) ?hzz21 hHeld ?rzz21
      case hzz21 => (intro w' hSw; (try dsimp only at hSw); go_simp <;> with_reducible rfl)
      try simp only [Act.put, List.setIfInBounds_toArray, List.set_cons_zero, List.set_cons_succ]
      refine in_take (i := 11) (d := 16) (OP := Op.move (Operand.tmp 0)) (T := 24) (v := ?vzz22) rfl rfl rfl rfl (by kernel_rfl) (by kernel_rfl) (by kernel_rfl) (fun _ _ _ h => h) (by rfl) ?hzz22 hHeld ?rzz22
      case hzz22 => (intro w' hSw; (try dsimp only at hSw); go_simp <;> with_reducible rfl)
      try simp only [Act.put, List.setIfInBounds_toArray, List.set_cons_zero, List.set_cons_succ]
      refine in_take (i := 12) (d := 17) (OP := Op.nilCheck (Operand.tmp 16)) (T := 0) (v := ?vzz23) rfl rfl rfl rfl (by kernel_rfl) (by kernel_rfl) (by kernel_rfl) (fun _ _ _ h => h) (by rfl) ?hzz23 hHeld ?rzz23
      case hzz23 => (intro w' hSw; (try dsimp only at hSw); go_simp <;> with_reducible rfl)
      try simp only [Act.put, List.setIfInBounds_toArray, List.set_cons_zero, List.set_cons_succ]
      refine in_take (i := 13) (d := 18) (OP := Op.fieldAddr 82 (Operand.tmp 17) 3) (T := 0) (v := ?vzz24) rfl rfl rfl rfl (by kernel_rfl) (by kernel_rfl) (by kernel_rfl) (fun _ _ _ h => h) (by rfl) ?hzz24 hHeld ?rzz24
      case hzz24 => (intro w' hSw; (try dsimp only at hSw); go_simp <;> with_reducible rfl)
      try simp only [Act.put, List.setIfInBounds_toArray, List.set_cons_zero, List.set_cons_succ]
      refine in_take (i := 14) (d := 19) (OP := Op.load 24 (Operand.tmp 18)) (T := 24) (v := ?vzz25) rfl rfl rfl rfl (by kernel_rfl) (by kernel_rfl) (by kernel_rfl) (fun _ _ _ h => h) (by rfl) ?hzz25 hHeld ?rzz25
      case hzz25 => (intro w' hSw; (try dsimp only at hSw); go_simp <;> with_reducible rfl)
      try simp only [Act.put, List.setIfInBounds_toArray, List.set_cons_zero, List.set_cons_succ]
      refine in_call (i := 15) (d := 20) (OP := Op.call { callee := Callee.value (Operand.tmp 15), args := #[Operand.tmp 19], argTypes := #[24] }) (T := 4) (g := 71) (args := #[.pointer ar, .pointer (some ⟨L2, 0, none⟩), .pointer (some ⟨L3, 0, none⟩)]) rfl rfl rfl rfl (by kernel_rfl) (by rfl) (by go_simp) ?_
      refine (ihr _ W3 (.inl hsr) hE3 hJ3 HB.out.2.1).mono ?_
      intro e W4 hw4
      have hE4 := onl _ _ hE3 hw4.1
      have hq4 := key _ hE4
      have hO4 : Only D W W4 := hO3.next hw4.1
      rcases hw4.2 with ⟨rfl, hJ4⟩ | ⟨rfl, hJx4⟩
      · refine ⟨_, rfl, hq4, ?_⟩
        replace hHeld := hq4
        try simp only [Act.put, List.setIfInBounds_toArray, List.set_cons_zero, List.set_cons_succ]
        refine in_take (i := 16) (d := 21) (OP := Op.pick (Operand.tmp 14) (Operand.tmp 20) (Operand.const (Value.bool false))) (T := 4) (v := ?vzz31) rfl rfl rfl rfl (by kernel_rfl) (by kernel_rfl) (by kernel_rfl) (fun _ _ _ h => h) (by rfl) ?hzz31 hHeld ?rzz31
        case hzz31 => (intro w' hSw; (try dsimp only at hSw); go_simp <;> with_reducible rfl)
        try simp only [Act.put, List.setIfInBounds_toArray, List.set_cons_zero, List.set_cons_succ]
        refine in_take (i := 17) (d := 22) (OP := Op.move (Operand.tmp 21)) (T := 4) (v := ?vzz32) rfl rfl rfl rfl (by kernel_rfl) (by kernel_rfl) (by kernel_rfl) (fun _ _ _ h => h) (by rfl) ?hzz32 hHeld ?rzz32
        case hzz32 => (intro w' hSw; (try dsimp only at hSw); go_simp <;> with_reducible rfl)
        try simp only [Act.put, List.setIfInBounds_toArray, List.set_cons_zero, List.set_cons_succ]
        refine in_take (i := 18) (d := 23) (OP := Op.load 100 (Operand.tmp 2)) (T := 100) (v := ?vzz33) rfl rfl rfl rfl (by kernel_rfl) (by kernel_rfl) (by kernel_rfl) (fun _ _ _ h => h) (by rfl) ?hzz33 hHeld ?rzz33
        case hzz33 => (intro w' hSw; (try dsimp only at hSw); go_simp <;> with_reducible rfl)
        try simp only [Act.put, List.setIfInBounds_toArray, List.set_cons_zero, List.set_cons_succ]
        refine in_take (i := 19) (d := 24) (OP := Op.move (Operand.tmp 0)) (T := 24) (v := ?vzz34) rfl rfl rfl rfl (by kernel_rfl) (by kernel_rfl) (by kernel_rfl) (fun _ _ _ h => h) (by rfl) ?hzz34 hHeld ?rzz34
        case hzz34 => (intro w' hSw; (try dsimp only at hSw); go_simp <;> with_reducible rfl)
        try simp only [Act.put, List.setIfInBounds_toArray, List.set_cons_zero, List.set_cons_succ]
        refine in_yield (i := 20) (d := 25) (OP := Op.call { callee := Callee.value (Operand.tmp 23), args := #[Operand.tmp 24], argTypes := #[24] }) (T := 4) (l := l) (args := #[.pointer (some ⟨p, 0, none⟩)]) rfl rfl rfl rfl (by kernel_rfl) (by rfl) (by simp [execOp, resolve, invoke, go_sem, Act.eval]) ?_
        refine YieldAt.mono (hY _ (.node p nk nv sl sr) W4 HB.out.2.2 hJ4 hE4) ?_
        intro e W5 hw5
        have hE5 := onl _ _ hE4 hw5.1
        have hq5 := key _ hE5
        have hO5 : Only D W W5 := hO4.next hw5.1
        obtain ⟨bv, rfl⟩ : ∃ bv, e = .returned (.bool bv) := by rcases hw5.2 with h | h <;> exact ⟨_, h.1⟩
        refine ⟨_, rfl, hq5, ?_⟩
        replace hHeld := hq5
        try simp only [Act.put, List.setIfInBounds_toArray, List.set_cons_zero, List.set_cons_succ]
        refine in_take (i := 21) (d := 26) (OP := Op.pick (Operand.tmp 22) (Operand.tmp 25) (Operand.const (Value.bool false))) (T := 4) (v := ?vzz35) rfl rfl rfl rfl (by kernel_rfl) (by kernel_rfl) (by kernel_rfl) (fun _ _ _ h => h) (by rfl) ?hzz35 hHeld ?rzz35
        case hzz35 => (intro w' hSw; (try dsimp only at hSw); go_simp <;> with_reducible rfl)
        try simp only [Act.put, List.setIfInBounds_toArray, List.set_cons_zero, List.set_cons_succ]
        refine in_take (i := 22) (d := 27) (OP := Op.pick (Operand.tmp 7) (Operand.const (Value.bool true)) (Operand.tmp 26)) (T := 4) (v := ?vzz36) rfl rfl rfl rfl (by kernel_rfl) (by kernel_rfl) (by kernel_rfl) (fun _ _ _ h => h) (by rfl) ?hzz36 hHeld ?rzz36
        case hzz36 => (intro w' hSw; (try dsimp only at hSw); go_simp <;> with_reducible rfl)
        try simp only [Act.put, List.setIfInBounds_toArray, List.set_cons_zero, List.set_cons_succ]
        refine in_take (i := 23) (d := 4) (OP := Op.assign (Operand.tmp 27)) (T := 4) (v := ?vzz37) rfl rfl rfl rfl (by kernel_rfl) (by kernel_rfl) (by kernel_rfl) (fun _ _ _ h => h) (by rfl) ?hzz37 hHeld ?rzz37
        case hzz37 => (intro w' hSw; (try dsimp only at hSw); go_simp <;> with_reducible rfl)
        try simp only [Act.put, List.setIfInBounds_toArray, List.set_cons_zero, List.set_cons_succ]
        refine in_done (by kernel_rfl) ?_
        gi_wp2
        refine bodyPost_ret (results_tmp rfl _ _ _) rfl ?_
        exact ⟨hO5, hw5.2⟩
      · refine ⟨_, rfl, hq4, ?_⟩
        replace hHeld := hq4
        try simp only [Act.put, List.setIfInBounds_toArray, List.set_cons_zero, List.set_cons_succ]
        refine in_take (i := 16) (d := 21) (OP := Op.pick (Operand.tmp 14) (Operand.tmp 20) (Operand.const (Value.bool false))) (T := 4) (v := ?vzz26) rfl rfl rfl rfl (by kernel_rfl) (by kernel_rfl) (by kernel_rfl) (fun _ _ _ h => h) (by rfl) ?hzz26 hHeld ?rzz26
        case hzz26 => (intro w' hSw; (try dsimp only at hSw); go_simp <;> with_reducible rfl)
        try simp only [Act.put, List.setIfInBounds_toArray, List.set_cons_zero, List.set_cons_succ]
        refine in_take (i := 17) (d := 22) (OP := Op.move (Operand.tmp 21)) (T := 4) (v := ?vzz27) rfl rfl rfl rfl (by kernel_rfl) (by kernel_rfl) (by kernel_rfl) (fun _ _ _ h => h) (by rfl) ?hzz27 hHeld ?rzz27
        case hzz27 => (intro w' hSw; (try dsimp only at hSw); go_simp <;> with_reducible rfl)
        try simp only [Act.put, List.setIfInBounds_toArray, List.set_cons_zero, List.set_cons_succ]
        refine in_pass (i := 18) (d := 23) rfl rfl (by kernel_rfl) (by kernel_rfl) (by kernel_rfl) (fun _ _ _ h => h) (by rfl) hHeld ?_
        try simp only [Act.put, List.setIfInBounds_toArray, List.set_cons_zero, List.set_cons_succ]
        refine in_pass (i := 19) (d := 24) rfl rfl (by kernel_rfl) (by kernel_rfl) (by kernel_rfl) (fun _ _ _ h => h) (by rfl) hHeld ?_
        try simp only [Act.put, List.setIfInBounds_toArray, List.set_cons_zero, List.set_cons_succ]
        refine in_pass (i := 20) (d := 25) rfl rfl (by kernel_rfl) (by kernel_rfl) (by kernel_rfl) (fun _ _ _ h => h) (by rfl) hHeld ?_
        try simp only [Act.put, List.setIfInBounds_toArray, List.set_cons_zero, List.set_cons_succ]
        refine in_take (i := 21) (d := 26) (OP := Op.pick (Operand.tmp 22) (Operand.tmp 25) (Operand.const (Value.bool false))) (T := 4) (v := ?vzz28) rfl rfl rfl rfl (by kernel_rfl) (by kernel_rfl) (by kernel_rfl) (fun _ _ _ h => h) (by rfl) ?hzz28 hHeld ?rzz28
        case hzz28 => (intro w' hSw; (try dsimp only at hSw); go_simp <;> with_reducible rfl)
        try simp only [Act.put, List.setIfInBounds_toArray, List.set_cons_zero, List.set_cons_succ]
        refine in_take (i := 22) (d := 27) (OP := Op.pick (Operand.tmp 7) (Operand.const (Value.bool true)) (Operand.tmp 26)) (T := 4) (v := ?vzz29) rfl rfl rfl rfl (by kernel_rfl) (by kernel_rfl) (by kernel_rfl) (fun _ _ _ h => h) (by rfl) ?hzz29 hHeld ?rzz29
        case hzz29 => (intro w' hSw; (try dsimp only at hSw); go_simp <;> with_reducible rfl)
        try simp only [Act.put, List.setIfInBounds_toArray, List.set_cons_zero, List.set_cons_succ]
        refine in_take (i := 23) (d := 4) (OP := Op.assign (Operand.tmp 27)) (T := 4) (v := ?vzz30) rfl rfl rfl rfl (by kernel_rfl) (by kernel_rfl) (by kernel_rfl) (fun _ _ _ h => h) (by rfl) ?hzz30 hHeld ?rzz30
        case hzz30 => (intro w' hSw; (try dsimp only at hSw); go_simp <;> with_reducible rfl)
        try simp only [Act.put, List.setIfInBounds_toArray, List.set_cons_zero, List.set_cons_succ]
        refine in_done (by kernel_rfl) ?_
        gi_wp2
        refine bodyPost_ret (results_tmp rfl _ _ _) rfl ?_
        exact ⟨hO4, .inr ⟨rfl, hJx4⟩⟩
    · refine ⟨_, rfl, hq3, ?_⟩
      replace hHeld := hq3
      try simp only [Act.put, List.setIfInBounds_toArray, List.set_cons_zero, List.set_cons_succ]
      refine in_take (i := 9) (d := 14) (OP := Op.move (Operand.tmp 13)) (T := 4) (v := ?vzz14) rfl rfl rfl rfl (by kernel_rfl) (by kernel_rfl) (by kernel_rfl) (fun _ _ _ h => h) (by rfl) ?hzz14 hHeld ?rzz14
      case hzz14 => (intro w' hSw; (try dsimp only at hSw); go_simp <;> with_reducible rfl)
      try simp only [Act.put, List.setIfInBounds_toArray, List.set_cons_zero, List.set_cons_succ]
      refine in_pass (i := 10) (d := 15) rfl rfl (by kernel_rfl) (by kernel_rfl) (by kernel_rfl) (fun _ _ _ h => h) (by rfl) hHeld ?_
      try simp only [Act.put, List.setIfInBounds_toArray, List.set_cons_zero, List.set_cons_succ]
      refine in_pass (i := 11) (d := 16) rfl rfl (by kernel_rfl) (by kernel_rfl) (by kernel_rfl) (fun _ _ _ h => h) (by rfl) hHeld ?_
      try simp only [Act.put, List.setIfInBounds_toArray, List.set_cons_zero, List.set_cons_succ]
      refine in_pass (i := 12) (d := 17) rfl rfl (by kernel_rfl) (by kernel_rfl) (by kernel_rfl) (fun _ _ _ h => h) (by rfl) hHeld ?_
      try simp only [Act.put, List.setIfInBounds_toArray, List.set_cons_zero, List.set_cons_succ]
      refine in_pass (i := 13) (d := 18) rfl rfl (by kernel_rfl) (by kernel_rfl) (by kernel_rfl) (fun _ _ _ h => h) (by rfl) hHeld ?_
      try simp only [Act.put, List.setIfInBounds_toArray, List.set_cons_zero, List.set_cons_succ]
      refine in_pass (i := 14) (d := 19) rfl rfl (by kernel_rfl) (by kernel_rfl) (by kernel_rfl) (fun _ _ _ h => h) (by rfl) hHeld ?_
      try simp only [Act.put, List.setIfInBounds_toArray, List.set_cons_zero, List.set_cons_succ]
      refine in_pass (i := 15) (d := 20) rfl rfl (by kernel_rfl) (by kernel_rfl) (by kernel_rfl) (fun _ _ _ h => h) (by rfl) hHeld ?_
      try simp only [Act.put, List.setIfInBounds_toArray, List.set_cons_zero, List.set_cons_succ]
      refine in_take (i := 16) (d := 21) (OP := Op.pick (Operand.tmp 14) (Operand.tmp 20) (Operand.const (Value.bool false))) (T := 4) (v := ?vzz15) rfl rfl rfl rfl (by kernel_rfl) (by kernel_rfl) (by kernel_rfl) (fun _ _ _ h => h) (by rfl) ?hzz15 hHeld ?rzz15
      case hzz15 => (intro w' hSw; (try dsimp only at hSw); go_simp <;> with_reducible rfl)
      try simp only [Act.put, List.setIfInBounds_toArray, List.set_cons_zero, List.set_cons_succ]
      refine in_take (i := 17) (d := 22) (OP := Op.move (Operand.tmp 21)) (T := 4) (v := ?vzz16) rfl rfl rfl rfl (by kernel_rfl) (by kernel_rfl) (by kernel_rfl) (fun _ _ _ h => h) (by rfl) ?hzz16 hHeld ?rzz16
      case hzz16 => (intro w' hSw; (try dsimp only at hSw); go_simp <;> with_reducible rfl)
      try simp only [Act.put, List.setIfInBounds_toArray, List.set_cons_zero, List.set_cons_succ]
      refine in_pass (i := 18) (d := 23) rfl rfl (by kernel_rfl) (by kernel_rfl) (by kernel_rfl) (fun _ _ _ h => h) (by rfl) hHeld ?_
      try simp only [Act.put, List.setIfInBounds_toArray, List.set_cons_zero, List.set_cons_succ]
      refine in_pass (i := 19) (d := 24) rfl rfl (by kernel_rfl) (by kernel_rfl) (by kernel_rfl) (fun _ _ _ h => h) (by rfl) hHeld ?_
      try simp only [Act.put, List.setIfInBounds_toArray, List.set_cons_zero, List.set_cons_succ]
      refine in_pass (i := 20) (d := 25) rfl rfl (by kernel_rfl) (by kernel_rfl) (by kernel_rfl) (fun _ _ _ h => h) (by rfl) hHeld ?_
      try simp only [Act.put, List.setIfInBounds_toArray, List.set_cons_zero, List.set_cons_succ]
      refine in_take (i := 21) (d := 26) (OP := Op.pick (Operand.tmp 22) (Operand.tmp 25) (Operand.const (Value.bool false))) (T := 4) (v := ?vzz17) rfl rfl rfl rfl (by kernel_rfl) (by kernel_rfl) (by kernel_rfl) (fun _ _ _ h => h) (by rfl) ?hzz17 hHeld ?rzz17
      case hzz17 => (intro w' hSw; (try dsimp only at hSw); go_simp <;> with_reducible rfl)
      try simp only [Act.put, List.setIfInBounds_toArray, List.set_cons_zero, List.set_cons_succ]
      refine in_take (i := 22) (d := 27) (OP := Op.pick (Operand.tmp 7) (Operand.const (Value.bool true)) (Operand.tmp 26)) (T := 4) (v := ?vzz18) rfl rfl rfl rfl (by kernel_rfl) (by kernel_rfl) (by kernel_rfl) (fun _ _ _ h => h) (by rfl) ?hzz18 hHeld ?rzz18
      case hzz18 => (intro w' hSw; (try dsimp only at hSw); go_simp <;> with_reducible rfl)
      try simp only [Act.put, List.setIfInBounds_toArray, List.set_cons_zero, List.set_cons_succ]
      refine in_take (i := 23) (d := 4) (OP := Op.assign (Operand.tmp 27)) (T := 4) (v := ?vzz19) rfl rfl rfl rfl (by kernel_rfl) (by kernel_rfl) (by kernel_rfl) (fun _ _ _ h => h) (by rfl) ?hzz19 hHeld ?rzz19
      case hzz19 => (intro w' hSw; (try dsimp only at hSw); go_simp <;> with_reducible rfl)
      try simp only [Act.put, List.setIfInBounds_toArray, List.set_cons_zero, List.set_cons_succ]
      refine in_done (by kernel_rfl) ?_
      gi_wp2
      refine bodyPost_ret (results_tmp rfl _ _ _) rfl ?_
      exact ⟨hO3, .inr ⟨rfl, hJx3⟩⟩

def KN (t : T) (LM : Nat) : Nat → Prop := fun j => j = LM ∨ t.blk j
set_option maxHeartbeats 2000000 in
set_option maxRecDepth 100000 in
theorem iter_nodes (t : T) (LM : Nat) (w : World) (ht : In w t) (hM : w.cell? ⟨LM, 0, none⟩ = some t.ptr) :
    Iter 70 #[.pointer (some ⟨LM, 0, none⟩)] t.post (fun x => #[x.ptr]) (KN t LM) w := by
  intro l D J Jx W hS hs hDK hD0 hD1 hJB hY hJ
  have hK : ∀ j, KN t LM j → j < w.heap.size := fun j hj => by
    rcases hj with rfl | hj
    · exact World.block_lt_of_cell? w _ hM
    · exact ht.blk_lt hj
  have hcM := hS.cell (L := LM) (.inl rfl) hM
  obtain ⟨W1, hW1⟩ : ∃ W1, W1 = (W.alloc (.cells #[.func (.yield l) #[] #[]] 100)).alloc (.cells #[.func (.func 71) #[] #[.pointer (some ⟨W.heap.size + 1, 0, none⟩), .pointer (some ⟨W.heap.size, 0, none⟩)]] 100) := ⟨_, rfl⟩
  have hb : Below W.heap.size W W1 := by rw [hW1]; exact ((Below.refl _ W).alloc (Nat.le_refl _) _).alloc (by simp) _
  have hsz : W1.heap.size = W.heap.size + 2 := by rw [hW1]; simp
  obtain ⟨n0, n1⟩ := new2 W (.cells #[.func (.yield l) #[] #[]] 100) (.cells #[.func (.func 71) #[] #[.pointer (some ⟨W.heap.size + 1, 0, none⟩), .pointer (some ⟨W.heap.size, 0, none⟩)]] 100)
  rw [← hW1] at n0 n1
  have hS1 : Same (KN t LM) w W1 := hS.below hK hs hb
  have hE : NEnv W1 t (W.heap.size + 1) W.heap.size l := ⟨In.same ht (fun j hj => hS1 j (.inr hj)), by rw [cell_of_row _ _ 0 _ 100 (0, 0) n1]; rfl, by rw [cell_of_row _ _ 0 _ 100 (0, 0) n0]; rfl⟩
  have ho := over_nodes t (W.heap.size + 1) W.heap.size l t.post D (Keeps J (KN t LM) w W) Jx (fun j d e => hDK j d (.inr e)) hD1 hD0
    (fun c A B hj hb' => ⟨hJB c A B hj.1 hb', hj.2.1.below hK (by have := hj.2.2; omega) hb', Nat.le_trans hj.2.2 hb'.size⟩)
    (fun c x A hx hj _ => (hY c x A hx hj.1 hj.2.1 hj.2.2).mono (fun e B hw => hw.keeps hj.2.1 hj.2.2 hK (by have := hj.2.2; omega) hDK)) t 0 W1 (.inl .here) hE ⟨hJB 0 W W1 hJ hb, hS1, by omega⟩ (fun i x h => by rw [Nat.zero_add]; exact h)
  have HO := hide (show Calls Try.prog 71 _ W1 (fun e W' => ∃ b, e = .returned (.bool b) ∧ (J t.post.length W' ∨ Jx W')) from ho.mono (fun e W' h => by
    rcases h.2 with ⟨rfl, hj⟩ | ⟨rfl, hj⟩
    · exact ⟨_, rfl, .inl (by rw [Nat.zero_add] at hj; exact hj.1)⟩
    · exact ⟨_, rfl, .inr hj⟩))
  obtain ⟨a, ha⟩ := t.ptr_shape
  rw [ha] at hcM HO
  have hcM2 : ∀ o1 o2, ((W.alloc o1).alloc o2).cell? ⟨LM, 0, none⟩ = some (.pointer a) := fun o1 o2 => cell_stays hcM (((Below.refl _ W).alloc (Nat.le_refl _) _).alloc (by simp) _)
  have ho2 := HO.out
  rw [hW1] at ho2
  clear hE ho hS1 n0 n1 hsz hb hK hY hJB hJ hD0 hD1 hDK hS hs ha ht hM HO hW1
  go_enter Try.func70, Try.ntmps70
  go_wp2_with (go_at_call 71; refine ho2.mono ?_; rintro e W' ⟨b, rfl, hj⟩)
  go_end0
  exact ⟨⟨_, rfl⟩, hj⟩
theorem mNodes_any (t : T) (w : World) : Calls Try.prog 58 #[mv t] w fun e w' => e = .returned (.func (.func 70) #[] #[.pointer (some ⟨w.heap.size, 0, none⟩)]) ∧ w' = w.alloc (.cells #[t.ptr] 26) := by
  unfold mv
  obtain ⟨a, ha⟩ := t.ptr_shape
  rw [ha]
  go_enter Try.func58, Try.ntmps58
  go_wp2
  go_ret
  exact ⟨rfl, rfl⟩
end Go.Proofs.Ytleaaoknjflgoaa
