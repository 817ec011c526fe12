/-
  NODES THAT TWO MAPS HAVE: the closure that common makes, and the one within it that calls itself.
-/
import Derived.Test.YtleaaoknjflgoaaNodes
namespace Go.Proofs.Ytleaaoknjflgoaa
open Go.RowKit Go.Shelf
set_option linter.unusedSimpArgs false
attribute [local go_sem] Oper.semAt_some

/-- The topmost nodes that are nodes of b. -/
def T.tops (b : T) : T → List T
  | .nil => []
  | .node p k v l r => if b.find k = .node p k v l r then [.node p k v l r] else T.tops b l ++ T.tops b r
theorem tops_sum (b : T) : ∀ t : T, ((T.tops b t).map T.n).sum = sharedIn b t
  | .nil => rfl
  | .node p k v l r => by
    rw [T.tops, sharedIn]
    split
    · simp
    · rw [List.map_append, List.sum_append, tops_sum b l, tops_sum b r]
structure CEnv (W : World) (t b : T) (LB LY LO l : Nat) : Prop where
  tree : In W t
  other : In W b
  b1 : W.cell? ⟨LB, 0, none⟩ = some b.ptr
  b2 : W.cell? ⟨LY, 0, none⟩ = some (.func (.yield l) #[] #[])
  b3 : W.cell? ⟨LO, 0, none⟩ = some (.func (.func 62) #[] #[.pointer (some ⟨LB, 0, none⟩), .pointer (some ⟨LY, 0, none⟩), .pointer (some ⟨LO, 0, none⟩)])
theorem CEnv.only {D : Nat → Prop} {W W' : World} {t b : T} {LB LY LO l : Nat} (h : CEnv W t b LB LY LO l) (ho : Only D W W') (hD : ∀ j, D j → ¬ t.blk j) (hE : ∀ j, D j → ¬ b.blk j) (d1 : ¬ D LB) (d2 : ¬ D LY) (d3 : ¬ D LO) : CEnv W' t b LB LY LO l :=
  ⟨h.tree.over ho hD, h.other.over ho hE, ho.cell h.b1 d1, ho.cell h.b2 d2, ho.cell h.b3 d3⟩
theorem CEnv.below {W W' : World} {t b : T} {LB LY LO l : Nat} (h : CEnv W t b LB LY LO l) (hb : Below W.heap.size W W') : CEnv W' t b LB LY LO l :=
  ⟨In.below hb h.tree, In.below hb h.other, cell_stays h.b1 hb, cell_stays h.b2 hb, cell_stays h.b3 hb⟩
theorem exec_eql {P : Program} {ev : Operand → Value} {x y : Operand} {X Y : Option Addr} {v : Value} {w : World} (hx : ev x = .pointer X) (hy : ev y = .pointer Y) (hr : (binOp .eql 24 (.pointer X) (.pointer Y)).run P w = .ok v w) :
    (execOp ev { dst := none, op := .binOp .eql 24 x y 24, type := 4, pos := "", after := #[], guard := none }).run P w = .ok (.value v) w := by
  simp [execOp, hx, hy, hr, Result.andThen, Sem.run_bind, eqGuard]

set_option maxHeartbeats 4000000 in
set_option maxRecDepth 100000 in
theorem over_common (t b : T) (LB LY LO l : Nat) (xs : List T) (D : Nat → Prop) (J : Nat → World → Prop) (Jx : World → Prop)
    (hD : ∀ j, D j → ¬ t.blk j) (hDb : ∀ j, D j → ¬ b.blk j) (d1 : ¬ D LB) (d2 : ¬ D LY) (d3 : ¬ D LO) (hJB : ∀ c W W', J c W → Below W.heap.size W W' → J c W')
    (hY : ∀ c x W, xs[c]? = some x → J c W → CEnv W t b LB LY LO l → YieldAt Fence.wide 4 Try.prog l #[x.ptr] W (Went D J Jx W (c + 1))) (s : T) :
    ∀ c W, Sub s t ∨ s = .nil → CEnv W t b LB LY LO l → J c W → (∀ i x, (T.tops b s)[i]? = some x → xs[c + i]? = some x) →
      Calls Try.prog 62 #[s.ptr, .pointer (some ⟨LB, 0, none⟩), .pointer (some ⟨LY, 0, none⟩), .pointer (some ⟨LO, 0, none⟩)] W (Went D J Jx W (c + (T.tops b s).length)) := by
  induction s with
  | nil =>
    intro c W _ _ hJ _
    have hfin : Went D J Jx W (c + (T.tops b T.nil).length) (.returned (.bool true)) W := ⟨Only.refl _ _, .inl ⟨rfl, hJ⟩⟩
    have HF := hide hfin
    clear hfin
    simp only [T.ptr]
    go_enter Try.func62, Try.ntmps62
    go_wp2
    go_ret
    exact HF.out
  | node p nk nv sl sr ihl ihr =>
    intro c W hsub hE hJ hxs
    have hsub : Sub (.node p nk nv sl sr) t := by
      rcases hsub with h | h
      · exact h
      · cases h
    have hsl : Sub sl t := (Sub.left .here).trans hsub
    have hsr : Sub sr t := (Sub.right .here).trans hsub
    obtain ⟨al, hal⟩ := sl.ptr_shape
    obtain ⟨ar, har⟩ := sr.ptr_shape
    obtain ⟨ab, hab⟩ := b.ptr_shape
    have key : ∀ W', CEnv W' t b LB LY LO l → W'.cell? ⟨LB, 0, none⟩ = some (.pointer ab) ∧ W'.cell? ⟨LY, 0, none⟩ = some (.func (.yield l) #[] #[]) ∧ W'.cell? ⟨LO, 0, none⟩ = some (.func (.func 62) #[] #[.pointer (some ⟨LB, 0, none⟩), .pointer (some ⟨LY, 0, none⟩), .pointer (some ⟨LO, 0, none⟩)]) ∧ W'.cell? ⟨p, 0, none⟩ = some (.string nk) ∧ W'.cell? ⟨p, 2, none⟩ = some (.pointer al) ∧ W'.cell? ⟨p, 3, none⟩ = some (.pointer ar) ∧ Hid (CEnv W' t b LB LY LO l) := fun W' h => by
      obtain ⟨c0, c1, c2, c3, _, _⟩ := (In.sub hsub h.tree).cells
      rw [hal] at c2
      rw [har] at c3
      exact ⟨by rw [h.b1, hab], h.b2, h.b3, c0, c2, c3, hide h⟩
    have onl : ∀ W1 W2, CEnv W1 t b LB LY LO l → Only D W1 W2 → CEnv W2 t b LB LY LO l := fun W1 W2 h ho => h.only ho hD hDb d1 d2 d3
    have hEd := hE.below (drew_below W)
    have hJd := hJB c W _ hJ (drew_below W)
    simp only [hal] at ihl
    simp only [har] at ihr
    rw [node_ptr]
    have hfind := find_any b nk W.drew hEd.other
    rw [hab] at hfind
    have hq := key _ hEd
    by_cases hf : b.find nk = .node p nk nv sl sr
    · have htp : T.tops b (.node p nk nv sl sr) = [.node p nk nv sl sr] := by rw [T.tops, if_pos hf]
      rw [htp] at hxs ⊢
      have x1 : xs[c]? = some (.node p nk nv sl sr) := hxs 0 _ rfl
      rw [hf, node_ptr] at hfind
      have heq := fun W' => eql_same (.node p nk nv sl sr) W'
      simp only [node_ptr] at heq
      have HB := hide x1
      clear hJ hxs x1 hE htp hf
      refine (callsIn_wide (n := 5)).1 (callsIn_of_wp Try.func62 rfl trivial ?_ rfl)
      simp only [Try.ntmps62, List.size_toArray, List.length_cons, List.length_nil, Nat.reduceAdd, Nat.reduceSub, Array.replicate_succ, Array.replicate_zero, List.push_toArray, List.append_toArray, List.nil_append, List.cons_append]
      gi_wp2
      refine in_region (S := (fun w' => w'.cell? ⟨LB, 0, none⟩ = some (.pointer ab) ∧ w'.cell? ⟨LY, 0, none⟩ = some (.func (.yield l) #[] #[]) ∧ w'.cell? ⟨LO, 0, none⟩ = some (.func (.func 62) #[] #[.pointer (some ⟨LB, 0, none⟩), .pointer (some ⟨LY, 0, none⟩), .pointer (some ⟨LO, 0, none⟩)]) ∧ w'.cell? ⟨p, 0, none⟩ = some (.string nk) ∧ w'.cell? ⟨p, 2, none⟩ = some (.pointer al) ∧ w'.cell? ⟨p, 3, none⟩ = some (.pointer ar) ∧ Hid (CEnv w' t b LB LY LO l))) (by kernel_rfl) hq (fun hHeld => ?_)
      try dsimp only at hHeld
      refine in_take (i := 0) (d := 10) (OP := Op.load 24 (Operand.tmp 1)) (T := 24) (v := ?vzz1) rfl rfl rfl rfl (by kernel_rfl) (by kernel_rfl) (by kernel_rfl) (fun _ _ _ h => h) (by rfl) ?hzz1 hHeld ?rzz1
      case hzz1 => (intro w' hSw; (try dsimp only at hSw); go_simp <;> with_reducible rfl)
      try simp only [Act.put, List.setIfInBounds_toArray, List.set_cons_zero, List.set_cons_succ]
      refine in_take (i := 1) (d := 11) (OP := Op.move (Operand.tmp 0)) (T := 24) (v := ?vzz2) rfl rfl rfl rfl (by kernel_rfl) (by kernel_rfl) (by kernel_rfl) (fun _ _ _ h => h) (by rfl) ?hzz2 hHeld ?rzz2
      case hzz2 => (intro w' hSw; (try dsimp only at hSw); go_simp <;> with_reducible rfl)
      try simp only [Act.put, List.setIfInBounds_toArray, List.set_cons_zero, List.set_cons_succ]
      refine in_take (i := 2) (d := 12) (OP := Op.nilCheck (Operand.tmp 11)) (T := 0) (v := ?vzz3) rfl rfl rfl rfl (by kernel_rfl) (by kernel_rfl) (by kernel_rfl) (fun _ _ _ h => h) (by rfl) ?hzz3 hHeld ?rzz3
      case hzz3 => (intro w' hSw; (try dsimp only at hSw); go_simp <;> with_reducible rfl)
      try simp only [Act.put, List.setIfInBounds_toArray, List.set_cons_zero, List.set_cons_succ]
      refine in_take (i := 3) (d := 13) (OP := Op.fieldAddr 82 (Operand.tmp 12) 0) (T := 0) (v := ?vzz4) rfl rfl rfl rfl (by kernel_rfl) (by kernel_rfl) (by kernel_rfl) (fun _ _ _ h => h) (by rfl) ?hzz4 hHeld ?rzz4
      case hzz4 => (intro w' hSw; (try dsimp only at hSw); go_simp <;> with_reducible rfl)
      try simp only [Act.put, List.setIfInBounds_toArray, List.set_cons_zero, List.set_cons_succ]
      refine in_take (i := 4) (d := 14) (OP := Op.load 9 (Operand.tmp 13)) (T := 9) (v := ?vzz5) rfl rfl rfl rfl (by kernel_rfl) (by kernel_rfl) (by kernel_rfl) (fun _ _ _ h => h) (by rfl) ?hzz5 hHeld ?rzz5
      case hzz5 => (intro w' hSw; (try dsimp only at hSw); go_simp <;> with_reducible rfl)
      try simp only [Act.put, List.setIfInBounds_toArray, List.set_cons_zero, List.set_cons_succ]
      refine in_take (i := 6) (d := 16) (OP := Op.move (Operand.tmp 0)) (T := 24) (v := ?vzz6) rfl rfl rfl rfl (by kernel_rfl) (by kernel_rfl) (by kernel_rfl) (fun _ _ _ h => h) (by rfl) ?hzz6 hHeld ?rzz6
      case hzz6 => (intro w' hSw; (try dsimp only at hSw); go_simp <;> with_reducible rfl)
      try simp only [Act.put, List.setIfInBounds_toArray, List.set_cons_zero, List.set_cons_succ]
      refine in_call (i := 5) (d := 15) (OP := Op.call { callee := Callee.value (Operand.func 48), args := #[Operand.tmp 10, Operand.tmp 14], argTypes := #[24, 9] }) (T := 24) (g := 48) (args := #[.pointer ab, .string nk]) rfl rfl rfl rfl (by kernel_rfl) (by rfl) (by go_simp) ?_
      refine (hfind).mono ?_
      rintro e W2 ⟨rfl, hb2⟩
      have hE2 := hEd.below hb2
      have hJ2 := hJB c _ _ hJd hb2
      have hq2 := key _ hE2
      have hO2 : Only D W W2 := (below_only (D := D) (drew_below W)).next (below_only hb2)
      refine ⟨_, rfl, hq2, ?_⟩
      replace hHeld := hq2
      try simp only [Act.put, List.setIfInBounds_toArray, List.set_cons_zero, List.set_cons_succ]
      refine in_take (i := 7) (d := 17) (OP := Op.binOp BinOp.eql 24 (Operand.tmp 15) (Operand.tmp 16) 24) (T := 4) (v := .bool true) rfl rfl rfl rfl (by kernel_rfl) (by kernel_rfl) (by kernel_rfl) (fun _ _ _ h => h) (by rfl) (fun w' _ => exec_eql rfl rfl (heq w')) hHeld ?_
      try simp only [Act.put, List.setIfInBounds_toArray, List.set_cons_zero, List.set_cons_succ]
      refine in_take (i := 8) (d := 9) (OP := Op.assign (Operand.tmp 17)) (T := 4) (v := ?vzz8) rfl rfl rfl rfl (by kernel_rfl) (by kernel_rfl) (by kernel_rfl) (fun _ _ _ h => h) (by rfl) ?hzz8 hHeld ?rzz8
      case hzz8 => (intro w' hSw; (try dsimp only at hSw); go_simp <;> with_reducible rfl)
      try simp only [Act.put, List.setIfInBounds_toArray, List.set_cons_zero, List.set_cons_succ]
      refine in_done (by kernel_rfl) ?_
      obtain ⟨fn, ts, asg, bd, hy, hR⟩ := hY c _ W2 HB.out hJ2 hE2
      rw [node_ptr] at hy
      have q2 := hq2.2.1
      gi_wp2
      refine hR.mono ?_
      intro e W3 hw3
      have hO3 : Only D W W3 := hO2.next hw3.1
      obtain ⟨bv, rfl⟩ : ∃ bv, e = .returned (.bool bv) := by rcases hw3.2 with h | h <;> exact ⟨_, h.1⟩
      gi_wp2
      refine bodyPost_ret (results_tmp rfl _ _ _) rfl ?_
      exact ⟨hO3, hw3.2⟩
    · have htp : T.tops b (.node p nk nv sl sr) = T.tops b sl ++ T.tops b sr := by rw [T.tops, if_neg hf]
      rw [htp] at hxs ⊢
      have x1 : ∀ i x, (T.tops b sl)[i]? = some x → xs[c + i]? = some x := fun i x h => hxs i x (by rw [List.getElem?_append_left (List.getElem?_eq_some_iff.1 h).1]; exact h)
      have x2 : ∀ i x, (T.tops b sr)[i]? = some x → xs[c + (T.tops b sl).length + i]? = some x := fun i x h => by
        have := hxs ((T.tops b sl).length + i) x (by rw [List.getElem?_append_right (by omega), Nat.add_sub_cancel_left]; exact h)
        rw [← this]; congr 1; omega
      have hlen : c + (T.tops b sl ++ T.tops b sr).length = c + (T.tops b sl).length + (T.tops b sr).length := by simp; omega
      rw [hlen]
      have hne : ∀ W', CEnv W' t b LB LY LO l → (binOp .eql 24 (b.find nk).ptr (T.node p nk nv sl sr).ptr).run Try.prog W' = .ok (.bool false) W' := fun W' h => eql_other (In.find nk h.other) (In.sub hsub h.tree) hf
      obtain ⟨af, haf⟩ := (b.find nk).ptr_shape
      rw [haf] at hfind
      simp only [node_ptr, haf] at hne
      have HB := hide (And.intro x1 x2)
      clear hJ hxs x1 x2 hE htp hf hlen
      refine (callsIn_wide (n := 5)).1 (callsIn_of_wp Try.func62 rfl trivial ?_ rfl)
      simp only [Try.ntmps62, List.size_toArray, List.length_cons, List.length_nil, Nat.reduceAdd, Nat.reduceSub, Array.replicate_succ, Array.replicate_zero, List.push_toArray, List.append_toArray, List.nil_append, List.cons_append]
      gi_wp2
      refine in_region (S := (fun w' => w'.cell? ⟨LB, 0, none⟩ = some (.pointer ab) ∧ w'.cell? ⟨LY, 0, none⟩ = some (.func (.yield l) #[] #[]) ∧ w'.cell? ⟨LO, 0, none⟩ = some (.func (.func 62) #[] #[.pointer (some ⟨LB, 0, none⟩), .pointer (some ⟨LY, 0, none⟩), .pointer (some ⟨LO, 0, none⟩)]) ∧ w'.cell? ⟨p, 0, none⟩ = some (.string nk) ∧ w'.cell? ⟨p, 2, none⟩ = some (.pointer al) ∧ w'.cell? ⟨p, 3, none⟩ = some (.pointer ar) ∧ Hid (CEnv w' t b LB LY LO l))) (by kernel_rfl) hq (fun hHeld => ?_)
      try dsimp only at hHeld
      refine in_take (i := 0) (d := 10) (OP := Op.load 24 (Operand.tmp 1)) (T := 24) (v := ?vzz9) rfl rfl rfl rfl (by kernel_rfl) (by kernel_rfl) (by kernel_rfl) (fun _ _ _ h => h) (by rfl) ?hzz9 hHeld ?rzz9
      case hzz9 => (intro w' hSw; (try dsimp only at hSw); go_simp <;> with_reducible rfl)
      try simp only [Act.put, List.setIfInBounds_toArray, List.set_cons_zero, List.set_cons_succ]
      refine in_take (i := 1) (d := 11) (OP := Op.move (Operand.tmp 0)) (T := 24) (v := ?vzz10) rfl rfl rfl rfl (by kernel_rfl) (by kernel_rfl) (by kernel_rfl) (fun _ _ _ h => h) (by rfl) ?hzz10 hHeld ?rzz10
      case hzz10 => (intro w' hSw; (try dsimp only at hSw); go_simp <;> with_reducible rfl)
      try simp only [Act.put, List.setIfInBounds_toArray, List.set_cons_zero, List.set_cons_succ]
      refine in_take (i := 2) (d := 12) (OP := Op.nilCheck (Operand.tmp 11)) (T := 0) (v := ?vzz11) rfl rfl rfl rfl (by kernel_rfl) (by kernel_rfl) (by kernel_rfl) (fun _ _ _ h => h) (by rfl) ?hzz11 hHeld ?rzz11
      case hzz11 => (intro w' hSw; (try dsimp only at hSw); go_simp <;> with_reducible rfl)
      try simp only [Act.put, List.setIfInBounds_toArray, List.set_cons_zero, List.set_cons_succ]
      refine in_take (i := 3) (d := 13) (OP := Op.fieldAddr 82 (Operand.tmp 12) 0) (T := 0) (v := ?vzz12) rfl rfl rfl rfl (by kernel_rfl) (by kernel_rfl) (by kernel_rfl) (fun _ _ _ h => h) (by rfl) ?hzz12 hHeld ?rzz12
      case hzz12 => (intro w' hSw; (try dsimp only at hSw); go_simp <;> with_reducible rfl)
      try simp only [Act.put, List.setIfInBounds_toArray, List.set_cons_zero, List.set_cons_succ]
      refine in_take (i := 4) (d := 14) (OP := Op.load 9 (Operand.tmp 13)) (T := 9) (v := ?vzz13) rfl rfl rfl rfl (by kernel_rfl) (by kernel_rfl) (by kernel_rfl) (fun _ _ _ h => h) (by rfl) ?hzz13 hHeld ?rzz13
      case hzz13 => (intro w' hSw; (try dsimp only at hSw); go_simp <;> with_reducible rfl)
      try simp only [Act.put, List.setIfInBounds_toArray, List.set_cons_zero, List.set_cons_succ]
      refine in_take (i := 6) (d := 16) (OP := Op.move (Operand.tmp 0)) (T := 24) (v := ?vzz14) rfl rfl rfl rfl (by kernel_rfl) (by kernel_rfl) (by kernel_rfl) (fun _ _ _ h => h) (by rfl) ?hzz14 hHeld ?rzz14
      case hzz14 => (intro w' hSw; (try dsimp only at hSw); go_simp <;> with_reducible rfl)
      try simp only [Act.put, List.setIfInBounds_toArray, List.set_cons_zero, List.set_cons_succ]
      refine in_call (i := 5) (d := 15) (OP := Op.call { callee := Callee.value (Operand.func 48), args := #[Operand.tmp 10, Operand.tmp 14], argTypes := #[24, 9] }) (T := 24) (g := 48) (args := #[.pointer ab, .string nk]) rfl rfl rfl rfl (by kernel_rfl) (by rfl) (by go_simp) ?_
      refine (hfind).mono ?_
      rintro e W2 ⟨rfl, hb2⟩
      have hE2 := hEd.below hb2
      have hJ2 := hJB c _ _ hJd hb2
      have hq2 := key _ hE2
      have hO2 : Only D W W2 := (below_only (D := D) (drew_below W)).next (below_only hb2)
      refine ⟨_, rfl, hq2, ?_⟩
      replace hHeld := hq2
      try simp only [Act.put, List.setIfInBounds_toArray, List.set_cons_zero, List.set_cons_succ]
      refine in_take (i := 7) (d := 17) (OP := Op.binOp BinOp.eql 24 (Operand.tmp 15) (Operand.tmp 16) 24) (T := 4) (v := .bool false) rfl rfl rfl rfl (by kernel_rfl) (by kernel_rfl) (by kernel_rfl) (fun _ _ _ h => h) (by rfl) (fun w' hSw => exec_eql rfl rfl (hne w' hSw.2.2.2.2.2.2.out)) hHeld ?_
      try simp only [Act.put, List.setIfInBounds_toArray, List.set_cons_zero, List.set_cons_succ]
      refine in_take (i := 8) (d := 9) (OP := Op.assign (Operand.tmp 17)) (T := 4) (v := ?vzz16) rfl rfl rfl rfl (by kernel_rfl) (by kernel_rfl) (by kernel_rfl) (fun _ _ _ h => h) (by rfl) ?hzz16 hHeld ?rzz16
      case hzz16 => (intro w' hSw; (try dsimp only at hSw); go_simp <;> with_reducible rfl)
      try simp only [Act.put, List.setIfInBounds_toArray, List.set_cons_zero, List.set_cons_succ]
      refine in_done (by kernel_rfl) ?_
      gi_wp2
      have hE3 := hE2.below (drew_below W2)
      have hJ3 := hJB c _ _ hJ2 (drew_below W2)
      have hq3 := key _ hE3
      have hO3 : Only D W W2.drew := hO2.next (below_only (drew_below W2))
      refine in_region (S := (fun w' => w'.cell? ⟨LB, 0, none⟩ = some (.pointer ab) ∧ w'.cell? ⟨LY, 0, none⟩ = some (.func (.yield l) #[] #[]) ∧ w'.cell? ⟨LO, 0, none⟩ = some (.func (.func 62) #[] #[.pointer (some ⟨LB, 0, none⟩), .pointer (some ⟨LY, 0, none⟩), .pointer (some ⟨LO, 0, none⟩)]) ∧ w'.cell? ⟨p, 0, none⟩ = some (.string nk) ∧ w'.cell? ⟨p, 2, none⟩ = some (.pointer al) ∧ w'.cell? ⟨p, 3, none⟩ = some (.pointer ar) ∧ Hid (CEnv w' t b LB LY LO l))) (by kernel_rfl) hq3 (fun hHeld => ?_)
      try dsimp only at hHeld
      refine in_take (i := 0) (d := 21) (OP := Op.load 100 (Operand.tmp 3)) (T := 100) (v := ?vzz17) rfl rfl rfl rfl (by kernel_rfl) (by kernel_rfl) (by kernel_rfl) (fun _ _ _ h => h) (by rfl) ?hzz17 hHeld ?rzz17
      case hzz17 => (intro w' hSw; (try dsimp only at hSw); go_simp <;> with_reducible rfl)
      try simp only [Act.put, List.setIfInBounds_toArray, List.set_cons_zero, List.set_cons_succ]
      refine in_take (i := 1) (d := 22) (OP := Op.move (Operand.tmp 0)) (T := 24) (v := ?vzz18) rfl rfl rfl rfl (by kernel_rfl) (by kernel_rfl) (by kernel_rfl) (fun _ _ _ h => h) (by rfl) ?hzz18 hHeld ?rzz18
      case hzz18 => (intro w' hSw; (try dsimp only at hSw); go_simp <;> with_reducible rfl)
      try simp only [Act.put, List.setIfInBounds_toArray, List.set_cons_zero, List.set_cons_succ]
      refine in_take (i := 2) (d := 23) (OP := Op.nilCheck (Operand.tmp 22)) (T := 0) (v := ?vzz19) rfl rfl rfl rfl (by kernel_rfl) (by kernel_rfl) (by kernel_rfl) (fun _ _ _ h => h) (by rfl) ?hzz19 hHeld ?rzz19
      case hzz19 => (intro w' hSw; (try dsimp only at hSw); go_simp <;> with_reducible rfl)
      try simp only [Act.put, List.setIfInBounds_toArray, List.set_cons_zero, List.set_cons_succ]
      refine in_take (i := 3) (d := 24) (OP := Op.fieldAddr 82 (Operand.tmp 23) 2) (T := 0) (v := ?vzz20) rfl rfl rfl rfl (by kernel_rfl) (by kernel_rfl) (by kernel_rfl) (fun _ _ _ h => h) (by rfl) ?hzz20 hHeld ?rzz20
      case hzz20 => (intro w' hSw; (try dsimp only at hSw); go_simp <;> with_reducible rfl)
      try simp only [Act.put, List.setIfInBounds_toArray, List.set_cons_zero, List.set_cons_succ]
      refine in_take (i := 4) (d := 25) (OP := Op.load 24 (Operand.tmp 24)) (T := 24) (v := ?vzz21) rfl rfl rfl rfl (by kernel_rfl) (by kernel_rfl) (by kernel_rfl) (fun _ _ _ h => h) (by rfl) ?hzz21 hHeld ?rzz21
      case hzz21 => (intro w' hSw; (try dsimp only at hSw); go_simp <;> with_reducible rfl)
      try simp only [Act.put, List.setIfInBounds_toArray, List.set_cons_zero, List.set_cons_succ]
      refine in_call (i := 5) (d := 26) (OP := Op.call { callee := Callee.value (Operand.tmp 21), args := #[Operand.tmp 25], argTypes := #[24] }) (T := 4) (g := 62) (args := #[.pointer al, .pointer (some ⟨LB, 0, none⟩), .pointer (some ⟨LY, 0, none⟩), .pointer (some ⟨LO, 0, none⟩)]) rfl rfl rfl rfl (by kernel_rfl) (by rfl) (by go_simp) ?_
      refine (ihl c W2.drew (.inl hsl) hE3 hJ3 HB.out.1).mono ?_
      intro e W4 hw4
      have hE4 := onl _ _ hE3 hw4.1
      have hq4 := key _ hE4
      have hO4 : Only D W W4 := hO3.next hw4.1
      rcases hw4.2 with ⟨rfl, hJ4⟩ | ⟨rfl, hJx4⟩
      · refine ⟨_, rfl, hq4, ?_⟩
        replace hHeld := hq4
        try simp only [Act.put, List.setIfInBounds_toArray, List.set_cons_zero, List.set_cons_succ]
        refine in_take (i := 6) (d := 27) (OP := Op.move (Operand.tmp 26)) (T := 4) (v := ?vzz25) rfl rfl rfl rfl (by kernel_rfl) (by kernel_rfl) (by kernel_rfl) (fun _ _ _ h => h) (by rfl) ?hzz25 hHeld ?rzz25
        case hzz25 => (intro w' hSw; (try dsimp only at hSw); go_simp <;> with_reducible rfl)
        try simp only [Act.put, List.setIfInBounds_toArray, List.set_cons_zero, List.set_cons_succ]
        refine in_take (i := 7) (d := 28) (OP := Op.load 100 (Operand.tmp 3)) (T := 100) (v := ?vzz26) rfl rfl rfl rfl (by kernel_rfl) (by kernel_rfl) (by kernel_rfl) (fun _ _ _ h => h) (by rfl) ?hzz26 hHeld ?rzz26
        case hzz26 => (intro w' hSw; (try dsimp only at hSw); go_simp <;> with_reducible rfl)
        try simp only [Act.put, List.setIfInBounds_toArray, List.set_cons_zero, List.set_cons_succ]
        refine in_take (i := 8) (d := 29) (OP := Op.move (Operand.tmp 0)) (T := 24) (v := ?vzz27) rfl rfl rfl rfl (by kernel_rfl) (by kernel_rfl) (by kernel_rfl) (fun _ _ _ h => h) (by rfl) ?hzz27 hHeld ?rzz27
        case hzz27 => (intro w' hSw; (try dsimp only at hSw); go_simp <;> with_reducible rfl)
        try simp only [Act.put, List.setIfInBounds_toArray, List.set_cons_zero, List.set_cons_succ]
        refine in_take (i := 9) (d := 30) (OP := Op.nilCheck (Operand.tmp 29)) (T := 0) (v := ?vzz28) rfl rfl rfl rfl (by kernel_rfl) (by kernel_rfl) (by kernel_rfl) (fun _ _ _ h => h) (by rfl) ?hzz28 hHeld ?rzz28
        case hzz28 => (intro w' hSw; (try dsimp only at hSw); go_simp <;> with_reducible rfl)
        try simp only [Act.put, List.setIfInBounds_toArray, List.set_cons_zero, List.set_cons_succ]
        refine in_take (i := 10) (d := 31) (OP := Op.fieldAddr 82 (Operand.tmp 30) 3) (T := 0) (v := ?vzz29) rfl rfl rfl rfl (by kernel_rfl) (by kernel_rfl) (by kernel_rfl) (fun _ _ _ h => h) (by rfl) ?hzz29 hHeld ?rzz29
        case hzz29 => (intro w' hSw; (try dsimp only at hSw); go_simp <;> with_reducible rfl)
        try simp only [Act.put, List.setIfInBounds_toArray, List.set_cons_zero, List.set_cons_succ]
        refine in_take (i := 11) (d := 32) (OP := Op.load 24 (Operand.tmp 31)) (T := 24) (v := ?vzz30) rfl rfl rfl rfl (by kernel_rfl) (by kernel_rfl) (by kernel_rfl) (fun _ _ _ h => h) (by rfl) ?hzz30 hHeld ?rzz30
        case hzz30 => (intro w' hSw; (try dsimp only at hSw); go_simp <;> with_reducible rfl)
        try simp only [Act.put, List.setIfInBounds_toArray, List.set_cons_zero, List.set_cons_succ]
        refine in_call (i := 12) (d := 33) (OP := Op.call { callee := Callee.value (Operand.tmp 28), args := #[Operand.tmp 32], argTypes := #[24] }) (T := 4) (g := 62) (args := #[.pointer ar, .pointer (some ⟨LB, 0, none⟩), .pointer (some ⟨LY, 0, none⟩), .pointer (some ⟨LO, 0, none⟩)]) rfl rfl rfl rfl (by kernel_rfl) (by rfl) (by go_simp) ?_
        refine (ihr _ W4 (.inl hsr) hE4 hJ4 HB.out.2).mono ?_
        intro e W5 hw5
        have hE5 := onl _ _ hE4 hw5.1
        have hq5 := key _ hE5
        have hO5 : Only D W W5 := hO4.next hw5.1
        obtain ⟨bv, rfl⟩ : ∃ bv, e = .returned (.bool bv) := by rcases hw5.2 with h | h <;> exact ⟨_, h.1⟩
        refine ⟨_, rfl, hq5, ?_⟩
        replace hHeld := hq5
        try simp only [Act.put, List.setIfInBounds_toArray, List.set_cons_zero, List.set_cons_succ]
        refine in_take (i := 13) (d := 34) (OP := Op.pick (Operand.tmp 27) (Operand.tmp 33) (Operand.const (Value.bool false))) (T := 4) (v := ?vzz31) rfl rfl rfl rfl (by kernel_rfl) (by kernel_rfl) (by kernel_rfl) (fun _ _ _ h => h) (by rfl) ?hzz31 hHeld ?rzz31
        case hzz31 => (intro w' hSw; (try dsimp only at hSw); go_simp <;> with_reducible rfl)
        try simp only [Act.put, List.setIfInBounds_toArray, List.set_cons_zero, List.set_cons_succ]
        refine in_take (i := 14) (d := 5) (OP := Op.assign (Operand.tmp 34)) (T := 4) (v := ?vzz32) rfl rfl rfl rfl (by kernel_rfl) (by kernel_rfl) (by kernel_rfl) (fun _ _ _ h => h) (by rfl) ?hzz32 hHeld ?rzz32
        case hzz32 => (intro w' hSw; (try dsimp only at hSw); go_simp <;> with_reducible rfl)
        try simp only [Act.put, List.setIfInBounds_toArray, List.set_cons_zero, List.set_cons_succ]
        refine in_done (by kernel_rfl) ?_
        gi_wp2
        refine bodyPost_ret (results_tmp rfl _ _ _) rfl ?_
        exact ⟨hO5, hw5.2⟩
      · refine ⟨_, rfl, hq4, ?_⟩
        replace hHeld := hq4
        try simp only [Act.put, List.setIfInBounds_toArray, List.set_cons_zero, List.set_cons_succ]
        refine in_take (i := 6) (d := 27) (OP := Op.move (Operand.tmp 26)) (T := 4) (v := ?vzz22) rfl rfl rfl rfl (by kernel_rfl) (by kernel_rfl) (by kernel_rfl) (fun _ _ _ h => h) (by rfl) ?hzz22 hHeld ?rzz22
        case hzz22 => (intro w' hSw; (try dsimp only at hSw); go_simp <;> with_reducible rfl)
        try simp only [Act.put, List.setIfInBounds_toArray, List.set_cons_zero, List.set_cons_succ]
        refine in_pass (i := 7) (d := 28) rfl rfl (by kernel_rfl) (by kernel_rfl) (by kernel_rfl) (fun _ _ _ h => h) (by rfl) hHeld ?_
        try simp only [Act.put, List.setIfInBounds_toArray, List.set_cons_zero, List.set_cons_succ]
        refine in_pass (i := 8) (d := 29) rfl rfl (by kernel_rfl) (by kernel_rfl) (by kernel_rfl) (fun _ _ _ h => h) (by rfl) hHeld ?_
        try simp only [Act.put, List.setIfInBounds_toArray, List.set_cons_zero, List.set_cons_succ]
        refine in_pass (i := 9) (d := 30) rfl rfl (by kernel_rfl) (by kernel_rfl) (by kernel_rfl) (fun _ _ _ h => h) (by rfl) hHeld ?_
        try simp only [Act.put, List.setIfInBounds_toArray, List.set_cons_zero, List.set_cons_succ]
        refine in_pass (i := 10) (d := 31) rfl rfl (by kernel_rfl) (by kernel_rfl) (by kernel_rfl) (fun _ _ _ h => h) (by rfl) hHeld ?_
        try simp only [Act.put, List.setIfInBounds_toArray, List.set_cons_zero, List.set_cons_succ]
        refine in_pass (i := 11) (d := 32) rfl rfl (by kernel_rfl) (by kernel_rfl) (by kernel_rfl) (fun _ _ _ h => h) (by rfl) hHeld ?_
        try simp only [Act.put, List.setIfInBounds_toArray, List.set_cons_zero, List.set_cons_succ]
        refine in_pass (i := 12) (d := 33) rfl rfl (by kernel_rfl) (by kernel_rfl) (by kernel_rfl) (fun _ _ _ h => h) (by rfl) hHeld ?_
        try simp only [Act.put, List.setIfInBounds_toArray, List.set_cons_zero, List.set_cons_succ]
        refine in_take (i := 13) (d := 34) (OP := Op.pick (Operand.tmp 27) (Operand.tmp 33) (Operand.const (Value.bool false))) (T := 4) (v := ?vzz23) rfl rfl rfl rfl (by kernel_rfl) (by kernel_rfl) (by kernel_rfl) (fun _ _ _ h => h) (by rfl) ?hzz23 hHeld ?rzz23
        case hzz23 => (intro w' hSw; (try dsimp only at hSw); go_simp <;> with_reducible rfl)
        try simp only [Act.put, List.setIfInBounds_toArray, List.set_cons_zero, List.set_cons_succ]
        refine in_take (i := 14) (d := 5) (OP := Op.assign (Operand.tmp 34)) (T := 4) (v := ?vzz24) rfl rfl rfl rfl (by kernel_rfl) (by kernel_rfl) (by kernel_rfl) (fun _ _ _ h => h) (by rfl) ?hzz24 hHeld ?rzz24
        case hzz24 => (intro w' hSw; (try dsimp only at hSw); go_simp <;> with_reducible rfl)
        try simp only [Act.put, List.setIfInBounds_toArray, List.set_cons_zero, List.set_cons_succ]
        refine in_done (by kernel_rfl) ?_
        gi_wp2
        refine bodyPost_ret (results_tmp rfl _ _ _) rfl ?_
        exact ⟨hO4, .inr ⟨rfl, hJx4⟩⟩

def KC (t b : T) (LB LA : Nat) : Nat → Prop := fun j => j = LB ∨ j = LA ∨ t.blk j ∨ b.blk j
set_option maxHeartbeats 2000000 in
set_option maxRecDepth 100000 in
theorem iter_common (t b : T) (LB LA : Nat) (w : World) (ht : In w t) (hb0 : In w b) (hB : w.cell? ⟨LB, 0, none⟩ = some b.ptr) (hA : w.cell? ⟨LA, 0, none⟩ = some t.ptr) :
    Iter 61 #[.pointer (some ⟨LB, 0, none⟩), .pointer (some ⟨LA, 0, none⟩)] (T.tops b t) (fun x => #[x.ptr]) (KC t b LB LA) w := by
  intro l D J Jx W hS hs hDK hD0 hD1 hJB hY hJ
  have hK : ∀ j, KC t b LB LA j → j < w.heap.size := fun j hj => by
    rcases hj with rfl | rfl | hj | hj
    · exact World.block_lt_of_cell? w _ hB
    · exact World.block_lt_of_cell? w _ hA
    · exact ht.blk_lt hj
    · exact hb0.blk_lt hj
  have hcA := hS.cell (L := LA) (.inr (.inl rfl)) hA
  obtain ⟨W1, hW1⟩ : ∃ W1, W1 = (W.alloc (.cells #[.func (.yield l) #[] #[]] 100)).alloc (.cells #[.func (.func 62) #[] #[.pointer (some ⟨LB, 0, none⟩), .pointer (some ⟨W.heap.size, 0, none⟩), .pointer (some ⟨W.heap.size + 1, 0, none⟩)]] 100) := ⟨_, rfl⟩
  have hb : Below W.heap.size W W1 := by rw [hW1]; exact ((Below.refl _ W).alloc (Nat.le_refl _) _).alloc (by simp) _
  have hsz : W1.heap.size = W.heap.size + 2 := by rw [hW1]; simp
  obtain ⟨n0, n1⟩ := new2 W (.cells #[.func (.yield l) #[] #[]] 100) (.cells #[.func (.func 62) #[] #[.pointer (some ⟨LB, 0, none⟩), .pointer (some ⟨W.heap.size, 0, none⟩), .pointer (some ⟨W.heap.size + 1, 0, none⟩)]] 100)
  rw [← hW1] at n0 n1
  have hS1 : Same (KC t b LB LA) w W1 := hS.below hK hs hb
  have hE : CEnv W1 t b LB W.heap.size (W.heap.size + 1) l := ⟨In.same ht (fun j hj => hS1 j (.inr (.inr (.inl hj)))), In.same hb0 (fun j hj => hS1 j (.inr (.inr (.inr hj)))), hS1.cell (.inl rfl) hB, by rw [cell_of_row _ _ 0 _ 100 (0, 0) n0]; rfl, by rw [cell_of_row _ _ 0 _ 100 (0, 0) n1]; rfl⟩
  have ho := over_common t b LB W.heap.size (W.heap.size + 1) l (T.tops b t) D (Keeps J (KC t b LB LA) w W) Jx (fun j d e => hDK j d (.inr (.inr (.inl e)))) (fun j d e => hDK j d (.inr (.inr (.inr e)))) (fun d => hDK _ d (.inl rfl)) hD0 hD1
    (fun c A B hj hb' => ⟨hJB c A B hj.1 hb', hj.2.1.below hK (by have := hj.2.2; omega) hb', Nat.le_trans hj.2.2 hb'.size⟩)
    (fun c x A hx hj _ => (hY c x A hx hj.1 hj.2.1 hj.2.2).mono (fun e B hw => hw.keeps hj.2.1 hj.2.2 hK (by have := hj.2.2; omega) hDK)) t 0 W1 (.inl .here) hE ⟨hJB 0 W W1 hJ hb, hS1, by omega⟩ (fun i x h => by rw [Nat.zero_add]; exact h)
  have HO := hide (show Calls Try.prog 62 _ W1 (fun e W' => ∃ b', e = .returned (.bool b') ∧ (J (T.tops b t).length W' ∨ Jx W')) from ho.mono (fun e W' h => by
    rcases h.2 with ⟨rfl, hj⟩ | ⟨rfl, hj⟩
    · exact ⟨_, rfl, .inl (by rw [Nat.zero_add] at hj; exact hj.1)⟩
    · exact ⟨_, rfl, .inr hj⟩))
  obtain ⟨a, ha⟩ := t.ptr_shape
  rw [ha] at hcA HO
  have hcA2 : ∀ o1 o2, ((W.alloc o1).alloc o2).cell? ⟨LA, 0, none⟩ = some (.pointer a) := fun o1 o2 => cell_stays hcA (((Below.refl _ W).alloc (Nat.le_refl _) _).alloc (by simp) _)
  have ho2 := HO.out
  rw [hW1] at ho2
  clear hE ho hS1 n0 n1 hsz hb hK hY hJB hJ hD0 hD1 hDK hS hs ha ht hA hB hb0 HO hW1
  go_enter Try.func61, Try.ntmps61
  go_wp2_with (go_at_call 62; refine ho2.mono ?_; rintro e W' ⟨b', rfl, hj⟩)
  go_end0
  exact ⟨⟨_, rfl⟩, hj⟩
theorem common_any (t b : T) (w : World) : Calls Try.prog 43 #[t.ptr, b.ptr] w fun e w' => e = .returned (.func (.func 61) #[] #[.pointer (some ⟨w.heap.size + 1, 0, none⟩), .pointer (some ⟨w.heap.size, 0, none⟩)]) ∧ w' = (w.alloc (.cells #[t.ptr] 24)).alloc (.cells #[b.ptr] 24) := by
  obtain ⟨a, ha⟩ := t.ptr_shape
  obtain ⟨c, hc⟩ := b.ptr_shape
  rw [ha, hc]
  go_enter Try.func43, Try.ntmps43
  go_wp2
  go_ret
  exact ⟨rfl, rfl⟩
end Go.Proofs.Ytleaaoknjflgoaa
