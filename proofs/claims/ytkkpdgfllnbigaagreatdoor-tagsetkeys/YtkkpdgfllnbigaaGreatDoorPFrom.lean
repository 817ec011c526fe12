/-
  KEYS GONE OVER: the closure that From makes, and the one within it that calls itself; whatever the rounds do.
-/
import Derived.Test.YtkkpdgfllnbigaaGreatDoorMg5
namespace Go.Proofs.YtkkpdgfllnbigaaGreatDoor.Pm
open Go.RowKit Go.Shelf
set_option linter.unusedSimpArgs false
attribute [local go_sem] Oper.semAt_some

/-- The keys from one on, as the closure comes to them. -/
def T.from (k : ByteArray) : T → List (ByteArray × ByteArray)
  | .nil => []
  | .node _ nk nv l r => if cmpB nk k = -1 then r.from k else l.from k ++ (nk, nv) :: r.from k
/-- The blocks of a tree's nodes. -/
def T.blk (t : T) (j : Nat) : Prop := ∃ k v l r, Sub (.node j k v l r) t
theorem In.over {D : Nat → Prop} {w w' : World} {t : T} (hi : In w t) (h : Only D w w') (hD : ∀ j, D j → ¬ t.blk j) : In w' t := In.only h hi (fun p _ hd => hD p hd)
theorem In.same {w w' : World} : ∀ {t : T}, In w t → (∀ j, t.blk j → w'.heap[j]? = w.heap[j]?) → In w' t
  | .nil, _, _ => trivial
  | .node p k v l r, hi, h => ⟨(h p ⟨k, v, l, r, .here⟩).trans hi.1, In.same hi.2.1 (fun j ⟨k', v', l', r', hs⟩ => h j ⟨k', v', l', r', .left hs⟩), In.same hi.2.2 (fun j ⟨k', v', l', r', hs⟩ => h j ⟨k', v', l', r', .right hs⟩)⟩
theorem In.blk_lt {w : World} {t : T} (h : In w t) {j : Nat} (hj : t.blk j) : j < w.heap.size := by
  obtain ⟨k, v, l, r, hs⟩ := hj
  exact (In.sub hs h).lt
/-- What the closure has: the tree, and its boxes. -/
structure FEnv (W : World) (t : T) (k : ByteArray) (L1 L2 L3 l : Nat) : Prop where
  tree : In W t
  b1 : W.cell? ⟨L1, 0, none⟩ = some (.string k)
  b2 : W.cell? ⟨L2, 0, none⟩ = some (.func (.func 83) #[] #[.pointer (some ⟨L1, 0, none⟩), .pointer (some ⟨L2, 0, none⟩), .pointer (some ⟨L3, 0, none⟩)])
  b3 : W.cell? ⟨L3, 0, none⟩ = some (.func (.yield l) #[] #[])
theorem FEnv.only {D : Nat → Prop} {W W' : World} {t : T} {k : ByteArray} {L1 L2 L3 l : Nat} (h : FEnv W t k L1 L2 L3 l) (ho : Only D W W') (hD : ∀ j, D j → ¬ t.blk j) (d1 : ¬ D L1) (d2 : ¬ D L2) (d3 : ¬ D L3) : FEnv W' t k L1 L2 L3 l :=
  ⟨h.tree.over ho hD, ho.cell h.b1 d1, ho.cell h.b2 d2, ho.cell h.b3 d3⟩
theorem FEnv.below {W W' : World} {t : T} {k : ByteArray} {L1 L2 L3 l : Nat} (h : FEnv W t k L1 L2 L3 l) (hb : Below W.heap.size W W') : FEnv W' t k L1 L2 L3 l :=
  ⟨In.below hb h.tree, cell_stays h.b1 hb, cell_stays h.b2 hb, cell_stays h.b3 hb⟩
/-- What a call of the closure leaves. -/
def Went (D : Nat → Prop) (J : Nat → World → Prop) (Jx : World → Prop) (W : World) (c : Nat) (e : Ending) (W' : World) : Prop := Only D W W' ∧ ((e = .returned (.bool true) ∧ J c W') ∨ (e = .returned (.bool false) ∧ Jx W'))
theorem below_only {D : Nat → Prop} {W W' : World} (h : Below W.heap.size W W') : Only D W W' := (Only.ofBelow h).mono (fun _ _ d => d.elim)

theorem drew2_below (w : World) : Below w.heap.size w w.drew.drew := (Below.refl _ w).drew.drew

set_option maxHeartbeats 4000000 in
set_option maxRecDepth 100000 in
/-- The closure that calls itself: it goes over the keys of a part. -/
theorem over_from (t : T) (k : ByteArray) (L1 L2 L3 l : Nat) (xs : List (ByteArray × ByteArray)) (D : Nat → Prop) (J : Nat → World → Prop) (Jx : World → Prop)
    (hD : ∀ j, D j → ¬ t.blk j) (d1 : ¬ D L1) (d2 : ¬ D L2) (d3 : ¬ D L3) (hJB : ∀ c W W', J c W → Below W.heap.size W W' → J c W')
    (hY : ∀ c x W, xs[c]? = some x → J c W → FEnv W t k L1 L2 L3 l → YieldAt Fence.wide 4 Tryz.prog l #[.string x.1, .string x.2] W (Went D J Jx W (c + 1))) (s : T) :
    ∀ c W, Sub s t ∨ s = .nil → FEnv W t k L1 L2 L3 l → J c W → (∀ i x, (s.from k)[i]? = some x → xs[c + i]? = some x) →
      Calls Tryz.prog 83 #[s.ptr, .pointer (some ⟨L1, 0, none⟩), .pointer (some ⟨L2, 0, none⟩), .pointer (some ⟨L3, 0, none⟩)] W (Went D J Jx W (c + (s.from k).length)) := by
  induction s with
  | nil =>
    intro c W _ _ hJ _
    have hfin : Went D J Jx W (c + (T.nil.from k).length) (.returned (.bool true)) W := ⟨Only.refl _ _, .inl ⟨rfl, hJ⟩⟩
    have HF := hide hfin
    clear hfin
    simp only [T.ptr]
    go_enter Tryz.func83, Tryz.ntmps83
    go_wp2
    go_ret
    exact HF.out
  | node p nk nv sl sr ihl ihr =>
    intro c W hsub hE hJ hxs
    have hsub : Sub (.node p nk nv sl sr) t := by
      rcases hsub with h | h
      · exact h
      · cases h
    have hsl : Sub sl t := (Sub.left .here).trans hsub
    have hsr : Sub sr t := (Sub.right .here).trans hsub
    obtain ⟨al, hal⟩ := sl.ptr_shape
    obtain ⟨ar, har⟩ := sr.ptr_shape
    have key : ∀ W', FEnv W' t k L1 L2 L3 l → W'.cell? ⟨L1, 0, none⟩ = some (.string k) ∧ W'.cell? ⟨L2, 0, none⟩ = some (.func (.func 83) #[] #[.pointer (some ⟨L1, 0, none⟩), .pointer (some ⟨L2, 0, none⟩), .pointer (some ⟨L3, 0, none⟩)]) ∧ W'.cell? ⟨L3, 0, none⟩ = some (.func (.yield l) #[] #[]) ∧ W'.cell? ⟨p, 0, none⟩ = some (.string nk) ∧ W'.cell? ⟨p, 1, none⟩ = some (.string nv) ∧ W'.cell? ⟨p, 2, none⟩ = some (.pointer al) ∧ W'.cell? ⟨p, 3, none⟩ = some (.pointer ar) := fun W' h => by
      obtain ⟨c0, c1, c2, c3, _, _⟩ := (In.sub hsub h.tree).cells
      rw [hal] at c2
      rw [har] at c3
      exact ⟨h.b1, h.b2, h.b3, c0, c1, c2, c3⟩
    have onl : ∀ W1 W2, FEnv W1 t k L1 L2 L3 l → Only D W1 W2 → FEnv W2 t k L1 L2 L3 l := fun W1 W2 h ho => h.only ho hD d1 d2 d3
    have hEd := hE.below (drew_below W)
    have hJd := hJB c W _ hJ (drew_below W)
    simp only [hal] at ihl
    simp only [har] at ihr
    rw [node_ptr]
    by_cases hlt : cmpB nk k = -1
    · have hb : Op.bytesLess nk.toList k.toList = true := by rw [less_B, hlt]; rfl
      have hfr : (T.node p nk nv sl sr).from k = sr.from k := by rw [T.from, if_pos hlt]
      rw [hfr] at hxs ⊢
      have HB := hide (And.intro hJ (And.intro hE hxs))
      clear hfr hJ hE hxs
      have hq := key _ hEd
      refine (callsIn_wide (n := 5)).1 (callsIn_of_wp Tryz.func83 rfl trivial ?_ rfl)
      simp only [Tryz.ntmps83, List.size_toArray, List.length_cons, List.length_nil, Nat.reduceAdd, Nat.reduceSub, Array.replicate_succ, Array.replicate_zero, List.push_toArray, List.append_toArray, List.nil_append, List.cons_append]
      gi_wp2
      refine in_region (S := (fun w' => w'.cell? ⟨L1, 0, none⟩ = some (.string k) ∧ w'.cell? ⟨L2, 0, none⟩ = some (.func (.func 83) #[] #[.pointer (some ⟨L1, 0, none⟩), .pointer (some ⟨L2, 0, none⟩), .pointer (some ⟨L3, 0, none⟩)]) ∧ w'.cell? ⟨L3, 0, none⟩ = some (.func (.yield l) #[] #[]) ∧ w'.cell? ⟨p, 0, none⟩ = some (.string nk) ∧ w'.cell? ⟨p, 1, none⟩ = some (.string nv) ∧ w'.cell? ⟨p, 2, none⟩ = some (.pointer al) ∧ w'.cell? ⟨p, 3, none⟩ = some (.pointer ar))) (by kernel_rfl) hq (fun hHeld => ?_)
      try dsimp only at hHeld
      refine in_take (i := 0) (d := 10) (OP := Op.move (Operand.tmp 0)) (T := 41) (v := ?v1) rfl rfl rfl rfl (by kernel_rfl) (by kernel_rfl) (by kernel_rfl) (fun _ _ _ h => h) (by rfl) ?h1 hHeld ?r1
      case h1 => (intro w' hSw; (try dsimp only at hSw); go_simp <;> with_reducible rfl)
      try simp only [Act.put, sI, sZ, sS]
      refine in_take (i := 1) (d := 11) (OP := Op.nilCheck (Operand.tmp 10)) (T := 0) (v := ?v2) rfl rfl rfl rfl (by kernel_rfl) (by kernel_rfl) (by kernel_rfl) (fun _ _ _ h => h) (by rfl) ?h2 hHeld ?r2
      case h2 => (intro w' hSw; (try dsimp only at hSw); go_simp <;> with_reducible rfl)
      try simp only [Act.put, sI, sZ, sS]
      refine in_take (i := 2) (d := 12) (OP := Op.fieldAddr 127 (Operand.tmp 11) 0) (T := 0) (v := ?v3) rfl rfl rfl rfl (by kernel_rfl) (by kernel_rfl) (by kernel_rfl) (fun _ _ _ h => h) (by rfl) ?h3 hHeld ?r3
      case h3 => (intro w' hSw; (try dsimp only at hSw); go_simp <;> with_reducible rfl)
      try simp only [Act.put, sI, sZ, sS]
      refine in_take (i := 3) (d := 13) (OP := Op.load 9 (Operand.tmp 12)) (T := 9) (v := ?v4) rfl rfl rfl rfl (by kernel_rfl) (by kernel_rfl) (by kernel_rfl) (fun _ _ _ h => h) (by rfl) ?h4 hHeld ?r4
      case h4 => (intro w' hSw; (try dsimp only at hSw); go_simp <;> with_reducible rfl)
      try simp only [Act.put, sI, sZ, sS]
      refine in_take (i := 4) (d := 14) (OP := Op.load 9 (Operand.tmp 1)) (T := 9) (v := ?v5) rfl rfl rfl rfl (by kernel_rfl) (by kernel_rfl) (by kernel_rfl) (fun _ _ _ h => h) (by rfl) ?h5 hHeld ?r5
      case h5 => (intro w' hSw; (try dsimp only at hSw); go_simp <;> with_reducible rfl)
      try simp only [Act.put, sI, sZ, sS]
      refine in_take (i := 5) (d := 15) (OP := Op.binOp BinOp.lss 9 (Operand.tmp 13) (Operand.tmp 14) 9) (T := 4) (v := ?v6) rfl rfl rfl rfl (by kernel_rfl) (by kernel_rfl) (by kernel_rfl) (fun _ _ _ h => h) (by rfl) ?h6 hHeld ?r6
      case h6 => (intro w' hSw; (try dsimp only at hSw); go_simp <;> with_reducible rfl)
      try simp only [Act.put, sI, sZ, sS]
      refine in_take (i := 6) (d := 9) (OP := Op.assign (Operand.tmp 15)) (T := 4) (v := ?v7) rfl rfl rfl rfl (by kernel_rfl) (by kernel_rfl) (by kernel_rfl) (fun _ _ _ h => h) (by rfl) ?h7 hHeld ?r7
      case h7 => (intro w' hSw; (try dsimp only at hSw); go_simp <;> with_reducible rfl)
      try simp only [Act.put, sI, sZ, sS]
      refine in_done (by kernel_rfl) ?_
      gi_wp2
      have hE2 := hEd.below (drew_below W.drew)
      have hJ2 := hJB c _ _ hJd (drew_below W.drew)
      have hq2 := key _ hE2
      refine in_region (S := (fun w' => w'.cell? ⟨L1, 0, none⟩ = some (.string k) ∧ w'.cell? ⟨L2, 0, none⟩ = some (.func (.func 83) #[] #[.pointer (some ⟨L1, 0, none⟩), .pointer (some ⟨L2, 0, none⟩), .pointer (some ⟨L3, 0, none⟩)]) ∧ w'.cell? ⟨L3, 0, none⟩ = some (.func (.yield l) #[] #[]) ∧ w'.cell? ⟨p, 0, none⟩ = some (.string nk) ∧ w'.cell? ⟨p, 1, none⟩ = some (.string nv) ∧ w'.cell? ⟨p, 2, none⟩ = some (.pointer al) ∧ w'.cell? ⟨p, 3, none⟩ = some (.pointer ar))) (by kernel_rfl) hq2 (fun hHeld => ?_)
      try dsimp only at hHeld
      refine in_take (i := 0) (d := 16) (OP := Op.load 133 (Operand.tmp 2)) (T := 133) (v := ?v8) rfl rfl rfl rfl (by kernel_rfl) (by kernel_rfl) (by kernel_rfl) (fun _ _ _ h => h) (by rfl) ?h8 hHeld ?r8
      case h8 => (intro w' hSw; (try dsimp only at hSw); go_simp <;> with_reducible rfl)
      try simp only [Act.put, sI, sZ, sS]
      refine in_take (i := 1) (d := 17) (OP := Op.move (Operand.tmp 0)) (T := 41) (v := ?v9) rfl rfl rfl rfl (by kernel_rfl) (by kernel_rfl) (by kernel_rfl) (fun _ _ _ h => h) (by rfl) ?h9 hHeld ?r9
      case h9 => (intro w' hSw; (try dsimp only at hSw); go_simp <;> with_reducible rfl)
      try simp only [Act.put, sI, sZ, sS]
      refine in_take (i := 2) (d := 18) (OP := Op.nilCheck (Operand.tmp 17)) (T := 0) (v := ?v10) rfl rfl rfl rfl (by kernel_rfl) (by kernel_rfl) (by kernel_rfl) (fun _ _ _ h => h) (by rfl) ?h10 hHeld ?r10
      case h10 => (intro w' hSw; (try dsimp only at hSw); go_simp <;> with_reducible rfl)
      try simp only [Act.put, sI, sZ, sS]
      refine in_take (i := 3) (d := 19) (OP := Op.fieldAddr 127 (Operand.tmp 18) 3) (T := 0) (v := ?v11) rfl rfl rfl rfl (by kernel_rfl) (by kernel_rfl) (by kernel_rfl) (fun _ _ _ h => h) (by rfl) ?h11 hHeld ?r11
      case h11 => (intro w' hSw; (try dsimp only at hSw); go_simp <;> with_reducible rfl)
      try simp only [Act.put, sI, sZ, sS]
      refine in_take (i := 4) (d := 20) (OP := Op.load 41 (Operand.tmp 19)) (T := 41) (v := ?v12) rfl rfl rfl rfl (by kernel_rfl) (by kernel_rfl) (by kernel_rfl) (fun _ _ _ h => h) (by rfl) ?h12 hHeld ?r12
      case h12 => (intro w' hSw; (try dsimp only at hSw); go_simp <;> with_reducible rfl)
      try simp only [Act.put, sI, sZ, sS]
      refine in_call (i := 5) (d := 21) (OP := Op.call { callee := Callee.value (Operand.tmp 16), args := #[Operand.tmp 20], argTypes := #[41] }) (T := 4) (g := 83) (args := #[.pointer ar, .pointer (some ⟨L1, 0, none⟩), .pointer (some ⟨L2, 0, none⟩), .pointer (some ⟨L3, 0, none⟩)]) rfl rfl rfl rfl (by kernel_rfl) (by rfl) (by go_simp) ?_
      refine (ihr c W.drew.drew (.inl hsr) hE2 hJ2 HB.out.2.2).mono ?_
      intro e W2 hw
      have hE3 := onl _ _ hE2 hw.1
      have hq3 := key _ hE3
      obtain ⟨bv, rfl⟩ : ∃ bv, e = .returned (.bool bv) := by rcases hw.2 with h | h <;> exact ⟨_, h.1⟩
      refine ⟨_, rfl, hq3, ?_⟩
      replace hHeld := hq3
      try simp only [Act.put, sI, sZ, sS]
      refine in_take (i := 6) (d := 5) (OP := Op.assign (Operand.tmp 21)) (T := 4) (v := ?v13) rfl rfl rfl rfl (by kernel_rfl) (by kernel_rfl) (by kernel_rfl) (fun _ _ _ h => h) (by rfl) ?h13 hHeld ?r13
      case h13 => (intro w' hSw; (try dsimp only at hSw); go_simp <;> with_reducible rfl)
      try simp only [Act.put, sI, sZ, sS]
      refine in_done (by kernel_rfl) ?_
      gi_wp2
      refine bodyPost_ret (results_tmp rfl _ _ _) rfl ?_
      exact ⟨(below_only (D := D) (drew2_below W)).next hw.1, hw.2⟩
    · have hb : Op.bytesLess nk.toList k.toList = false := by rw [less_B]; simpa using hlt
      have hfr : (T.node p nk nv sl sr).from k = sl.from k ++ (nk, nv) :: sr.from k := by rw [T.from, if_neg hlt]
      rw [hfr] at hxs ⊢
      have x1 : ∀ i x, (sl.from k)[i]? = some x → xs[c + i]? = some x := fun i x h => hxs i x (by rw [List.getElem?_append_left (List.getElem?_eq_some_iff.1 h).1]; exact h)
      have x2 : xs[c + (sl.from k).length]? = some (nk, nv) := hxs _ _ (by rw [List.getElem?_append_right (Nat.le_refl _)]; simp)
      have x3 : ∀ i x, (sr.from k)[i]? = some x → xs[c + (sl.from k).length + 1 + i]? = some x := fun i x h => by
        have := hxs ((sl.from k).length + (1 + i)) x (by rw [List.getElem?_append_right (by omega)]; simp [Nat.add_comm 1 i, h])
        rw [← this]; congr 1; omega
      have hlen : c + (sl.from k ++ (nk, nv) :: sr.from k).length = c + (sl.from k).length + 1 + (sr.from k).length := by simp; omega
      rw [hlen]
      have HB := hide (And.intro x1 (And.intro x2 x3))
      clear hfr hJ hxs x1 x2 x3 hlen hE
      have hq := key _ hEd
      refine (callsIn_wide (n := 5)).1 (callsIn_of_wp Tryz.func83 rfl trivial ?_ rfl)
      simp only [Tryz.ntmps83, List.size_toArray, List.length_cons, List.length_nil, Nat.reduceAdd, Nat.reduceSub, Array.replicate_succ, Array.replicate_zero, List.push_toArray, List.append_toArray, List.nil_append, List.cons_append]
      gi_wp2
      refine in_region (S := (fun w' => w'.cell? ⟨L1, 0, none⟩ = some (.string k) ∧ w'.cell? ⟨L2, 0, none⟩ = some (.func (.func 83) #[] #[.pointer (some ⟨L1, 0, none⟩), .pointer (some ⟨L2, 0, none⟩), .pointer (some ⟨L3, 0, none⟩)]) ∧ w'.cell? ⟨L3, 0, none⟩ = some (.func (.yield l) #[] #[]) ∧ w'.cell? ⟨p, 0, none⟩ = some (.string nk) ∧ w'.cell? ⟨p, 1, none⟩ = some (.string nv) ∧ w'.cell? ⟨p, 2, none⟩ = some (.pointer al) ∧ w'.cell? ⟨p, 3, none⟩ = some (.pointer ar))) (by kernel_rfl) hq (fun hHeld => ?_)
      try dsimp only at hHeld
      refine in_take (i := 0) (d := 10) (OP := Op.move (Operand.tmp 0)) (T := 41) (v := ?v14) rfl rfl rfl rfl (by kernel_rfl) (by kernel_rfl) (by kernel_rfl) (fun _ _ _ h => h) (by rfl) ?h14 hHeld ?r14
      case h14 => (intro w' hSw; (try dsimp only at hSw); go_simp <;> with_reducible rfl)
      try simp only [Act.put, sI, sZ, sS]
      refine in_take (i := 1) (d := 11) (OP := Op.nilCheck (Operand.tmp 10)) (T := 0) (v := ?v15) rfl rfl rfl rfl (by kernel_rfl) (by kernel_rfl) (by kernel_rfl) (fun _ _ _ h => h) (by rfl) ?h15 hHeld ?r15
      case h15 => (intro w' hSw; (try dsimp only at hSw); go_simp <;> with_reducible rfl)
      try simp only [Act.put, sI, sZ, sS]
      refine in_take (i := 2) (d := 12) (OP := Op.fieldAddr 127 (Operand.tmp 11) 0) (T := 0) (v := ?v16) rfl rfl rfl rfl (by kernel_rfl) (by kernel_rfl) (by kernel_rfl) (fun _ _ _ h => h) (by rfl) ?h16 hHeld ?r16
      case h16 => (intro w' hSw; (try dsimp only at hSw); go_simp <;> with_reducible rfl)
      try simp only [Act.put, sI, sZ, sS]
      refine in_take (i := 3) (d := 13) (OP := Op.load 9 (Operand.tmp 12)) (T := 9) (v := ?v17) rfl rfl rfl rfl (by kernel_rfl) (by kernel_rfl) (by kernel_rfl) (fun _ _ _ h => h) (by rfl) ?h17 hHeld ?r17
      case h17 => (intro w' hSw; (try dsimp only at hSw); go_simp <;> with_reducible rfl)
      try simp only [Act.put, sI, sZ, sS]
      refine in_take (i := 4) (d := 14) (OP := Op.load 9 (Operand.tmp 1)) (T := 9) (v := ?v18) rfl rfl rfl rfl (by kernel_rfl) (by kernel_rfl) (by kernel_rfl) (fun _ _ _ h => h) (by rfl) ?h18 hHeld ?r18
      case h18 => (intro w' hSw; (try dsimp only at hSw); go_simp <;> with_reducible rfl)
      try simp only [Act.put, sI, sZ, sS]
      refine in_take (i := 5) (d := 15) (OP := Op.binOp BinOp.lss 9 (Operand.tmp 13) (Operand.tmp 14) 9) (T := 4) (v := ?v19) rfl rfl rfl rfl (by kernel_rfl) (by kernel_rfl) (by kernel_rfl) (fun _ _ _ h => h) (by rfl) ?h19 hHeld ?r19
      case h19 => (intro w' hSw; (try dsimp only at hSw); go_simp <;> with_reducible rfl)
      try simp only [Act.put, sI, sZ, sS]
      refine in_take (i := 6) (d := 9) (OP := Op.assign (Operand.tmp 15)) (T := 4) (v := ?v20) rfl rfl rfl rfl (by kernel_rfl) (by kernel_rfl) (by kernel_rfl) (fun _ _ _ h => h) (by rfl) ?h20 hHeld ?r20
      case h20 => (intro w' hSw; (try dsimp only at hSw); go_simp <;> with_reducible rfl)
      try simp only [Act.put, sI, sZ, sS]
      refine in_done (by kernel_rfl) ?_
      gi_wp2
      have hE2 := hEd.below (drew_below W.drew)
      have hJ2 := hJB c _ _ hJd (drew_below W.drew)
      have hq2 := key _ hE2
      refine in_region (S := (fun w' => w'.cell? ⟨L1, 0, none⟩ = some (.string k) ∧ w'.cell? ⟨L2, 0, none⟩ = some (.func (.func 83) #[] #[.pointer (some ⟨L1, 0, none⟩), .pointer (some ⟨L2, 0, none⟩), .pointer (some ⟨L3, 0, none⟩)]) ∧ w'.cell? ⟨L3, 0, none⟩ = some (.func (.yield l) #[] #[]) ∧ w'.cell? ⟨p, 0, none⟩ = some (.string nk) ∧ w'.cell? ⟨p, 1, none⟩ = some (.string nv) ∧ w'.cell? ⟨p, 2, none⟩ = some (.pointer al) ∧ w'.cell? ⟨p, 3, none⟩ = some (.pointer ar))) (by kernel_rfl) hq2 (fun hHeld => ?_)
      try dsimp only at hHeld
      refine in_take (i := 0) (d := 22) (OP := Op.load 133 (Operand.tmp 2)) (T := 133) (v := ?v21) rfl rfl rfl rfl (by kernel_rfl) (by kernel_rfl) (by kernel_rfl) (fun _ _ _ h => h) (by rfl) ?h21 hHeld ?r21
      case h21 => (intro w' hSw; (try dsimp only at hSw); go_simp <;> with_reducible rfl)
      try simp only [Act.put, sI, sZ, sS]
      refine in_take (i := 1) (d := 23) (OP := Op.move (Operand.tmp 0)) (T := 41) (v := ?v22) rfl rfl rfl rfl (by kernel_rfl) (by kernel_rfl) (by kernel_rfl) (fun _ _ _ h => h) (by rfl) ?h22 hHeld ?r22
      case h22 => (intro w' hSw; (try dsimp only at hSw); go_simp <;> with_reducible rfl)
      try simp only [Act.put, sI, sZ, sS]
      refine in_take (i := 2) (d := 24) (OP := Op.nilCheck (Operand.tmp 23)) (T := 0) (v := ?v23) rfl rfl rfl rfl (by kernel_rfl) (by kernel_rfl) (by kernel_rfl) (fun _ _ _ h => h) (by rfl) ?h23 hHeld ?r23
      case h23 => (intro w' hSw; (try dsimp only at hSw); go_simp <;> with_reducible rfl)
      try simp only [Act.put, sI, sZ, sS]
      refine in_take (i := 3) (d := 25) (OP := Op.fieldAddr 127 (Operand.tmp 24) 2) (T := 0) (v := ?v24) rfl rfl rfl rfl (by kernel_rfl) (by kernel_rfl) (by kernel_rfl) (fun _ _ _ h => h) (by rfl) ?h24 hHeld ?r24
      case h24 => (intro w' hSw; (try dsimp only at hSw); go_simp <;> with_reducible rfl)
      try simp only [Act.put, sI, sZ, sS]
      refine in_take (i := 4) (d := 26) (OP := Op.load 41 (Operand.tmp 25)) (T := 41) (v := ?v25) rfl rfl rfl rfl (by kernel_rfl) (by kernel_rfl) (by kernel_rfl) (fun _ _ _ h => h) (by rfl) ?h25 hHeld ?r25
      case h25 => (intro w' hSw; (try dsimp only at hSw); go_simp <;> with_reducible rfl)
      try simp only [Act.put, sI, sZ, sS]
      refine in_call (i := 5) (d := 27) (OP := Op.call { callee := Callee.value (Operand.tmp 22), args := #[Operand.tmp 26], argTypes := #[41] }) (T := 4) (g := 83) (args := #[.pointer al, .pointer (some ⟨L1, 0, none⟩), .pointer (some ⟨L2, 0, none⟩), .pointer (some ⟨L3, 0, none⟩)]) rfl rfl rfl rfl (by kernel_rfl) (by rfl) (by go_simp) ?_
      refine (ihl c W.drew.drew (.inl hsl) hE2 hJ2 HB.out.1).mono ?_
      intro e W3 hw3
      have hE3 := onl _ _ hE2 hw3.1
      have hq3 := key _ hE3
      have hO3 : Only D W W3 := (below_only (D := D) (drew2_below W)).next hw3.1
      rcases hw3.2 with ⟨rfl, hJ3⟩ | ⟨rfl, hJx3⟩
      · refine ⟨_, rfl, hq3, ?_⟩
        replace hHeld := hq3
        try simp only [Act.put, sI, sZ, sS]
        refine in_take (i := 6) (d := 28) (OP := Op.move (Operand.tmp 27)) (T := 4) (v := ?v31) rfl rfl rfl rfl (by kernel_rfl) (by kernel_rfl) (by kernel_rfl) (fun _ _ _ h => h) (by rfl) ?h31 hHeld ?r31
        case h31 => (intro w' hSw; (try dsimp only at hSw); go_simp <;> with_reducible rfl)
        try simp only [Act.put, sI, sZ, sS]
        refine in_take (i := 7) (d := 29) (OP := Op.load 132 (Operand.tmp 3)) (T := 132) (v := ?v32) rfl rfl rfl rfl (by kernel_rfl) (by kernel_rfl) (by kernel_rfl) (fun _ _ _ h => h) (by rfl) ?h32 hHeld ?r32
        case h32 => (intro w' hSw; (try dsimp only at hSw); go_simp <;> with_reducible rfl)
        try simp only [Act.put, sI, sZ, sS]
        refine in_take (i := 8) (d := 30) (OP := Op.move (Operand.tmp 0)) (T := 41) (v := ?v33) rfl rfl rfl rfl (by kernel_rfl) (by kernel_rfl) (by kernel_rfl) (fun _ _ _ h => h) (by rfl) ?h33 hHeld ?r33
        case h33 => (intro w' hSw; (try dsimp only at hSw); go_simp <;> with_reducible rfl)
        try simp only [Act.put, sI, sZ, sS]
        refine in_take (i := 9) (d := 31) (OP := Op.nilCheck (Operand.tmp 30)) (T := 0) (v := ?v34) rfl rfl rfl rfl (by kernel_rfl) (by kernel_rfl) (by kernel_rfl) (fun _ _ _ h => h) (by rfl) ?h34 hHeld ?r34
        case h34 => (intro w' hSw; (try dsimp only at hSw); go_simp <;> with_reducible rfl)
        try simp only [Act.put, sI, sZ, sS]
        refine in_take (i := 10) (d := 32) (OP := Op.fieldAddr 127 (Operand.tmp 31) 0) (T := 0) (v := ?v35) rfl rfl rfl rfl (by kernel_rfl) (by kernel_rfl) (by kernel_rfl) (fun _ _ _ h => h) (by rfl) ?h35 hHeld ?r35
        case h35 => (intro w' hSw; (try dsimp only at hSw); go_simp <;> with_reducible rfl)
        try simp only [Act.put, sI, sZ, sS]
        refine in_take (i := 11) (d := 33) (OP := Op.load 9 (Operand.tmp 32)) (T := 9) (v := ?v36) rfl rfl rfl rfl (by kernel_rfl) (by kernel_rfl) (by kernel_rfl) (fun _ _ _ h => h) (by rfl) ?h36 hHeld ?r36
        case h36 => (intro w' hSw; (try dsimp only at hSw); go_simp <;> with_reducible rfl)
        try simp only [Act.put, sI, sZ, sS]
        refine in_take (i := 12) (d := 34) (OP := Op.move (Operand.tmp 0)) (T := 41) (v := ?v37) rfl rfl rfl rfl (by kernel_rfl) (by kernel_rfl) (by kernel_rfl) (fun _ _ _ h => h) (by rfl) ?h37 hHeld ?r37
        case h37 => (intro w' hSw; (try dsimp only at hSw); go_simp <;> with_reducible rfl)
        try simp only [Act.put, sI, sZ, sS]
        refine in_take (i := 13) (d := 35) (OP := Op.nilCheck (Operand.tmp 34)) (T := 0) (v := ?v38) rfl rfl rfl rfl (by kernel_rfl) (by kernel_rfl) (by kernel_rfl) (fun _ _ _ h => h) (by rfl) ?h38 hHeld ?r38
        case h38 => (intro w' hSw; (try dsimp only at hSw); go_simp <;> with_reducible rfl)
        try simp only [Act.put, sI, sZ, sS]
        refine in_take (i := 14) (d := 36) (OP := Op.fieldAddr 127 (Operand.tmp 35) 1) (T := 0) (v := ?v39) rfl rfl rfl rfl (by kernel_rfl) (by kernel_rfl) (by kernel_rfl) (fun _ _ _ h => h) (by rfl) ?h39 hHeld ?r39
        case h39 => (intro w' hSw; (try dsimp only at hSw); go_simp <;> with_reducible rfl)
        try simp only [Act.put, sI, sZ, sS]
        refine in_take (i := 15) (d := 37) (OP := Op.load 9 (Operand.tmp 36)) (T := 9) (v := ?v40) rfl rfl rfl rfl (by kernel_rfl) (by kernel_rfl) (by kernel_rfl) (fun _ _ _ h => h) (by rfl) ?h40 hHeld ?r40
        case h40 => (intro w' hSw; (try dsimp only at hSw); go_simp <;> with_reducible rfl)
        try simp only [Act.put, sI, sZ, sS]
        refine in_yield (i := 16) (d := 38) (OP := Op.call { callee := Callee.value (Operand.tmp 29), args := #[Operand.tmp 33, Operand.tmp 37], argTypes := #[9, 9] }) (T := 4) (l := l) (args := #[.string nk, .string nv]) rfl rfl rfl rfl (by kernel_rfl) (by rfl) (by simp [execOp, resolve, invoke, go_sem, Act.eval]) ?_
        refine YieldAt.mono (hY _ (nk, nv) W3 HB.out.2.1 hJ3 hE3) ?_
        intro e W4 hw4
        have hE4 := onl _ _ hE3 hw4.1
        have hq4 := key _ hE4
        have hO4 : Only D W W4 := hO3.next hw4.1
        rcases hw4.2 with ⟨rfl, hJ4⟩ | ⟨rfl, hJx4⟩
        · refine ⟨_, rfl, hq4, ?_⟩
          replace hHeld := hq4
          try simp only [Act.put, sI, sZ, sS]
          refine in_take (i := 17) (d := 39) (OP := Op.pick (Operand.tmp 28) (Operand.tmp 38) (Operand.const (Value.bool false))) (T := 4) (v := ?v45) rfl rfl rfl rfl (by kernel_rfl) (by kernel_rfl) (by kernel_rfl) (fun _ _ _ h => h) (by rfl) ?h45 hHeld ?r45
          case h45 => (intro w' hSw; (try dsimp only at hSw); go_simp <;> with_reducible rfl)
          try simp only [Act.put, sI, sZ, sS]
          refine in_take (i := 18) (d := 40) (OP := Op.move (Operand.tmp 39)) (T := 4) (v := ?v46) rfl rfl rfl rfl (by kernel_rfl) (by kernel_rfl) (by kernel_rfl) (fun _ _ _ h => h) (by rfl) ?h46 hHeld ?r46
          case h46 => (intro w' hSw; (try dsimp only at hSw); go_simp <;> with_reducible rfl)
          try simp only [Act.put, sI, sZ, sS]
          refine in_take (i := 19) (d := 41) (OP := Op.load 133 (Operand.tmp 2)) (T := 133) (v := ?v47) rfl rfl rfl rfl (by kernel_rfl) (by kernel_rfl) (by kernel_rfl) (fun _ _ _ h => h) (by rfl) ?h47 hHeld ?r47
          case h47 => (intro w' hSw; (try dsimp only at hSw); go_simp <;> with_reducible rfl)
          try simp only [Act.put, sI, sZ, sS]
          refine in_take (i := 20) (d := 42) (OP := Op.move (Operand.tmp 0)) (T := 41) (v := ?v48) rfl rfl rfl rfl (by kernel_rfl) (by kernel_rfl) (by kernel_rfl) (fun _ _ _ h => h) (by rfl) ?h48 hHeld ?r48
          case h48 => (intro w' hSw; (try dsimp only at hSw); go_simp <;> with_reducible rfl)
          try simp only [Act.put, sI, sZ, sS]
          refine in_take (i := 21) (d := 43) (OP := Op.nilCheck (Operand.tmp 42)) (T := 0) (v := ?v49) rfl rfl rfl rfl (by kernel_rfl) (by kernel_rfl) (by kernel_rfl) (fun _ _ _ h => h) (by rfl) ?h49 hHeld ?r49
          case h49 => (intro w' hSw; (try dsimp only at hSw); go_simp <;> with_reducible rfl)
          try simp only [Act.put, sI, sZ, sS]
          refine in_take (i := 22) (d := 44) (OP := Op.fieldAddr 127 (Operand.tmp 43) 3) (T := 0) (v := ?v50) rfl rfl rfl rfl (by kernel_rfl) (by kernel_rfl) (by kernel_rfl) (fun _ _ _ h => h) (by rfl) ?h50 hHeld ?r50
          case h50 => (intro w' hSw; (try dsimp only at hSw); go_simp <;> with_reducible rfl)
          try simp only [Act.put, sI, sZ, sS]
          refine in_take (i := 23) (d := 45) (OP := Op.load 41 (Operand.tmp 44)) (T := 41) (v := ?v51) rfl rfl rfl rfl (by kernel_rfl) (by kernel_rfl) (by kernel_rfl) (fun _ _ _ h => h) (by rfl) ?h51 hHeld ?r51
          case h51 => (intro w' hSw; (try dsimp only at hSw); go_simp <;> with_reducible rfl)
          try simp only [Act.put, sI, sZ, sS]
          refine in_call (i := 24) (d := 46) (OP := Op.call { callee := Callee.value (Operand.tmp 41), args := #[Operand.tmp 45], argTypes := #[41] }) (T := 4) (g := 83) (args := #[.pointer ar, .pointer (some ⟨L1, 0, none⟩), .pointer (some ⟨L2, 0, none⟩), .pointer (some ⟨L3, 0, none⟩)]) rfl rfl rfl rfl (by kernel_rfl) (by rfl) (by go_simp) ?_
          refine (ihr _ W4 (.inl hsr) hE4 hJ4 HB.out.2.2).mono ?_
          intro e W5 hw5
          have hE5 := onl _ _ hE4 hw5.1
          have hq5 := key _ hE5
          have hO5 : Only D W W5 := hO4.next hw5.1
          obtain ⟨bv, rfl⟩ : ∃ bv, e = .returned (.bool bv) := by rcases hw5.2 with h | h <;> exact ⟨_, h.1⟩
          refine ⟨_, rfl, hq5, ?_⟩
          replace hHeld := hq5
          try simp only [Act.put, sI, sZ, sS]
          refine in_take (i := 25) (d := 47) (OP := Op.pick (Operand.tmp 40) (Operand.tmp 46) (Operand.const (Value.bool false))) (T := 4) (v := ?v52) rfl rfl rfl rfl (by kernel_rfl) (by kernel_rfl) (by kernel_rfl) (fun _ _ _ h => h) (by rfl) ?h52 hHeld ?r52
          case h52 => (intro w' hSw; (try dsimp only at hSw); go_simp <;> with_reducible rfl)
          try simp only [Act.put, sI, sZ, sS]
          refine in_take (i := 26) (d := 5) (OP := Op.assign (Operand.tmp 47)) (T := 4) (v := ?v53) rfl rfl rfl rfl (by kernel_rfl) (by kernel_rfl) (by kernel_rfl) (fun _ _ _ h => h) (by rfl) ?h53 hHeld ?r53
          case h53 => (intro w' hSw; (try dsimp only at hSw); go_simp <;> with_reducible rfl)
          try simp only [Act.put, sI, sZ, sS]
          refine in_done (by kernel_rfl) ?_
          gi_wp2
          refine bodyPost_ret (results_tmp rfl _ _ _) rfl ?_
          exact ⟨hO5, hw5.2⟩
        · refine ⟨_, rfl, hq4, ?_⟩
          replace hHeld := hq4
          try simp only [Act.put, sI, sZ, sS]
          refine in_take (i := 17) (d := 39) (OP := Op.pick (Operand.tmp 28) (Operand.tmp 38) (Operand.const (Value.bool false))) (T := 4) (v := ?v41) rfl rfl rfl rfl (by kernel_rfl) (by kernel_rfl) (by kernel_rfl) (fun _ _ _ h => h) (by rfl) ?h41 hHeld ?r41
          case h41 => (intro w' hSw; (try dsimp only at hSw); go_simp <;> with_reducible rfl)
          try simp only [Act.put, sI, sZ, sS]
          refine in_take (i := 18) (d := 40) (OP := Op.move (Operand.tmp 39)) (T := 4) (v := ?v42) rfl rfl rfl rfl (by kernel_rfl) (by kernel_rfl) (by kernel_rfl) (fun _ _ _ h => h) (by rfl) ?h42 hHeld ?r42
          case h42 => (intro w' hSw; (try dsimp only at hSw); go_simp <;> with_reducible rfl)
          try simp only [Act.put, sI, sZ, sS]
          refine in_pass (i := 19) (d := 41) rfl rfl (by kernel_rfl) (by kernel_rfl) (by kernel_rfl) (fun _ _ _ h => h) (by rfl) hHeld ?_
          try simp only [Act.put, sI, sZ, sS]
          refine in_pass (i := 20) (d := 42) rfl rfl (by kernel_rfl) (by kernel_rfl) (by kernel_rfl) (fun _ _ _ h => h) (by rfl) hHeld ?_
          try simp only [Act.put, sI, sZ, sS]
          refine in_pass (i := 21) (d := 43) rfl rfl (by kernel_rfl) (by kernel_rfl) (by kernel_rfl) (fun _ _ _ h => h) (by rfl) hHeld ?_
          try simp only [Act.put, sI, sZ, sS]
          refine in_pass (i := 22) (d := 44) rfl rfl (by kernel_rfl) (by kernel_rfl) (by kernel_rfl) (fun _ _ _ h => h) (by rfl) hHeld ?_
          try simp only [Act.put, sI, sZ, sS]
          refine in_pass (i := 23) (d := 45) rfl rfl (by kernel_rfl) (by kernel_rfl) (by kernel_rfl) (fun _ _ _ h => h) (by rfl) hHeld ?_
          try simp only [Act.put, sI, sZ, sS]
          refine in_pass (i := 24) (d := 46) rfl rfl (by kernel_rfl) (by kernel_rfl) (by kernel_rfl) (fun _ _ _ h => h) (by rfl) hHeld ?_
          try simp only [Act.put, sI, sZ, sS]
          refine in_take (i := 25) (d := 47) (OP := Op.pick (Operand.tmp 40) (Operand.tmp 46) (Operand.const (Value.bool false))) (T := 4) (v := ?v43) rfl rfl rfl rfl (by kernel_rfl) (by kernel_rfl) (by kernel_rfl) (fun _ _ _ h => h) (by rfl) ?h43 hHeld ?r43
          case h43 => (intro w' hSw; (try dsimp only at hSw); go_simp <;> with_reducible rfl)
          try simp only [Act.put, sI, sZ, sS]
          refine in_take (i := 26) (d := 5) (OP := Op.assign (Operand.tmp 47)) (T := 4) (v := ?v44) rfl rfl rfl rfl (by kernel_rfl) (by kernel_rfl) (by kernel_rfl) (fun _ _ _ h => h) (by rfl) ?h44 hHeld ?r44
          case h44 => (intro w' hSw; (try dsimp only at hSw); go_simp <;> with_reducible rfl)
          try simp only [Act.put, sI, sZ, sS]
          refine in_done (by kernel_rfl) ?_
          gi_wp2
          refine bodyPost_ret (results_tmp rfl _ _ _) rfl ?_
          exact ⟨hO4, .inr ⟨rfl, hJx4⟩⟩
      · refine ⟨_, rfl, hq3, ?_⟩
        replace hHeld := hq3
        try simp only [Act.put, sI, sZ, sS]
        refine in_take (i := 6) (d := 28) (OP := Op.move (Operand.tmp 27)) (T := 4) (v := ?v26) rfl rfl rfl rfl (by kernel_rfl) (by kernel_rfl) (by kernel_rfl) (fun _ _ _ h => h) (by rfl) ?h26 hHeld ?r26
        case h26 => (intro w' hSw; (try dsimp only at hSw); go_simp <;> with_reducible rfl)
        try simp only [Act.put, sI, sZ, sS]
        refine in_pass (i := 7) (d := 29) rfl rfl (by kernel_rfl) (by kernel_rfl) (by kernel_rfl) (fun _ _ _ h => h) (by rfl) hHeld ?_
        try simp only [Act.put, sI, sZ, sS]
        refine in_pass (i := 8) (d := 30) rfl rfl (by kernel_rfl) (by kernel_rfl) (by kernel_rfl) (fun _ _ _ h => h) (by rfl) hHeld ?_
        try simp only [Act.put, sI, sZ, sS]
        refine in_pass (i := 9) (d := 31) rfl rfl (by kernel_rfl) (by kernel_rfl) (by kernel_rfl) (fun _ _ _ h => h) (by rfl) hHeld ?_
        try simp only [Act.put, sI, sZ, sS]
        refine in_pass (i := 10) (d := 32) rfl rfl (by kernel_rfl) (by kernel_rfl) (by kernel_rfl) (fun _ _ _ h => h) (by rfl) hHeld ?_
        try simp only [Act.put, sI, sZ, sS]
        refine in_pass (i := 11) (d := 33) rfl rfl (by kernel_rfl) (by kernel_rfl) (by kernel_rfl) (fun _ _ _ h => h) (by rfl) hHeld ?_
        try simp only [Act.put, sI, sZ, sS]
        refine in_pass (i := 12) (d := 34) rfl rfl (by kernel_rfl) (by kernel_rfl) (by kernel_rfl) (fun _ _ _ h => h) (by rfl) hHeld ?_
        try simp only [Act.put, sI, sZ, sS]
        refine in_pass (i := 13) (d := 35) rfl rfl (by kernel_rfl) (by kernel_rfl) (by kernel_rfl) (fun _ _ _ h => h) (by rfl) hHeld ?_
        try simp only [Act.put, sI, sZ, sS]
        refine in_pass (i := 14) (d := 36) rfl rfl (by kernel_rfl) (by kernel_rfl) (by kernel_rfl) (fun _ _ _ h => h) (by rfl) hHeld ?_
        try simp only [Act.put, sI, sZ, sS]
        refine in_pass (i := 15) (d := 37) rfl rfl (by kernel_rfl) (by kernel_rfl) (by kernel_rfl) (fun _ _ _ h => h) (by rfl) hHeld ?_
        try simp only [Act.put, sI, sZ, sS]
        refine in_pass (i := 16) (d := 38) rfl rfl (by kernel_rfl) (by kernel_rfl) (by kernel_rfl) (fun _ _ _ h => h) (by rfl) hHeld ?_
        try simp only [Act.put, sI, sZ, sS]
        refine in_take (i := 17) (d := 39) (OP := Op.pick (Operand.tmp 28) (Operand.tmp 38) (Operand.const (Value.bool false))) (T := 4) (v := ?v27) rfl rfl rfl rfl (by kernel_rfl) (by kernel_rfl) (by kernel_rfl) (fun _ _ _ h => h) (by rfl) ?h27 hHeld ?r27
        case h27 => (intro w' hSw; (try dsimp only at hSw); go_simp <;> with_reducible rfl)
        try simp only [Act.put, sI, sZ, sS]
        refine in_take (i := 18) (d := 40) (OP := Op.move (Operand.tmp 39)) (T := 4) (v := ?v28) rfl rfl rfl rfl (by kernel_rfl) (by kernel_rfl) (by kernel_rfl) (fun _ _ _ h => h) (by rfl) ?h28 hHeld ?r28
        case h28 => (intro w' hSw; (try dsimp only at hSw); go_simp <;> with_reducible rfl)
        try simp only [Act.put, sI, sZ, sS]
        refine in_pass (i := 19) (d := 41) rfl rfl (by kernel_rfl) (by kernel_rfl) (by kernel_rfl) (fun _ _ _ h => h) (by rfl) hHeld ?_
        try simp only [Act.put, sI, sZ, sS]
        refine in_pass (i := 20) (d := 42) rfl rfl (by kernel_rfl) (by kernel_rfl) (by kernel_rfl) (fun _ _ _ h => h) (by rfl) hHeld ?_
        try simp only [Act.put, sI, sZ, sS]
        refine in_pass (i := 21) (d := 43) rfl rfl (by kernel_rfl) (by kernel_rfl) (by kernel_rfl) (fun _ _ _ h => h) (by rfl) hHeld ?_
        try simp only [Act.put, sI, sZ, sS]
        refine in_pass (i := 22) (d := 44) rfl rfl (by kernel_rfl) (by kernel_rfl) (by kernel_rfl) (fun _ _ _ h => h) (by rfl) hHeld ?_
        try simp only [Act.put, sI, sZ, sS]
        refine in_pass (i := 23) (d := 45) rfl rfl (by kernel_rfl) (by kernel_rfl) (by kernel_rfl) (fun _ _ _ h => h) (by rfl) hHeld ?_
        try simp only [Act.put, sI, sZ, sS]
        refine in_pass (i := 24) (d := 46) rfl rfl (by kernel_rfl) (by kernel_rfl) (by kernel_rfl) (fun _ _ _ h => h) (by rfl) hHeld ?_
        try simp only [Act.put, sI, sZ, sS]
        refine in_take (i := 25) (d := 47) (OP := Op.pick (Operand.tmp 40) (Operand.tmp 46) (Operand.const (Value.bool false))) (T := 4) (v := ?v29) rfl rfl rfl rfl (by kernel_rfl) (by kernel_rfl) (by kernel_rfl) (fun _ _ _ h => h) (by rfl) ?h29 hHeld ?r29
        case h29 => (intro w' hSw; (try dsimp only at hSw); go_simp <;> with_reducible rfl)
        try simp only [Act.put, sI, sZ, sS]
        refine in_take (i := 26) (d := 5) (OP := Op.assign (Operand.tmp 47)) (T := 4) (v := ?v30) rfl rfl rfl rfl (by kernel_rfl) (by kernel_rfl) (by kernel_rfl) (fun _ _ _ h => h) (by rfl) ?h30 hHeld ?r30
        case h30 => (intro w' hSw; (try dsimp only at hSw); go_simp <;> with_reducible rfl)
        try simp only [Act.put, sI, sZ, sS]
        refine in_done (by kernel_rfl) ?_
        gi_wp2
        refine bodyPost_ret (results_tmp rfl _ _ _) rfl ?_
        exact ⟨hO3, .inr ⟨rfl, hJx3⟩⟩
end Go.Proofs.YtkkpdgfllnbigaaGreatDoor.Pm
