/-
  HOW MANY NODES TWO MAPS SHARE, as the program counts them.
-/
import Derived.Test.YtleaaoknjflgoaaCommon
import Derived.Test.YtleaaoknjflgoaaMaps3
namespace Go.Proofs.Ytleaaoknjflgoaa
open Go.RowKit Go.Shelf
set_option linter.unusedSimpArgs false
attribute [local go_sem] Oper.semAt_some

theorem enters61 : Enters Try.prog 61 := enters_of Try.func61 (by kernel_rfl) rfl
theorem enters68 : Enters Try.prog 68 := enters_of Try.func68 (by kernel_rfl) rfl
theorem enters70 : Enters Try.prog 70 := enters_of Try.func70 (by kernel_rfl) rfl
theorem tops_sub (b : T) : ∀ (t x : T), x ∈ T.tops b t → Sub x t ∧ ∃ p k v l r, x = .node p k v l r
  | .nil, x, h => by simp [T.tops] at h
  | .node p k v l r, x, h => by
    rw [T.tops] at h
    split at h
    · simp only [List.mem_singleton] at h
      subst h
      exact ⟨.here, _, _, _, _, _, rfl⟩
    · rcases List.mem_append.1 h with h | h
      · exact ⟨.left (tops_sub b l x h).1, (tops_sub b l x h).2⟩
      · exact ⟨.right (tops_sub b r x h).1, (tops_sub b r x h).2⟩
theorem sub_n {s t : T} (h : Sub s t) : s.n ≤ t.n := by
  induction h with
  | here => exact Nat.le_refl _
  | left _ ih => simp only [T.n]; omega
  | right _ ih => simp only [T.n]; omega
theorem sum_take_le (l : List Nat) (c : Nat) : (l.take c).sum ≤ l.sum := by
  have := List.take_append_drop c l
  have h : l.sum = (l.take c).sum + (l.drop c).sum := by rw [← List.sum_append, this]
  omega
theorem sum_take_next {l : List Nat} {c x : Nat} (h : l[c]? = some x) : (l.take (c + 1)).sum = (l.take c).sum + x := by
  rw [List.take_add_one, h, List.sum_append]; simp
/-- Behind c nodes: the sum's box. -/
structure SumI (w : World) (l : List Nat) (c : Nat) (W : World) : Prop where
  low : Below w.heap.size w W
  box : W.heap[w.heap.size + 2]? = some (.cells #[.int .i64 ((l.take c).sum : Nat)] 3 (0, 0))
theorem SumI.only {w W W' : World} {l : List Nat} {c : Nat} {D : Nat → Prop} (h : SumI w l c W) (ho : Only D W W') (hD : ∀ j, D j → w.heap.size + 2 < j) : SumI w l c W' :=
  ⟨Below.only h.low ho h.low.size (fun j d => by have := hD j d; omega), (ho.block _ (Array.getElem?_eq_some_iff.1 h.box).1 (fun d => by have := hD _ d; omega)).trans h.box⟩

set_option maxHeartbeats 4000000 in
set_option maxRecDepth 100000 in
theorem shared_any (t b : T) (w : World) (ht : In w t) (hb : In w b) (hn : t.n ≤ 700000) : Calls Try.prog 20 #[mv t, mv b] w fun e w' => e = .returned (.int .i64 (sharedIn b t : Nat)) ∧ Below w.heap.size w w' := by
  obtain ⟨wB, hwB⟩ : ∃ wB, wB = ((w.alloc (.cells #[t.ptr] 26)).alloc (.cells #[b.ptr] 26)).alloc (.cells #[.int .i64 0] 3) := ⟨_, rfl⟩
  obtain ⟨m0, m1, m2, hbB⟩ := new3 w (.cells #[t.ptr] 26) (.cells #[b.ptr] 26) (.cells #[.int .i64 0] 3)
  rw [← hwB] at m0 m1 m2 hbB
  have hsB : wB.heap.size = w.heap.size + 3 := by rw [hwB]; simp
  have hcm := common_any t b wB
  rw [hsB] at hcm
  obtain ⟨wA, hwA⟩ : ∃ wA, wA = (wB.alloc (.cells #[t.ptr] 24)).alloc (.cells #[b.ptr] 24) := ⟨_, rfl⟩
  obtain ⟨n0, n1⟩ := new2 wB (.cells #[t.ptr] 24) (.cells #[b.ptr] 24)
  rw [← hwA] at hcm n0 n1
  rw [hsB] at n0 n1
  have hbA : Below wB.heap.size wB wA := by rw [hwA]; exact ((Below.refl _ wB).alloc (Nat.le_refl _) _).alloc (by simp) _
  have hsA : wA.heap.size = w.heap.size + 5 := by rw [hwA]; simp [hsB]
  have hbw : Below w.heap.size w wA := hbB.trans (hbA.mono hbB.size)
  have hit := iter_common t b (w.heap.size + 3 + 1) (w.heap.size + 3) wA (In.below hbw ht) (In.below hbw hb) (by rw [cell_of_row _ _ 0 _ 24 (0, 0) n1]; rfl) (by rw [cell_of_row _ _ 0 _ 24 (0, 0) n0]; rfl)
  have hI0 : SumI w ((T.tops b t).map T.n) 0 wA := ⟨hbw, (hbA.block _ (by omega)).trans m2⟩
  have hKlt : ∀ j, KC t b (w.heap.size + 3 + 1) (w.heap.size + 3) j → j < wA.heap.size := fun j hj => by
    rcases hj with rfl | rfl | hj | hj
    · omega
    · omega
    · have := ht.blk_lt hj; omega
    · have := hb.blk_lt hj; omega
  have hKD : ∀ j, j = w.heap.size + 2 → ¬ KC t b (w.heap.size + 3 + 1) (w.heap.size + 3) j := fun j e hj => by
    rcases hj with rfl | rfl | hj | hj
    · omega
    · omega
    · have := ht.blk_lt hj; omega
    · have := hb.blk_lt hj; omega
  have hsum : ((T.tops b t).map T.n).sum ≤ 700000 := by rw [tops_sum]; exact Nat.le_trans (shared_le b t) hn
  rw [← tops_sum b t]
  have HT := hide ht
  obtain ⟨a, ha⟩ := t.ptr_shape
  obtain ⟨b', hb'⟩ := b.ptr_shape
  have hwB' := hwB
  rw [ha, hb'] at hcm hwB'
  unfold mv
  rw [ha, hb']
  have HW := hide hwB'
  clear hwB hwB' hwA n0 n1 m0 m1 m2 hbA hbB ht hb hn ha hb'
  rw [HW.out] at hcm
  refine calls_marks Try.func20 rfl ?_
  simp only [Try.ntmps20, List.size_toArray, List.length_cons, List.length_nil, Nat.reduceAdd, Nat.reduceSub, Array.replicate_succ, Array.replicate_zero, List.push_toArray, List.append_toArray, List.nil_append, List.cons_append]
  go_wp2_with (go_at_call 43; refine hcm.mono ?_; rintro e w' ⟨rfl, rfl⟩)
  refine range_it 61 enters61 _ (T.tops b t) (fun x => #[x.ptr]) _ hit rfl (fun _ _ => rfl) hKlt (fun j => j = w.heap.size + 2) hKD (by omega) (by omega) (by omega) (by omega)
    (SumI w ((T.tops b t).map T.n)) (fun _ _ => False) (fun k W W' hi ho => hi.only ho (fun j d => by omega)) (fun _ _ _ h => h.elim) hI0 ?hround ?hdone (fun _ _ h => h.elim)
  case hround =>
    intro c x W hx hi hS hsz
    obtain ⟨hxs, p, k, v, l, r, rfl⟩ := tops_sub b t x (List.mem_of_getElem? hx)
    have hxn : ((T.tops b t).map T.n)[c]? = some (T.node p k v l r).n := by rw [List.getElem?_map, hx]; rfl
    have hnx := sum_take_next hxn
    have hle := sum_take_le ((T.tops b t).map T.n) (c + 1)
    rw [node_ptr]
    gi_wp2
    refine ⟨Only.refl _ W, fun W2 ho2 => ?_⟩
    have hi2 : SumI w ((T.tops b t).map T.n) c W2 := hi.only ho2 (fun j d => by omega)
    have hin : In W2 (.node p k v l r) := In.below hi2.low (In.sub hxs HT.out)
    have hplt : p < w.heap.size := (In.sub hxs HT.out).lt
    have s1 : W2.drew.cell? ⟨w.heap.size + 2, 0, none⟩ = some (.int .i64 ((((T.tops b t).map T.n).take c).sum : Nat)) := by show W2.cell? _ = _; rw [cell_of_row _ _ 0 _ 3 (0, 0) hi2.box]; rfl
    have s2 : W2.drew.cell? ⟨p, 5, none⟩ = some (.int .i64 (((T.node p k v l r).n : Nat) : Int)) := hin.cells.c5
    have s3 : W2.drew.frozen? ⟨w.heap.size + 2, 0, none⟩ = false := frozen_of_row W2 _ 0 _ 3 hi2.box
    have s4 : W2.frozen? ⟨w.heap.size + 2, 0, none⟩ = false := s3
    have hfin : rpost (fun j => j = w.heap.size + 2) (SumI w ((T.tops b t).map T.n)) (fun _ _ => False) W2 (c + 1) .normal { tmps := #[], defers := [] } (W2.drew.setCell ⟨w.heap.size + 2, 0, none⟩ (.int .i64 (((((T.tops b t).map T.n).take c).sum : Nat) + ((T.node p k v l r).n : Nat) : Int))) := by
      have hon : Only (fun j => j = w.heap.size + 2) W2 (W2.drew.setCell ⟨w.heap.size + 2, 0, none⟩ (.int .i64 (((((T.tops b t).map T.n).take c).sum : Nat) + ((T.node p k v l r).n : Nat) : Int))) := (below_only (drew_below W2)).next ((Only.ofGrown (grown_setCell W2.drew ⟨w.heap.size + 2, 0, none⟩ _)).mono (fun j _ e => by simpa using e.symm))
      refine ⟨hon, Below.only hi2.low hon hi2.low.size (fun j d => by omega), ?_⟩
      have hbx : W2.drew.heap[w.heap.size + 2]? = some (.cells #[.int .i64 ((((T.tops b t).map T.n).take c).sum : Nat)] 3 (0, 0)) := hi2.box
      rw [heap_setCell_same _ _ _ _ 3 _ hbx, hnx]
      simp
    have w1 : IntKind.i64.wrap (((((T.tops b t).map T.n).take c).sum : Nat) + ((T.node p k v l r).n : Nat) : Int) = (((((T.tops b t).map T.n).take c).sum : Nat) + ((T.node p k v l r).n : Nat) : Int) := by rw [IntKind.wrap_i64]; omega
    have HF := hide hfin
    have hne : ¬ p = w.heap.size + 2 := by omega
    clear hfin hi hi2 hin hS ho2 hx hxn hnx hle hxs hI0 hit hKlt hKD hsum
    generalize ((((T.tops b t).map T.n).take c).sum : Nat) = Z0 at *
    generalize (T.node p k v l r).n = X0 at *
    obtain ⟨Z, hZ⟩ : ∃ Z : Int, Z = (Z0 : Int) := ⟨_, rfl⟩
    obtain ⟨X, hX⟩ : ∃ X : Int, X = (X0 : Int) := ⟨_, rfl⟩
    rw [← hZ, ← hX] at HF w1
    rw [← hZ] at s1
    rw [← hX] at s2
    clear hZ hX
    have q2 : (W2.drew.setCell ⟨w.heap.size + 2, 0, none⟩ (.int .i64 (Z + X))).cell? ⟨p, 5, none⟩ = some (.int .i64 X) := (Only.ofGrown (grown_setCell W2.drew ⟨w.heap.size + 2, 0, none⟩ _)).cell s2 (fun e => hne (by simpa using e.symm))
    gi_wp2
    refine region_in (S := (fun w' => w'.cell? ⟨p, 5, none⟩ = some (.int .i64 X))) (by kernel_rfl) (by kernel_rfl) (fun _ _ h => h) s2 (fun hHeld => ?_)
    try dsimp only at hHeld
    refine take_op (i := 1) (d := 14) (OP := Op.move (Operand.tmp 6)) (T := 24) (v := ?vzz1) rfl rfl rfl rfl (by kernel_rfl) (by kernel_rfl) (by kernel_rfl) (fun _ _ _ h => h) (by rfl) ?hzz1 hHeld ?rzz1
    case hzz1 => (intro w' hSw; (try dsimp only at hSw); go_simp <;> with_reducible rfl)
    try simp only [Act.put, List.setIfInBounds_toArray, List.set_cons_zero, List.set_cons_succ]
    refine take_op (i := 2) (d := 15) (OP := Op.nilCheck (Operand.tmp 14)) (T := 0) (v := ?vzz2) rfl rfl rfl rfl (by kernel_rfl) (by kernel_rfl) (by kernel_rfl) (fun _ _ _ h => h) (by rfl) ?hzz2 hHeld ?rzz2
    case hzz2 => (intro w' hSw; (try dsimp only at hSw); go_simp <;> with_reducible rfl)
    try simp only [Act.put, List.setIfInBounds_toArray, List.set_cons_zero, List.set_cons_succ]
    refine take_op (i := 3) (d := 16) (OP := Op.fieldAddr 82 (Operand.tmp 15) 5) (T := 0) (v := ?vzz3) rfl rfl rfl rfl (by kernel_rfl) (by kernel_rfl) (by kernel_rfl) (fun _ _ _ h => h) (by rfl) ?hzz3 hHeld ?rzz3
    case hzz3 => (intro w' hSw; (try dsimp only at hSw); go_simp <;> with_reducible rfl)
    try simp only [Act.put, List.setIfInBounds_toArray, List.set_cons_zero, List.set_cons_succ]
    refine take_op (i := 4) (d := 17) (OP := Op.load 3 (Operand.tmp 16)) (T := 3) (v := ?vzz4) rfl rfl rfl rfl (by kernel_rfl) (by kernel_rfl) (by kernel_rfl) (fun _ _ _ h => h) (by rfl) ?hzz4 hHeld ?rzz4
    case hzz4 => (intro w' hSw; (try dsimp only at hSw); go_simp <;> with_reducible rfl)
    try simp only [Act.put, List.setIfInBounds_toArray, List.set_cons_zero, List.set_cons_succ]
    refine alone_op (i := 0) (d := 13) (OP := Op.load 3 (Operand.tmp 5)) (T := 3) (v := .int .i64 Z) rfl rfl rfl rfl (by kernel_rfl) (by rfl) (by go_simp) hHeld ?_
    try simp only [Act.put, List.setIfInBounds_toArray, List.set_cons_zero, List.set_cons_succ]
    refine take_op (i := 5) (d := 18) (OP := Op.binOp BinOp.add 3 (Operand.tmp 13) (Operand.tmp 17) 3) (T := 3) (v := ?vzz5) rfl rfl rfl rfl (by kernel_rfl) (by kernel_rfl) (by kernel_rfl) (fun _ _ _ h => h) (by rfl) ?hzz5 hHeld ?rzz5
    case hzz5 => (intro w' hSw; (try dsimp only at hSw); go_simp <;> with_reducible rfl)
    try simp only [Act.put, List.setIfInBounds_toArray, List.set_cons_zero, List.set_cons_succ]
    refine skip_op (i := 6) (OP := Op.store 3 (Operand.tmp 5) (Operand.tmp 18)) (T := 0) (w' := W2.drew.setCell ⟨w.heap.size + 2, 0, none⟩ (.int .i64 (Z + X))) rfl rfl rfl rfl (by kernel_rfl) (by rfl) (by go_simp) ⟨q2, ?_⟩
    try simp only [Act.put, List.setIfInBounds_toArray, List.set_cons_zero, List.set_cons_succ]
    refine wpAnyH_done (by kernel_rfl) ?_ _
    gi_wp2
    exact HF.out
  case hdone =>
    intro W hi hlt hK
    have c2 : W.cell? ⟨w.heap.size + 2, 0, none⟩ = some (.int .i64 ((((T.tops b t).map T.n).sum : Nat) : Int)) := by
      rw [cell_of_row _ _ 0 _ 3 (0, 0) hi.box, List.take_of_length_le (by simp)]
      rfl
    have hlow := hi.low
    have HB := hide (show Below w.heap.size w (W.putObj w'.heap.size (.deferred none)) from Below.only hlow (only_putObj W _ _) hlow.size (fun j e => by have := hbw.size; omega))
    have HK := hide hK
    clear hi hlow hK hlt hit hI0 hKlt hKD hcm
    go_wp2
    exact leave_mark (fn := Try.f20) HK.out (leave_none (results_tmp rfl _ _ _) ⟨rfl, HB.out⟩)
end Go.Proofs.Ytleaaoknjflgoaa
