/-
  CMP6: stamps, names, branches held against each other.
-/
import Derived.Test.YtkdgageljgfgoaaGreatDoorValid
import Derived.Deep.DeepCutAuto
import Derived.Deep.CutBlock
import Derived.Scope
namespace Go.Proofs.YtkdgageljgfgoaaGreatDoor
open Go.RowKit Go.Shelf
set_option linter.unusedSimpArgs false

theorem exec_store_new {P : Program} {ev : Operand → Value} {x y : Operand} {b : Nat} {ty T : TypeId} {cs : List Value} {c : Array Value} {W : World} (hb : W.heap.size = b) (hx : ev x = .pointer (some ⟨b, 0, none⟩)) (hy : ev y = .agg cs.toArray) (hi : (P.info? ty).map (·.size) = some cs.length) (hc : c.size = cs.length) (h1 : ∀ v ∈ cs, v.oneCell' = true) :
    (execOp ev { dst := none, op := .store ty x y, type := T, pos := "", after := #[], guard := none }).run P (W.alloc (.cells c ty)) = .ok .skip (W.alloc (.cells cs.toArray ty)) := by
  subst hb
  unfold execOp
  simp only [hx, hy]
  rw [Sem.run_bind, run_storeAt_new W ty c cs.toArray (by rw [hi, List.size_toArray]) (by rw [hc, List.size_toArray]) (all_oneCell_toArray h1)]
  rfl
theorem blk2 {w : World} {R : Nat} {t : TypeId} {x y : Value} (h : w.heap[R]? = some (.cells #[x, y] t (0, 0))) : w.cell? ⟨R, 0, none⟩ = some x ∧ w.cell? ⟨R, 1, none⟩ = some y ∧ w.frozen? ⟨R, 0, none⟩ = false ∧ w.frozen? ⟨R, 1, none⟩ = false := by
  refine ⟨?_, ?_, frozen_of_row w R 0 _ t h, frozen_of_row w R 1 _ t h⟩
  · rw [cell_of_row w R 0 _ t (0, 0) h]; rfl
  · rw [cell_of_row w R 1 _ t (0, 0) h]; rfl
theorem set2 {w : World} {R : Nat} {t : TypeId} {x y x' y' : Value} (h : w.heap[R]? = some (.cells #[x, y] t (0, 0))) : ((w.setCell ⟨R, 0, none⟩ x').setCell ⟨R, 1, none⟩ y').heap[R]? = some (.cells #[x', y'] t (0, 0)) := by
  rw [heap_setCell_same _ _ _ _ t _ (heap_setCell_same _ _ _ _ t _ h)]
  simp
theorem bel2 {B : Nat} {a w : World} {R : Nat} (hR : B ≤ R) {x' y' : Value} (h : Below B a w) : Below B a ((w.setCell ⟨R, 0, none⟩ x').setCell ⟨R, 1, none⟩ y') := ((h.setCell (p := ⟨R, 0, none⟩) hR _).setCell (p := ⟨R, 1, none⟩) hR _)
theorem set3 {w : World} {R : Nat} {t : TypeId} {x y z x' y' z' : Value} (h : w.heap[R]? = some (.cells #[x, y, z] t (0, 0))) : (((w.setCell ⟨R, 0, none⟩ x').setCell ⟨R, 1, none⟩ y').setCell ⟨R, 2, none⟩ z').heap[R]? = some (.cells #[x', y', z'] t (0, 0)) := by
  rw [heap_setCell_same _ _ _ _ t _ (heap_setCell_same _ _ _ _ t _ (heap_setCell_same _ _ _ _ t _ h))]
  simp
theorem bel3 {B : Nat} {a w : World} {R : Nat} (hR : B ≤ R) {x' y' z' : Value} (h : Below B a w) : Below B a (((w.setCell ⟨R, 0, none⟩ x').setCell ⟨R, 1, none⟩ y').setCell ⟨R, 2, none⟩ z') := (((h.setCell (p := ⟨R, 0, none⟩) hR _).setCell (p := ⟨R, 1, none⟩) hR _).setCell (p := ⟨R, 2, none⟩) hR _)
theorem blk5 {w : World} {R : Nat} {t : TypeId} {x y z u v : Value} (h : w.heap[R]? = some (.cells #[x, y, z, u, v] t (0, 0))) : w.cell? ⟨R, 0, none⟩ = some x ∧ w.cell? ⟨R, 1, none⟩ = some y ∧ w.cell? ⟨R, 2, none⟩ = some z ∧ w.cell? ⟨R, 3, none⟩ = some u ∧ w.cell? ⟨R, 4, none⟩ = some v ∧ w.frozen? ⟨R, 0, none⟩ = false ∧ w.frozen? ⟨R, 1, none⟩ = false ∧ w.frozen? ⟨R, 2, none⟩ = false ∧ w.frozen? ⟨R, 3, none⟩ = false ∧ w.frozen? ⟨R, 4, none⟩ = false := by
  refine ⟨?_, ?_, ?_, ?_, ?_, frozen_of_row w R 0 _ t h, frozen_of_row w R 1 _ t h, frozen_of_row w R 2 _ t h, frozen_of_row w R 3 _ t h, frozen_of_row w R 4 _ t h⟩
  · rw [cell_of_row w R 0 _ t (0, 0) h]; rfl
  · rw [cell_of_row w R 1 _ t (0, 0) h]; rfl
  · rw [cell_of_row w R 2 _ t (0, 0) h]; rfl
  · rw [cell_of_row w R 3 _ t (0, 0) h]; rfl
  · rw [cell_of_row w R 4 _ t (0, 0) h]; rfl
theorem set5 {w : World} {R : Nat} {t : TypeId} {x y z u v x' y' z' u' v' : Value} (h : w.heap[R]? = some (.cells #[x, y, z, u, v] t (0, 0))) : (((((w.setCell ⟨R, 0, none⟩ x').setCell ⟨R, 1, none⟩ y').setCell ⟨R, 2, none⟩ z').setCell ⟨R, 3, none⟩ u').setCell ⟨R, 4, none⟩ v').heap[R]? = some (.cells #[x', y', z', u', v'] t (0, 0)) := by
  rw [heap_setCell_same _ _ _ _ t _ (heap_setCell_same _ _ _ _ t _ (heap_setCell_same _ _ _ _ t _ (heap_setCell_same _ _ _ _ t _ (heap_setCell_same _ _ _ _ t _ h))))]
  simp
/-- Pairs held against each other, the first that differ decide. -/
def cmpPairs : List (Int × Int) → Int
  | [] => 0
  | p :: t => if p.1 < p.2 then -1 else if p.2 < p.1 then 1 else cmpPairs t
def prs (g r : Int) (l : ByteArray) (n x g' r' : Int) (l' : ByteArray) (n' x' : Int) : List (Int × Int) := [(g, g'), (r, r'), (cmpB l l', 0), (n, n'), (x, x')]
def cmpS (g r : Int) (l : ByteArray) (n x g' r' : Int) (l' : ByteArray) (n' x' : Int) : Int := cmpPairs (prs g r l n x g' r' l' n' x')
theorem exec_alloc128 {ev : Operand → Value} {T : TypeId} {w : World} :
    (execOp ev { dst := none, op := .alloc 164, type := T, pos := "", after := #[], guard := none }).run Tryz.prog w = .ok (.value (.pointer (some ⟨w.heap.size, 0, none⟩))) (w.alloc (.cells #[.int .i64 0, .int .i64 0, .int .i64 0, .int .i64 0, .int .i64 0, .int .i64 0, .int .i64 0, .int .i64 0, .int .i64 0, .int .i64 0] 164)) := by
  unfold execOp
  go_simp
  try rfl
theorem noGoto_ret {Q : Exit → Act → World → Prop} {a : Act} {w : World} (h : Q .ret a w) : Exit.noGoto Q .ret a w := h
theorem pair_cases (a b : Int) (t : List (Int × Int)) (R : Int) (h : cmpPairs ((a, b) :: t) = R) : (a < b ∧ R = -1) ∨ (¬ a < b ∧ b < a ∧ R = 1) ∨ (¬ a < b ∧ ¬ b < a ∧ cmpPairs t = R) := by
  rw [cmpPairs] at h
  split at h
  next h1 => exact .inl ⟨h1, h.symm⟩
  next h1 =>
    split at h
    next h2 => exact .inr (.inl ⟨h1, h2, h.symm⟩)
    next h2 => exact .inr (.inr ⟨h1, h2, h⟩)
theorem exec_fa27_0 {ev : Operand → Value} {x : Operand} {T : TypeId} {w : World} {b o : Nat} (hx : ev x = .pointer (some ⟨b, o, none⟩)) :
    (execOp ev { dst := none, op := .fieldAddr 52 x 0, type := T, pos := "", after := #[], guard := none }).run Tryz.prog w = .ok (.value (.pointer (some ⟨b, o + 0, none⟩))) w := by
  unfold execOp
  simp only [hx]
  go_simp
theorem exec_fa27_1 {ev : Operand → Value} {x : Operand} {T : TypeId} {w : World} {b o : Nat} (hx : ev x = .pointer (some ⟨b, o, none⟩)) :
    (execOp ev { dst := none, op := .fieldAddr 52 x 1, type := T, pos := "", after := #[], guard := none }).run Tryz.prog w = .ok (.value (.pointer (some ⟨b, o + 1, none⟩))) w := by
  unfold execOp
  simp only [hx]
  go_simp
theorem exec_fa27_2 {ev : Operand → Value} {x : Operand} {T : TypeId} {w : World} {b o : Nat} (hx : ev x = .pointer (some ⟨b, o, none⟩)) :
    (execOp ev { dst := none, op := .fieldAddr 52 x 2, type := T, pos := "", after := #[], guard := none }).run Tryz.prog w = .ok (.value (.pointer (some ⟨b, o + 4, none⟩))) w := by
  unfold execOp
  simp only [hx]
  go_simp
theorem exec_fa25_0 {ev : Operand → Value} {x : Operand} {T : TypeId} {w : World} {b o : Nat} (hx : ev x = .pointer (some ⟨b, o, none⟩)) :
    (execOp ev { dst := none, op := .fieldAddr 50 x 0, type := T, pos := "", after := #[], guard := none }).run Tryz.prog w = .ok (.value (.pointer (some ⟨b, o + 0, none⟩))) w := by
  unfold execOp
  simp only [hx]
  go_simp
theorem exec_fa25_1 {ev : Operand → Value} {x : Operand} {T : TypeId} {w : World} {b o : Nat} (hx : ev x = .pointer (some ⟨b, o, none⟩)) :
    (execOp ev { dst := none, op := .fieldAddr 50 x 1, type := T, pos := "", after := #[], guard := none }).run Tryz.prog w = .ok (.value (.pointer (some ⟨b, o + 2, none⟩))) w := by
  unfold execOp
  simp only [hx]
  go_simp
theorem exec_fa23_0 {ev : Operand → Value} {x : Operand} {T : TypeId} {w : World} {b o : Nat} (hx : ev x = .pointer (some ⟨b, o, none⟩)) :
    (execOp ev { dst := none, op := .fieldAddr 48 x 0, type := T, pos := "", after := #[], guard := none }).run Tryz.prog w = .ok (.value (.pointer (some ⟨b, o + 0, none⟩))) w := by
  unfold execOp
  simp only [hx]
  go_simp
theorem exec_fa23_1 {ev : Operand → Value} {x : Operand} {T : TypeId} {w : World} {b o : Nat} (hx : ev x = .pointer (some ⟨b, o, none⟩)) :
    (execOp ev { dst := none, op := .fieldAddr 48 x 1, type := T, pos := "", after := #[], guard := none }).run Tryz.prog w = .ok (.value (.pointer (some ⟨b, o + 1, none⟩))) w := by
  unfold execOp
  simp only [hx]
  go_simp
theorem exec_load2 {ev : Operand → Value} {x : Operand} {T : TypeId} {w : World} {b o : Nat} {v : Value} (hx : ev x = .pointer (some ⟨b, o, none⟩)) (h : w.cell? ⟨b, o, none⟩ = some v) :
    (execOp ev { dst := none, op := .load 2 x, type := T, pos := "", after := #[], guard := none }).run Tryz.prog w = .ok (.value v) w := by
  unfold execOp
  simp only [hx]
  go_simp
theorem exec_load3 {ev : Operand → Value} {x : Operand} {T : TypeId} {w : World} {b o : Nat} {v : Value} (hx : ev x = .pointer (some ⟨b, o, none⟩)) (h : w.cell? ⟨b, o, none⟩ = some v) :
    (execOp ev { dst := none, op := .load 3 x, type := T, pos := "", after := #[], guard := none }).run Tryz.prog w = .ok (.value v) w := by
  unfold execOp
  simp only [hx]
  go_simp
theorem exec_load9 {ev : Operand → Value} {x : Operand} {T : TypeId} {w : World} {b o : Nat} {v : Value} (hx : ev x = .pointer (some ⟨b, o, none⟩)) (h : w.cell? ⟨b, o, none⟩ = some v) :
    (execOp ev { dst := none, op := .load 9 x, type := T, pos := "", after := #[], guard := none }).run Tryz.prog w = .ok (.value v) w := by
  unfold execOp
  simp only [hx]
  go_simp
theorem exec_build126 {ev : Operand → Value} {x y : Operand} {T : TypeId} {w : World} {a b : Int} (hx : ev x = .int .i64 a) (hy : ev y = .int .i64 b) :
    (execOp ev { dst := none, op := .build 163 #[(0, x), (1, y)], type := T, pos := "", after := #[], guard := none }).run Tryz.prog w = .ok (.value (.agg #[.int .i64 a, .int .i64 b])) w := by
  unfold execOp
  simp only [hx, hy]
  go_simp
theorem exec_build128 {ev : Operand → Value} {x0 x1 x2 x3 x4 : Operand} {T : TypeId} {w : World} {a0 b0 a1 b1 a2 b2 a3 b3 a4 b4 : Int} (h0 : ev x0 = .agg #[.int .i64 a0, .int .i64 b0]) (h1 : ev x1 = .agg #[.int .i64 a1, .int .i64 b1]) (h2 : ev x2 = .agg #[.int .i64 a2, .int .i64 b2]) (h3 : ev x3 = .agg #[.int .i64 a3, .int .i64 b3]) (h4 : ev x4 = .agg #[.int .i64 a4, .int .i64 b4]) :
    (execOp ev { dst := none, op := .build 164 #[(0, x0), (1, x1), (2, x2), (3, x3), (4, x4)], type := T, pos := "", after := #[], guard := none }).run Tryz.prog w = .ok (.value (.agg #[.int .i64 a0, .int .i64 b0, .int .i64 a1, .int .i64 b1, .int .i64 a2, .int .i64 b2, .int .i64 a3, .int .i64 b3, .int .i64 a4, .int .i64 b4])) w := by
  unfold execOp
  simp only [h0, h1, h2, h3, h4]
  go_simp
set_option maxHeartbeats 4000000 in
set_option maxRecDepth 100000 in
theorem cmpS_any (g r : Int) (l : ByteArray) (n x g' r' : Int) (l' : ByteArray) (n' x' : Int) (w : World) : Calls Tryz.prog 98 #[sv g r l n x, sv g' r' l' n' x'] w fun e w' => e = .returned (.int .i64 (cmpS g r l n x g' r' l' n' x')) ∧ Below w.heap.size w w' := by
  have hb : Below w.heap.size w ((w.alloc (.cells #[.int .i64 g, .int .i64 r, .string l, .int .i64 n, .int .i64 x] 52)).alloc (.cells #[.int .i64 g', .int .i64 r', .string l', .int .i64 n', .int .i64 x'] 52)) := (below_new w _).alloc (by simp) _
  obtain ⟨hk1, hk2⟩ := new2 w (.cells #[.int .i64 g, .int .i64 r, .string l, .int .i64 n, .int .i64 x] 52) (.cells #[.int .i64 g', .int .i64 r', .string l', .int .i64 n', .int .i64 x'] 52)
  have h100 := fun W => cmp_any l l' W
  obtain ⟨cb, hcb⟩ : ∃ cb, cb = cmpB l l' := ⟨_, rfl⟩
  rw [← hcb] at h100
  obtain ⟨R, hR⟩ : ∃ R, cmpPairs [(g, g'), (r, r'), (cb, 0), (n, n'), (x, x')] = R := ⟨_, rfl⟩
  have hgoal : cmpS g r l n x g' r' l' n' x' = R := by unfold cmpS prs; rw [← hcb]; exact hR
  rw [hgoal]
  have HR := hide hR
  clear hgoal hR hcb
  go_enter Tryz.func98, Tryz.ntmps98
  go_upto_region 1 with fail
  refine wp_scope_straight ?_
  go_upto_region 1 with fail
  obtain ⟨c0, c1, c2, c3, c4, _, _, _, _, _⟩ := blk5 hk1
  obtain ⟨d0, d1, d2, d3, d4, _, _, _, _, _⟩ := blk5 hk2
  generalize ((w.alloc (.cells #[.int .i64 g, .int .i64 r, .string l, .int .i64 n, .int .i64 x] 52)).alloc (.cells #[.int .i64 g', .int .i64 r', .string l', .int .i64 n', .int .i64 x'] 52)) = w1 at hb hk1 hk2 c0 c1 c2 c3 c4 d0 d1 d2 d3 d4 ⊢
  have HB1 := hide (And.intro hb (And.intro hk1 hk2))
  clear hb hk1 hk2
  have hA1 : ∀ (p : Addr) (v : Value) (o1 : Obj), w1.cell? p = some v → (w1.alloc o1).cell? p = some v := fun p v o1 hp => (Below.cell ((Below.refl _ w1).alloc (Nat.le_refl _) o1) (World.block_lt_of_cell? _ _ hp)).trans hp
  have hA2 : ∀ (p : Addr) (v : Value) (o1 o2 : Obj), w1.cell? p = some v → ((w1.alloc o1).alloc o2).cell? p = some v := fun p v o1 o2 hp => (Below.cell (((Below.refl _ w1).alloc (Nat.le_refl _) o1).alloc (by simp) o2) (World.block_lt_of_cell? _ _ hp)).trans hp
  have e11 := fun o1 => hA1 _ _ o1 c1
  have e21 := fun o1 o2 => hA2 _ _ o1 o2 c1
  have e12 := fun o1 => hA1 _ _ o1 c2
  have e22 := fun o1 o2 => hA2 _ _ o1 o2 c2
  have e13 := fun o1 => hA1 _ _ o1 c3
  have e23 := fun o1 o2 => hA2 _ _ o1 o2 c3
  have f11 := fun o1 => hA1 _ _ o1 d1
  have f21 := fun o1 o2 => hA2 _ _ o1 o2 d1
  have f12 := fun o1 => hA1 _ _ o1 d2
  have f22 := fun o1 o2 => hA2 _ _ o1 o2 d2
  have f13 := fun o1 => hA1 _ _ o1 d3
  have f23 := fun o1 o2 => hA2 _ _ o1 o2 d3
  clear hA1 hA2
  go_cut [5, 6] (fun v5 v6 wc => ∃ A B : Nat, v5 = .pointer (some ⟨A, 0, none⟩) ∧ v6 = .pointer (some ⟨B, 0, none⟩) ∧ Hid (wc.heap[w.heap.size]? = some (.cells #[.int .i64 g, .int .i64 r, .string l, .int .i64 n, .int .i64 x] 52) ∧ wc.heap[w.heap.size + 1]? = some (.cells #[.int .i64 g', .int .i64 r', .string l', .int .i64 n', .int .i64 x'] 52) ∧ wc.heap[A]? = some (.cells #[.int .i64 r, .string l, .int .i64 n] 50) ∧ wc.heap[B]? = some (.cells #[.int .i64 r', .string l', .int .i64 n'] 50) ∧ Below w.heap.size w wc))
  case first =>
    as_aux_lemma =>
      have hn2 : ∀ o1 o2 : Obj, (((w1.alloc o1).alloc o2).drew.heap[w1.heap.size]? = some o1 ∧ ((w1.alloc o1).alloc o2).drew.heap[w1.heap.size + 1]? = some o2) ∧ (((w1.alloc o1).alloc o2).drew.heap[w.heap.size]? = some (.cells #[.int .i64 g, .int .i64 r, .string l, .int .i64 n, .int .i64 x] 52) ∧ ((w1.alloc o1).alloc o2).drew.heap[w.heap.size + 1]? = some (.cells #[.int .i64 g', .int .i64 r', .string l', .int .i64 n', .int .i64 x'] 52)) ∧ Below w.heap.size w ((w1.alloc o1).alloc o2).drew := fun o1 o2 => by
        obtain ⟨q1, q2⟩ := new2 w1 o1 o2
        have hs := HB1.out.1.size
        have b2 : Below w1.heap.size w1 ((w1.alloc o1).alloc o2) := ((Below.refl _ w1).alloc (Nat.le_refl _) o1).alloc (by simp) o2
        have hz1 := (Array.getElem?_eq_some_iff.1 HB1.out.2.1).1
        have hz2 := (Array.getElem?_eq_some_iff.1 HB1.out.2.2).1
        exact ⟨⟨q1, q2⟩, ⟨(b2.block _ hz1).trans HB1.out.2.1, (b2.block _ hz2).trans HB1.out.2.2⟩, (HB1.out.1.trans (b2.mono hs)).drew⟩
      have HN2 := hide hn2
      clear hn2
      go_region
      all_goals go_wp2
      all_goals go_meet
      all_goals exact ⟨_, _, rfl, rfl, hide ⟨(HN2.out _ _).2.1.1, (HN2.out _ _).2.1.2, by first | exact (HN2.out _ _).1.1 | exact (HN2.out _ _).1.2, by first | exact (HN2.out _ _).1.1 | exact (HN2.out _ _).1.2, (HN2.out _ _).2.2⟩⟩
  case rest =>
  clear e11 e21 e12 e22 e13 e23 f11 f21 f12 f22 f13 f23 c0 c1 c2 c3 c4 d0 d1 d2 d3 d4 HB1
  obtain ⟨A, B, rfl, rfl, HW⟩ := hcut
  have hS : wc.drew.cell? ⟨w.heap.size, 0, none⟩ = some (.int .i64 g) ∧ wc.drew.cell? ⟨w.heap.size, 1, none⟩ = some (.int .i64 r) ∧ wc.drew.cell? ⟨w.heap.size, 2, none⟩ = some (.string l) ∧ wc.drew.cell? ⟨w.heap.size, 3, none⟩ = some (.int .i64 n) ∧ wc.drew.cell? ⟨w.heap.size, 4, none⟩ = some (.int .i64 x) ∧ wc.drew.cell? ⟨w.heap.size + 1, 0, none⟩ = some (.int .i64 g') ∧ wc.drew.cell? ⟨w.heap.size + 1, 1, none⟩ = some (.int .i64 r') ∧ wc.drew.cell? ⟨w.heap.size + 1, 2, none⟩ = some (.string l') ∧ wc.drew.cell? ⟨w.heap.size + 1, 3, none⟩ = some (.int .i64 n') ∧ wc.drew.cell? ⟨w.heap.size + 1, 4, none⟩ = some (.int .i64 x') ∧ wc.drew.cell? ⟨A, 0, none⟩ = some (.int .i64 r) ∧ wc.drew.cell? ⟨A, 1, none⟩ = some (.string l) ∧ wc.drew.cell? ⟨A, 2, none⟩ = some (.int .i64 n) ∧ wc.drew.cell? ⟨B, 0, none⟩ = some (.int .i64 r') ∧ wc.drew.cell? ⟨B, 1, none⟩ = some (.string l') ∧ wc.drew.cell? ⟨B, 2, none⟩ = some (.int .i64 n') := by
    obtain ⟨h1, h2, h3, h4, _⟩ := HW.out
    obtain ⟨a0, a1, a2, a3, a4, _, _, _, _, _⟩ := blk5 h1
    obtain ⟨b0, b1, b2, b3, b4, _, _, _, _, _⟩ := blk5 h2
    obtain ⟨m0, m1, m2, _, _, _⟩ := blk3 h3
    obtain ⟨n0, n1, n2, _, _, _⟩ := blk3 h4
    exact ⟨a0, a1, a2, a3, a4, b0, b1, b2, b3, b4, m0, m1, m2, n0, n1, n2⟩
  have hD : Below w.heap.size w wc.drew := HW.out.2.2.2.2.drew
  clear HW
  go_upto_region 2 with fail
  go_cut [7] (fun v7 wd => ∃ Pn, v7 = .pointer (some ⟨Pn, 0, none⟩) ∧ Hid (wd.heap[Pn]? = some (.cells #[.int .i64 g, .int .i64 g', .int .i64 r, .int .i64 r', .int .i64 cb, .int .i64 0, .int .i64 n, .int .i64 n', .int .i64 x, .int .i64 x'] 164 (0, 0)) ∧ Below w.heap.size w wd))
  case first =>
    as_aux_lemma =>
      refine wp_region_held_drew (S := (fun w' => w'.cell? ⟨w.heap.size, 0, none⟩ = some (.int .i64 g) ∧ w'.cell? ⟨w.heap.size, 1, none⟩ = some (.int .i64 r) ∧ w'.cell? ⟨w.heap.size, 2, none⟩ = some (.string l) ∧ w'.cell? ⟨w.heap.size, 3, none⟩ = some (.int .i64 n) ∧ w'.cell? ⟨w.heap.size, 4, none⟩ = some (.int .i64 x) ∧ w'.cell? ⟨w.heap.size + 1, 0, none⟩ = some (.int .i64 g') ∧ w'.cell? ⟨w.heap.size + 1, 1, none⟩ = some (.int .i64 r') ∧ w'.cell? ⟨w.heap.size + 1, 2, none⟩ = some (.string l') ∧ w'.cell? ⟨w.heap.size + 1, 3, none⟩ = some (.int .i64 n') ∧ w'.cell? ⟨w.heap.size + 1, 4, none⟩ = some (.int .i64 x') ∧ w'.cell? ⟨A, 0, none⟩ = some (.int .i64 r) ∧ w'.cell? ⟨A, 1, none⟩ = some (.string l) ∧ w'.cell? ⟨A, 2, none⟩ = some (.int .i64 n) ∧ w'.cell? ⟨B, 0, none⟩ = some (.int .i64 r') ∧ w'.cell? ⟨B, 1, none⟩ = some (.string l') ∧ w'.cell? ⟨B, 2, none⟩ = some (.int .i64 n'))) (by kernel_rfl) (by exact hS) (fun hHeld => ?_)
      try dsimp only at hHeld
      generalize wc.drew = W1 at hHeld hD ⊢
      clear hS
      refine take_op (i := 0) (d := 15) (OP := Op.fieldAddr 52 (Operand.tmp 2) 0) (T := 0) (v := .pointer (some ⟨w.heap.size, 0, none⟩)) rfl rfl rfl rfl (by kernel_rfl) (by kernel_rfl) (by kernel_rfl) (fun _ _ _ h => h) (by rfl) (fun w' _ => exec_fa27_0 rfl) hHeld ?_
      try simp only [Act.put, List.setIfInBounds_toArray, List.set_cons_zero, List.set_cons_succ]
      refine take_op (i := 1) (d := 16) (OP := Op.load 2 (Operand.tmp 15)) (T := 2) (v := .int .i64 g) rfl rfl rfl rfl (by kernel_rfl) (by kernel_rfl) (by kernel_rfl) (fun _ _ _ h => h) (by rfl) (fun w' hSw => exec_load2 rfl hSw.1) hHeld ?_
      try simp only [Act.put, List.setIfInBounds_toArray, List.set_cons_zero, List.set_cons_succ]
      refine take_op (i := 2) (d := 17) (OP := Op.fieldAddr 52 (Operand.tmp 3) 0) (T := 0) (v := .pointer (some ⟨w.heap.size + 1, 0, none⟩)) rfl rfl rfl rfl (by kernel_rfl) (by kernel_rfl) (by kernel_rfl) (fun _ _ _ h => h) (by rfl) (fun w' _ => exec_fa27_0 rfl) hHeld ?_
      try simp only [Act.put, List.setIfInBounds_toArray, List.set_cons_zero, List.set_cons_succ]
      refine take_op (i := 3) (d := 18) (OP := Op.load 2 (Operand.tmp 17)) (T := 2) (v := .int .i64 g') rfl rfl rfl rfl (by kernel_rfl) (by kernel_rfl) (by kernel_rfl) (fun _ _ _ h => h) (by rfl) (fun w' hSw => exec_load2 rfl hSw.2.2.2.2.2.1) hHeld ?_
      try simp only [Act.put, List.setIfInBounds_toArray, List.set_cons_zero, List.set_cons_succ]
      refine take_op (i := 4) (d := 19) (OP := Op.build 163 #[(0, Operand.tmp 16), (1, Operand.tmp 18)]) (T := 163) (v := .agg #[.int .i64 g, .int .i64 g']) rfl rfl rfl rfl (by kernel_rfl) (by kernel_rfl) (by kernel_rfl) (fun _ _ _ h => h) (by rfl) (fun w' _ => exec_build126 rfl rfl) hHeld ?_
      try simp only [Act.put, List.setIfInBounds_toArray, List.set_cons_zero, List.set_cons_succ]
      refine take_op (i := 5) (d := 20) (OP := Op.fieldAddr 50 (Operand.tmp 5) 0) (T := 0) (v := .pointer (some ⟨A, 0, none⟩)) rfl rfl rfl rfl (by kernel_rfl) (by kernel_rfl) (by kernel_rfl) (fun _ _ _ h => h) (by rfl) (fun w' _ => exec_fa25_0 rfl) hHeld ?_
      try simp only [Act.put, List.setIfInBounds_toArray, List.set_cons_zero, List.set_cons_succ]
      refine take_op (i := 6) (d := 21) (OP := Op.fieldAddr 48 (Operand.tmp 20) 0) (T := 0) (v := .pointer (some ⟨A, 0, none⟩)) rfl rfl rfl rfl (by kernel_rfl) (by kernel_rfl) (by kernel_rfl) (fun _ _ _ h => h) (by rfl) (fun w' _ => exec_fa23_0 rfl) hHeld ?_
      try simp only [Act.put, List.setIfInBounds_toArray, List.set_cons_zero, List.set_cons_succ]
      refine take_op (i := 7) (d := 22) (OP := Op.load 3 (Operand.tmp 21)) (T := 3) (v := .int .i64 r) rfl rfl rfl rfl (by kernel_rfl) (by kernel_rfl) (by kernel_rfl) (fun _ _ _ h => h) (by rfl) (fun w' hSw => exec_load3 rfl hSw.2.2.2.2.2.2.2.2.2.2.1) hHeld ?_
      try simp only [Act.put, List.setIfInBounds_toArray, List.set_cons_zero, List.set_cons_succ]
      refine take_op (i := 8) (d := 23) (OP := Op.fieldAddr 50 (Operand.tmp 6) 0) (T := 0) (v := .pointer (some ⟨B, 0, none⟩)) rfl rfl rfl rfl (by kernel_rfl) (by kernel_rfl) (by kernel_rfl) (fun _ _ _ h => h) (by rfl) (fun w' _ => exec_fa25_0 rfl) hHeld ?_
      try simp only [Act.put, List.setIfInBounds_toArray, List.set_cons_zero, List.set_cons_succ]
      refine take_op (i := 9) (d := 24) (OP := Op.fieldAddr 48 (Operand.tmp 23) 0) (T := 0) (v := .pointer (some ⟨B, 0, none⟩)) rfl rfl rfl rfl (by kernel_rfl) (by kernel_rfl) (by kernel_rfl) (fun _ _ _ h => h) (by rfl) (fun w' _ => exec_fa23_0 rfl) hHeld ?_
      try simp only [Act.put, List.setIfInBounds_toArray, List.set_cons_zero, List.set_cons_succ]
      refine take_op (i := 10) (d := 25) (OP := Op.load 3 (Operand.tmp 24)) (T := 3) (v := .int .i64 r') rfl rfl rfl rfl (by kernel_rfl) (by kernel_rfl) (by kernel_rfl) (fun _ _ _ h => h) (by rfl) (fun w' hSw => exec_load3 rfl hSw.2.2.2.2.2.2.2.2.2.2.2.2.2.1) hHeld ?_
      try simp only [Act.put, List.setIfInBounds_toArray, List.set_cons_zero, List.set_cons_succ]
      refine take_op (i := 11) (d := 26) (OP := Op.build 163 #[(0, Operand.tmp 22), (1, Operand.tmp 25)]) (T := 163) (v := .agg #[.int .i64 r, .int .i64 r']) rfl rfl rfl rfl (by kernel_rfl) (by kernel_rfl) (by kernel_rfl) (fun _ _ _ h => h) (by rfl) (fun w' _ => exec_build126 rfl rfl) hHeld ?_
      try simp only [Act.put, List.setIfInBounds_toArray, List.set_cons_zero, List.set_cons_succ]
      refine take_op (i := 12) (d := 27) (OP := Op.fieldAddr 50 (Operand.tmp 5) 0) (T := 0) (v := .pointer (some ⟨A, 0, none⟩)) rfl rfl rfl rfl (by kernel_rfl) (by kernel_rfl) (by kernel_rfl) (fun _ _ _ h => h) (by rfl) (fun w' _ => exec_fa25_0 rfl) hHeld ?_
      try simp only [Act.put, List.setIfInBounds_toArray, List.set_cons_zero, List.set_cons_succ]
      refine take_op (i := 13) (d := 28) (OP := Op.fieldAddr 48 (Operand.tmp 27) 1) (T := 0) (v := .pointer (some ⟨A, 1, none⟩)) rfl rfl rfl rfl (by kernel_rfl) (by kernel_rfl) (by kernel_rfl) (fun _ _ _ h => h) (by rfl) (fun w' _ => exec_fa23_1 rfl) hHeld ?_
      try simp only [Act.put, List.setIfInBounds_toArray, List.set_cons_zero, List.set_cons_succ]
      refine take_op (i := 14) (d := 29) (OP := Op.load 9 (Operand.tmp 28)) (T := 9) (v := .string l) rfl rfl rfl rfl (by kernel_rfl) (by kernel_rfl) (by kernel_rfl) (fun _ _ _ h => h) (by rfl) (fun w' hSw => exec_load9 rfl hSw.2.2.2.2.2.2.2.2.2.2.2.1) hHeld ?_
      try simp only [Act.put, List.setIfInBounds_toArray, List.set_cons_zero, List.set_cons_succ]
      refine take_op (i := 15) (d := 30) (OP := Op.fieldAddr 50 (Operand.tmp 6) 0) (T := 0) (v := .pointer (some ⟨B, 0, none⟩)) rfl rfl rfl rfl (by kernel_rfl) (by kernel_rfl) (by kernel_rfl) (fun _ _ _ h => h) (by rfl) (fun w' _ => exec_fa25_0 rfl) hHeld ?_
      try simp only [Act.put, List.setIfInBounds_toArray, List.set_cons_zero, List.set_cons_succ]
      refine take_op (i := 16) (d := 31) (OP := Op.fieldAddr 48 (Operand.tmp 30) 1) (T := 0) (v := .pointer (some ⟨B, 1, none⟩)) rfl rfl rfl rfl (by kernel_rfl) (by kernel_rfl) (by kernel_rfl) (fun _ _ _ h => h) (by rfl) (fun w' _ => exec_fa23_1 rfl) hHeld ?_
      try simp only [Act.put, List.setIfInBounds_toArray, List.set_cons_zero, List.set_cons_succ]
      refine take_op (i := 17) (d := 32) (OP := Op.load 9 (Operand.tmp 31)) (T := 9) (v := .string l') rfl rfl rfl rfl (by kernel_rfl) (by kernel_rfl) (by kernel_rfl) (fun _ _ _ h => h) (by rfl) (fun w' hSw => exec_load9 rfl hSw.2.2.2.2.2.2.2.2.2.2.2.2.2.2.1) hHeld ?_
      try simp only [Act.put, List.setIfInBounds_toArray, List.set_cons_zero, List.set_cons_succ]
      refine take_op (i := 20) (d := 35) (OP := Op.fieldAddr 50 (Operand.tmp 5) 1) (T := 0) (v := .pointer (some ⟨A, 2, none⟩)) rfl rfl rfl rfl (by kernel_rfl) (by kernel_rfl) (by kernel_rfl) (fun _ _ _ h => h) (by rfl) (fun w' _ => exec_fa25_1 rfl) hHeld ?_
      try simp only [Act.put, List.setIfInBounds_toArray, List.set_cons_zero, List.set_cons_succ]
      refine take_op (i := 21) (d := 36) (OP := Op.load 2 (Operand.tmp 35)) (T := 2) (v := .int .i64 n) rfl rfl rfl rfl (by kernel_rfl) (by kernel_rfl) (by kernel_rfl) (fun _ _ _ h => h) (by rfl) (fun w' hSw => exec_load2 rfl hSw.2.2.2.2.2.2.2.2.2.2.2.2.1) hHeld ?_
      try simp only [Act.put, List.setIfInBounds_toArray, List.set_cons_zero, List.set_cons_succ]
      refine take_op (i := 22) (d := 37) (OP := Op.fieldAddr 50 (Operand.tmp 6) 1) (T := 0) (v := .pointer (some ⟨B, 2, none⟩)) rfl rfl rfl rfl (by kernel_rfl) (by kernel_rfl) (by kernel_rfl) (fun _ _ _ h => h) (by rfl) (fun w' _ => exec_fa25_1 rfl) hHeld ?_
      try simp only [Act.put, List.setIfInBounds_toArray, List.set_cons_zero, List.set_cons_succ]
      refine take_op (i := 23) (d := 38) (OP := Op.load 2 (Operand.tmp 37)) (T := 2) (v := .int .i64 n') rfl rfl rfl rfl (by kernel_rfl) (by kernel_rfl) (by kernel_rfl) (fun _ _ _ h => h) (by rfl) (fun w' hSw => exec_load2 rfl hSw.2.2.2.2.2.2.2.2.2.2.2.2.2.2.2) hHeld ?_
      try simp only [Act.put, List.setIfInBounds_toArray, List.set_cons_zero, List.set_cons_succ]
      refine take_op (i := 24) (d := 39) (OP := Op.build 163 #[(0, Operand.tmp 36), (1, Operand.tmp 38)]) (T := 163) (v := .agg #[.int .i64 n, .int .i64 n']) rfl rfl rfl rfl (by kernel_rfl) (by kernel_rfl) (by kernel_rfl) (fun _ _ _ h => h) (by rfl) (fun w' _ => exec_build126 rfl rfl) hHeld ?_
      try simp only [Act.put, List.setIfInBounds_toArray, List.set_cons_zero, List.set_cons_succ]
      refine take_op (i := 25) (d := 40) (OP := Op.fieldAddr 52 (Operand.tmp 2) 2) (T := 0) (v := .pointer (some ⟨w.heap.size, 4, none⟩)) rfl rfl rfl rfl (by kernel_rfl) (by kernel_rfl) (by kernel_rfl) (fun _ _ _ h => h) (by rfl) (fun w' _ => exec_fa27_2 rfl) hHeld ?_
      try simp only [Act.put, List.setIfInBounds_toArray, List.set_cons_zero, List.set_cons_succ]
      refine take_op (i := 26) (d := 41) (OP := Op.load 3 (Operand.tmp 40)) (T := 3) (v := .int .i64 x) rfl rfl rfl rfl (by kernel_rfl) (by kernel_rfl) (by kernel_rfl) (fun _ _ _ h => h) (by rfl) (fun w' hSw => exec_load3 rfl hSw.2.2.2.2.1) hHeld ?_
      try simp only [Act.put, List.setIfInBounds_toArray, List.set_cons_zero, List.set_cons_succ]
      refine take_op (i := 27) (d := 42) (OP := Op.fieldAddr 52 (Operand.tmp 3) 2) (T := 0) (v := .pointer (some ⟨w.heap.size + 1, 4, none⟩)) rfl rfl rfl rfl (by kernel_rfl) (by kernel_rfl) (by kernel_rfl) (fun _ _ _ h => h) (by rfl) (fun w' _ => exec_fa27_2 rfl) hHeld ?_
      try simp only [Act.put, List.setIfInBounds_toArray, List.set_cons_zero, List.set_cons_succ]
      refine take_op (i := 28) (d := 43) (OP := Op.load 3 (Operand.tmp 42)) (T := 3) (v := .int .i64 x') rfl rfl rfl rfl (by kernel_rfl) (by kernel_rfl) (by kernel_rfl) (fun _ _ _ h => h) (by rfl) (fun w' hSw => exec_load3 rfl hSw.2.2.2.2.2.2.2.2.2.1) hHeld ?_
      try simp only [Act.put, List.setIfInBounds_toArray, List.set_cons_zero, List.set_cons_succ]
      refine take_op (i := 29) (d := 44) (OP := Op.build 163 #[(0, Operand.tmp 41), (1, Operand.tmp 43)]) (T := 163) (v := .agg #[.int .i64 x, .int .i64 x']) rfl rfl rfl rfl (by kernel_rfl) (by kernel_rfl) (by kernel_rfl) (fun _ _ _ h => h) (by rfl) (fun w' _ => exec_build126 rfl rfl) hHeld ?_
      try simp only [Act.put, List.setIfInBounds_toArray, List.set_cons_zero, List.set_cons_succ]
      have hH0 := hHeld
      have hSl : (W1.alloc (.cells #[.int .i64 0, .int .i64 0, .int .i64 0, .int .i64 0, .int .i64 0, .int .i64 0, .int .i64 0, .int .i64 0, .int .i64 0, .int .i64 0] 164)).cell? ⟨w.heap.size, 0, none⟩ = some (.int .i64 g) ∧ (W1.alloc (.cells #[.int .i64 0, .int .i64 0, .int .i64 0, .int .i64 0, .int .i64 0, .int .i64 0, .int .i64 0, .int .i64 0, .int .i64 0, .int .i64 0] 164)).cell? ⟨w.heap.size, 1, none⟩ = some (.int .i64 r) ∧ (W1.alloc (.cells #[.int .i64 0, .int .i64 0, .int .i64 0, .int .i64 0, .int .i64 0, .int .i64 0, .int .i64 0, .int .i64 0, .int .i64 0, .int .i64 0] 164)).cell? ⟨w.heap.size, 2, none⟩ = some (.string l) ∧ (W1.alloc (.cells #[.int .i64 0, .int .i64 0, .int .i64 0, .int .i64 0, .int .i64 0, .int .i64 0, .int .i64 0, .int .i64 0, .int .i64 0, .int .i64 0] 164)).cell? ⟨w.heap.size, 3, none⟩ = some (.int .i64 n) ∧ (W1.alloc (.cells #[.int .i64 0, .int .i64 0, .int .i64 0, .int .i64 0, .int .i64 0, .int .i64 0, .int .i64 0, .int .i64 0, .int .i64 0, .int .i64 0] 164)).cell? ⟨w.heap.size, 4, none⟩ = some (.int .i64 x) ∧ (W1.alloc (.cells #[.int .i64 0, .int .i64 0, .int .i64 0, .int .i64 0, .int .i64 0, .int .i64 0, .int .i64 0, .int .i64 0, .int .i64 0, .int .i64 0] 164)).cell? ⟨w.heap.size + 1, 0, none⟩ = some (.int .i64 g') ∧ (W1.alloc (.cells #[.int .i64 0, .int .i64 0, .int .i64 0, .int .i64 0, .int .i64 0, .int .i64 0, .int .i64 0, .int .i64 0, .int .i64 0, .int .i64 0] 164)).cell? ⟨w.heap.size + 1, 1, none⟩ = some (.int .i64 r') ∧ (W1.alloc (.cells #[.int .i64 0, .int .i64 0, .int .i64 0, .int .i64 0, .int .i64 0, .int .i64 0, .int .i64 0, .int .i64 0, .int .i64 0, .int .i64 0] 164)).cell? ⟨w.heap.size + 1, 2, none⟩ = some (.string l') ∧ (W1.alloc (.cells #[.int .i64 0, .int .i64 0, .int .i64 0, .int .i64 0, .int .i64 0, .int .i64 0, .int .i64 0, .int .i64 0, .int .i64 0, .int .i64 0] 164)).cell? ⟨w.heap.size + 1, 3, none⟩ = some (.int .i64 n') ∧ (W1.alloc (.cells #[.int .i64 0, .int .i64 0, .int .i64 0, .int .i64 0, .int .i64 0, .int .i64 0, .int .i64 0, .int .i64 0, .int .i64 0, .int .i64 0] 164)).cell? ⟨w.heap.size + 1, 4, none⟩ = some (.int .i64 x') ∧ (W1.alloc (.cells #[.int .i64 0, .int .i64 0, .int .i64 0, .int .i64 0, .int .i64 0, .int .i64 0, .int .i64 0, .int .i64 0, .int .i64 0, .int .i64 0] 164)).cell? ⟨A, 0, none⟩ = some (.int .i64 r) ∧ (W1.alloc (.cells #[.int .i64 0, .int .i64 0, .int .i64 0, .int .i64 0, .int .i64 0, .int .i64 0, .int .i64 0, .int .i64 0, .int .i64 0, .int .i64 0] 164)).cell? ⟨A, 1, none⟩ = some (.string l) ∧ (W1.alloc (.cells #[.int .i64 0, .int .i64 0, .int .i64 0, .int .i64 0, .int .i64 0, .int .i64 0, .int .i64 0, .int .i64 0, .int .i64 0, .int .i64 0] 164)).cell? ⟨A, 2, none⟩ = some (.int .i64 n) ∧ (W1.alloc (.cells #[.int .i64 0, .int .i64 0, .int .i64 0, .int .i64 0, .int .i64 0, .int .i64 0, .int .i64 0, .int .i64 0, .int .i64 0, .int .i64 0] 164)).cell? ⟨B, 0, none⟩ = some (.int .i64 r') ∧ (W1.alloc (.cells #[.int .i64 0, .int .i64 0, .int .i64 0, .int .i64 0, .int .i64 0, .int .i64 0, .int .i64 0, .int .i64 0, .int .i64 0, .int .i64 0] 164)).cell? ⟨B, 1, none⟩ = some (.string l') ∧ (W1.alloc (.cells #[.int .i64 0, .int .i64 0, .int .i64 0, .int .i64 0, .int .i64 0, .int .i64 0, .int .i64 0, .int .i64 0, .int .i64 0, .int .i64 0] 164)).cell? ⟨B, 2, none⟩ = some (.int .i64 n') := ⟨kept (below_new W1 (.cells #[.int .i64 0, .int .i64 0, .int .i64 0, .int .i64 0, .int .i64 0, .int .i64 0, .int .i64 0, .int .i64 0, .int .i64 0, .int .i64 0] 164)) hHeld.1, kept (below_new W1 (.cells #[.int .i64 0, .int .i64 0, .int .i64 0, .int .i64 0, .int .i64 0, .int .i64 0, .int .i64 0, .int .i64 0, .int .i64 0, .int .i64 0] 164)) hHeld.2.1, kept (below_new W1 (.cells #[.int .i64 0, .int .i64 0, .int .i64 0, .int .i64 0, .int .i64 0, .int .i64 0, .int .i64 0, .int .i64 0, .int .i64 0, .int .i64 0] 164)) hHeld.2.2.1, kept (below_new W1 (.cells #[.int .i64 0, .int .i64 0, .int .i64 0, .int .i64 0, .int .i64 0, .int .i64 0, .int .i64 0, .int .i64 0, .int .i64 0, .int .i64 0] 164)) hHeld.2.2.2.1, kept (below_new W1 (.cells #[.int .i64 0, .int .i64 0, .int .i64 0, .int .i64 0, .int .i64 0, .int .i64 0, .int .i64 0, .int .i64 0, .int .i64 0, .int .i64 0] 164)) hHeld.2.2.2.2.1, kept (below_new W1 (.cells #[.int .i64 0, .int .i64 0, .int .i64 0, .int .i64 0, .int .i64 0, .int .i64 0, .int .i64 0, .int .i64 0, .int .i64 0, .int .i64 0] 164)) hHeld.2.2.2.2.2.1, kept (below_new W1 (.cells #[.int .i64 0, .int .i64 0, .int .i64 0, .int .i64 0, .int .i64 0, .int .i64 0, .int .i64 0, .int .i64 0, .int .i64 0, .int .i64 0] 164)) hHeld.2.2.2.2.2.2.1, kept (below_new W1 (.cells #[.int .i64 0, .int .i64 0, .int .i64 0, .int .i64 0, .int .i64 0, .int .i64 0, .int .i64 0, .int .i64 0, .int .i64 0, .int .i64 0] 164)) hHeld.2.2.2.2.2.2.2.1, kept (below_new W1 (.cells #[.int .i64 0, .int .i64 0, .int .i64 0, .int .i64 0, .int .i64 0, .int .i64 0, .int .i64 0, .int .i64 0, .int .i64 0, .int .i64 0] 164)) hHeld.2.2.2.2.2.2.2.2.1, kept (below_new W1 (.cells #[.int .i64 0, .int .i64 0, .int .i64 0, .int .i64 0, .int .i64 0, .int .i64 0, .int .i64 0, .int .i64 0, .int .i64 0, .int .i64 0] 164)) hHeld.2.2.2.2.2.2.2.2.2.1, kept (below_new W1 (.cells #[.int .i64 0, .int .i64 0, .int .i64 0, .int .i64 0, .int .i64 0, .int .i64 0, .int .i64 0, .int .i64 0, .int .i64 0, .int .i64 0] 164)) hHeld.2.2.2.2.2.2.2.2.2.2.1, kept (below_new W1 (.cells #[.int .i64 0, .int .i64 0, .int .i64 0, .int .i64 0, .int .i64 0, .int .i64 0, .int .i64 0, .int .i64 0, .int .i64 0, .int .i64 0] 164)) hHeld.2.2.2.2.2.2.2.2.2.2.2.1, kept (below_new W1 (.cells #[.int .i64 0, .int .i64 0, .int .i64 0, .int .i64 0, .int .i64 0, .int .i64 0, .int .i64 0, .int .i64 0, .int .i64 0, .int .i64 0] 164)) hHeld.2.2.2.2.2.2.2.2.2.2.2.2.1, kept (below_new W1 (.cells #[.int .i64 0, .int .i64 0, .int .i64 0, .int .i64 0, .int .i64 0, .int .i64 0, .int .i64 0, .int .i64 0, .int .i64 0, .int .i64 0] 164)) hHeld.2.2.2.2.2.2.2.2.2.2.2.2.2.1, kept (below_new W1 (.cells #[.int .i64 0, .int .i64 0, .int .i64 0, .int .i64 0, .int .i64 0, .int .i64 0, .int .i64 0, .int .i64 0, .int .i64 0, .int .i64 0] 164)) hHeld.2.2.2.2.2.2.2.2.2.2.2.2.2.2.1, kept (below_new W1 (.cells #[.int .i64 0, .int .i64 0, .int .i64 0, .int .i64 0, .int .i64 0, .int .i64 0, .int .i64 0, .int .i64 0, .int .i64 0, .int .i64 0] 164)) hHeld.2.2.2.2.2.2.2.2.2.2.2.2.2.2.2⟩
      refine call_turn_op (i := 18) (di := 33) (OPi := Op.call { callee := Callee.value (Operand.func 58), args := #[Operand.tmp 29, Operand.tmp 32], argTypes := #[9, 9] }) (Ti := 3) (j := 31) (dj := 7) (OPj := Op.alloc 164) (Tj := 0) (f := 58) (args := #[.string l, .string l']) (u := .pointer (some ⟨W1.heap.size, 0, none⟩)) (w' := W1.alloc (.cells #[.int .i64 0, .int .i64 0, .int .i64 0, .int .i64 0, .int .i64 0, .int .i64 0, .int .i64 0, .int .i64 0, .int .i64 0, .int .i64 0] 164)) rfl rfl rfl rfl rfl rfl rfl rfl (by kernel_rfl) (by rfl) (by rfl) (by go_simp) exec_alloc128 hSl ?_ ?_
      · refine (h100 _).mono ?_
        rintro e v1 ⟨rfl, hv1⟩
        subst hv1
        refine ⟨_, rfl, hHeld, ?_⟩
        try simp only [Act.put, List.setIfInBounds_toArray, List.set_cons_zero, List.set_cons_succ]
        refine take_op (i := 19) (d := 34) (OP := Op.build 163 #[(0, Operand.tmp 33), (1, Operand.const (Value.int IntKind.i64 0))]) (T := 163) (v := .agg #[.int .i64 cb, .int .i64 0]) rfl rfl rfl rfl (by kernel_rfl) (by kernel_rfl) (by kernel_rfl) (fun _ _ _ h => h) (by rfl) (fun w' _ => exec_build126 rfl rfl) hHeld ?_
        try simp only [Act.put, List.setIfInBounds_toArray, List.set_cons_zero, List.set_cons_succ]
        refine take_op (i := 30) (d := 45) (OP := Op.build 164 #[(0, Operand.tmp 19), (1, Operand.tmp 26), (2, Operand.tmp 34), (3, Operand.tmp 39), (4, Operand.tmp 44)]) (T := 164) (v := .agg #[.int .i64 g, .int .i64 g', .int .i64 r, .int .i64 r', .int .i64 cb, .int .i64 0, .int .i64 n, .int .i64 n', .int .i64 x, .int .i64 x']) rfl rfl rfl rfl (by kernel_rfl) (by kernel_rfl) (by kernel_rfl) (fun _ _ _ h => h) (by rfl) (fun w' _ => exec_build128 rfl rfl rfl rfl rfl) hHeld ?_
        try simp only [Act.put, List.setIfInBounds_toArray, List.set_cons_zero, List.set_cons_succ]
        refine turn_op (i := 31) (d := 7) (OP := Op.alloc 164) (T := 0) (v := .pointer (some ⟨v1.heap.size, 0, none⟩)) (w' := v1.alloc (.cells #[.int .i64 0, .int .i64 0, .int .i64 0, .int .i64 0, .int .i64 0, .int .i64 0, .int .i64 0, .int .i64 0, .int .i64 0, .int .i64 0] 164)) rfl rfl rfl rfl (by kernel_rfl) (by rfl) (exec_alloc128) hSl ?_
        replace hHeld := hSl
        try simp only [Act.put, List.setIfInBounds_toArray, List.set_cons_zero, List.set_cons_succ]
        have hSf : (v1.alloc (.cells #[.int .i64 g, .int .i64 g', .int .i64 r, .int .i64 r', .int .i64 cb, .int .i64 0, .int .i64 n, .int .i64 n', .int .i64 x, .int .i64 x'] 164)).cell? ⟨w.heap.size, 0, none⟩ = some (.int .i64 g) ∧ (v1.alloc (.cells #[.int .i64 g, .int .i64 g', .int .i64 r, .int .i64 r', .int .i64 cb, .int .i64 0, .int .i64 n, .int .i64 n', .int .i64 x, .int .i64 x'] 164)).cell? ⟨w.heap.size, 1, none⟩ = some (.int .i64 r) ∧ (v1.alloc (.cells #[.int .i64 g, .int .i64 g', .int .i64 r, .int .i64 r', .int .i64 cb, .int .i64 0, .int .i64 n, .int .i64 n', .int .i64 x, .int .i64 x'] 164)).cell? ⟨w.heap.size, 2, none⟩ = some (.string l) ∧ (v1.alloc (.cells #[.int .i64 g, .int .i64 g', .int .i64 r, .int .i64 r', .int .i64 cb, .int .i64 0, .int .i64 n, .int .i64 n', .int .i64 x, .int .i64 x'] 164)).cell? ⟨w.heap.size, 3, none⟩ = some (.int .i64 n) ∧ (v1.alloc (.cells #[.int .i64 g, .int .i64 g', .int .i64 r, .int .i64 r', .int .i64 cb, .int .i64 0, .int .i64 n, .int .i64 n', .int .i64 x, .int .i64 x'] 164)).cell? ⟨w.heap.size, 4, none⟩ = some (.int .i64 x) ∧ (v1.alloc (.cells #[.int .i64 g, .int .i64 g', .int .i64 r, .int .i64 r', .int .i64 cb, .int .i64 0, .int .i64 n, .int .i64 n', .int .i64 x, .int .i64 x'] 164)).cell? ⟨w.heap.size + 1, 0, none⟩ = some (.int .i64 g') ∧ (v1.alloc (.cells #[.int .i64 g, .int .i64 g', .int .i64 r, .int .i64 r', .int .i64 cb, .int .i64 0, .int .i64 n, .int .i64 n', .int .i64 x, .int .i64 x'] 164)).cell? ⟨w.heap.size + 1, 1, none⟩ = some (.int .i64 r') ∧ (v1.alloc (.cells #[.int .i64 g, .int .i64 g', .int .i64 r, .int .i64 r', .int .i64 cb, .int .i64 0, .int .i64 n, .int .i64 n', .int .i64 x, .int .i64 x'] 164)).cell? ⟨w.heap.size + 1, 2, none⟩ = some (.string l') ∧ (v1.alloc (.cells #[.int .i64 g, .int .i64 g', .int .i64 r, .int .i64 r', .int .i64 cb, .int .i64 0, .int .i64 n, .int .i64 n', .int .i64 x, .int .i64 x'] 164)).cell? ⟨w.heap.size + 1, 3, none⟩ = some (.int .i64 n') ∧ (v1.alloc (.cells #[.int .i64 g, .int .i64 g', .int .i64 r, .int .i64 r', .int .i64 cb, .int .i64 0, .int .i64 n, .int .i64 n', .int .i64 x, .int .i64 x'] 164)).cell? ⟨w.heap.size + 1, 4, none⟩ = some (.int .i64 x') ∧ (v1.alloc (.cells #[.int .i64 g, .int .i64 g', .int .i64 r, .int .i64 r', .int .i64 cb, .int .i64 0, .int .i64 n, .int .i64 n', .int .i64 x, .int .i64 x'] 164)).cell? ⟨A, 0, none⟩ = some (.int .i64 r) ∧ (v1.alloc (.cells #[.int .i64 g, .int .i64 g', .int .i64 r, .int .i64 r', .int .i64 cb, .int .i64 0, .int .i64 n, .int .i64 n', .int .i64 x, .int .i64 x'] 164)).cell? ⟨A, 1, none⟩ = some (.string l) ∧ (v1.alloc (.cells #[.int .i64 g, .int .i64 g', .int .i64 r, .int .i64 r', .int .i64 cb, .int .i64 0, .int .i64 n, .int .i64 n', .int .i64 x, .int .i64 x'] 164)).cell? ⟨A, 2, none⟩ = some (.int .i64 n) ∧ (v1.alloc (.cells #[.int .i64 g, .int .i64 g', .int .i64 r, .int .i64 r', .int .i64 cb, .int .i64 0, .int .i64 n, .int .i64 n', .int .i64 x, .int .i64 x'] 164)).cell? ⟨B, 0, none⟩ = some (.int .i64 r') ∧ (v1.alloc (.cells #[.int .i64 g, .int .i64 g', .int .i64 r, .int .i64 r', .int .i64 cb, .int .i64 0, .int .i64 n, .int .i64 n', .int .i64 x, .int .i64 x'] 164)).cell? ⟨B, 1, none⟩ = some (.string l') ∧ (v1.alloc (.cells #[.int .i64 g, .int .i64 g', .int .i64 r, .int .i64 r', .int .i64 cb, .int .i64 0, .int .i64 n, .int .i64 n', .int .i64 x, .int .i64 x'] 164)).cell? ⟨B, 2, none⟩ = some (.int .i64 n') := ⟨kept (below_new v1 (.cells #[.int .i64 g, .int .i64 g', .int .i64 r, .int .i64 r', .int .i64 cb, .int .i64 0, .int .i64 n, .int .i64 n', .int .i64 x, .int .i64 x'] 164)) hH0.1, kept (below_new v1 (.cells #[.int .i64 g, .int .i64 g', .int .i64 r, .int .i64 r', .int .i64 cb, .int .i64 0, .int .i64 n, .int .i64 n', .int .i64 x, .int .i64 x'] 164)) hH0.2.1, kept (below_new v1 (.cells #[.int .i64 g, .int .i64 g', .int .i64 r, .int .i64 r', .int .i64 cb, .int .i64 0, .int .i64 n, .int .i64 n', .int .i64 x, .int .i64 x'] 164)) hH0.2.2.1, kept (below_new v1 (.cells #[.int .i64 g, .int .i64 g', .int .i64 r, .int .i64 r', .int .i64 cb, .int .i64 0, .int .i64 n, .int .i64 n', .int .i64 x, .int .i64 x'] 164)) hH0.2.2.2.1, kept (below_new v1 (.cells #[.int .i64 g, .int .i64 g', .int .i64 r, .int .i64 r', .int .i64 cb, .int .i64 0, .int .i64 n, .int .i64 n', .int .i64 x, .int .i64 x'] 164)) hH0.2.2.2.2.1, kept (below_new v1 (.cells #[.int .i64 g, .int .i64 g', .int .i64 r, .int .i64 r', .int .i64 cb, .int .i64 0, .int .i64 n, .int .i64 n', .int .i64 x, .int .i64 x'] 164)) hH0.2.2.2.2.2.1, kept (below_new v1 (.cells #[.int .i64 g, .int .i64 g', .int .i64 r, .int .i64 r', .int .i64 cb, .int .i64 0, .int .i64 n, .int .i64 n', .int .i64 x, .int .i64 x'] 164)) hH0.2.2.2.2.2.2.1, kept (below_new v1 (.cells #[.int .i64 g, .int .i64 g', .int .i64 r, .int .i64 r', .int .i64 cb, .int .i64 0, .int .i64 n, .int .i64 n', .int .i64 x, .int .i64 x'] 164)) hH0.2.2.2.2.2.2.2.1, kept (below_new v1 (.cells #[.int .i64 g, .int .i64 g', .int .i64 r, .int .i64 r', .int .i64 cb, .int .i64 0, .int .i64 n, .int .i64 n', .int .i64 x, .int .i64 x'] 164)) hH0.2.2.2.2.2.2.2.2.1, kept (below_new v1 (.cells #[.int .i64 g, .int .i64 g', .int .i64 r, .int .i64 r', .int .i64 cb, .int .i64 0, .int .i64 n, .int .i64 n', .int .i64 x, .int .i64 x'] 164)) hH0.2.2.2.2.2.2.2.2.2.1, kept (below_new v1 (.cells #[.int .i64 g, .int .i64 g', .int .i64 r, .int .i64 r', .int .i64 cb, .int .i64 0, .int .i64 n, .int .i64 n', .int .i64 x, .int .i64 x'] 164)) hH0.2.2.2.2.2.2.2.2.2.2.1, kept (below_new v1 (.cells #[.int .i64 g, .int .i64 g', .int .i64 r, .int .i64 r', .int .i64 cb, .int .i64 0, .int .i64 n, .int .i64 n', .int .i64 x, .int .i64 x'] 164)) hH0.2.2.2.2.2.2.2.2.2.2.2.1, kept (below_new v1 (.cells #[.int .i64 g, .int .i64 g', .int .i64 r, .int .i64 r', .int .i64 cb, .int .i64 0, .int .i64 n, .int .i64 n', .int .i64 x, .int .i64 x'] 164)) hH0.2.2.2.2.2.2.2.2.2.2.2.2.1, kept (below_new v1 (.cells #[.int .i64 g, .int .i64 g', .int .i64 r, .int .i64 r', .int .i64 cb, .int .i64 0, .int .i64 n, .int .i64 n', .int .i64 x, .int .i64 x'] 164)) hH0.2.2.2.2.2.2.2.2.2.2.2.2.2.1, kept (below_new v1 (.cells #[.int .i64 g, .int .i64 g', .int .i64 r, .int .i64 r', .int .i64 cb, .int .i64 0, .int .i64 n, .int .i64 n', .int .i64 x, .int .i64 x'] 164)) hH0.2.2.2.2.2.2.2.2.2.2.2.2.2.2.1, kept (below_new v1 (.cells #[.int .i64 g, .int .i64 g', .int .i64 r, .int .i64 r', .int .i64 cb, .int .i64 0, .int .i64 n, .int .i64 n', .int .i64 x, .int .i64 x'] 164)) hH0.2.2.2.2.2.2.2.2.2.2.2.2.2.2.2⟩
        refine skip_op (i := 32) (OP := Op.store 164 (Operand.tmp 7) (Operand.tmp 45)) (T := 0) (w' := v1.alloc (.cells #[.int .i64 g, .int .i64 g', .int .i64 r, .int .i64 r', .int .i64 cb, .int .i64 0, .int .i64 n, .int .i64 n', .int .i64 x, .int .i64 x'] 164)) rfl rfl rfl rfl (by kernel_rfl) (by rfl) (exec_store_new (cs := [.int .i64 g, .int .i64 g', .int .i64 r, .int .i64 r', .int .i64 cb, .int .i64 0, .int .i64 n, .int .i64 n', .int .i64 x, .int .i64 x']) rfl rfl rfl (by kernel_rfl) rfl (by simp [Value.oneCell'])) ⟨hSf, ?_⟩
        refine wpAnyH_done (by kernel_rfl) ?_ _
        go_wp2
        go_meet
        exact ⟨v1.heap.size, rfl, hide ⟨heap_alloc_new v1 (.cells #[.int .i64 g, .int .i64 g', .int .i64 r, .int .i64 r', .int .i64 cb, .int .i64 0, .int .i64 n, .int .i64 n', .int .i64 x, .int .i64 x'] 164), hD.alloc hD.size _⟩⟩
      · try simp only [Act.put, List.setIfInBounds_toArray, List.set_cons_zero, List.set_cons_succ]
        replace hHeld := hSl
        refine call_op (i := 18) (d := 33) (OP := Op.call { callee := Callee.value (Operand.func 58), args := #[Operand.tmp 29, Operand.tmp 32], argTypes := #[9, 9] }) (T := 3) (f := 58) (args := #[.string l, .string l']) rfl rfl rfl rfl (by kernel_rfl) (by rfl) (by go_simp) ?_
        refine (h100 _).mono ?_
        rintro e v1 ⟨rfl, hv1⟩
        subst hv1
        refine ⟨_, rfl, hHeld, ?_⟩
        replace hHeld := hHeld
        try simp only [Act.put, List.setIfInBounds_toArray, List.set_cons_zero, List.set_cons_succ]
        refine take_op (i := 19) (d := 34) (OP := Op.build 163 #[(0, Operand.tmp 33), (1, Operand.const (Value.int IntKind.i64 0))]) (T := 163) (v := .agg #[.int .i64 cb, .int .i64 0]) rfl rfl rfl rfl (by kernel_rfl) (by kernel_rfl) (by kernel_rfl) (fun _ _ _ h => h) (by rfl) (fun w' _ => exec_build126 rfl rfl) hHeld ?_
        try simp only [Act.put, List.setIfInBounds_toArray, List.set_cons_zero, List.set_cons_succ]
        refine take_op (i := 30) (d := 45) (OP := Op.build 164 #[(0, Operand.tmp 19), (1, Operand.tmp 26), (2, Operand.tmp 34), (3, Operand.tmp 39), (4, Operand.tmp 44)]) (T := 164) (v := .agg #[.int .i64 g, .int .i64 g', .int .i64 r, .int .i64 r', .int .i64 cb, .int .i64 0, .int .i64 n, .int .i64 n', .int .i64 x, .int .i64 x']) rfl rfl rfl rfl (by kernel_rfl) (by kernel_rfl) (by kernel_rfl) (fun _ _ _ h => h) (by rfl) (fun w' _ => exec_build128 rfl rfl rfl rfl rfl) hHeld ?_
        try simp only [Act.put, List.setIfInBounds_toArray, List.set_cons_zero, List.set_cons_succ]
        have hSf : (W1.alloc (.cells #[.int .i64 g, .int .i64 g', .int .i64 r, .int .i64 r', .int .i64 cb, .int .i64 0, .int .i64 n, .int .i64 n', .int .i64 x, .int .i64 x'] 164)).cell? ⟨w.heap.size, 0, none⟩ = some (.int .i64 g) ∧ (W1.alloc (.cells #[.int .i64 g, .int .i64 g', .int .i64 r, .int .i64 r', .int .i64 cb, .int .i64 0, .int .i64 n, .int .i64 n', .int .i64 x, .int .i64 x'] 164)).cell? ⟨w.heap.size, 1, none⟩ = some (.int .i64 r) ∧ (W1.alloc (.cells #[.int .i64 g, .int .i64 g', .int .i64 r, .int .i64 r', .int .i64 cb, .int .i64 0, .int .i64 n, .int .i64 n', .int .i64 x, .int .i64 x'] 164)).cell? ⟨w.heap.size, 2, none⟩ = some (.string l) ∧ (W1.alloc (.cells #[.int .i64 g, .int .i64 g', .int .i64 r, .int .i64 r', .int .i64 cb, .int .i64 0, .int .i64 n, .int .i64 n', .int .i64 x, .int .i64 x'] 164)).cell? ⟨w.heap.size, 3, none⟩ = some (.int .i64 n) ∧ (W1.alloc (.cells #[.int .i64 g, .int .i64 g', .int .i64 r, .int .i64 r', .int .i64 cb, .int .i64 0, .int .i64 n, .int .i64 n', .int .i64 x, .int .i64 x'] 164)).cell? ⟨w.heap.size, 4, none⟩ = some (.int .i64 x) ∧ (W1.alloc (.cells #[.int .i64 g, .int .i64 g', .int .i64 r, .int .i64 r', .int .i64 cb, .int .i64 0, .int .i64 n, .int .i64 n', .int .i64 x, .int .i64 x'] 164)).cell? ⟨w.heap.size + 1, 0, none⟩ = some (.int .i64 g') ∧ (W1.alloc (.cells #[.int .i64 g, .int .i64 g', .int .i64 r, .int .i64 r', .int .i64 cb, .int .i64 0, .int .i64 n, .int .i64 n', .int .i64 x, .int .i64 x'] 164)).cell? ⟨w.heap.size + 1, 1, none⟩ = some (.int .i64 r') ∧ (W1.alloc (.cells #[.int .i64 g, .int .i64 g', .int .i64 r, .int .i64 r', .int .i64 cb, .int .i64 0, .int .i64 n, .int .i64 n', .int .i64 x, .int .i64 x'] 164)).cell? ⟨w.heap.size + 1, 2, none⟩ = some (.string l') ∧ (W1.alloc (.cells #[.int .i64 g, .int .i64 g', .int .i64 r, .int .i64 r', .int .i64 cb, .int .i64 0, .int .i64 n, .int .i64 n', .int .i64 x, .int .i64 x'] 164)).cell? ⟨w.heap.size + 1, 3, none⟩ = some (.int .i64 n') ∧ (W1.alloc (.cells #[.int .i64 g, .int .i64 g', .int .i64 r, .int .i64 r', .int .i64 cb, .int .i64 0, .int .i64 n, .int .i64 n', .int .i64 x, .int .i64 x'] 164)).cell? ⟨w.heap.size + 1, 4, none⟩ = some (.int .i64 x') ∧ (W1.alloc (.cells #[.int .i64 g, .int .i64 g', .int .i64 r, .int .i64 r', .int .i64 cb, .int .i64 0, .int .i64 n, .int .i64 n', .int .i64 x, .int .i64 x'] 164)).cell? ⟨A, 0, none⟩ = some (.int .i64 r) ∧ (W1.alloc (.cells #[.int .i64 g, .int .i64 g', .int .i64 r, .int .i64 r', .int .i64 cb, .int .i64 0, .int .i64 n, .int .i64 n', .int .i64 x, .int .i64 x'] 164)).cell? ⟨A, 1, none⟩ = some (.string l) ∧ (W1.alloc (.cells #[.int .i64 g, .int .i64 g', .int .i64 r, .int .i64 r', .int .i64 cb, .int .i64 0, .int .i64 n, .int .i64 n', .int .i64 x, .int .i64 x'] 164)).cell? ⟨A, 2, none⟩ = some (.int .i64 n) ∧ (W1.alloc (.cells #[.int .i64 g, .int .i64 g', .int .i64 r, .int .i64 r', .int .i64 cb, .int .i64 0, .int .i64 n, .int .i64 n', .int .i64 x, .int .i64 x'] 164)).cell? ⟨B, 0, none⟩ = some (.int .i64 r') ∧ (W1.alloc (.cells #[.int .i64 g, .int .i64 g', .int .i64 r, .int .i64 r', .int .i64 cb, .int .i64 0, .int .i64 n, .int .i64 n', .int .i64 x, .int .i64 x'] 164)).cell? ⟨B, 1, none⟩ = some (.string l') ∧ (W1.alloc (.cells #[.int .i64 g, .int .i64 g', .int .i64 r, .int .i64 r', .int .i64 cb, .int .i64 0, .int .i64 n, .int .i64 n', .int .i64 x, .int .i64 x'] 164)).cell? ⟨B, 2, none⟩ = some (.int .i64 n') := ⟨kept (below_new W1 (.cells #[.int .i64 g, .int .i64 g', .int .i64 r, .int .i64 r', .int .i64 cb, .int .i64 0, .int .i64 n, .int .i64 n', .int .i64 x, .int .i64 x'] 164)) hH0.1, kept (below_new W1 (.cells #[.int .i64 g, .int .i64 g', .int .i64 r, .int .i64 r', .int .i64 cb, .int .i64 0, .int .i64 n, .int .i64 n', .int .i64 x, .int .i64 x'] 164)) hH0.2.1, kept (below_new W1 (.cells #[.int .i64 g, .int .i64 g', .int .i64 r, .int .i64 r', .int .i64 cb, .int .i64 0, .int .i64 n, .int .i64 n', .int .i64 x, .int .i64 x'] 164)) hH0.2.2.1, kept (below_new W1 (.cells #[.int .i64 g, .int .i64 g', .int .i64 r, .int .i64 r', .int .i64 cb, .int .i64 0, .int .i64 n, .int .i64 n', .int .i64 x, .int .i64 x'] 164)) hH0.2.2.2.1, kept (below_new W1 (.cells #[.int .i64 g, .int .i64 g', .int .i64 r, .int .i64 r', .int .i64 cb, .int .i64 0, .int .i64 n, .int .i64 n', .int .i64 x, .int .i64 x'] 164)) hH0.2.2.2.2.1, kept (below_new W1 (.cells #[.int .i64 g, .int .i64 g', .int .i64 r, .int .i64 r', .int .i64 cb, .int .i64 0, .int .i64 n, .int .i64 n', .int .i64 x, .int .i64 x'] 164)) hH0.2.2.2.2.2.1, kept (below_new W1 (.cells #[.int .i64 g, .int .i64 g', .int .i64 r, .int .i64 r', .int .i64 cb, .int .i64 0, .int .i64 n, .int .i64 n', .int .i64 x, .int .i64 x'] 164)) hH0.2.2.2.2.2.2.1, kept (below_new W1 (.cells #[.int .i64 g, .int .i64 g', .int .i64 r, .int .i64 r', .int .i64 cb, .int .i64 0, .int .i64 n, .int .i64 n', .int .i64 x, .int .i64 x'] 164)) hH0.2.2.2.2.2.2.2.1, kept (below_new W1 (.cells #[.int .i64 g, .int .i64 g', .int .i64 r, .int .i64 r', .int .i64 cb, .int .i64 0, .int .i64 n, .int .i64 n', .int .i64 x, .int .i64 x'] 164)) hH0.2.2.2.2.2.2.2.2.1, kept (below_new W1 (.cells #[.int .i64 g, .int .i64 g', .int .i64 r, .int .i64 r', .int .i64 cb, .int .i64 0, .int .i64 n, .int .i64 n', .int .i64 x, .int .i64 x'] 164)) hH0.2.2.2.2.2.2.2.2.2.1, kept (below_new W1 (.cells #[.int .i64 g, .int .i64 g', .int .i64 r, .int .i64 r', .int .i64 cb, .int .i64 0, .int .i64 n, .int .i64 n', .int .i64 x, .int .i64 x'] 164)) hH0.2.2.2.2.2.2.2.2.2.2.1, kept (below_new W1 (.cells #[.int .i64 g, .int .i64 g', .int .i64 r, .int .i64 r', .int .i64 cb, .int .i64 0, .int .i64 n, .int .i64 n', .int .i64 x, .int .i64 x'] 164)) hH0.2.2.2.2.2.2.2.2.2.2.2.1, kept (below_new W1 (.cells #[.int .i64 g, .int .i64 g', .int .i64 r, .int .i64 r', .int .i64 cb, .int .i64 0, .int .i64 n, .int .i64 n', .int .i64 x, .int .i64 x'] 164)) hH0.2.2.2.2.2.2.2.2.2.2.2.2.1, kept (below_new W1 (.cells #[.int .i64 g, .int .i64 g', .int .i64 r, .int .i64 r', .int .i64 cb, .int .i64 0, .int .i64 n, .int .i64 n', .int .i64 x, .int .i64 x'] 164)) hH0.2.2.2.2.2.2.2.2.2.2.2.2.2.1, kept (below_new W1 (.cells #[.int .i64 g, .int .i64 g', .int .i64 r, .int .i64 r', .int .i64 cb, .int .i64 0, .int .i64 n, .int .i64 n', .int .i64 x, .int .i64 x'] 164)) hH0.2.2.2.2.2.2.2.2.2.2.2.2.2.2.1, kept (below_new W1 (.cells #[.int .i64 g, .int .i64 g', .int .i64 r, .int .i64 r', .int .i64 cb, .int .i64 0, .int .i64 n, .int .i64 n', .int .i64 x, .int .i64 x'] 164)) hH0.2.2.2.2.2.2.2.2.2.2.2.2.2.2.2⟩
        refine skip_op (i := 32) (OP := Op.store 164 (Operand.tmp 7) (Operand.tmp 45)) (T := 0) (w' := W1.alloc (.cells #[.int .i64 g, .int .i64 g', .int .i64 r, .int .i64 r', .int .i64 cb, .int .i64 0, .int .i64 n, .int .i64 n', .int .i64 x, .int .i64 x'] 164)) rfl rfl rfl rfl (by kernel_rfl) (by rfl) (exec_store_new (cs := [.int .i64 g, .int .i64 g', .int .i64 r, .int .i64 r', .int .i64 cb, .int .i64 0, .int .i64 n, .int .i64 n', .int .i64 x, .int .i64 x']) rfl rfl rfl (by kernel_rfl) rfl (by simp [Value.oneCell'])) ⟨hSf, ?_⟩
        refine wpAnyH_done (by kernel_rfl) ?_ _
        go_wp2
        go_meet
        exact ⟨W1.heap.size, rfl, hide ⟨heap_alloc_new W1 (.cells #[.int .i64 g, .int .i64 g', .int .i64 r, .int .i64 r', .int .i64 cb, .int .i64 0, .int .i64 n, .int .i64 n', .int .i64 x, .int .i64 x'] 164), hD.alloc hD.size _⟩⟩
  case rest =>
  clear hS hD h100
  obtain ⟨Pn, rfl, HP⟩ := hcut
  obtain ⟨hP1, hP2⟩ := HP.out
  have hcc : ∀ j, wc.cell? ⟨Pn, j, none⟩ = (#[.int .i64 g, .int .i64 g', .int .i64 r, .int .i64 r', .int .i64 cb, .int .i64 0, .int .i64 n, .int .i64 n', .int .i64 x, .int .i64 x'] : Array Value)[j]? := fun j => cell_of_row _ _ j _ 164 (0, 0) hP1
  have q0 : wc.cell? ⟨Pn, 0, none⟩ = some (.int .i64 g) := hcc 0
  have q1 : wc.cell? ⟨Pn, 1, none⟩ = some (.int .i64 g') := hcc 1
  have q2 : wc.cell? ⟨Pn, 2, none⟩ = some (.int .i64 r) := hcc 2
  have q3 : wc.cell? ⟨Pn, 3, none⟩ = some (.int .i64 r') := hcc 3
  have q4 : wc.cell? ⟨Pn, 4, none⟩ = some (.int .i64 cb) := hcc 4
  have q5 : wc.cell? ⟨Pn, 5, none⟩ = some (.int .i64 0) := hcc 5
  have q6 : wc.cell? ⟨Pn, 6, none⟩ = some (.int .i64 n) := hcc 6
  have q7 : wc.cell? ⟨Pn, 7, none⟩ = some (.int .i64 n') := hcc 7
  have q8 : wc.cell? ⟨Pn, 8, none⟩ = some (.int .i64 x) := hcc 8
  have q9 : wc.cell? ⟨Pn, 9, none⟩ = some (.int .i64 x') := hcc 9
  clear hcc
  have hix0 : ∀ W, (Instr.index 164 (.agg #[.int .i64 g, .int .i64 g', .int .i64 r, .int .i64 r', .int .i64 cb, .int .i64 0, .int .i64 n, .int .i64 n', .int .i64 x, .int .i64 x']) (.int .i64 0)).run Tryz.prog W = .ok (.agg #[.int .i64 g, .int .i64 g']) W := fun W => by kernel_rfl
  have hix1 : ∀ W, (Instr.index 164 (.agg #[.int .i64 g, .int .i64 g', .int .i64 r, .int .i64 r', .int .i64 cb, .int .i64 0, .int .i64 n, .int .i64 n', .int .i64 x, .int .i64 x']) (.int .i64 1)).run Tryz.prog W = .ok (.agg #[.int .i64 r, .int .i64 r']) W := fun W => by kernel_rfl
  have hix2 : ∀ W, (Instr.index 164 (.agg #[.int .i64 g, .int .i64 g', .int .i64 r, .int .i64 r', .int .i64 cb, .int .i64 0, .int .i64 n, .int .i64 n', .int .i64 x, .int .i64 x']) (.int .i64 2)).run Tryz.prog W = .ok (.agg #[.int .i64 cb, .int .i64 0]) W := fun W => by kernel_rfl
  have hix3 : ∀ W, (Instr.index 164 (.agg #[.int .i64 g, .int .i64 g', .int .i64 r, .int .i64 r', .int .i64 cb, .int .i64 0, .int .i64 n, .int .i64 n', .int .i64 x, .int .i64 x']) (.int .i64 3)).run Tryz.prog W = .ok (.agg #[.int .i64 n, .int .i64 n']) W := fun W => by kernel_rfl
  have hix4 : ∀ W, (Instr.index 164 (.agg #[.int .i64 g, .int .i64 g', .int .i64 r, .int .i64 r', .int .i64 cb, .int .i64 0, .int .i64 n, .int .i64 n', .int .i64 x, .int .i64 x']) (.int .i64 4)).run Tryz.prog W = .ok (.agg #[.int .i64 x, .int .i64 x']) W := fun W => by kernel_rfl
  go_wp2
  refine wp_label ?_
  go_wp2
  go_loopw [8, 47] (fun v8 v47 wr => ∃ k : Nat, k ≤ 5 ∧ v47 = .int .i64 (k : Int) ∧ v8 = .int .i64 0 ∧ Hid (cmpPairs ([(g, g'), (r, r'), (cb, 0), (n, n'), (x, x')].drop k) = R) ∧ Hid (Below w.heap.size w wr)) (fun _ v47 _ => (5 - intOf v47).toNat)
  case atStart => exact ⟨0, by omega, rfl, rfl, hide HR.out, hide hP2⟩
  case round =>
    obtain ⟨k, hk, rfl, rfl, HC, HB⟩ := hrel
    have hsz := HB.out.size
    obtain rfl | rfl | rfl | rfl | rfl | rfl : k = 0 ∨ k = 1 ∨ k = 2 ∨ k = 3 ∨ k = 4 ∨ k = 5 := by omega
    · rcases pair_cases (g) (g') _ R HC.out with ⟨hlt, hr⟩ | ⟨hlt, hgt, hr⟩ | ⟨hlt, hgt, hr⟩
      · have HR2 := hide hr
        clear hr
        go_wp2
        try refine noGoto_ret ?_
        go_ret
        exact ⟨by rw [HR2.out] <;> rfl, HB.out.alloc hsz _⟩
      · have HR2 := hide hr
        clear hr
        go_wp2
        try refine noGoto_ret ?_
        go_ret
        exact ⟨by rw [HR2.out] <;> rfl, HB.out.alloc hsz _⟩
      · have HR2 := hide hr
        clear hr
        go_wp2
        exact ⟨⟨1, by omega, rfl, rfl, hide HR2.out, hide (HB.out.alloc hsz _)⟩, by simp [intOf]⟩
    · rcases pair_cases (r) (r') _ R HC.out with ⟨hlt, hr⟩ | ⟨hlt, hgt, hr⟩ | ⟨hlt, hgt, hr⟩
      · have HR2 := hide hr
        clear hr
        go_wp2
        try refine noGoto_ret ?_
        go_ret
        exact ⟨by rw [HR2.out] <;> rfl, HB.out.alloc hsz _⟩
      · have HR2 := hide hr
        clear hr
        go_wp2
        try refine noGoto_ret ?_
        go_ret
        exact ⟨by rw [HR2.out] <;> rfl, HB.out.alloc hsz _⟩
      · have HR2 := hide hr
        clear hr
        go_wp2
        exact ⟨⟨2, by omega, rfl, rfl, hide HR2.out, hide (HB.out.alloc hsz _)⟩, by simp [intOf]⟩
    · rcases pair_cases (cb) (0) _ R HC.out with ⟨hlt, hr⟩ | ⟨hlt, hgt, hr⟩ | ⟨hlt, hgt, hr⟩
      · have HR2 := hide hr
        clear hr
        go_wp2
        try refine noGoto_ret ?_
        go_ret
        exact ⟨by rw [HR2.out] <;> rfl, HB.out.alloc hsz _⟩
      · have HR2 := hide hr
        clear hr
        go_wp2
        try refine noGoto_ret ?_
        go_ret
        exact ⟨by rw [HR2.out] <;> rfl, HB.out.alloc hsz _⟩
      · have HR2 := hide hr
        clear hr
        go_wp2
        exact ⟨⟨3, by omega, rfl, rfl, hide HR2.out, hide (HB.out.alloc hsz _)⟩, by simp [intOf]⟩
    · rcases pair_cases (n) (n') _ R HC.out with ⟨hlt, hr⟩ | ⟨hlt, hgt, hr⟩ | ⟨hlt, hgt, hr⟩
      · have HR2 := hide hr
        clear hr
        go_wp2
        try refine noGoto_ret ?_
        go_ret
        exact ⟨by rw [HR2.out] <;> rfl, HB.out.alloc hsz _⟩
      · have HR2 := hide hr
        clear hr
        go_wp2
        try refine noGoto_ret ?_
        go_ret
        exact ⟨by rw [HR2.out] <;> rfl, HB.out.alloc hsz _⟩
      · have HR2 := hide hr
        clear hr
        go_wp2
        exact ⟨⟨4, by omega, rfl, rfl, hide HR2.out, hide (HB.out.alloc hsz _)⟩, by simp [intOf]⟩
    · rcases pair_cases (x) (x') _ R HC.out with ⟨hlt, hr⟩ | ⟨hlt, hgt, hr⟩ | ⟨hlt, hgt, hr⟩
      · have HR2 := hide hr
        clear hr
        go_wp2
        try refine noGoto_ret ?_
        go_ret
        exact ⟨by rw [HR2.out] <;> rfl, HB.out.alloc hsz _⟩
      · have HR2 := hide hr
        clear hr
        go_wp2
        try refine noGoto_ret ?_
        go_ret
        exact ⟨by rw [HR2.out] <;> rfl, HB.out.alloc hsz _⟩
      · have HR2 := hide hr
        clear hr
        go_wp2
        exact ⟨⟨5, by omega, rfl, rfl, hide HR2.out, hide (HB.out.alloc hsz _)⟩, by simp [intOf]⟩
    · have HR2 : Hid (R = 0) := hide HC.out.symm
      go_wp2
      try refine noGoto_ret ?_
      go_ret
      exact ⟨by rw [HR2.out] <;> rfl, HB.out⟩
end Go.Proofs.YtkdgageljgfgoaaGreatDoor
