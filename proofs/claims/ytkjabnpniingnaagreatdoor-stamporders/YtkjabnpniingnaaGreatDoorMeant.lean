/-
  MEANT: a value, if its own text is the text.
-/
import Derived.Test.YtkjabnpniingnaaGreatDoorTold
import Derived.Deep.DeepCutAuto
namespace Go.Proofs.YtkjabnpniingnaaGreatDoor
open Go.RowKit Go.Shelf
set_option linter.unusedSimpArgs false

theorem blk2 {w : World} {R : Nat} {t : TypeId} {x y : Value} (h : w.heap[R]? = some (.cells #[x, y] t (0, 0))) : w.cell? ⟨R, 0, none⟩ = some x ∧ w.cell? ⟨R, 1, none⟩ = some y ∧ w.frozen? ⟨R, 0, none⟩ = false ∧ w.frozen? ⟨R, 1, none⟩ = false := by
  refine ⟨?_, ?_, frozen_of_row w R 0 _ t h, frozen_of_row w R 1 _ t h⟩
  · rw [cell_of_row w R 0 _ t (0, 0) h]; rfl
  · rw [cell_of_row w R 1 _ t (0, 0) h]; rfl
theorem set2 {w : World} {R : Nat} {t : TypeId} {x y x' y' : Value} (h : w.heap[R]? = some (.cells #[x, y] t (0, 0))) : ((w.setCell ⟨R, 0, none⟩ x').setCell ⟨R, 1, none⟩ y').heap[R]? = some (.cells #[x', y'] t (0, 0)) := by
  rw [heap_setCell_same _ _ _ _ t _ (heap_setCell_same _ _ _ _ t _ h)]
  simp
theorem bel2 {B : Nat} {a w : World} {R : Nat} (hR : B ≤ R) {x' y' : Value} (h : Below B a w) : Below B a ((w.setCell ⟨R, 0, none⟩ x').setCell ⟨R, 1, none⟩ y') := ((h.setCell (p := ⟨R, 0, none⟩) hR _).setCell (p := ⟨R, 1, none⟩) hR _)
theorem set3 {w : World} {R : Nat} {t : TypeId} {x y z x' y' z' : Value} (h : w.heap[R]? = some (.cells #[x, y, z] t (0, 0))) : (((w.setCell ⟨R, 0, none⟩ x').setCell ⟨R, 1, none⟩ y').setCell ⟨R, 2, none⟩ z').heap[R]? = some (.cells #[x', y', z'] t (0, 0)) := by
  rw [heap_setCell_same _ _ _ _ t _ (heap_setCell_same _ _ _ _ t _ (heap_setCell_same _ _ _ _ t _ h))]
  simp
theorem bel3 {B : Nat} {a w : World} {R : Nat} (hR : B ≤ R) {x' y' z' : Value} (h : Below B a w) : Below B a (((w.setCell ⟨R, 0, none⟩ x').setCell ⟨R, 1, none⟩ y').setCell ⟨R, 2, none⟩ z') := (((h.setCell (p := ⟨R, 0, none⟩) hR _).setCell (p := ⟨R, 1, none⟩) hR _).setCell (p := ⟨R, 2, none⟩) hR _)
theorem blk5 {w : World} {R : Nat} {t : TypeId} {x y z u v : Value} (h : w.heap[R]? = some (.cells #[x, y, z, u, v] t (0, 0))) : w.cell? ⟨R, 0, none⟩ = some x ∧ w.cell? ⟨R, 1, none⟩ = some y ∧ w.cell? ⟨R, 2, none⟩ = some z ∧ w.cell? ⟨R, 3, none⟩ = some u ∧ w.cell? ⟨R, 4, none⟩ = some v ∧ w.frozen? ⟨R, 0, none⟩ = false ∧ w.frozen? ⟨R, 1, none⟩ = false ∧ w.frozen? ⟨R, 2, none⟩ = false ∧ w.frozen? ⟨R, 3, none⟩ = false ∧ w.frozen? ⟨R, 4, none⟩ = false := by
  refine ⟨?_, ?_, ?_, ?_, ?_, frozen_of_row w R 0 _ t h, frozen_of_row w R 1 _ t h, frozen_of_row w R 2 _ t h, frozen_of_row w R 3 _ t h, frozen_of_row w R 4 _ t h⟩
  · rw [cell_of_row w R 0 _ t (0, 0) h]; rfl
  · rw [cell_of_row w R 1 _ t (0, 0) h]; rfl
  · rw [cell_of_row w R 2 _ t (0, 0) h]; rfl
  · rw [cell_of_row w R 3 _ t (0, 0) h]; rfl
  · rw [cell_of_row w R 4 _ t (0, 0) h]; rfl
theorem set5 {w : World} {R : Nat} {t : TypeId} {x y z u v x' y' z' u' v' : Value} (h : w.heap[R]? = some (.cells #[x, y, z, u, v] t (0, 0))) : (((((w.setCell ⟨R, 0, none⟩ x').setCell ⟨R, 1, none⟩ y').setCell ⟨R, 2, none⟩ z').setCell ⟨R, 3, none⟩ u').setCell ⟨R, 4, none⟩ v').heap[R]? = some (.cells #[x', y', z', u', v'] t (0, 0)) := by
  rw [heap_setCell_same _ _ _ _ t _ (heap_setCell_same _ _ _ _ t _ (heap_setCell_same _ _ _ _ t _ (heap_setCell_same _ _ _ _ t _ (heap_setCell_same _ _ _ _ t _ h))))]
  simp
theorem bel5 {B : Nat} {a w : World} {R : Nat} (hR : B ≤ R) {x' y' z' u' v' : Value} (h : Below B a w) : Below B a (((((w.setCell ⟨R, 0, none⟩ x').setCell ⟨R, 1, none⟩ y').setCell ⟨R, 2, none⟩ z').setCell ⟨R, 3, none⟩ u').setCell ⟨R, 4, none⟩ v') := (((((h.setCell (p := ⟨R, 0, none⟩) hR _).setCell (p := ⟨R, 1, none⟩) hR _).setCell (p := ⟨R, 2, none⟩) hR _).setCell (p := ⟨R, 3, none⟩) hR _).setCell (p := ⟨R, 4, none⟩) hR _)

set_option maxHeartbeats 2000000 in
set_option maxRecDepth 100000 in
theorem meant15_any (r : Int) (l : ByteArray) (s T : ByteArray) (E : Int) (w : World) (hE : E = 0 ∨ E = 2) (hf : ∀ W, Below w.heap.size w W → Calls Tryz.prog 15 #[bv r l] W fun e w' => e = .returned (.tuple #[.string T, .int .i64 E]) ∧ Below W.heap.size W w') :
    Calls Tryz.prog 91 #[bv r l, .string s, .func (.func 15) #[] #[]] w fun e w' => e = .returned (.tuple #[if E = 0 ∧ T = s then bv r l else bv 0 ⟨#[]⟩, .int .i64 (if E = 0 ∧ T = s then 0 else 4)]) ∧ Below w.heap.size w w' := by
  have hb : Below w.heap.size w ((w.alloc (.cells #[.int .i64 r, .string l] 23)).alloc (.cells #[.int .i64 0, .string ⟨#[]⟩] 23)) := ((Below.refl _ w).alloc (Nat.le_refl _) _).alloc (by simp) _
  obtain ⟨m0, m1⟩ := new2 w (.cells #[.int .i64 r, .string l] 23) (.cells #[.int .i64 0, .string ⟨#[]⟩] 23)
  have hm := hf _ hb
  obtain ⟨p0, p1, _, _⟩ := blk2 m0
  have hk0 : ∀ W, Below ((w.alloc (.cells #[.int .i64 r, .string l] 23)).alloc (.cells #[.int .i64 0, .string ⟨#[]⟩] 23)).heap.size ((w.alloc (.cells #[.int .i64 r, .string l] 23)).alloc (.cells #[.int .i64 0, .string ⟨#[]⟩] 23)) W → W.heap[w.heap.size]? = some (.cells #[.int .i64 r, .string l] 23 (0, 0)) := fun W h => (h.block _ (by simp <;> omega)).trans m0
  have hk : ∀ W, Below ((w.alloc (.cells #[.int .i64 r, .string l] 23)).alloc (.cells #[.int .i64 0, .string ⟨#[]⟩] 23)).heap.size ((w.alloc (.cells #[.int .i64 r, .string l] 23)).alloc (.cells #[.int .i64 0, .string ⟨#[]⟩] 23)) W → W.heap[w.heap.size + 1]? = some (.cells #[.int .i64 0, .string ⟨#[]⟩] 23 (0, 0)) := fun W h => (h.block _ (by simp <;> omega)).trans m1
  rcases hE with rfl | rfl
  · by_cases hT : T = s
    · subst hT
      rw [if_pos ⟨rfl, rfl⟩, if_pos ⟨rfl, rfl⟩]
      go_enter Tryz.func91, Tryz.ntmps91
      go_wp2_with (go_at_call 15; refine hm.mono ?_; rintro e w1 ⟨rfl, b1⟩; have hB1 := hide (hb.trans (b1.mono hb.size)); have HR := hide (hk _ b1); obtain ⟨z0, z1, zf0, zf1⟩ := blk2 HR.out; obtain ⟨q0, q1, qf0, qf1⟩ := blk2 (hk0 _ b1); clear b1)
      refine ret_row_tmp (w.heap.size + 1) [.int .i64 r, .string l] rfl rfl rfl Tryz.underlying23 rfl (by kernel_rfl) (t := 23) (fr := (0, 0)) (set2 HR.out) rfl ?_
      exact ⟨rfl, bel2 (by omega) hB1.out⟩
    · have hne : (T.toList == s.toList) = false := by
        rw [beq_eq_false_iff_ne, ByteArray.toList_eq, ByteArray.toList_eq]
        exact fun e => hT (ByteArray.ext (Array.toList_inj.1 e))
      rw [if_neg (fun h : (0 : Int) = 0 ∧ T = s => hT h.2), if_neg (fun h : (0 : Int) = 0 ∧ T = s => hT h.2)]
      go_enter Tryz.func91, Tryz.ntmps91
      go_wp2_with (go_at_call 15; refine hm.mono ?_; rintro e w1 ⟨rfl, b1⟩; have hB1 := hide (hb.trans (b1.mono hb.size)); have HR := hide (hk _ (b1.alloc (o := .cells #[.int .i64 0, .string ⟨#[]⟩] 23) b1.size)); have hw1 := b1.size; obtain ⟨z0, z1, zf0, zf1⟩ := blk2 HR.out; clear b1)
      refine ret_row_tmp (w.heap.size + 1) [.int .i64 0, .string ⟨#[]⟩] rfl rfl rfl Tryz.underlying23 rfl (by kernel_rfl) (t := 23) (fr := (0, 0)) (set2 HR.out) rfl ?_
      exact ⟨rfl, bel2 (by omega) (hB1.out.alloc hB1.out.size _)⟩
  · rw [if_neg (fun h : (2 : Int) = 0 ∧ T = s => by omega), if_neg (fun h : (2 : Int) = 0 ∧ T = s => by omega)]
    go_enter Tryz.func91, Tryz.ntmps91
    go_wp2_with (go_at_call 15; refine hm.mono ?_; rintro e w1 ⟨rfl, b1⟩; have hB1 := hide (hb.trans (b1.mono hb.size)); have HR := hide (hk _ (b1.alloc (o := .cells #[.int .i64 0, .string ⟨#[]⟩] 23) b1.size)); have hw1 := b1.size; obtain ⟨z0, z1, zf0, zf1⟩ := blk2 HR.out; clear b1)
    refine ret_row_tmp (w.heap.size + 1) [.int .i64 0, .string ⟨#[]⟩] rfl rfl rfl Tryz.underlying23 rfl (by kernel_rfl) (t := 23) (fr := (0, 0)) (set2 HR.out) rfl ?_
    exact ⟨rfl, bel2 (by omega) (hB1.out.alloc hB1.out.size _)⟩

set_option maxHeartbeats 2000000 in
set_option maxRecDepth 100000 in
theorem meant14_any (r : Int) (l : ByteArray) (n : Int) (s T : ByteArray) (E : Int) (w : World) (hE : E = 0 ∨ E = 2) (hf : ∀ W, Below w.heap.size w W → Calls Tryz.prog 14 #[nv r l n] W fun e w' => e = .returned (.tuple #[.string T, .int .i64 E]) ∧ Below W.heap.size W w') :
    Calls Tryz.prog 96 #[nv r l n, .string s, .func (.func 14) #[] #[]] w fun e w' => e = .returned (.tuple #[if E = 0 ∧ T = s then nv r l n else nv 0 ⟨#[]⟩ 0, .int .i64 (if E = 0 ∧ T = s then 0 else 4)]) ∧ Below w.heap.size w w' := by
  have hb : Below w.heap.size w ((w.alloc (.cells #[.int .i64 r, .string l, .int .i64 n] 25)).alloc (.cells #[.int .i64 0, .string ⟨#[]⟩, .int .i64 0] 25)) := ((Below.refl _ w).alloc (Nat.le_refl _) _).alloc (by simp) _
  obtain ⟨m0, m1⟩ := new2 w (.cells #[.int .i64 r, .string l, .int .i64 n] 25) (.cells #[.int .i64 0, .string ⟨#[]⟩, .int .i64 0] 25)
  have hm := hf _ hb
  obtain ⟨p0, p1, p2, _, _, _⟩ := blk3 m0
  have hk0 : ∀ W, Below ((w.alloc (.cells #[.int .i64 r, .string l, .int .i64 n] 25)).alloc (.cells #[.int .i64 0, .string ⟨#[]⟩, .int .i64 0] 25)).heap.size ((w.alloc (.cells #[.int .i64 r, .string l, .int .i64 n] 25)).alloc (.cells #[.int .i64 0, .string ⟨#[]⟩, .int .i64 0] 25)) W → W.heap[w.heap.size]? = some (.cells #[.int .i64 r, .string l, .int .i64 n] 25 (0, 0)) := fun W h => (h.block _ (by simp <;> omega)).trans m0
  have hk : ∀ W, Below ((w.alloc (.cells #[.int .i64 r, .string l, .int .i64 n] 25)).alloc (.cells #[.int .i64 0, .string ⟨#[]⟩, .int .i64 0] 25)).heap.size ((w.alloc (.cells #[.int .i64 r, .string l, .int .i64 n] 25)).alloc (.cells #[.int .i64 0, .string ⟨#[]⟩, .int .i64 0] 25)) W → W.heap[w.heap.size + 1]? = some (.cells #[.int .i64 0, .string ⟨#[]⟩, .int .i64 0] 25 (0, 0)) := fun W h => (h.block _ (by simp <;> omega)).trans m1
  rcases hE with rfl | rfl
  · by_cases hT : T = s
    · subst hT
      rw [if_pos ⟨rfl, rfl⟩, if_pos ⟨rfl, rfl⟩]
      go_enter Tryz.func96, Tryz.ntmps96
      go_wp2_with (go_at_call 14; refine hm.mono ?_; rintro e w1 ⟨rfl, b1⟩; have hB1 := hide (hb.trans (b1.mono hb.size)); have HR := hide (hk _ b1); obtain ⟨z0, z1, z2, zf0, zf1, zf2⟩ := blk3 HR.out; obtain ⟨q0, q1, q2, qf0, qf1, qf2⟩ := blk3 (hk0 _ b1); clear b1)
      refine ret_row_tmp (w.heap.size + 1) [.int .i64 r, .string l, .int .i64 n] rfl rfl rfl Tryz.underlying25 rfl (by kernel_rfl) (t := 25) (fr := (0, 0)) (set3 HR.out) rfl ?_
      exact ⟨rfl, bel3 (by omega) hB1.out⟩
    · have hne : (T.toList == s.toList) = false := by
        rw [beq_eq_false_iff_ne, ByteArray.toList_eq, ByteArray.toList_eq]
        exact fun e => hT (ByteArray.ext (Array.toList_inj.1 e))
      rw [if_neg (fun h : (0 : Int) = 0 ∧ T = s => hT h.2), if_neg (fun h : (0 : Int) = 0 ∧ T = s => hT h.2)]
      go_enter Tryz.func96, Tryz.ntmps96
      go_wp2_with (go_at_call 14; refine hm.mono ?_; rintro e w1 ⟨rfl, b1⟩; have hB1 := hide (hb.trans (b1.mono hb.size)); have HR := hide (hk _ (b1.alloc (o := .cells #[.int .i64 0, .string ⟨#[]⟩, .int .i64 0] 25) b1.size)); have hw1 := b1.size; obtain ⟨z0, z1, z2, zf0, zf1, zf2⟩ := blk3 HR.out; clear b1)
      refine ret_row_tmp (w.heap.size + 1) [.int .i64 0, .string ⟨#[]⟩, .int .i64 0] rfl rfl rfl Tryz.underlying25 rfl (by kernel_rfl) (t := 25) (fr := (0, 0)) (set3 HR.out) rfl ?_
      exact ⟨rfl, bel3 (by omega) (hB1.out.alloc hB1.out.size _)⟩
  · rw [if_neg (fun h : (2 : Int) = 0 ∧ T = s => by omega), if_neg (fun h : (2 : Int) = 0 ∧ T = s => by omega)]
    go_enter Tryz.func96, Tryz.ntmps96
    go_wp2_with (go_at_call 14; refine hm.mono ?_; rintro e w1 ⟨rfl, b1⟩; have hB1 := hide (hb.trans (b1.mono hb.size)); have HR := hide (hk _ (b1.alloc (o := .cells #[.int .i64 0, .string ⟨#[]⟩, .int .i64 0] 25) b1.size)); have hw1 := b1.size; obtain ⟨z0, z1, z2, zf0, zf1, zf2⟩ := blk3 HR.out; clear b1)
    refine ret_row_tmp (w.heap.size + 1) [.int .i64 0, .string ⟨#[]⟩, .int .i64 0] rfl rfl rfl Tryz.underlying25 rfl (by kernel_rfl) (t := 25) (fr := (0, 0)) (set3 HR.out) rfl ?_
    exact ⟨rfl, bel3 (by omega) (hB1.out.alloc hB1.out.size _)⟩

set_option maxHeartbeats 2000000 in
set_option maxRecDepth 100000 in
theorem meant13_any (g r : Int) (l : ByteArray) (n x : Int) (s T : ByteArray) (E : Int) (w : World) (hE : E = 0 ∨ E = 2) (hf : ∀ W, Below w.heap.size w W → Calls Tryz.prog 13 #[sv g r l n x] W fun e w' => e = .returned (.tuple #[.string T, .int .i64 E]) ∧ Below W.heap.size W w') :
    Calls Tryz.prog 97 #[sv g r l n x, .string s, .func (.func 13) #[] #[]] w fun e w' => e = .returned (.tuple #[if E = 0 ∧ T = s then sv g r l n x else sv 0 0 ⟨#[]⟩ 0 0, .int .i64 (if E = 0 ∧ T = s then 0 else 4)]) ∧ Below w.heap.size w w' := by
  have hb : Below w.heap.size w ((w.alloc (.cells #[.int .i64 g, .int .i64 r, .string l, .int .i64 n, .int .i64 x] 27)).alloc (.cells #[.int .i64 0, .int .i64 0, .string ⟨#[]⟩, .int .i64 0, .int .i64 0] 27)) := ((Below.refl _ w).alloc (Nat.le_refl _) _).alloc (by simp) _
  obtain ⟨m0, m1⟩ := new2 w (.cells #[.int .i64 g, .int .i64 r, .string l, .int .i64 n, .int .i64 x] 27) (.cells #[.int .i64 0, .int .i64 0, .string ⟨#[]⟩, .int .i64 0, .int .i64 0] 27)
  have hm := hf _ hb
  obtain ⟨p0, p1, p2, p3, p4, _, _, _, _, _⟩ := blk5 m0
  have hk0 : ∀ W, Below ((w.alloc (.cells #[.int .i64 g, .int .i64 r, .string l, .int .i64 n, .int .i64 x] 27)).alloc (.cells #[.int .i64 0, .int .i64 0, .string ⟨#[]⟩, .int .i64 0, .int .i64 0] 27)).heap.size ((w.alloc (.cells #[.int .i64 g, .int .i64 r, .string l, .int .i64 n, .int .i64 x] 27)).alloc (.cells #[.int .i64 0, .int .i64 0, .string ⟨#[]⟩, .int .i64 0, .int .i64 0] 27)) W → W.heap[w.heap.size]? = some (.cells #[.int .i64 g, .int .i64 r, .string l, .int .i64 n, .int .i64 x] 27 (0, 0)) := fun W h => (h.block _ (by simp <;> omega)).trans m0
  have hk : ∀ W, Below ((w.alloc (.cells #[.int .i64 g, .int .i64 r, .string l, .int .i64 n, .int .i64 x] 27)).alloc (.cells #[.int .i64 0, .int .i64 0, .string ⟨#[]⟩, .int .i64 0, .int .i64 0] 27)).heap.size ((w.alloc (.cells #[.int .i64 g, .int .i64 r, .string l, .int .i64 n, .int .i64 x] 27)).alloc (.cells #[.int .i64 0, .int .i64 0, .string ⟨#[]⟩, .int .i64 0, .int .i64 0] 27)) W → W.heap[w.heap.size + 1]? = some (.cells #[.int .i64 0, .int .i64 0, .string ⟨#[]⟩, .int .i64 0, .int .i64 0] 27 (0, 0)) := fun W h => (h.block _ (by simp <;> omega)).trans m1
  rcases hE with rfl | rfl
  · by_cases hT : T = s
    · subst hT
      rw [if_pos ⟨rfl, rfl⟩, if_pos ⟨rfl, rfl⟩]
      go_enter Tryz.func97, Tryz.ntmps97
      go_wp2_with (go_at_call 13; refine hm.mono ?_; rintro e w1 ⟨rfl, b1⟩; have hB1 := hide (hb.trans (b1.mono hb.size)); have HR := hide (hk _ b1); obtain ⟨z0, z1, z2, z3, z4, zf0, zf1, zf2, zf3, zf4⟩ := blk5 HR.out; obtain ⟨q0, q1, q2, q3, q4, qf0, qf1, qf2, qf3, qf4⟩ := blk5 (hk0 _ b1); clear b1)
      refine ret_row_tmp (w.heap.size + 1) [.int .i64 g, .int .i64 r, .string l, .int .i64 n, .int .i64 x] rfl rfl rfl Tryz.underlying27 rfl (by kernel_rfl) (t := 27) (fr := (0, 0)) (set5 HR.out) rfl ?_
      exact ⟨rfl, bel5 (by omega) hB1.out⟩
    · have hne : (T.toList == s.toList) = false := by
        rw [beq_eq_false_iff_ne, ByteArray.toList_eq, ByteArray.toList_eq]
        exact fun e => hT (ByteArray.ext (Array.toList_inj.1 e))
      rw [if_neg (fun h : (0 : Int) = 0 ∧ T = s => hT h.2), if_neg (fun h : (0 : Int) = 0 ∧ T = s => hT h.2)]
      go_enter Tryz.func97, Tryz.ntmps97
      go_wp2_with (go_at_call 13; refine hm.mono ?_; rintro e w1 ⟨rfl, b1⟩; have hB1 := hide (hb.trans (b1.mono hb.size)); have HR := hide (hk _ (b1.alloc (o := .cells #[.int .i64 0, .int .i64 0, .string ⟨#[]⟩, .int .i64 0, .int .i64 0] 27) b1.size)); have hw1 := b1.size; obtain ⟨z0, z1, z2, z3, z4, zf0, zf1, zf2, zf3, zf4⟩ := blk5 HR.out; clear b1)
      refine ret_row_tmp (w.heap.size + 1) [.int .i64 0, .int .i64 0, .string ⟨#[]⟩, .int .i64 0, .int .i64 0] rfl rfl rfl Tryz.underlying27 rfl (by kernel_rfl) (t := 27) (fr := (0, 0)) (set5 HR.out) rfl ?_
      exact ⟨rfl, bel5 (by omega) (hB1.out.alloc hB1.out.size _)⟩
  · rw [if_neg (fun h : (2 : Int) = 0 ∧ T = s => by omega), if_neg (fun h : (2 : Int) = 0 ∧ T = s => by omega)]
    go_enter Tryz.func97, Tryz.ntmps97
    go_wp2_with (go_at_call 13; refine hm.mono ?_; rintro e w1 ⟨rfl, b1⟩; have hB1 := hide (hb.trans (b1.mono hb.size)); have HR := hide (hk _ (b1.alloc (o := .cells #[.int .i64 0, .int .i64 0, .string ⟨#[]⟩, .int .i64 0, .int .i64 0] 27) b1.size)); have hw1 := b1.size; obtain ⟨z0, z1, z2, z3, z4, zf0, zf1, zf2, zf3, zf4⟩ := blk5 HR.out; clear b1)
    refine ret_row_tmp (w.heap.size + 1) [.int .i64 0, .int .i64 0, .string ⟨#[]⟩, .int .i64 0, .int .i64 0] rfl rfl rfl Tryz.underlying27 rfl (by kernel_rfl) (t := 27) (fr := (0, 0)) (set5 HR.out) rfl ?_
    exact ⟨rfl, bel5 (by omega) (hB1.out.alloc hB1.out.size _)⟩

set_option maxHeartbeats 2000000 in
set_option maxRecDepth 100000 in
theorem meant16_any (g r : Int) (l : ByteArray) (n x : Int) (s T : ByteArray) (E : Int) (w : World) (hE : E = 0 ∨ E = 2) (hf : ∀ W, Below w.heap.size w W → Calls Tryz.prog 16 #[sv g r l n x] W fun e w' => e = .returned (.tuple #[.string T, .int .i64 E]) ∧ Below W.heap.size W w') :
    Calls Tryz.prog 97 #[sv g r l n x, .string s, .func (.func 16) #[] #[]] w fun e w' => e = .returned (.tuple #[if E = 0 ∧ T = s then sv g r l n x else sv 0 0 ⟨#[]⟩ 0 0, .int .i64 (if E = 0 ∧ T = s then 0 else 4)]) ∧ Below w.heap.size w w' := by
  have hb : Below w.heap.size w ((w.alloc (.cells #[.int .i64 g, .int .i64 r, .string l, .int .i64 n, .int .i64 x] 27)).alloc (.cells #[.int .i64 0, .int .i64 0, .string ⟨#[]⟩, .int .i64 0, .int .i64 0] 27)) := ((Below.refl _ w).alloc (Nat.le_refl _) _).alloc (by simp) _
  obtain ⟨m0, m1⟩ := new2 w (.cells #[.int .i64 g, .int .i64 r, .string l, .int .i64 n, .int .i64 x] 27) (.cells #[.int .i64 0, .int .i64 0, .string ⟨#[]⟩, .int .i64 0, .int .i64 0] 27)
  have hm := hf _ hb
  obtain ⟨p0, p1, p2, p3, p4, _, _, _, _, _⟩ := blk5 m0
  have hk0 : ∀ W, Below ((w.alloc (.cells #[.int .i64 g, .int .i64 r, .string l, .int .i64 n, .int .i64 x] 27)).alloc (.cells #[.int .i64 0, .int .i64 0, .string ⟨#[]⟩, .int .i64 0, .int .i64 0] 27)).heap.size ((w.alloc (.cells #[.int .i64 g, .int .i64 r, .string l, .int .i64 n, .int .i64 x] 27)).alloc (.cells #[.int .i64 0, .int .i64 0, .string ⟨#[]⟩, .int .i64 0, .int .i64 0] 27)) W → W.heap[w.heap.size]? = some (.cells #[.int .i64 g, .int .i64 r, .string l, .int .i64 n, .int .i64 x] 27 (0, 0)) := fun W h => (h.block _ (by simp <;> omega)).trans m0
  have hk : ∀ W, Below ((w.alloc (.cells #[.int .i64 g, .int .i64 r, .string l, .int .i64 n, .int .i64 x] 27)).alloc (.cells #[.int .i64 0, .int .i64 0, .string ⟨#[]⟩, .int .i64 0, .int .i64 0] 27)).heap.size ((w.alloc (.cells #[.int .i64 g, .int .i64 r, .string l, .int .i64 n, .int .i64 x] 27)).alloc (.cells #[.int .i64 0, .int .i64 0, .string ⟨#[]⟩, .int .i64 0, .int .i64 0] 27)) W → W.heap[w.heap.size + 1]? = some (.cells #[.int .i64 0, .int .i64 0, .string ⟨#[]⟩, .int .i64 0, .int .i64 0] 27 (0, 0)) := fun W h => (h.block _ (by simp <;> omega)).trans m1
  rcases hE with rfl | rfl
  · by_cases hT : T = s
    · subst hT
      rw [if_pos ⟨rfl, rfl⟩, if_pos ⟨rfl, rfl⟩]
      go_enter Tryz.func97, Tryz.ntmps97
      go_wp2_with (go_at_call 16; refine hm.mono ?_; rintro e w1 ⟨rfl, b1⟩; have hB1 := hide (hb.trans (b1.mono hb.size)); have HR := hide (hk _ b1); obtain ⟨z0, z1, z2, z3, z4, zf0, zf1, zf2, zf3, zf4⟩ := blk5 HR.out; obtain ⟨q0, q1, q2, q3, q4, qf0, qf1, qf2, qf3, qf4⟩ := blk5 (hk0 _ b1); clear b1)
      refine ret_row_tmp (w.heap.size + 1) [.int .i64 g, .int .i64 r, .string l, .int .i64 n, .int .i64 x] rfl rfl rfl Tryz.underlying27 rfl (by kernel_rfl) (t := 27) (fr := (0, 0)) (set5 HR.out) rfl ?_
      exact ⟨rfl, bel5 (by omega) hB1.out⟩
    · have hne : (T.toList == s.toList) = false := by
        rw [beq_eq_false_iff_ne, ByteArray.toList_eq, ByteArray.toList_eq]
        exact fun e => hT (ByteArray.ext (Array.toList_inj.1 e))
      rw [if_neg (fun h : (0 : Int) = 0 ∧ T = s => hT h.2), if_neg (fun h : (0 : Int) = 0 ∧ T = s => hT h.2)]
      go_enter Tryz.func97, Tryz.ntmps97
      go_wp2_with (go_at_call 16; refine hm.mono ?_; rintro e w1 ⟨rfl, b1⟩; have hB1 := hide (hb.trans (b1.mono hb.size)); have HR := hide (hk _ (b1.alloc (o := .cells #[.int .i64 0, .int .i64 0, .string ⟨#[]⟩, .int .i64 0, .int .i64 0] 27) b1.size)); have hw1 := b1.size; obtain ⟨z0, z1, z2, z3, z4, zf0, zf1, zf2, zf3, zf4⟩ := blk5 HR.out; clear b1)
      refine ret_row_tmp (w.heap.size + 1) [.int .i64 0, .int .i64 0, .string ⟨#[]⟩, .int .i64 0, .int .i64 0] rfl rfl rfl Tryz.underlying27 rfl (by kernel_rfl) (t := 27) (fr := (0, 0)) (set5 HR.out) rfl ?_
      exact ⟨rfl, bel5 (by omega) (hB1.out.alloc hB1.out.size _)⟩
  · rw [if_neg (fun h : (2 : Int) = 0 ∧ T = s => by omega), if_neg (fun h : (2 : Int) = 0 ∧ T = s => by omega)]
    go_enter Tryz.func97, Tryz.ntmps97
    go_wp2_with (go_at_call 16; refine hm.mono ?_; rintro e w1 ⟨rfl, b1⟩; have hB1 := hide (hb.trans (b1.mono hb.size)); have HR := hide (hk _ (b1.alloc (o := .cells #[.int .i64 0, .int .i64 0, .string ⟨#[]⟩, .int .i64 0, .int .i64 0] 27) b1.size)); have hw1 := b1.size; obtain ⟨z0, z1, z2, z3, z4, zf0, zf1, zf2, zf3, zf4⟩ := blk5 HR.out; clear b1)
    refine ret_row_tmp (w.heap.size + 1) [.int .i64 0, .int .i64 0, .string ⟨#[]⟩, .int .i64 0, .int .i64 0] rfl rfl rfl Tryz.underlying27 rfl (by kernel_rfl) (t := 27) (fr := (0, 0)) (set5 HR.out) rfl ?_
    exact ⟨rfl, bel5 (by omega) (hB1.out.alloc hB1.out.size _)⟩

end Go.Proofs.YtkjabnpniingnaaGreatDoor
