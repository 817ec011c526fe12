/-
  TOLD: Put, Text, Key and their like of the program.
  MEANT: a value, if its own text is the text.
-/
import Derived.Test.YtkeldhohilmdcaaGreatKeys
import Derived.Deep.DeepCutAuto
namespace Go.Proofs.YtkeldhohilmdcaaGreat
open Go.RowKit Go.Shelf
set_option linter.unusedSimpArgs false

theorem B_bounds {r : Int} {l : ByteArray} (h : branchV r l = true) : 0 ≤ r ∧ r < 8 ∧ l.size ≤ 12 := by
  unfold branchV labelB at h
  simp only [Bool.and_eq_true, decide_eq_true_eq] at h
  have := Lib.size_eq l
  refine ⟨h.1.1, h.1.2, ?_⟩
  omega
theorem N_bounds {r : Int} {l : ByteArray} {n : Int} (h : nameV r l n = true) : 0 ≤ r ∧ r < 8 ∧ l.size ≤ 12 ∧ 1 ≤ n ∧ n ≤ 4611686018427387904 := by
  unfold nameV cntV at h
  simp only [Bool.and_eq_true, decide_eq_true_eq] at h
  have := B_bounds h.1
  exact ⟨this.1, this.2.1, this.2.2, h.2.1, h.2.2⟩
theorem S_bounds {g r : Int} {l : ByteArray} {n x : Int} (h : stampV g r l n x = true) : 0 ≤ r ∧ r < 8 ∧ l.size ≤ 12 ∧ 1 ≤ n ∧ n ≤ 4611686018427387904 ∧ 1 ≤ g ∧ g ≤ 4611686018427387904 ∧ 0 ≤ x ∧ x < 64 := by
  unfold stampV cntV at h
  simp only [Bool.and_eq_true, decide_eq_true_eq] at h
  have := N_bounds h.1.2
  exact ⟨this.1, this.2.1, this.2.2.1, this.2.2.2.1, this.2.2.2.2, h.1.1.1, h.1.1.2, h.2.1, h.2.2⟩

set_option maxHeartbeats 1000000 in
set_option maxRecDepth 100000 in
theorem told71_any (g r : Int) (l : ByteArray) (n x : Int) (w : World)  : Calls Tryz.prog 149 #[sv g r l n x, .func (.func 150) #[] #[], .func (.func 151) #[] #[]] w fun e w' => e = .returned (.tuple #[.string (if stampV g r l n x then keyS g r l n x else ⟨#[]⟩), .int .i64 (if stampV g r l n x then 0 else 2)]) ∧ Below w.heap.size w w' := by
  have hb := below_new w (.cells #[.int .i64 g, .int .i64 r, .string l, .int .i64 n, .int .i64 x] 43)
  obtain ⟨p0, p1, p2, p3, p4⟩ := five_new w (.int .i64 g) (.int .i64 r) (.string l) (.int .i64 n) (.int .i64 x) 43
  have hm := stamp_any g r l n x (w.alloc (.cells #[.int .i64 g, .int .i64 r, .string l, .int .i64 n, .int .i64 x] 43))
  have hf : stampV g r l n x = true → ∀ W, Below w.heap.size w W → Calls Tryz.prog 151 #[sv g r l n x] W fun e w' => e = .returned (.string (keyS g r l n x)) ∧ Below W.heap.size W w' := fun hv W hb' => by
    have := S_bounds hv
    exact stampKey_any g r l n x W (by omega) (by omega) (by omega) (by omega) (by omega) (by omega) (by omega) (by omega) (by omega)
  have k0 := fun (W : World) (h : Below (w.alloc (.cells #[.int .i64 g, .int .i64 r, .string l, .int .i64 n, .int .i64 x] 43)).heap.size (w.alloc (.cells #[.int .i64 g, .int .i64 r, .string l, .int .i64 n, .int .i64 x] 43)) W) => kept h p0
  have k1 := fun (W : World) (h : Below (w.alloc (.cells #[.int .i64 g, .int .i64 r, .string l, .int .i64 n, .int .i64 x] 43)).heap.size (w.alloc (.cells #[.int .i64 g, .int .i64 r, .string l, .int .i64 n, .int .i64 x] 43)) W) => kept h p1
  have k2 := fun (W : World) (h : Below (w.alloc (.cells #[.int .i64 g, .int .i64 r, .string l, .int .i64 n, .int .i64 x] 43)).heap.size (w.alloc (.cells #[.int .i64 g, .int .i64 r, .string l, .int .i64 n, .int .i64 x] 43)) W) => kept h p2
  have k3 := fun (W : World) (h : Below (w.alloc (.cells #[.int .i64 g, .int .i64 r, .string l, .int .i64 n, .int .i64 x] 43)).heap.size (w.alloc (.cells #[.int .i64 g, .int .i64 r, .string l, .int .i64 n, .int .i64 x] 43)) W) => kept h p3
  have k4 := fun (W : World) (h : Below (w.alloc (.cells #[.int .i64 g, .int .i64 r, .string l, .int .i64 n, .int .i64 x] 43)).heap.size (w.alloc (.cells #[.int .i64 g, .int .i64 r, .string l, .int .i64 n, .int .i64 x] 43)) W) => kept h p4
  generalize stampV g r l n x = V at hm hf ⊢
  generalize keyS g r l n x = S at hf ⊢
  cases V with
  | true =>
    rw [if_pos rfl, if_pos rfl]
    replace hf := hf rfl
    go_enter Tryz.func149, Tryz.ntmps149
    go_wp2_with (go_at_call 150; refine hm.mono ?_; rintro e w1 ⟨rfl, b1⟩; have q0 := k0 _ b1; have q1 := k1 _ b1; have q2 := k2 _ b1; have q3 := k3 _ b1; have q4 := k4 _ b1; have hb1 := hb.trans (b1.mono hb.size); clear b1)
    go_wp2_with (go_at_call 151; refine (hf _ hb1).mono ?_; rintro e w2 ⟨rfl, b2⟩)
    go_ret2
    exact ⟨rfl, hb1.trans (b2.mono hb1.size)⟩
  | false =>
    rw [if_neg (by decide), if_neg (by decide)]
    go_enter Tryz.func149, Tryz.ntmps149
    go_wp2_with (go_at_call 150; refine hm.mono ?_; rintro e w1 ⟨rfl, b1⟩; have hb1 := hb.trans (b1.mono hb.size); clear b1)
    go_ret2
    exact ⟨rfl, hb1⟩
set_option maxHeartbeats 1000000 in
theorem key_any (g r : Int) (l : ByteArray) (n x : Int) (w : World)  : Calls Tryz.prog 107 #[sv g r l n x] w fun e w' => e = .returned (.tuple #[.string (if stampV g r l n x then keyS g r l n x else ⟨#[]⟩), .int .i64 (if stampV g r l n x then 0 else 2)]) ∧ Below w.heap.size w w' := by
  have hb := below_new w (.cells #[.int .i64 g, .int .i64 r, .string l, .int .i64 n, .int .i64 x] 43)
  have hm := told71_any g r l n x (w.alloc (.cells #[.int .i64 g, .int .i64 r, .string l, .int .i64 n, .int .i64 x] 43)) 
  generalize (if stampV g r l n x then keyS g r l n x else ⟨#[]⟩) = S at hm ⊢
  generalize (if stampV g r l n x then (0 : Int) else 2) = E at hm ⊢
  go_enter Tryz.func107, Tryz.ntmps107
  go_wp2_with (go_at_call 149; refine hm.mono ?_; rintro e w1 ⟨rfl, b1⟩)
  go_ret2
  exact ⟨rfl, hb.trans (b1.mono hb.size)⟩

end Go.Proofs.YtkeldhohilmdcaaGreat
namespace Go.Proofs.YtkeldhohilmdcaaGreat
open Go.RowKit Go.Shelf
set_option linter.unusedSimpArgs false

theorem bel5 {B : Nat} {a w : World} {R : Nat} (hR : B ≤ R) {x' y' z' u' v' : Value} (h : Below B a w) : Below B a (((((w.setCell ⟨R, 0, none⟩ x').setCell ⟨R, 1, none⟩ y').setCell ⟨R, 2, none⟩ z').setCell ⟨R, 3, none⟩ u').setCell ⟨R, 4, none⟩ v') := (((((h.setCell (p := ⟨R, 0, none⟩) hR _).setCell (p := ⟨R, 1, none⟩) hR _).setCell (p := ⟨R, 2, none⟩) hR _).setCell (p := ⟨R, 3, none⟩) hR _).setCell (p := ⟨R, 4, none⟩) hR _)

set_option maxHeartbeats 2000000 in
set_option maxRecDepth 100000 in
theorem meant16_any (g r : Int) (l : ByteArray) (n x : Int) (s T : ByteArray) (E : Int) (w : World) (hE : E = 0 ∨ E = 2) (hf : ∀ W, Below w.heap.size w W → Calls Tryz.prog 107 #[sv g r l n x] W fun e w' => e = .returned (.tuple #[.string T, .int .i64 E]) ∧ Below W.heap.size W w') :
    Calls Tryz.prog 156 #[sv g r l n x, .string s, .func (.func 107) #[] #[]] w fun e w' => e = .returned (.tuple #[if E = 0 ∧ T = s then sv g r l n x else sv 0 0 ⟨#[]⟩ 0 0, .int .i64 (if E = 0 ∧ T = s then 0 else 4)]) ∧ Below w.heap.size w w' := by
  have hb : Below w.heap.size w ((w.alloc (.cells #[.int .i64 g, .int .i64 r, .string l, .int .i64 n, .int .i64 x] 43)).alloc (.cells #[.int .i64 0, .int .i64 0, .string ⟨#[]⟩, .int .i64 0, .int .i64 0] 43)) := ((Below.refl _ w).alloc (Nat.le_refl _) _).alloc (by simp) _
  obtain ⟨m0, m1⟩ := new2 w (.cells #[.int .i64 g, .int .i64 r, .string l, .int .i64 n, .int .i64 x] 43) (.cells #[.int .i64 0, .int .i64 0, .string ⟨#[]⟩, .int .i64 0, .int .i64 0] 43)
  have hm := hf _ hb
  obtain ⟨p0, p1, p2, p3, p4, _, _, _, _, _⟩ := blk5 m0
  have hk0 : ∀ W, Below ((w.alloc (.cells #[.int .i64 g, .int .i64 r, .string l, .int .i64 n, .int .i64 x] 43)).alloc (.cells #[.int .i64 0, .int .i64 0, .string ⟨#[]⟩, .int .i64 0, .int .i64 0] 43)).heap.size ((w.alloc (.cells #[.int .i64 g, .int .i64 r, .string l, .int .i64 n, .int .i64 x] 43)).alloc (.cells #[.int .i64 0, .int .i64 0, .string ⟨#[]⟩, .int .i64 0, .int .i64 0] 43)) W → W.heap[w.heap.size]? = some (.cells #[.int .i64 g, .int .i64 r, .string l, .int .i64 n, .int .i64 x] 43 (0, 0)) := fun W h => (h.block _ (by simp <;> omega)).trans m0
  have hk : ∀ W, Below ((w.alloc (.cells #[.int .i64 g, .int .i64 r, .string l, .int .i64 n, .int .i64 x] 43)).alloc (.cells #[.int .i64 0, .int .i64 0, .string ⟨#[]⟩, .int .i64 0, .int .i64 0] 43)).heap.size ((w.alloc (.cells #[.int .i64 g, .int .i64 r, .string l, .int .i64 n, .int .i64 x] 43)).alloc (.cells #[.int .i64 0, .int .i64 0, .string ⟨#[]⟩, .int .i64 0, .int .i64 0] 43)) W → W.heap[w.heap.size + 1]? = some (.cells #[.int .i64 0, .int .i64 0, .string ⟨#[]⟩, .int .i64 0, .int .i64 0] 43 (0, 0)) := fun W h => (h.block _ (by simp <;> omega)).trans m1
  rcases hE with rfl | rfl
  · by_cases hT : T = s
    · subst hT
      rw [if_pos ⟨rfl, rfl⟩, if_pos ⟨rfl, rfl⟩]
      go_enter Tryz.func156, Tryz.ntmps156
      go_wp2_with (go_at_call 107; refine hm.mono ?_; rintro e w1 ⟨rfl, b1⟩; have hB1 := hide (hb.trans (b1.mono hb.size)); have HR := hide (hk _ b1); obtain ⟨z0, z1, z2, z3, z4, zf0, zf1, zf2, zf3, zf4⟩ := blk5 HR.out; obtain ⟨q0, q1, q2, q3, q4, qf0, qf1, qf2, qf3, qf4⟩ := blk5 (hk0 _ b1); clear b1)
      refine ret_row_tmp (w.heap.size + 1) [.int .i64 g, .int .i64 r, .string l, .int .i64 n, .int .i64 x] rfl rfl rfl Tryz.underlying43 rfl (by kernel_rfl) (t := 43) (fr := (0, 0)) (set5 HR.out) rfl ?_
      exact ⟨rfl, bel5 (by omega) hB1.out⟩
    · have hne : (T.toList == s.toList) = false := by
        rw [beq_eq_false_iff_ne, ByteArray.toList_eq, ByteArray.toList_eq]
        exact fun e => hT (ByteArray.ext (Array.toList_inj.1 e))
      rw [if_neg (fun h : (0 : Int) = 0 ∧ T = s => hT h.2), if_neg (fun h : (0 : Int) = 0 ∧ T = s => hT h.2)]
      go_enter Tryz.func156, Tryz.ntmps156
      go_wp2_with (go_at_call 107; refine hm.mono ?_; rintro e w1 ⟨rfl, b1⟩; have hB1 := hide (hb.trans (b1.mono hb.size)); have HR := hide (hk _ (b1.alloc (o := .cells #[.int .i64 0, .int .i64 0, .string ⟨#[]⟩, .int .i64 0, .int .i64 0] 43) b1.size)); have hw1 := b1.size; obtain ⟨z0, z1, z2, z3, z4, zf0, zf1, zf2, zf3, zf4⟩ := blk5 HR.out; clear b1)
      refine ret_row_tmp (w.heap.size + 1) [.int .i64 0, .int .i64 0, .string ⟨#[]⟩, .int .i64 0, .int .i64 0] rfl rfl rfl Tryz.underlying43 rfl (by kernel_rfl) (t := 43) (fr := (0, 0)) (set5 HR.out) rfl ?_
      exact ⟨rfl, bel5 (by omega) (hB1.out.alloc hB1.out.size _)⟩
  · rw [if_neg (fun h : (2 : Int) = 0 ∧ T = s => by omega), if_neg (fun h : (2 : Int) = 0 ∧ T = s => by omega)]
    go_enter Tryz.func156, Tryz.ntmps156
    go_wp2_with (go_at_call 107; refine hm.mono ?_; rintro e w1 ⟨rfl, b1⟩; have hB1 := hide (hb.trans (b1.mono hb.size)); have HR := hide (hk _ (b1.alloc (o := .cells #[.int .i64 0, .int .i64 0, .string ⟨#[]⟩, .int .i64 0, .int .i64 0] 43) b1.size)); have hw1 := b1.size; obtain ⟨z0, z1, z2, z3, z4, zf0, zf1, zf2, zf3, zf4⟩ := blk5 HR.out; clear b1)
    refine ret_row_tmp (w.heap.size + 1) [.int .i64 0, .int .i64 0, .string ⟨#[]⟩, .int .i64 0, .int .i64 0] rfl rfl rfl Tryz.underlying43 rfl (by kernel_rfl) (t := 43) (fr := (0, 0)) (set5 HR.out) rfl ?_
    exact ⟨rfl, bel5 (by omega) (hB1.out.alloc hB1.out.size _)⟩

end Go.Proofs.YtkeldhohilmdcaaGreat
