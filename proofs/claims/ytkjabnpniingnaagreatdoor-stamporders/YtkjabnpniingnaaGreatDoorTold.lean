/-
  TOLD: Put, Text, Key and their like of the program.
-/
import Derived.Test.YtkjabnpniingnaaGreatDoorKeys
namespace Go.Proofs.YtkjabnpniingnaaGreatDoor
open Go.RowKit Go.Shelf
set_option linter.unusedSimpArgs false

theorem B_bounds {r : Int} {l : ByteArray} (h : branchV r l = true) : 0 ≤ r ∧ r < 8 ∧ l.size ≤ 12 := by
  unfold branchV labelB at h
  simp only [Bool.and_eq_true, decide_eq_true_eq] at h
  have := Lib.size_eq l
  refine ⟨h.1.1, h.1.2, ?_⟩
  omega
theorem N_bounds {r : Int} {l : ByteArray} {n : Int} (h : nameV r l n = true) : 0 ≤ r ∧ r < 8 ∧ l.size ≤ 12 ∧ 1 ≤ n ∧ n ≤ 4611686018427387904 := by
  unfold nameV cntV at h
  simp only [Bool.and_eq_true, decide_eq_true_eq] at h
  have := B_bounds h.1
  exact ⟨this.1, this.2.1, this.2.2, h.2.1, h.2.2⟩
theorem S_bounds {g r : Int} {l : ByteArray} {n x : Int} (h : stampV g r l n x = true) : 0 ≤ r ∧ r < 8 ∧ l.size ≤ 12 ∧ 1 ≤ n ∧ n ≤ 4611686018427387904 ∧ 1 ≤ g ∧ g ≤ 4611686018427387904 ∧ 0 ≤ x ∧ x < 64 := by
  unfold stampV cntV at h
  simp only [Bool.and_eq_true, decide_eq_true_eq] at h
  have := N_bounds h.1.2
  exact ⟨this.1, this.2.1, this.2.2.1, this.2.2.2.1, this.2.2.2.2, h.1.1.1, h.1.1.2, h.2.1, h.2.2⟩

set_option maxHeartbeats 1000000 in
set_option maxRecDepth 100000 in
theorem told66_any (g r : Int) (l : ByteArray) (n x : Int) (w : World) (hE : Env w) : Calls Tryz.prog 65 #[sv g r l n x, .func (.func 17) #[] #[], .func (.func 66) #[] #[]] w fun e w' => e = .returned (.tuple #[.string (if stampV g r l n x then stT g r l n x else ⟨#[]⟩), .int .i64 (if stampV g r l n x then 0 else 2)]) ∧ Below w.heap.size w w' := by
  have hb := below_new w (.cells #[.int .i64 g, .int .i64 r, .string l, .int .i64 n, .int .i64 x] 27)
  obtain ⟨p0, p1, p2, p3, p4⟩ := five_new w (.int .i64 g) (.int .i64 r) (.string l) (.int .i64 n) (.int .i64 x) 27
  have hm := stamp_any g r l n x (w.alloc (.cells #[.int .i64 g, .int .i64 r, .string l, .int .i64 n, .int .i64 x] 27))
  have hf : stampV g r l n x = true → ∀ W, Below w.heap.size w W → Calls Tryz.prog 66 #[sv g r l n x] W fun e w' => e = .returned (.string (stT g r l n x)) ∧ Below W.heap.size W w' := fun hv W hb' => by
    have := S_bounds hv
    exact stampText_any g r l n x W (by omega) (by omega) (by omega) (by omega) (by omega) (by omega) (by omega) (by omega) (by omega) (hE.below hb')
  have k0 := fun (W : World) (h : Below (w.alloc (.cells #[.int .i64 g, .int .i64 r, .string l, .int .i64 n, .int .i64 x] 27)).heap.size (w.alloc (.cells #[.int .i64 g, .int .i64 r, .string l, .int .i64 n, .int .i64 x] 27)) W) => kept h p0
  have k1 := fun (W : World) (h : Below (w.alloc (.cells #[.int .i64 g, .int .i64 r, .string l, .int .i64 n, .int .i64 x] 27)).heap.size (w.alloc (.cells #[.int .i64 g, .int .i64 r, .string l, .int .i64 n, .int .i64 x] 27)) W) => kept h p1
  have k2 := fun (W : World) (h : Below (w.alloc (.cells #[.int .i64 g, .int .i64 r, .string l, .int .i64 n, .int .i64 x] 27)).heap.size (w.alloc (.cells #[.int .i64 g, .int .i64 r, .string l, .int .i64 n, .int .i64 x] 27)) W) => kept h p2
  have k3 := fun (W : World) (h : Below (w.alloc (.cells #[.int .i64 g, .int .i64 r, .string l, .int .i64 n, .int .i64 x] 27)).heap.size (w.alloc (.cells #[.int .i64 g, .int .i64 r, .string l, .int .i64 n, .int .i64 x] 27)) W) => kept h p3
  have k4 := fun (W : World) (h : Below (w.alloc (.cells #[.int .i64 g, .int .i64 r, .string l, .int .i64 n, .int .i64 x] 27)).heap.size (w.alloc (.cells #[.int .i64 g, .int .i64 r, .string l, .int .i64 n, .int .i64 x] 27)) W) => kept h p4
  generalize stampV g r l n x = V at hm hf ⊢
  generalize stT g r l n x = S at hf ⊢
  cases V with
  | true =>
    rw [if_pos rfl, if_pos rfl]
    replace hf := hf rfl
    go_enter Tryz.func65, Tryz.ntmps65
    go_wp2_with (go_at_call 17; refine hm.mono ?_; rintro e w1 ⟨rfl, b1⟩; have q0 := k0 _ b1; have q1 := k1 _ b1; have q2 := k2 _ b1; have q3 := k3 _ b1; have q4 := k4 _ b1; have hb1 := hb.trans (b1.mono hb.size); clear b1)
    go_wp2_with (go_at_call 66; refine (hf _ hb1).mono ?_; rintro e w2 ⟨rfl, b2⟩)
    go_ret2
    exact ⟨rfl, hb1.trans (b2.mono hb1.size)⟩
  | false =>
    rw [if_neg (by decide), if_neg (by decide)]
    go_enter Tryz.func65, Tryz.ntmps65
    go_wp2_with (go_at_call 17; refine hm.mono ?_; rintro e w1 ⟨rfl, b1⟩; have hb1 := hb.trans (b1.mono hb.size); clear b1)
    go_ret2
    exact ⟨rfl, hb1⟩
set_option maxHeartbeats 1000000 in
theorem text_any (g r : Int) (l : ByteArray) (n x : Int) (w : World) (hE : Env w) : Calls Tryz.prog 13 #[sv g r l n x] w fun e w' => e = .returned (.tuple #[.string (if stampV g r l n x then stT g r l n x else ⟨#[]⟩), .int .i64 (if stampV g r l n x then 0 else 2)]) ∧ Below w.heap.size w w' := by
  have hb := below_new w (.cells #[.int .i64 g, .int .i64 r, .string l, .int .i64 n, .int .i64 x] 27)
  have hm := told66_any g r l n x (w.alloc (.cells #[.int .i64 g, .int .i64 r, .string l, .int .i64 n, .int .i64 x] 27)) (hE.below hb)
  generalize (if stampV g r l n x then stT g r l n x else ⟨#[]⟩) = S at hm ⊢
  generalize (if stampV g r l n x then (0 : Int) else 2) = E at hm ⊢
  go_enter Tryz.func13, Tryz.ntmps13
  go_wp2_with (go_at_call 65; refine hm.mono ?_; rintro e w1 ⟨rfl, b1⟩)
  go_ret2
  exact ⟨rfl, hb.trans (b1.mono hb.size)⟩

set_option maxHeartbeats 1000000 in
set_option maxRecDepth 100000 in
theorem told68_any (r : Int) (l : ByteArray) (n : Int) (w : World) (hE : Env w) : Calls Tryz.prog 67 #[nv r l n, .func (.func 19) #[] #[], .func (.func 68) #[] #[]] w fun e w' => e = .returned (.tuple #[.string (if nameV r l n then nmT r l n else ⟨#[]⟩), .int .i64 (if nameV r l n then 0 else 2)]) ∧ Below w.heap.size w w' := by
  have hb := below_new w (.cells #[.int .i64 r, .string l, .int .i64 n] 25)
  obtain ⟨p0, p1, p2⟩ := three_new w (.int .i64 r) (.string l) (.int .i64 n) 25
  have hm := name_any r l n (w.alloc (.cells #[.int .i64 r, .string l, .int .i64 n] 25))
  have hf : nameV r l n = true → ∀ W, Below w.heap.size w W → Calls Tryz.prog 68 #[nv r l n] W fun e w' => e = .returned (.string (nmT r l n)) ∧ Below W.heap.size W w' := fun hv W hb' => by
    have := N_bounds hv
    exact nameText_any r l n W (by omega) (by omega) (by omega) (by omega) (by omega) (hE.below hb')
  have k0 := fun (W : World) (h : Below (w.alloc (.cells #[.int .i64 r, .string l, .int .i64 n] 25)).heap.size (w.alloc (.cells #[.int .i64 r, .string l, .int .i64 n] 25)) W) => kept h p0
  have k1 := fun (W : World) (h : Below (w.alloc (.cells #[.int .i64 r, .string l, .int .i64 n] 25)).heap.size (w.alloc (.cells #[.int .i64 r, .string l, .int .i64 n] 25)) W) => kept h p1
  have k2 := fun (W : World) (h : Below (w.alloc (.cells #[.int .i64 r, .string l, .int .i64 n] 25)).heap.size (w.alloc (.cells #[.int .i64 r, .string l, .int .i64 n] 25)) W) => kept h p2
  generalize nameV r l n = V at hm hf ⊢
  generalize nmT r l n = S at hf ⊢
  cases V with
  | true =>
    rw [if_pos rfl, if_pos rfl]
    replace hf := hf rfl
    go_enter Tryz.func67, Tryz.ntmps67
    go_wp2_with (go_at_call 19; refine hm.mono ?_; rintro e w1 ⟨rfl, b1⟩; have q0 := k0 _ b1; have q1 := k1 _ b1; have q2 := k2 _ b1; have hb1 := hb.trans (b1.mono hb.size); clear b1)
    go_wp2_with (go_at_call 68; refine (hf _ hb1).mono ?_; rintro e w2 ⟨rfl, b2⟩)
    go_ret2
    exact ⟨rfl, hb1.trans (b2.mono hb1.size)⟩
  | false =>
    rw [if_neg (by decide), if_neg (by decide)]
    go_enter Tryz.func67, Tryz.ntmps67
    go_wp2_with (go_at_call 19; refine hm.mono ?_; rintro e w1 ⟨rfl, b1⟩; have hb1 := hb.trans (b1.mono hb.size); clear b1)
    go_ret2
    exact ⟨rfl, hb1⟩
set_option maxHeartbeats 1000000 in
theorem textName_any (r : Int) (l : ByteArray) (n : Int) (w : World) (hE : Env w) : Calls Tryz.prog 14 #[nv r l n] w fun e w' => e = .returned (.tuple #[.string (if nameV r l n then nmT r l n else ⟨#[]⟩), .int .i64 (if nameV r l n then 0 else 2)]) ∧ Below w.heap.size w w' := by
  have hb := below_new w (.cells #[.int .i64 r, .string l, .int .i64 n] 25)
  have hm := told68_any r l n (w.alloc (.cells #[.int .i64 r, .string l, .int .i64 n] 25)) (hE.below hb)
  generalize (if nameV r l n then nmT r l n else ⟨#[]⟩) = S at hm ⊢
  generalize (if nameV r l n then (0 : Int) else 2) = E at hm ⊢
  go_enter Tryz.func14, Tryz.ntmps14
  go_wp2_with (go_at_call 67; refine hm.mono ?_; rintro e w1 ⟨rfl, b1⟩)
  go_ret2
  exact ⟨rfl, hb.trans (b1.mono hb.size)⟩

set_option maxHeartbeats 1000000 in
set_option maxRecDepth 100000 in
theorem told70_any (r : Int) (l : ByteArray) (w : World) (hE : Env w) : Calls Tryz.prog 69 #[bv r l, .func (.func 21) #[] #[], .func (.func 70) #[] #[]] w fun e w' => e = .returned (.tuple #[.string (if branchV r l then brT r l else ⟨#[]⟩), .int .i64 (if branchV r l then 0 else 2)]) ∧ Below w.heap.size w w' := by
  have hb := below_new w (.cells #[.int .i64 r, .string l] 23)
  obtain ⟨p0, p1⟩ := two_new w (.int .i64 r) (.string l) 23
  have hm := branch_any r l (w.alloc (.cells #[.int .i64 r, .string l] 23))
  have hf : branchV r l = true → ∀ W, Below w.heap.size w W → Calls Tryz.prog 70 #[bv r l] W fun e w' => e = .returned (.string (brT r l)) ∧ Below W.heap.size W w' := fun hv W hb' => by
    have := B_bounds hv
    exact branchText_any r l W (by omega) (by omega) (by omega) (hE.below hb')
  have k0 := fun (W : World) (h : Below (w.alloc (.cells #[.int .i64 r, .string l] 23)).heap.size (w.alloc (.cells #[.int .i64 r, .string l] 23)) W) => kept h p0
  have k1 := fun (W : World) (h : Below (w.alloc (.cells #[.int .i64 r, .string l] 23)).heap.size (w.alloc (.cells #[.int .i64 r, .string l] 23)) W) => kept h p1
  generalize branchV r l = V at hm hf ⊢
  generalize brT r l = S at hf ⊢
  cases V with
  | true =>
    rw [if_pos rfl, if_pos rfl]
    replace hf := hf rfl
    go_enter Tryz.func69, Tryz.ntmps69
    go_wp2_with (go_at_call 21; refine hm.mono ?_; rintro e w1 ⟨rfl, b1⟩; have q0 := k0 _ b1; have q1 := k1 _ b1; have hb1 := hb.trans (b1.mono hb.size); clear b1)
    go_wp2_with (go_at_call 70; refine (hf _ hb1).mono ?_; rintro e w2 ⟨rfl, b2⟩)
    go_ret2
    exact ⟨rfl, hb1.trans (b2.mono hb1.size)⟩
  | false =>
    rw [if_neg (by decide), if_neg (by decide)]
    go_enter Tryz.func69, Tryz.ntmps69
    go_wp2_with (go_at_call 21; refine hm.mono ?_; rintro e w1 ⟨rfl, b1⟩; have hb1 := hb.trans (b1.mono hb.size); clear b1)
    go_ret2
    exact ⟨rfl, hb1⟩
set_option maxHeartbeats 1000000 in
theorem textBranch_any (r : Int) (l : ByteArray) (w : World) (hE : Env w) : Calls Tryz.prog 15 #[bv r l] w fun e w' => e = .returned (.tuple #[.string (if branchV r l then brT r l else ⟨#[]⟩), .int .i64 (if branchV r l then 0 else 2)]) ∧ Below w.heap.size w w' := by
  have hb := below_new w (.cells #[.int .i64 r, .string l] 23)
  have hm := told70_any r l (w.alloc (.cells #[.int .i64 r, .string l] 23)) (hE.below hb)
  generalize (if branchV r l then brT r l else ⟨#[]⟩) = S at hm ⊢
  generalize (if branchV r l then (0 : Int) else 2) = E at hm ⊢
  go_enter Tryz.func15, Tryz.ntmps15
  go_wp2_with (go_at_call 69; refine hm.mono ?_; rintro e w1 ⟨rfl, b1⟩)
  go_ret2
  exact ⟨rfl, hb.trans (b1.mono hb.size)⟩

set_option maxHeartbeats 1000000 in
set_option maxRecDepth 100000 in
theorem told71_any (g r : Int) (l : ByteArray) (n x : Int) (w : World)  : Calls Tryz.prog 65 #[sv g r l n x, .func (.func 17) #[] #[], .func (.func 71) #[] #[]] w fun e w' => e = .returned (.tuple #[.string (if stampV g r l n x then keyS g r l n x else ⟨#[]⟩), .int .i64 (if stampV g r l n x then 0 else 2)]) ∧ Below w.heap.size w w' := by
  have hb := below_new w (.cells #[.int .i64 g, .int .i64 r, .string l, .int .i64 n, .int .i64 x] 27)
  obtain ⟨p0, p1, p2, p3, p4⟩ := five_new w (.int .i64 g) (.int .i64 r) (.string l) (.int .i64 n) (.int .i64 x) 27
  have hm := stamp_any g r l n x (w.alloc (.cells #[.int .i64 g, .int .i64 r, .string l, .int .i64 n, .int .i64 x] 27))
  have hf : stampV g r l n x = true → ∀ W, Below w.heap.size w W → Calls Tryz.prog 71 #[sv g r l n x] W fun e w' => e = .returned (.string (keyS g r l n x)) ∧ Below W.heap.size W w' := fun hv W hb' => by
    have := S_bounds hv
    exact stampKey_any g r l n x W (by omega) (by omega) (by omega) (by omega) (by omega) (by omega) (by omega) (by omega) (by omega)
  have k0 := fun (W : World) (h : Below (w.alloc (.cells #[.int .i64 g, .int .i64 r, .string l, .int .i64 n, .int .i64 x] 27)).heap.size (w.alloc (.cells #[.int .i64 g, .int .i64 r, .string l, .int .i64 n, .int .i64 x] 27)) W) => kept h p0
  have k1 := fun (W : World) (h : Below (w.alloc (.cells #[.int .i64 g, .int .i64 r, .string l, .int .i64 n, .int .i64 x] 27)).heap.size (w.alloc (.cells #[.int .i64 g, .int .i64 r, .string l, .int .i64 n, .int .i64 x] 27)) W) => kept h p1
  have k2 := fun (W : World) (h : Below (w.alloc (.cells #[.int .i64 g, .int .i64 r, .string l, .int .i64 n, .int .i64 x] 27)).heap.size (w.alloc (.cells #[.int .i64 g, .int .i64 r, .string l, .int .i64 n, .int .i64 x] 27)) W) => kept h p2
  have k3 := fun (W : World) (h : Below (w.alloc (.cells #[.int .i64 g, .int .i64 r, .string l, .int .i64 n, .int .i64 x] 27)).heap.size (w.alloc (.cells #[.int .i64 g, .int .i64 r, .string l, .int .i64 n, .int .i64 x] 27)) W) => kept h p3
  have k4 := fun (W : World) (h : Below (w.alloc (.cells #[.int .i64 g, .int .i64 r, .string l, .int .i64 n, .int .i64 x] 27)).heap.size (w.alloc (.cells #[.int .i64 g, .int .i64 r, .string l, .int .i64 n, .int .i64 x] 27)) W) => kept h p4
  generalize stampV g r l n x = V at hm hf ⊢
  generalize keyS g r l n x = S at hf ⊢
  cases V with
  | true =>
    rw [if_pos rfl, if_pos rfl]
    replace hf := hf rfl
    go_enter Tryz.func65, Tryz.ntmps65
    go_wp2_with (go_at_call 17; refine hm.mono ?_; rintro e w1 ⟨rfl, b1⟩; have q0 := k0 _ b1; have q1 := k1 _ b1; have q2 := k2 _ b1; have q3 := k3 _ b1; have q4 := k4 _ b1; have hb1 := hb.trans (b1.mono hb.size); clear b1)
    go_wp2_with (go_at_call 71; refine (hf _ hb1).mono ?_; rintro e w2 ⟨rfl, b2⟩)
    go_ret2
    exact ⟨rfl, hb1.trans (b2.mono hb1.size)⟩
  | false =>
    rw [if_neg (by decide), if_neg (by decide)]
    go_enter Tryz.func65, Tryz.ntmps65
    go_wp2_with (go_at_call 17; refine hm.mono ?_; rintro e w1 ⟨rfl, b1⟩; have hb1 := hb.trans (b1.mono hb.size); clear b1)
    go_ret2
    exact ⟨rfl, hb1⟩
set_option maxHeartbeats 1000000 in
theorem key_any (g r : Int) (l : ByteArray) (n x : Int) (w : World)  : Calls Tryz.prog 16 #[sv g r l n x] w fun e w' => e = .returned (.tuple #[.string (if stampV g r l n x then keyS g r l n x else ⟨#[]⟩), .int .i64 (if stampV g r l n x then 0 else 2)]) ∧ Below w.heap.size w w' := by
  have hb := below_new w (.cells #[.int .i64 g, .int .i64 r, .string l, .int .i64 n, .int .i64 x] 27)
  have hm := told71_any g r l n x (w.alloc (.cells #[.int .i64 g, .int .i64 r, .string l, .int .i64 n, .int .i64 x] 27)) 
  generalize (if stampV g r l n x then keyS g r l n x else ⟨#[]⟩) = S at hm ⊢
  generalize (if stampV g r l n x then (0 : Int) else 2) = E at hm ⊢
  go_enter Tryz.func16, Tryz.ntmps16
  go_wp2_with (go_at_call 65; refine hm.mono ?_; rintro e w1 ⟨rfl, b1⟩)
  go_ret2
  exact ⟨rfl, hb.trans (b1.mono hb.size)⟩

set_option maxHeartbeats 1000000 in
set_option maxRecDepth 100000 in
theorem told60_any (g r : Int) (l : ByteArray) (n x : Int) (w : World) : Calls Tryz.prog 59 #[sv g r l n x, .func (.func 17) #[] #[], .func (.func 60) #[] #[]] w fun e w' => ∃ a c, e = .returned (.tuple #[.slice a (if stampV g r l n x then stL g r l n x else []).length c, .int .i64 (if stampV g r l n x then 0 else 2)]) ∧ Rd w' a (if stampV g r l n x then stL g r l n x else []) ∧ (a = none → c = 0) ∧ Below w.heap.size w w' := by
  have hb := below_new w (.cells #[.int .i64 g, .int .i64 r, .string l, .int .i64 n, .int .i64 x] 27)
  obtain ⟨p0, p1, p2, p3, p4⟩ := five_new w (.int .i64 g) (.int .i64 r) (.string l) (.int .i64 n) (.int .i64 x) 27
  have hm := stamp_any g r l n x (w.alloc (.cells #[.int .i64 g, .int .i64 r, .string l, .int .i64 n, .int .i64 x] 27))
  have hf : stampV g r l n x = true → ∀ W, Calls Tryz.prog 60 #[sv g r l n x] W fun e w' => Made 5 W w' e (stL g r l n x) := fun hv W => by
    have := S_bounds hv
    exact stampForm_any g r l n x W (by omega) (by omega) (by omega) (by omega) (by omega) (by omega) (by omega) (by omega) (by omega)
  have k0 := fun (W : World) (h : Below (w.alloc (.cells #[.int .i64 g, .int .i64 r, .string l, .int .i64 n, .int .i64 x] 27)).heap.size (w.alloc (.cells #[.int .i64 g, .int .i64 r, .string l, .int .i64 n, .int .i64 x] 27)) W) => kept h p0
  have k1 := fun (W : World) (h : Below (w.alloc (.cells #[.int .i64 g, .int .i64 r, .string l, .int .i64 n, .int .i64 x] 27)).heap.size (w.alloc (.cells #[.int .i64 g, .int .i64 r, .string l, .int .i64 n, .int .i64 x] 27)) W) => kept h p1
  have k2 := fun (W : World) (h : Below (w.alloc (.cells #[.int .i64 g, .int .i64 r, .string l, .int .i64 n, .int .i64 x] 27)).heap.size (w.alloc (.cells #[.int .i64 g, .int .i64 r, .string l, .int .i64 n, .int .i64 x] 27)) W) => kept h p2
  have k3 := fun (W : World) (h : Below (w.alloc (.cells #[.int .i64 g, .int .i64 r, .string l, .int .i64 n, .int .i64 x] 27)).heap.size (w.alloc (.cells #[.int .i64 g, .int .i64 r, .string l, .int .i64 n, .int .i64 x] 27)) W) => kept h p3
  have k4 := fun (W : World) (h : Below (w.alloc (.cells #[.int .i64 g, .int .i64 r, .string l, .int .i64 n, .int .i64 x] 27)).heap.size (w.alloc (.cells #[.int .i64 g, .int .i64 r, .string l, .int .i64 n, .int .i64 x] 27)) W) => kept h p4
  generalize stampV g r l n x = V at hm hf ⊢
  generalize stL g r l n x = S at hf ⊢
  cases V with
  | true =>
    rw [if_pos rfl, if_pos rfl]
    replace hf := hf rfl
    go_enter Tryz.func59, Tryz.ntmps59
    go_wp2_with (go_at_call 17; refine hm.mono ?_; rintro e w1 ⟨rfl, b1⟩; have q0 := k0 _ b1; have q1 := k1 _ b1; have q2 := k2 _ b1; have q3 := k3 _ b1; have q4 := k4 _ b1; have hb1 := hb.trans (b1.mono hb.size); clear b1)
    go_wp2_with (go_at_call 60; refine (hf _).mono ?_; rintro e w2 ⟨a2, c2, rfl, hO2, n2, b2⟩)
    go_ret2
    exact ⟨a2, c2, rfl, hO2.rd, n2, hb1.trans (b2.mono hb1.size)⟩
  | false =>
    rw [if_neg (by decide), if_neg (by decide)]
    go_enter Tryz.func59, Tryz.ntmps59
    go_wp2_with (go_at_call 17; refine hm.mono ?_; rintro e w1 ⟨rfl, b1⟩; have hb1 := hb.trans (b1.mono hb.size); clear b1)
    go_ret2
    exact ⟨none, 0, rfl, Rd.nil _ _, fun _ => rfl, hb1⟩
set_option maxHeartbeats 1000000 in
theorem put_any (g r : Int) (l : ByteArray) (n x : Int) (w : World) : Calls Tryz.prog 10 #[sv g r l n x] w fun e w' => ∃ a c, e = .returned (.tuple #[.slice a (if stampV g r l n x then stL g r l n x else []).length c, .int .i64 (if stampV g r l n x then 0 else 2)]) ∧ Rd w' a (if stampV g r l n x then stL g r l n x else []) ∧ (a = none → c = 0) ∧ Below w.heap.size w w' := by
  have hb := below_new w (.cells #[.int .i64 g, .int .i64 r, .string l, .int .i64 n, .int .i64 x] 27)
  have hm := told60_any g r l n x (w.alloc (.cells #[.int .i64 g, .int .i64 r, .string l, .int .i64 n, .int .i64 x] 27))
  generalize (if stampV g r l n x then stL g r l n x else []) = S at hm ⊢
  generalize (if stampV g r l n x then (0 : Int) else 2) = E at hm ⊢
  go_enter Tryz.func10, Tryz.ntmps10
  go_wp2_with (go_at_call 59; refine hm.mono ?_; rintro e w1 ⟨a1, c1, rfl, hR1, n1, b1⟩)
  go_ret2
  exact ⟨a1, c1, rfl, hR1, n1, hb.trans (b1.mono hb.size)⟩

set_option maxHeartbeats 1000000 in
set_option maxRecDepth 100000 in
theorem told62_any (r : Int) (l : ByteArray) (n : Int) (w : World) : Calls Tryz.prog 61 #[nv r l n, .func (.func 19) #[] #[], .func (.func 62) #[] #[]] w fun e w' => ∃ a c, e = .returned (.tuple #[.slice a (if nameV r l n then nmL r l n else []).length c, .int .i64 (if nameV r l n then 0 else 2)]) ∧ Rd w' a (if nameV r l n then nmL r l n else []) ∧ (a = none → c = 0) ∧ Below w.heap.size w w' := by
  have hb := below_new w (.cells #[.int .i64 r, .string l, .int .i64 n] 25)
  obtain ⟨p0, p1, p2⟩ := three_new w (.int .i64 r) (.string l) (.int .i64 n) 25
  have hm := name_any r l n (w.alloc (.cells #[.int .i64 r, .string l, .int .i64 n] 25))
  have hf : nameV r l n = true → ∀ W, Calls Tryz.prog 62 #[nv r l n] W fun e w' => Made 5 W w' e (nmL r l n) := fun hv W => by
    have := N_bounds hv
    exact nameForm_any r l n W (by omega) (by omega) (by omega) (by omega) (by omega)
  have k0 := fun (W : World) (h : Below (w.alloc (.cells #[.int .i64 r, .string l, .int .i64 n] 25)).heap.size (w.alloc (.cells #[.int .i64 r, .string l, .int .i64 n] 25)) W) => kept h p0
  have k1 := fun (W : World) (h : Below (w.alloc (.cells #[.int .i64 r, .string l, .int .i64 n] 25)).heap.size (w.alloc (.cells #[.int .i64 r, .string l, .int .i64 n] 25)) W) => kept h p1
  have k2 := fun (W : World) (h : Below (w.alloc (.cells #[.int .i64 r, .string l, .int .i64 n] 25)).heap.size (w.alloc (.cells #[.int .i64 r, .string l, .int .i64 n] 25)) W) => kept h p2
  generalize nameV r l n = V at hm hf ⊢
  generalize nmL r l n = S at hf ⊢
  cases V with
  | true =>
    rw [if_pos rfl, if_pos rfl]
    replace hf := hf rfl
    go_enter Tryz.func61, Tryz.ntmps61
    go_wp2_with (go_at_call 19; refine hm.mono ?_; rintro e w1 ⟨rfl, b1⟩; have q0 := k0 _ b1; have q1 := k1 _ b1; have q2 := k2 _ b1; have hb1 := hb.trans (b1.mono hb.size); clear b1)
    go_wp2_with (go_at_call 62; refine (hf _).mono ?_; rintro e w2 ⟨a2, c2, rfl, hO2, n2, b2⟩)
    go_ret2
    exact ⟨a2, c2, rfl, hO2.rd, n2, hb1.trans (b2.mono hb1.size)⟩
  | false =>
    rw [if_neg (by decide), if_neg (by decide)]
    go_enter Tryz.func61, Tryz.ntmps61
    go_wp2_with (go_at_call 19; refine hm.mono ?_; rintro e w1 ⟨rfl, b1⟩; have hb1 := hb.trans (b1.mono hb.size); clear b1)
    go_ret2
    exact ⟨none, 0, rfl, Rd.nil _ _, fun _ => rfl, hb1⟩
set_option maxHeartbeats 1000000 in
theorem putName_any (r : Int) (l : ByteArray) (n : Int) (w : World) : Calls Tryz.prog 11 #[nv r l n] w fun e w' => ∃ a c, e = .returned (.tuple #[.slice a (if nameV r l n then nmL r l n else []).length c, .int .i64 (if nameV r l n then 0 else 2)]) ∧ Rd w' a (if nameV r l n then nmL r l n else []) ∧ (a = none → c = 0) ∧ Below w.heap.size w w' := by
  have hb := below_new w (.cells #[.int .i64 r, .string l, .int .i64 n] 25)
  have hm := told62_any r l n (w.alloc (.cells #[.int .i64 r, .string l, .int .i64 n] 25))
  generalize (if nameV r l n then nmL r l n else []) = S at hm ⊢
  generalize (if nameV r l n then (0 : Int) else 2) = E at hm ⊢
  go_enter Tryz.func11, Tryz.ntmps11
  go_wp2_with (go_at_call 61; refine hm.mono ?_; rintro e w1 ⟨a1, c1, rfl, hR1, n1, b1⟩)
  go_ret2
  exact ⟨a1, c1, rfl, hR1, n1, hb.trans (b1.mono hb.size)⟩

set_option maxHeartbeats 1000000 in
set_option maxRecDepth 100000 in
theorem told64_any (r : Int) (l : ByteArray) (w : World) : Calls Tryz.prog 63 #[bv r l, .func (.func 21) #[] #[], .func (.func 64) #[] #[]] w fun e w' => ∃ a c, e = .returned (.tuple #[.slice a (if branchV r l then brL r l else []).length c, .int .i64 (if branchV r l then 0 else 2)]) ∧ Rd w' a (if branchV r l then brL r l else []) ∧ (a = none → c = 0) ∧ Below w.heap.size w w' := by
  have hb := below_new w (.cells #[.int .i64 r, .string l] 23)
  obtain ⟨p0, p1⟩ := two_new w (.int .i64 r) (.string l) 23
  have hm := branch_any r l (w.alloc (.cells #[.int .i64 r, .string l] 23))
  have hf : branchV r l = true → ∀ W, Calls Tryz.prog 64 #[bv r l] W fun e w' => Made 5 W w' e (brL r l) := fun hv W => by
    have := B_bounds hv
    exact branchForm_any r l W (by omega) (by omega) (by omega)
  have k0 := fun (W : World) (h : Below (w.alloc (.cells #[.int .i64 r, .string l] 23)).heap.size (w.alloc (.cells #[.int .i64 r, .string l] 23)) W) => kept h p0
  have k1 := fun (W : World) (h : Below (w.alloc (.cells #[.int .i64 r, .string l] 23)).heap.size (w.alloc (.cells #[.int .i64 r, .string l] 23)) W) => kept h p1
  generalize branchV r l = V at hm hf ⊢
  generalize brL r l = S at hf ⊢
  cases V with
  | true =>
    rw [if_pos rfl, if_pos rfl]
    replace hf := hf rfl
    go_enter Tryz.func63, Tryz.ntmps63
    go_wp2_with (go_at_call 21; refine hm.mono ?_; rintro e w1 ⟨rfl, b1⟩; have q0 := k0 _ b1; have q1 := k1 _ b1; have hb1 := hb.trans (b1.mono hb.size); clear b1)
    go_wp2_with (go_at_call 64; refine (hf _).mono ?_; rintro e w2 ⟨a2, c2, rfl, hO2, n2, b2⟩)
    go_ret2
    exact ⟨a2, c2, rfl, hO2.rd, n2, hb1.trans (b2.mono hb1.size)⟩
  | false =>
    rw [if_neg (by decide), if_neg (by decide)]
    go_enter Tryz.func63, Tryz.ntmps63
    go_wp2_with (go_at_call 21; refine hm.mono ?_; rintro e w1 ⟨rfl, b1⟩; have hb1 := hb.trans (b1.mono hb.size); clear b1)
    go_ret2
    exact ⟨none, 0, rfl, Rd.nil _ _, fun _ => rfl, hb1⟩
set_option maxHeartbeats 1000000 in
theorem putBranch_any (r : Int) (l : ByteArray) (w : World) : Calls Tryz.prog 12 #[bv r l] w fun e w' => ∃ a c, e = .returned (.tuple #[.slice a (if branchV r l then brL r l else []).length c, .int .i64 (if branchV r l then 0 else 2)]) ∧ Rd w' a (if branchV r l then brL r l else []) ∧ (a = none → c = 0) ∧ Below w.heap.size w w' := by
  have hb := below_new w (.cells #[.int .i64 r, .string l] 23)
  have hm := told64_any r l (w.alloc (.cells #[.int .i64 r, .string l] 23))
  generalize (if branchV r l then brL r l else []) = S at hm ⊢
  generalize (if branchV r l then (0 : Int) else 2) = E at hm ⊢
  go_enter Tryz.func12, Tryz.ntmps12
  go_wp2_with (go_at_call 63; refine hm.mono ?_; rintro e w1 ⟨a1, c1, rfl, hR1, n1, b1⟩)
  go_ret2
  exact ⟨a1, c1, rfl, hR1, n1, hb.trans (b1.mono hb.size)⟩

end Go.Proofs.YtkjabnpniingnaaGreatDoor
