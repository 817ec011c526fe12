/-
  PUTC: Put of a stamp that may be, with its capacity.
-/
import Derived.Test.YtkjabnpniingnaaGreatDoorTold
namespace Go.Proofs.YtkjabnpniingnaaGreatDoor
open Go.RowKit Go.Shelf
set_option linter.unusedSimpArgs false

set_option maxHeartbeats 1000000 in
set_option maxRecDepth 100000 in
theorem told60_cap (g r : Int) (l : ByteArray) (n x : Int) (w : World) (hv : stampV g r l n x = true) : Calls Tryz.prog 59 #[sv g r l n x, .func (.func 17) #[] #[], .func (.func 60) #[] #[]] w fun e w' => ∃ a c, e = .returned (.tuple #[.slice a (stL g r l n x).length c, .int .i64 0]) ∧ Rd w' a (stL g r l n x) ∧ (a = none → c = 0) ∧ (stL g r l n x).length ≤ c ∧ c ≤ 9223372036854775807 ∧ Below w.heap.size w w' := by
  have hb := below_new w (.cells #[.int .i64 g, .int .i64 r, .string l, .int .i64 n, .int .i64 x] 27)
  obtain ⟨p0, p1, p2, p3, p4⟩ := five_new w (.int .i64 g) (.int .i64 r) (.string l) (.int .i64 n) (.int .i64 x) 27
  have hm := stamp_any g r l n x (w.alloc (.cells #[.int .i64 g, .int .i64 r, .string l, .int .i64 n, .int .i64 x] 27))
  have hf : ∀ W, Calls Tryz.prog 60 #[sv g r l n x] W fun e w' => Made 5 W w' e (stL g r l n x) := fun W => by
    have := S_bounds hv
    exact stampForm_any g r l n x W (by omega) (by omega) (by omega) (by omega) (by omega) (by omega) (by omega) (by omega) (by omega)
  have k0 := fun (W : World) (h : Below (w.alloc (.cells #[.int .i64 g, .int .i64 r, .string l, .int .i64 n, .int .i64 x] 27)).heap.size (w.alloc (.cells #[.int .i64 g, .int .i64 r, .string l, .int .i64 n, .int .i64 x] 27)) W) => kept h p0
  have k1 := fun (W : World) (h : Below (w.alloc (.cells #[.int .i64 g, .int .i64 r, .string l, .int .i64 n, .int .i64 x] 27)).heap.size (w.alloc (.cells #[.int .i64 g, .int .i64 r, .string l, .int .i64 n, .int .i64 x] 27)) W) => kept h p1
  have k2 := fun (W : World) (h : Below (w.alloc (.cells #[.int .i64 g, .int .i64 r, .string l, .int .i64 n, .int .i64 x] 27)).heap.size (w.alloc (.cells #[.int .i64 g, .int .i64 r, .string l, .int .i64 n, .int .i64 x] 27)) W) => kept h p2
  have k3 := fun (W : World) (h : Below (w.alloc (.cells #[.int .i64 g, .int .i64 r, .string l, .int .i64 n, .int .i64 x] 27)).heap.size (w.alloc (.cells #[.int .i64 g, .int .i64 r, .string l, .int .i64 n, .int .i64 x] 27)) W) => kept h p3
  have k4 := fun (W : World) (h : Below (w.alloc (.cells #[.int .i64 g, .int .i64 r, .string l, .int .i64 n, .int .i64 x] 27)).heap.size (w.alloc (.cells #[.int .i64 g, .int .i64 r, .string l, .int .i64 n, .int .i64 x] 27)) W) => kept h p4
  rw [hv] at hm
  generalize stL g r l n x = S at hf ⊢
  go_enter Tryz.func59, Tryz.ntmps59
  go_wp2_with (go_at_call 17; refine hm.mono ?_; rintro e w1 ⟨rfl, b1⟩; have q0 := k0 _ b1; have q1 := k1 _ b1; have q2 := k2 _ b1; have q3 := k3 _ b1; have q4 := k4 _ b1; have hb1 := hb.trans (b1.mono hb.size); clear b1)
  go_wp2_with (go_at_call 60; refine (hf _).mono ?_; rintro e w2 ⟨a2, c2, rfl, hO2, n2, b2⟩)
  go_ret2
  exact ⟨a2, c2, rfl, hO2.rd, n2, hO2.cap.1, hO2.cap.2, hb1.trans (b2.mono hb1.size)⟩
set_option maxHeartbeats 1000000 in
theorem put_cap (g r : Int) (l : ByteArray) (n x : Int) (w : World) (hv : stampV g r l n x = true) : Calls Tryz.prog 10 #[sv g r l n x] w fun e w' => ∃ a c, e = .returned (.tuple #[.slice a (stL g r l n x).length c, .int .i64 0]) ∧ Rd w' a (stL g r l n x) ∧ (a = none → c = 0) ∧ (stL g r l n x).length ≤ c ∧ c ≤ 9223372036854775807 ∧ Below w.heap.size w w' := by
  have hb := below_new w (.cells #[.int .i64 g, .int .i64 r, .string l, .int .i64 n, .int .i64 x] 27)
  have hm := told60_cap g r l n x (w.alloc (.cells #[.int .i64 g, .int .i64 r, .string l, .int .i64 n, .int .i64 x] 27)) hv
  generalize stL g r l n x = S at hm ⊢
  go_enter Tryz.func10, Tryz.ntmps10
  go_wp2_with (go_at_call 59; refine hm.mono ?_; rintro e w1 ⟨a1, c1, rfl, hR1, n1, m1, o1, b1⟩)
  go_ret2
  exact ⟨a1, c1, rfl, hR1, n1, m1, o1, hb.trans (b1.mono hb.size)⟩
end Go.Proofs.YtkjabnpniingnaaGreatDoor
