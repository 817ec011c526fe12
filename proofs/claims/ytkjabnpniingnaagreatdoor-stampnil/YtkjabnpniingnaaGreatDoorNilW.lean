/-
  NILW: StampNil's walk.
-/
import Derived.Test.YtkjabnpniingnaaGreatDoorNil
import Derived.Deep.DeepCutAuto
import Derived.Deep.CutBlock
namespace Go.Proofs.YtkjabnpniingnaaGreatDoor
open Go.RowKit Go.Shelf
set_option linter.unusedSimpArgs false

theorem v1 : stampV 4611686018427387904 1 mainS 4611686018427387904 63 = true := by decide +kernel
theorem v2 : stampV 4611686018427387905 1 mainS 4611686018427387904 63 = false := by decide +kernel
theorem v3 : stampV 4611686018427387904 1 mainS 4611686018427387904 64 = false := by decide +kernel
theorem b0 : branchV (8) ⟨#[97]⟩ = false := by decide +kernel
theorem n0 : nameV (8) ⟨#[97]⟩ 1 = false := by decide +kernel
theorem h21_0 (W : World) : Calls Tryz.prog 21 #[bv (8) ⟨#[97]⟩] W fun e w' => e = .returned (.bool false) ∧ Below W.heap.size W w' := by
  have := branch_any (8) ⟨#[97]⟩ W
  rw [b0] at this
  exact this
theorem h19_0 (W : World) : Calls Tryz.prog 19 #[nv (8) ⟨#[97]⟩ 1] W fun e w' => e = .returned (.bool false) ∧ Below W.heap.size W w' := by
  have := name_any (8) ⟨#[97]⟩ 1 W
  rw [n0] at this
  exact this
theorem b1 : branchV (-1) ⟨#[97]⟩ = false := by decide +kernel
theorem n1 : nameV (-1) ⟨#[97]⟩ 1 = false := by decide +kernel
theorem h21_1 (W : World) : Calls Tryz.prog 21 #[bv (-1) ⟨#[97]⟩] W fun e w' => e = .returned (.bool false) ∧ Below W.heap.size W w' := by
  have := branch_any (-1) ⟨#[97]⟩ W
  rw [b1] at this
  exact this
theorem h19_1 (W : World) : Calls Tryz.prog 19 #[nv (-1) ⟨#[97]⟩ 1] W fun e w' => e = .returned (.bool false) ∧ Below W.heap.size W w' := by
  have := name_any (-1) ⟨#[97]⟩ 1 W
  rw [n1] at this
  exact this
theorem b2 : branchV (0) ⟨#[97, 98, 99, 100, 101, 102, 103, 104, 105, 106, 107, 108, 109]⟩ = false := by decide +kernel
theorem n2 : nameV (0) ⟨#[97, 98, 99, 100, 101, 102, 103, 104, 105, 106, 107, 108, 109]⟩ 1 = false := by decide +kernel
theorem h21_2 (W : World) : Calls Tryz.prog 21 #[bv (0) ⟨#[97, 98, 99, 100, 101, 102, 103, 104, 105, 106, 107, 108, 109]⟩] W fun e w' => e = .returned (.bool false) ∧ Below W.heap.size W w' := by
  have := branch_any (0) ⟨#[97, 98, 99, 100, 101, 102, 103, 104, 105, 106, 107, 108, 109]⟩ W
  rw [b2] at this
  exact this
theorem h19_2 (W : World) : Calls Tryz.prog 19 #[nv (0) ⟨#[97, 98, 99, 100, 101, 102, 103, 104, 105, 106, 107, 108, 109]⟩ 1] W fun e w' => e = .returned (.bool false) ∧ Below W.heap.size W w' := by
  have := name_any (0) ⟨#[97, 98, 99, 100, 101, 102, 103, 104, 105, 106, 107, 108, 109]⟩ 1 W
  rw [n2] at this
  exact this
/-- The three stamps of StampNil, as they stand in the memory. -/
def NilI (p : Nat) (w wr : World) : Prop := wr.heap[p]? = some (.cells #[.int .i64 4611686018427387904, .int .i64 1, .string mainS, .int .i64 4611686018427387904, .int .i64 63] 27) ∧ wr.heap[p + 1]? = some (.cells #[.int .i64 4611686018427387905, .int .i64 1, .string mainS, .int .i64 4611686018427387904, .int .i64 63] 27) ∧ wr.heap[p + 1 + 1]? = some (.cells #[.int .i64 4611686018427387904, .int .i64 1, .string mainS, .int .i64 4611686018427387904, .int .i64 64] 27) ∧ Below w.heap.size w wr ∧ p + 3 ≤ wr.heap.size
theorem NilI.below {p : Nat} {w wr w' : World} (h : NilI p w wr) (hb : Below wr.heap.size wr w') : NilI p w w' := by
  obtain ⟨a, b, c, d, e⟩ := h
  have := hb.size
  exact ⟨(hb.block _ (by omega)).trans a, (hb.block _ (by omega)).trans b, (hb.block _ (by omega)).trans c, d.trans (hb.mono d.size), by omega⟩
theorem NilI.new {w w4 : World} (h : Below w.heap.size w w4) : NilI w4.heap.size w (((w4.alloc (.cells #[.int .i64 4611686018427387904, .int .i64 1, .string mainS, .int .i64 4611686018427387904, .int .i64 63] 27)).alloc (.cells #[.int .i64 4611686018427387905, .int .i64 1, .string mainS, .int .i64 4611686018427387904, .int .i64 63] 27)).alloc (.cells #[.int .i64 4611686018427387904, .int .i64 1, .string mainS, .int .i64 4611686018427387904, .int .i64 64] 27)) := by
  obtain ⟨a, b⟩ := new2 w4 (.cells #[.int .i64 4611686018427387904, .int .i64 1, .string mainS, .int .i64 4611686018427387904, .int .i64 63] 27) (.cells #[.int .i64 4611686018427387905, .int .i64 1, .string mainS, .int .i64 4611686018427387904, .int .i64 63] 27)
  have c := heap_alloc_new ((w4.alloc (.cells #[.int .i64 4611686018427387904, .int .i64 1, .string mainS, .int .i64 4611686018427387904, .int .i64 63] 27)).alloc (.cells #[.int .i64 4611686018427387905, .int .i64 1, .string mainS, .int .i64 4611686018427387904, .int .i64 63] 27)) (.cells #[.int .i64 4611686018427387904, .int .i64 1, .string mainS, .int .i64 4611686018427387904, .int .i64 64] 27)
  have hs : ((w4.alloc (.cells #[.int .i64 4611686018427387904, .int .i64 1, .string mainS, .int .i64 4611686018427387904, .int .i64 63] 27)).alloc (.cells #[.int .i64 4611686018427387905, .int .i64 1, .string mainS, .int .i64 4611686018427387904, .int .i64 63] 27)).heap.size = w4.heap.size + 1 + 1 := by simp
  have hb := below_new ((w4.alloc (.cells #[.int .i64 4611686018427387904, .int .i64 1, .string mainS, .int .i64 4611686018427387904, .int .i64 63] 27)).alloc (.cells #[.int .i64 4611686018427387905, .int .i64 1, .string mainS, .int .i64 4611686018427387904, .int .i64 63] 27)) (.cells #[.int .i64 4611686018427387904, .int .i64 1, .string mainS, .int .i64 4611686018427387904, .int .i64 64] 27)
  rw [hs] at c
  exact ⟨(hb.block _ (by omega)).trans a, (hb.block _ (by omega)).trans b, c, (((h.alloc h.size _).alloc (h.alloc h.size _).size _).alloc ((h.alloc h.size _).alloc (h.alloc h.size _).size _).size _), by simp⟩
theorem two_below {wr w5 : World} {o1 o2 : Obj} (b5 : Below ((wr.alloc o1).alloc o2).heap.size ((wr.alloc o1).alloc o2) w5) : Below wr.heap.size wr w5 :=
  (((Below.refl _ wr).alloc (Nat.le_refl _) _).alloc (by simp) _).trans (b5.mono (by simp; omega))
set_option maxHeartbeats 4000000 in
set_option maxRecDepth 100000 in
theorem nil_walk (w : World) (hE : EnvE w) : Calls Tryz.prog 8 #[] w fun e w' => e = .returned (.bool true) ∧ Below w.heap.size w w' := by
  have h35 := fun W => takeBranch_nil W
  have h37 := fun W => takeName_nil W
  have h39 := fun W => take_zero W.heap.size (W.alloc (.cells #[.slice none 0 0, .bool false] 91)) (heap_alloc_new W _)
  have h56 := fun W => one_call W
  go_enter Tryz.func8, Tryz.ntmps8
  go_wp2_with (go_at_call 35; refine (h35 _).mono ?_; rintro e w1 ⟨rfl, b1⟩)
  go_wp2_with (go_at_call 37; refine (h37 _).mono ?_; rintro e w2 ⟨rfl, b2⟩; replace b2 := (b1.alloc b1.size _).trans (b2.mono (b1.alloc b1.size _).size); clear b1)
  have q2 := b2.alloc b2.size (.cells #[.int .i64 0, .string ⟨#[]⟩, .int .i64 0] 25)
  have q3 := q2.alloc q2.size (.cells #[.slice none 0 0, .bool false] 91)
  go_wp2_with (go_at_call 39; refine (take_zero (w2.heap.size + 1) _ (new2 w2 _ _).2).mono ?_; rintro e w3 ⟨rfl, b3⟩; replace b3 := q3.trans (b3.mono q3.size); clear q2 q3 b2)
  go_wp2_with (go_at_call 56; refine (h56 _).mono ?_; rintro e w4 ⟨rfl, b4⟩; replace b4 := (b3.alloc b3.size _).trans (b4.mono (b3.alloc b3.size _).size); clear b3)
  have HI0 := hide (NilI.new b4)
  go_loopw [10, 11] (fun v10 _ wr => ∃ k : Nat, k ≤ 3 ∧ v10 = .int .i64 (k : Int) ∧ Hid (NilI w4.heap.size w wr)) (fun v10 _ _ => (3 - intOf v10).toNat)
  case atStart => exact ⟨0, by omega, rfl, HI0⟩
  case round =>
    obtain ⟨k, hk, rfl, HI⟩ := hrel
    clear HI0
    by_cases hc : k < 3
    · obtain rfl | rfl | rfl : k = 0 ∨ k = 1 ∨ k = 2 := by omega
      · have h21 := h21_0
        have h19 := h19_0
        go_wp2_with (go_at_call 21; refine (h21 _).mono ?_; rintro e w5 ⟨rfl, b5⟩; have c0 := kept b5 (by simp : World.cell? _ ⟨wr.heap.size + 1, 0, none⟩ = some (.int .i64 (8))); have c1 := kept b5 (by simp : World.cell? _ ⟨wr.heap.size + 1, 1, none⟩ = some (.string ⟨#[97]⟩)); have e5 := hide (two_below b5); clear b5)
        go_wp2_with (go_at_call 19; refine (h19 _).mono ?_; rintro e w6 ⟨rfl, b6⟩; have e6 := hide (e5.out.trans (b6.mono e5.out.size)); clear b6)
        refine ⟨⟨1, by omega, rfl, hide (HI.out.below e6.out)⟩, ?_⟩
        simp only [intOf]; omega
      · have h21 := h21_1
        have h19 := h19_1
        go_wp2_with (go_at_call 21; refine (h21 _).mono ?_; rintro e w5 ⟨rfl, b5⟩; have c0 := kept b5 (by simp : World.cell? _ ⟨wr.heap.size + 1, 0, none⟩ = some (.int .i64 (-1))); have c1 := kept b5 (by simp : World.cell? _ ⟨wr.heap.size + 1, 1, none⟩ = some (.string ⟨#[97]⟩)); have e5 := hide (two_below b5); clear b5)
        go_wp2_with (go_at_call 19; refine (h19 _).mono ?_; rintro e w6 ⟨rfl, b6⟩; have e6 := hide (e5.out.trans (b6.mono e5.out.size)); clear b6)
        refine ⟨⟨2, by omega, rfl, hide (HI.out.below e6.out)⟩, ?_⟩
        simp only [intOf]; omega
      · have h21 := h21_2
        have h19 := h19_2
        go_wp2_with (go_at_call 21; refine (h21 _).mono ?_; rintro e w5 ⟨rfl, b5⟩; have c0 := kept b5 (by simp : World.cell? _ ⟨wr.heap.size + 1, 0, none⟩ = some (.int .i64 (0))); have c1 := kept b5 (by simp : World.cell? _ ⟨wr.heap.size + 1, 1, none⟩ = some (.string ⟨#[97, 98, 99, 100, 101, 102, 103, 104, 105, 106, 107, 108, 109]⟩)); have e5 := hide (two_below b5); clear b5)
        go_wp2_with (go_at_call 19; refine (h19 _).mono ?_; rintro e w6 ⟨rfl, b6⟩; have e6 := hide (e5.out.trans (b6.mono e5.out.size)); clear b6)
        refine ⟨⟨3, by omega, rfl, hide (HI.out.below e6.out)⟩, ?_⟩
        simp only [intOf]; omega
    · obtain rfl : k = 3 := by omega
      have h26 := fun n W => num_any n W
      have h17a : ∀ W, Calls Tryz.prog 17 #[sv 4611686018427387904 1 mainS 4611686018427387904 63] W fun e w' => e = .returned (.bool true) ∧ Below W.heap.size W w' := fun W => by have := stamp_any 4611686018427387904 1 mainS 4611686018427387904 63 W; rw [v1] at this; exact this
      have h17b : ∀ W, Calls Tryz.prog 17 #[sv 4611686018427387905 1 mainS 4611686018427387904 63] W fun e w' => e = .returned (.bool false) ∧ Below W.heap.size W w' := fun W => by have := stamp_any 4611686018427387905 1 mainS 4611686018427387904 63 W; rw [v2] at this; exact this
      have h17c : ∀ W, Calls Tryz.prog 17 #[sv 4611686018427387904 1 mainS 4611686018427387904 64] W fun e w' => e = .returned (.bool false) ∧ Below W.heap.size W w' := fun W => by have := stamp_any 4611686018427387904 1 mainS 4611686018427387904 64 W; rw [v3] at this; exact this
      obtain ⟨y0, y1, y2, y3, y4, _, _, _, _, _⟩ := blk5 HI.out.1
      go_wp2_with (go_at_call 26; refine (h26 1 _).mono ?_; rintro e w5 ⟨rfl, hw5⟩; subst hw5)
      have tka : True := trivial
      go_wp2_with (go_at_call 17; clear tka; refine (h17a _).mono ?_; rintro e w6 ⟨rfl, b6⟩; replace HI := hide (HI.out.below b6); obtain ⟨x0, x1, x2, x3, x4, _, _, _, _, _⟩ := blk5 HI.out.2.1; clear b6)
      have tkb : True := trivial
      go_wp2_with (go_at_call 17; clear tkb; refine (h17b _).mono ?_; rintro e w7 ⟨rfl, b7⟩; replace HI := hide (HI.out.below b7); obtain ⟨u0, u1, u2, u3, u4, _, _, _, _, _⟩ := blk5 HI.out.2.2.1; clear b7)
      have tkc : True := trivial
      go_wp2_with (go_at_call 17; clear tkc; refine (h17c _).mono ?_; rintro e w8 ⟨rfl, b8⟩; replace HI := hide (HI.out.below b8); clear b8)
      go_wp2_with (go_at_call 57; refine (sorted_nil _).mono ?_; rintro e w9 ⟨rfl, b9⟩; replace HI := hide (HI.out.below b9); clear b9)
      go_wp2_with (go_at_call 9; refine (known_any _ (hE.below HI.out.2.2.2.1)).mono ?_; rintro e w10 ⟨rfl, b10⟩; replace HI := hide (HI.out.below b10); clear b10)
      go_ret
      exact ⟨rfl, HI.out.2.2.2.1⟩
end Go.Proofs.YtkjabnpniingnaaGreatDoor
