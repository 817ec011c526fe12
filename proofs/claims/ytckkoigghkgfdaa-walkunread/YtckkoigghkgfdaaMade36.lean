/-
  walk: made 36.
-/
import Derived.Test.YtckkoigghkgfdaaMade
namespace Go.Proofs.Ytckkoigghkgfdaa
open Go.RowKit Go.Shelf
set_option linter.unusedSimpArgs false

set_option maxHeartbeats 4000000 in
theorem made36_any (os : List T) (t : T) (sb so cap : Nat) (w : World) (hos : os.length ≤ 1000) (it : In w t) (hn : t.n ≤ 100000) (ios : ∀ o ∈ os, In w o) (hsl : ∀ (i : Nat) (o : T), os[i]? = some o → w.cell? ⟨sb, so + i, none⟩ = some o.ptr) : Calls Try.prog 36 #[mv t, .slice (some ⟨sb, so, none⟩) os.length cap] w fun e w' => e = .returned (.int .i64 (madeIn os t : Nat)) ∧ Below w.heap.size w w' := by
  obtain ⟨x, hx⟩ := t.ptr_shape
  rw [mv_ptr hx]
  obtain ⟨m0, m1, m2, hb⟩ := new3 w (.cells #[.pointer x] 29) (.cells #[.slice (some ⟨sb, so, none⟩) os.length cap] 63) (.cells #[.func (.func 55) #[] #[.pointer (some ⟨w.heap.size + 1, 0, none⟩), .pointer (some ⟨w.heap.size + 1 + 1, 0, none⟩)]] 85)
  obtain ⟨w0, hw0⟩ : ∃ w0, w0 = (((w.alloc (.cells #[.pointer x] 29)).alloc (.cells #[.slice (some ⟨sb, so, none⟩) os.length cap] 63)).alloc (.cells #[.func (.func 55) #[] #[.pointer (some ⟨w.heap.size + 1, 0, none⟩), .pointer (some ⟨w.heap.size + 1 + 1, 0, none⟩)]] 85)) := ⟨_, rfl⟩
  rw [← hw0] at m0 m1 m2 hb
  have env : MEnv w0 (w.heap.size + 1) (w.heap.size + 1 + 1) os := ⟨(cell_of_row _ _ 0 _ 85 (0, 0) m2).trans rfl, ⟨sb, so, cap, (cell_of_row _ _ 0 _ 63 (0, 0) m1).trans rfl, fun i o ho => cell_stays (hsl i o ho) hb⟩, fun o ho => In.below hb (ios o ho)⟩
  have HM : Hid (∀ W, Below w0.heap.size w0 W → Calls Try.prog 55 #[.pointer x, .pointer (some ⟨w.heap.size + 1, 0, none⟩), .pointer (some ⟨w.heap.size + 1 + 1, 0, none⟩)] W fun e w' => e = .returned (.int .i64 (madeIn os t : Nat)) ∧ Below W.heap.size W w') := hide (fun W hW => by
    have := made55_any (w.heap.size + 1) (w.heap.size + 1 + 1) os hos t W (In.below hW (In.below hb it)) hn (env.below hW)
    rw [hx] at this
    exact this)
  have ro : ∀ W, Calls Try.prog 50 #[.agg #[.pointer x]] W fun e w' => e = .returned (.pointer x) ∧ Below W.heap.size W w' := fun W => by
    have := mRoot_any t W
    rw [mv_ptr hx, hx] at this
    exact this
  have q0 : w0.cell? ⟨w.heap.size + 1 + 1, 0, none⟩ = some (.func (.func 55) #[] #[.pointer (some ⟨w.heap.size + 1, 0, none⟩), .pointer (some ⟨w.heap.size + 1 + 1, 0, none⟩)]) ∧ w0.cell? ⟨w.heap.size, 0, none⟩ = some (.pointer x) ∧ Hid (Below w0.heap.size w0 w0) := ⟨env.f, (cell_of_row _ _ 0 _ 29 (0, 0) m0).trans rfl, hide (Below.refl _ _)⟩
  have HB := hide hb
  generalize madeIn os t = MM at *
  clear m0 m1 m2 hb env it ios hsl hx
  have hstf : ∀ a f x y m W, (store a (.func f x y) m).run Try.prog W = stored Try.prog W a (.func f x y) m := fun a f x y m W => run_store Try.prog W a _ m rfl
  go_enter Try.func36, Try.ntmps36
  go_upto_region 3 with (fail)
  rw [← hw0]
  clear hw0 hstf
  have qd : w0.drew.cell? ⟨w.heap.size + 1 + 1, 0, none⟩ = some (.func (.func 55) #[] #[.pointer (some ⟨w.heap.size + 1, 0, none⟩), .pointer (some ⟨w.heap.size + 1 + 1, 0, none⟩)]) ∧ w0.drew.cell? ⟨w.heap.size, 0, none⟩ = some (.pointer x) ∧ Hid (Below w0.heap.size w0 w0.drew) := ⟨q0.1, q0.2.1, hide (q0.2.2.out.trans ((drew_below w0).mono q0.2.2.out.size))⟩
  refine wp_region_held_drew (S := (fun w' => w'.cell? ⟨w.heap.size + 1 + 1, 0, none⟩ = some (.func (.func 55) #[] #[.pointer (some ⟨w.heap.size + 1, 0, none⟩), .pointer (some ⟨w.heap.size + 1 + 1, 0, none⟩)]) ∧ w'.cell? ⟨w.heap.size, 0, none⟩ = some (.pointer x) ∧ Hid (Below w0.heap.size w0 w'))) (by kernel_rfl) qd (fun hHeld => ?_)
  try dsimp only at hHeld
  refine take_op (i := 0) (d := 7) (OP := Op.load 85 (Operand.tmp 5)) (T := 85) (v := ?vzz1) rfl rfl rfl rfl (by kernel_rfl) (by kernel_rfl) (by kernel_rfl) (fun _ _ _ h => h) (by rfl) ?hzz1 hHeld ?rzz1
  case hzz1 => (intro w' hSw; (try dsimp only at hSw); go_simp <;> with_reducible rfl)
  try simp only [Act.put, List.setIfInBounds_toArray, List.set_cons_zero, List.set_cons_succ]
  refine take_op (i := 1) (d := 8) (OP := Op.load 29 (Operand.tmp 2)) (T := 29) (v := ?vzz2) rfl rfl rfl rfl (by kernel_rfl) (by kernel_rfl) (by kernel_rfl) (fun _ _ _ h => h) (by rfl) ?hzz2 hHeld ?rzz2
  case hzz2 => (intro w' hSw; (try dsimp only at hSw); go_simp <;> with_reducible rfl)
  try simp only [Act.put, List.setIfInBounds_toArray, List.set_cons_zero, List.set_cons_succ]
  refine call_op (i := 2) (d := 9) (OP := Op.call { callee := Callee.value (Operand.func 50), args := #[Operand.tmp 8], argTypes := #[29] }) (T := 27) (f := 50) (args := #[.agg #[.pointer x]]) rfl rfl rfl rfl (by kernel_rfl) (by rfl) (by go_simp) ?_
  refine (ro _).mono ?_
  rintro e w1 ⟨rfl, bw1⟩
  have qw1 : w1.cell? ⟨w.heap.size + 1 + 1, 0, none⟩ = some (.func (.func 55) #[] #[.pointer (some ⟨w.heap.size + 1, 0, none⟩), .pointer (some ⟨w.heap.size + 1 + 1, 0, none⟩)]) ∧ w1.cell? ⟨w.heap.size, 0, none⟩ = some (.pointer x) ∧ Hid (Below w0.heap.size w0 w1) := ⟨cell_stays qd.1 bw1, cell_stays qd.2.1 bw1, hide (qd.2.2.out.trans (bw1.mono qd.2.2.out.size))⟩
  refine ⟨_, rfl, qw1, ?_⟩
  replace hHeld := qw1
  try simp only [Act.put, List.setIfInBounds_toArray, List.set_cons_zero, List.set_cons_succ]
  refine call_op (i := 3) (d := 10) (OP := Op.call { callee := Callee.value (Operand.tmp 7), args := #[Operand.tmp 9], argTypes := #[27] }) (T := 3) (f := 55) (args := #[.pointer x, .pointer (some ⟨w.heap.size + 1, 0, none⟩), .pointer (some ⟨w.heap.size + 1 + 1, 0, none⟩)]) rfl rfl rfl rfl (by kernel_rfl) (by rfl) (by go_simp) ?_
  refine (HM.out _ qw1.2.2.out).mono ?_
  rintro e w2 ⟨rfl, bw2⟩
  have qw2 : w2.cell? ⟨w.heap.size + 1 + 1, 0, none⟩ = some (.func (.func 55) #[] #[.pointer (some ⟨w.heap.size + 1, 0, none⟩), .pointer (some ⟨w.heap.size + 1 + 1, 0, none⟩)]) ∧ w2.cell? ⟨w.heap.size, 0, none⟩ = some (.pointer x) ∧ Hid (Below w0.heap.size w0 w2) := ⟨cell_stays qw1.1 bw2, cell_stays qw1.2.1 bw2, hide (qw1.2.2.out.trans (bw2.mono qw1.2.2.out.size))⟩
  refine ⟨_, rfl, qw2, ?_⟩
  replace hHeld := qw2
  try simp only [Act.put, List.setIfInBounds_toArray, List.set_cons_zero, List.set_cons_succ]
  refine take_op (i := 4) (d := 4) (OP := Op.assign (Operand.tmp 10)) (T := 3) (v := ?vzz3) rfl rfl rfl rfl (by kernel_rfl) (by kernel_rfl) (by kernel_rfl) (fun _ _ _ h => h) (by rfl) ?hzz3 hHeld ?rzz3
  case hzz3 => (intro w' hSw; (try dsimp only at hSw); go_simp <;> with_reducible rfl)
  try simp only [Act.put, List.setIfInBounds_toArray, List.set_cons_zero, List.set_cons_succ]
  refine wpAnyH_done (by kernel_rfl) ?_ _
  go_wp2
  go_ret
  exact ⟨rfl, HB.out.trans (qw2.2.2.out.mono HB.out.size)⟩
end Go.Proofs.Ytckkoigghkgfdaa
