/-
  THE LAWS' OWN SMALL FUNCTIONS: part 12, stays 15; Run 18 with no rule.
-/
import Derived.Test.YtckkoigghkgfdaaElem
namespace Go.Proofs.Ytckkoigghkgfdaa
open Go.RowKit Go.Shelf
set_option linter.unusedSimpArgs false

theorem Try.info38 : (Try.prog.info? 38).map (·.size) = some 2 := by kernel_rfl
theorem set2 {w : World} {B : Nat} {x0 x1 : Value} {ty : TypeId} (a b : Value) (h : w.heap[B]? = some (.cells #[x0, x1] ty (0, 0))) : ((w.setCell ⟨B, 0, none⟩ a).setCell ⟨B, 1, none⟩ b).heap[B]? = some (.cells #[a, b] ty (0, 0)) ∧ Only (fun j => j = B) w ((w.setCell ⟨B, 0, none⟩ a).setCell ⟨B, 1, none⟩ b) := by
  obtain ⟨h1, o1⟩ := set_one (i := 0) a h
  obtain ⟨h2, o2⟩ := set_one (i := 1) b h1
  exact ⟨by simpa using h2, o1.trans o2 (fun _ _ e => e)⟩
set_option maxHeartbeats 2000000 in
theorem part_any (t : T) (k : ByteArray) (w : World) (it : In w t) (hs : Srt t.list) : Calls Try.prog 12 #[mv t, .string k] w fun e w' => e = .returned (pv (look k t.list)) ∧ Below w.heap.size w w' := by
  obtain ⟨x, hx⟩ := t.ptr_shape
  rw [mv_ptr hx, ← find_look t k hs]
  obtain ⟨n0, n1⟩ := new2 w (.cells #[.pointer x] 29) (.cells #[.int .i64 0, .bool false] 38)
  have hb : Below w.heap.size w ((w.alloc (.cells #[.pointer x] 29)).alloc (.cells #[.int .i64 0, .bool false] 38)) := ((Below.refl _ w).alloc (Nat.le_refl _) _).alloc (by simp) _
  have hg := get_any t k _ (In.below hb it)
  rw [mv_ptr hx] at hg
  unfold pv
  dsimp only
  generalize (t.find k).val = VV at *
  generalize (t.find k).isSome = BB at *
  have HN := hide (And.intro n1 hb)
  clear n0 n1 hb it hs hx
  go_enter Try.func12, Try.ntmps12
  go_upto_region 2 with (go_at_call 13; refine hg.mono ?_; rintro e w1 ⟨rfl, b1⟩; dsimp only)
  have h1 := (b1.block (w.heap.size + 1) (by simp)).trans HN.out.1
  have bw := HN.out.2.trans (b1.mono HN.out.2.size)
  obtain ⟨u, o⟩ := set2 (.int .i64 VV) (.bool BB) h1
  have c0 : w1.cell? ⟨w.heap.size + 1, 0, none⟩ = some (.int .i64 0) := (cell_of_row _ _ 0 _ 38 (0, 0) h1).trans rfl
  have c1 : w1.cell? ⟨w.heap.size + 1, 1, none⟩ = some (.bool false) := (cell_of_row _ _ 1 _ 38 (0, 0) h1).trans rfl
  have f0 : w1.frozen? ⟨w.heap.size + 1, 0, none⟩ = false := frozen_of_row _ _ 0 _ 38 h1
  have f1 : w1.frozen? ⟨w.heap.size + 1, 1, none⟩ = false := frozen_of_row _ _ 1 _ 38 h1
  have HU := hide (And.intro u (Below.only bw o bw.size (fun j e => by omega)))
  clear h1 bw u o b1 hg HN
  go_wp2
  refine ret_row (w.heap.size + 1) [.int .i64 VV, .bool BB] rfl rfl Try.underlying38 rfl Try.info38 HU.out.1 rfl ?_
  exact ⟨rfl, HU.out.2⟩
set_option maxHeartbeats 2000000 in
theorem stays_any (p q r : Int × Bool) (w : World) : Calls Try.prog 15 #[pv p, pv q, pv r] w fun e w' => e = .returned (.bool (keeps p q r).2) ∧ Below w.heap.size w w' := by
  obtain ⟨p1, p2⟩ := p
  obtain ⟨q1, q2⟩ := q
  obtain ⟨r1, r2⟩ := r
  have hb : Below w.heap.size w (((w.alloc (.cells #[.int .i64 p1, .bool p2] 38)).alloc (.cells #[.int .i64 q1, .bool q2] 38)).alloc (.cells #[.int .i64 r1, .bool r2] 38)) := (new3 w _ _ _).2.2.2
  unfold pv
  have HB := hide hb
  clear hb
  cases p2 <;> cases q2 <;> cases r2 <;> (go_enter Try.func15, Try.ntmps15; go_wp2; go_ret; exact ⟨rfl, HB.out⟩)
set_option maxHeartbeats 2000000 in
set_option maxRecDepth 100000 in
/-- Run with no rule. -/
theorem run_nil (o a b : T) (w : World) : Calls Try.prog 18 #[mv o, mv a, mv b, .nilFunc] w fun e w' => e = .returned (.tuple #[mv .nil, .agg #[.int .i64 0, .int .i64 0, .int .i64 0], .int .i64 1]) ∧ Below w.heap.size w w' := by
  obtain ⟨po, ho⟩ := o.ptr_shape
  obtain ⟨pa, ha⟩ := a.ptr_shape
  obtain ⟨pb, hb'⟩ := b.ptr_shape
  rw [mv_ptr ho, mv_ptr ha, mv_ptr hb']
  obtain ⟨w5, hw5, m0, m1, m2, m3, m4, hb⟩ := new5 w (.cells #[.pointer po] 29) (.cells #[.pointer pa] 29) (.cells #[.pointer pb] 29) (.cells #[.nilFunc] 42) (.cells #[.pointer none] 29)
  have bc : Below w5.heap.size w5 (w5.alloc (.cells #[.int .i64 0, .int .i64 0, .int .i64 0] 33)) := (Below.refl _ _).alloc (Nat.le_refl _) _
  have hs5 : w5.heap.size = w.heap.size + 1 + 1 + 1 + 1 + 1 := by rw [hw5]; simp
  have m5 := heap_alloc_new w5 (.cells #[.int .i64 0, .int .i64 0, .int .i64 0] 33)
  rw [hs5] at m5
  have m4' := (bc.block _ (Array.getElem?_eq_some_iff.1 m4).1).trans m4
  obtain ⟨w0, hw0⟩ : ∃ w0, w0 = w5.alloc (.cells #[.int .i64 0, .int .i64 0, .int .i64 0] 33) := ⟨_, rfl⟩
  rw [← hw0] at m5 m4' bc
  have HM := hide (And.intro m4' (And.intro m5 (hb.trans (bc.mono hb.size))))
  have hnil : ∀ W, (binOp .eql 42 .nilFunc .nilFunc).run Try.prog W = .ok (.bool true) W := fun W => by first | rfl | kernel_rfl | simp [binOp, go_sem]
  rw [hw5] at hw0
  clear m0 m1 m2 m3 m4 hb hs5 m5 m4' bc hw5 ho ha hb'
  go_enter Try.func18, Try.ntmps18
  go_wp2
  rw [← hw0]
  refine ret_rr_t (w.heap.size + 1 + 1 + 1 + 1) (w.heap.size + 1 + 1 + 1 + 1 + 1) [.pointer none] [.int .i64 0, .int .i64 0, .int .i64 0] rfl rfl rfl rfl Try.underlying29 rfl Try.underlying33 rfl Try.info29 Try.info33 HM.out.1 HM.out.2.1 rfl ?_
  exact ⟨rfl, HM.out.2.2⟩
end Go.Proofs.Ytckkoigghkgfdaa
