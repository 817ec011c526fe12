/-
  walk: WHERE THE WALK READS NOTHING: the closure 31 of Run.
-/
import Derived.Test.YtckkoigghkgfdaaWalkT
namespace Go.Proofs.Ytckkoigghkgfdaa
open Go.RowKit Go.Shelf
set_option linter.unusedSimpArgs false

theorem new4 (w : World) (o1 o2 o3 o4 : Obj) : ((((w.alloc o1).alloc o2).alloc o3).alloc o4).heap[w.heap.size]? = some o1 ∧ ((((w.alloc o1).alloc o2).alloc o3).alloc o4).heap[w.heap.size + 1]? = some o2 ∧ ((((w.alloc o1).alloc o2).alloc o3).alloc o4).heap[w.heap.size + 1 + 1]? = some o3 ∧ ((((w.alloc o1).alloc o2).alloc o3).alloc o4).heap[w.heap.size + 1 + 1 + 1]? = some o4 ∧ Below w.heap.size w ((((w.alloc o1).alloc o2).alloc o3).alloc o4) := by
  obtain ⟨m0, m1, m2, hb⟩ := new3 w o1 o2 o3
  have ba : Below (((w.alloc o1).alloc o2).alloc o3).heap.size (((w.alloc o1).alloc o2).alloc o3) ((((w.alloc o1).alloc o2).alloc o3).alloc o4) := (Below.refl _ _).alloc (Nat.le_refl _) _
  have h4 := heap_alloc_new (((w.alloc o1).alloc o2).alloc o3) o4
  have hs : (((w.alloc o1).alloc o2).alloc o3).heap.size = w.heap.size + 1 + 1 + 1 := by simp
  rw [hs] at h4
  exact ⟨(ba.block _ (by rw [hs]; omega)).trans m0, (ba.block _ (by rw [hs]; omega)).trans m1, (ba.block _ (by rw [hs]; omega)).trans m2, h4, hb.trans (ba.mono hb.size)⟩
/-- What the walk answers where it reads nothing. -/
def unread (o a b : T) : T := if a = b then a else if o = a then b else a
set_option maxHeartbeats 4000000 in
theorem run_unread (o a b : T) (u v x : Value) (w : World) (io : In w o) (ia : In w a) (ib : In w b) (h : a = b ∨ o = a ∨ o = b) : Calls Try.prog 31 #[mv o, mv a, mv b, u, v, x] w fun e w' => e = .returned (mv (unread o a b)) ∧ In w' (unread o a b) ∧ Below w.heap.size w w' := by
  obtain ⟨m0, m1, m2, m3, hb⟩ := new4 w (.cells #[o.ptr] 29) (.cells #[a.ptr] 29) (.cells #[b.ptr] 29) (.cells #[.pointer none] 29)
  have same : ∀ (s t : T) (W : World), Below w.heap.size w W → In w s → In w t → Calls Try.prog 19 #[mv s, mv t] W fun e w' => e = .returned (.bool (decide (s = t))) ∧ Below W.heap.size W w' := fun s t W hW is it => mSame_any s t W (In.below hW is) (In.below hW it)
  obtain ⟨po, ho⟩ := o.ptr_shape
  obtain ⟨pa, ha⟩ := a.ptr_shape
  obtain ⟨pb, hb'⟩ := b.ptr_shape
  rw [ho, ha, hb'] at m0 m1 m2 m3 hb
  have c1 := fun W hW => same a b W hW ia ib
  have c2 := fun W hW => same o a W hW io ia
  have c3 := fun W hW => same o b W hW io ib
  unfold mv at c1 c2 c3 ⊢
  rw [ha, hb'] at c1
  rw [ho, ha] at c2
  rw [ho, hb'] at c3
  rw [ho, ha, hb']
  obtain ⟨w0, hw0⟩ : ∃ w0, w0 = ((((w.alloc (.cells #[.pointer po] 29)).alloc (.cells #[.pointer pa] 29)).alloc (.cells #[.pointer pb] 29)).alloc (.cells #[.pointer none] 29)) := ⟨_, rfl⟩
  have HP := hide (And.intro ho (And.intro ha hb'))
  rw [← hw0] at m0 m1 m2 m3 hb
  -- what is told of a world behind w0
  have tell : ∀ W, Below w0.heap.size w0 W → W.cell? ⟨w.heap.size, 0, none⟩ = some (.pointer po) ∧ W.cell? ⟨w.heap.size + 1, 0, none⟩ = some (.pointer pa) ∧ W.cell? ⟨w.heap.size + 1 + 1, 0, none⟩ = some (.pointer pb) ∧ W.cell? ⟨w.heap.size + 1 + 1 + 1, 0, none⟩ = some (.pointer none) ∧ W.frozen? ⟨w.heap.size + 1 + 1 + 1, 0, none⟩ = false ∧ Hid (W.heap[w.heap.size + 1 + 1 + 1]? = some (.cells #[.pointer none] 29 (0, 0)) ∧ Below w.heap.size w W) := fun W hW => by
    have k0 := (hW.block _ (Array.getElem?_eq_some_iff.1 m0).1).trans m0
    have k1 := (hW.block _ (Array.getElem?_eq_some_iff.1 m1).1).trans m1
    have k2 := (hW.block _ (Array.getElem?_eq_some_iff.1 m2).1).trans m2
    have k3 := (hW.block _ (Array.getElem?_eq_some_iff.1 m3).1).trans m3
    exact ⟨(cell_of_row _ _ 0 _ 29 (0, 0) k0).trans rfl, (cell_of_row _ _ 0 _ 29 (0, 0) k1).trans rfl, (cell_of_row _ _ 0 _ 29 (0, 0) k2).trans rfl, (cell_of_row _ _ 0 _ 29 (0, 0) k3).trans rfl, frozen_of_row _ _ 0 _ 29 k3, hide ⟨k3, hb.trans (hW.mono hb.size)⟩⟩
  have HT := hide tell
  have fin : ∀ (W : World) (t : T) (pt : Option Addr), Below w0.heap.size w0 W → t.ptr = .pointer pt → In w t → (W.setCell ⟨w.heap.size + 1 + 1 + 1, 0, none⟩ (.pointer pt)).heap[w.heap.size + 1 + 1 + 1]? = some (.cells #[.pointer pt] 29 (0, 0)) ∧ In (W.setCell ⟨w.heap.size + 1 + 1 + 1, 0, none⟩ (.pointer pt)) t ∧ Below w.heap.size w (W.setCell ⟨w.heap.size + 1 + 1 + 1, 0, none⟩ (.pointer pt)) := fun W t pt hW hpt it => by
    obtain ⟨_, _, _, _, _, HH⟩ := tell W hW
    obtain ⟨o1, o2, o3⟩ := out_box (y := .pointer pt) HH.out.1 (by omega) HH.out.2
    exact ⟨o1, In.aside HH.out.1 o3 (In.below HH.out.2 it), o2⟩
  have HF := hide fin
  have HI := hide (And.intro io (And.intro ia ib))
  have hb0 := hide hb
  clear tell fin io ia ib m0 m1 m2 m3 hb same ho ha hb'
  by_cases e1 : a = b
  · simp only [decide_eq_true e1] at c1
    go_enter Try.func31, Try.ntmps31
    go_upto_region 1 with (fail)
    rw [← hw0]
    obtain ⟨t0, t1, t2, t3, t4, HH⟩ := HT.out w0 (Below.refl _ _)
    clear hw0
    go_upto_region 2 with (go_at_call 19; refine (c1 w0 hb0.out).mono ?_; rintro e w1 ⟨rfl, bb⟩; have b1 : Below w0.heap.size w0 w1 := bb; obtain ⟨s0, s1, s2, s3, s4, HHw1⟩ := HT.out w1 b1; clear HHw1 bb; replace b1 := hide b1; dsimp only)
    have HR := hide (HF.out w1 a pa b1.out HP.out.2.1 HI.out.2.1)
    clear HH
    go_wp2
    refine ret_row (w.heap.size + 1 + 1 + 1) [.pointer pa] rfl rfl Try.underlying29 rfl Try.info29 HR.out.1 rfl ?_
    have hu : unread o a b = a := by unfold unread; rw [if_pos e1]
    exact ⟨by rw [hu, HP.out.2.1], by rw [hu]; exact HR.out.2.1, HR.out.2.2⟩
  simp only [decide_eq_false e1] at c1
  by_cases e2 : o = a
  · simp only [decide_eq_true e2] at c2
    have tk : True := trivial
    go_enter Try.func31, Try.ntmps31
    go_upto_region 1 with (fail)
    rw [← hw0]
    obtain ⟨t0, t1, t2, t3, t4, HH⟩ := HT.out w0 (Below.refl _ _)
    clear hw0
    go_upto_region 4 with (first
      | (go_at_call 19; clear tk; refine (c1 w0 hb0.out).mono ?_; rintro e w1 ⟨rfl, bb⟩; have b1 : Below w0.heap.size w0 w1 := bb; obtain ⟨s0, s1, s2, s3, s4, HHw1⟩ := HT.out w1 b1; clear HHw1 bb; replace b1 := hide b1; dsimp only)
      | (go_at_call 19; refine (c2 w1 (hb0.out.trans (b1.out.mono hb0.out.size))).mono ?_; rintro e w2 ⟨rfl, bb⟩; have b2 : Below w0.heap.size w0 w2 := b1.out.trans (bb.mono b1.out.size); obtain ⟨s0, s1, s2, s3, s4, HHw2⟩ := HT.out w2 b2; clear HHw2 bb; replace b2 := hide b2; dsimp only))
    have HR := hide (HF.out w2 b pb b2.out HP.out.2.2 HI.out.2.2)
    clear HH
    go_wp2
    refine ret_row (w.heap.size + 1 + 1 + 1) [.pointer pb] rfl rfl Try.underlying29 rfl Try.info29 HR.out.1 rfl ?_
    have hu : unread o a b = b := by unfold unread; rw [if_neg e1, if_pos e2]
    exact ⟨by rw [hu, HP.out.2.2], by rw [hu]; exact HR.out.2.1, HR.out.2.2⟩
  simp only [decide_eq_false e2] at c2
  have e3 : o = b := by rcases h with h | h | h <;> first | exact (e1 h).elim | exact (e2 h).elim | exact h
  simp only [decide_eq_true e3] at c3
  have tk : True := trivial
  have tk2 : True ∧ True := ⟨trivial, trivial⟩
  go_enter Try.func31, Try.ntmps31
  go_upto_region 1 with (fail)
  rw [← hw0]
  obtain ⟨t0, t1, t2, t3, t4, HH⟩ := HT.out w0 (Below.refl _ _)
  clear hw0
  go_upto_region 6 with (first
    | (go_at_call 19; clear tk; refine (c1 w0 hb0.out).mono ?_; rintro e w1 ⟨rfl, bb⟩; have b1 : Below w0.heap.size w0 w1 := bb; obtain ⟨s0, s1, s2, s3, s4, HHw1⟩ := HT.out w1 b1; clear HHw1 bb; replace b1 := hide b1; dsimp only)
    | (go_at_call 19; clear tk2; refine (c2 w1 (hb0.out.trans (b1.out.mono hb0.out.size))).mono ?_; rintro e w2 ⟨rfl, bb⟩; have b2 : Below w0.heap.size w0 w2 := b1.out.trans (bb.mono b1.out.size); obtain ⟨s0, s1, s2, s3, s4, HHw2⟩ := HT.out w2 b2; clear HHw2 bb; replace b2 := hide b2; dsimp only)
    | (go_at_call 19; refine (c3 w2 (hb0.out.trans (b2.out.mono hb0.out.size))).mono ?_; rintro e w3 ⟨rfl, bb⟩; have b3 : Below w0.heap.size w0 w3 := b2.out.trans (bb.mono b2.out.size); obtain ⟨s0, s1, s2, s3, s4, HHw3⟩ := HT.out w3 b3; clear HHw3 bb; replace b3 := hide b3; dsimp only))
  have HR := hide (HF.out w3 a pa b3.out HP.out.2.1 HI.out.2.1)
  clear HH
  go_wp2
  refine ret_row (w.heap.size + 1 + 1 + 1) [.pointer pa] rfl rfl Try.underlying29 rfl Try.info29 HR.out.1 rfl ?_
  have hu : unread o a b = a := by unfold unread; rw [if_neg e1, if_neg e2]
  exact ⟨by rw [hu, HP.out.2.1], by rw [hu]; exact HR.out.2.1, HR.out.2.2⟩
end Go.Proofs.Ytckkoigghkgfdaa
