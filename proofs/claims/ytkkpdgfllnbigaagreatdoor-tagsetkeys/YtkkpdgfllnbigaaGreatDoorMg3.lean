/-
  TREES JOINED: settled, join, joining, as the program has them.
  WHAT PUT, TAKE AND SPLIT MAKE, PLAINLY: which keys the maps have, that they are balanced, and how many of their nodes are new.
  WHAT PUT MAKES, PLAINLY: its keys, that it is balanced, how many of its nodes are new; and of what a map is built.
-/
import Derived.Test.YtkkpdgfllnbigaaGreatDoorMg2
import Derived.Test.YtkkpdgfllnbigaaGreatDoorMg1
import Derived.WalkKit
namespace Go.Proofs.YtkkpdgfllnbigaaGreatDoor.Pm
open Go.RowKit Go.Shelf
set_option linter.unusedSimpArgs false

/-- What a node is, where its value and key are told alone. -/
theorem node_ptr (p k v l r) : (T.node p k v l r).ptr = .pointer (some ⟨p, 0, none⟩) := rfl

set_option maxHeartbeats 2000000 in
set_option maxRecDepth 100000 in
theorem settled_any {pn : Nat} {k : ByteArray} {v : ByteArray} {nl nr : T} (l r : T) (w : World) (hN : In w (.node pn k v nl nr)) (hl : In w l) (hr : In w r) (hn : l.n + r.n ≤ 900000) :
    Calls Tryz.prog 117 #[.pointer (some ⟨pn, 0, none⟩), l.ptr, r.ptr] w fun e w' => ∃ t, Gives w e w' t ∧ Settled w.heap.size k v l r t := by
  have e1 := height_any l w hl
  have e2 := height_any r w hr
  have z1 := l.h_le_n
  have z2 := r.h_le_n
  have tk : True := trivial
  by_cases c1 : r.h + 1 < l.h
  · obtain ⟨lp, lk, lv, ll, i, rfl⟩ := T.h_pos (t := l) (by omega)
    have hc := turnedRight_any lp lk lv ll i r w hN hl hr c1 hn
    have d1 : decide ((1 : Int) < (((T.node lp lk lv ll i).h : Nat) : Int) - ((r.h : Nat) : Int)) = true := by simp only [decide_eq_true_eq]; omega
    have d1' : (1 : Int) < (((T.node lp lk lv ll i).h : Nat) : Int) - ((r.h : Nat) : Int) := by omega
    have w1 : IntKind.i64.wrap ((((T.node lp lk lv ll i).h : Nat) : Int) - ((r.h : Nat) : Int)) = (((T.node lp lk lv ll i).h : Nat) : Int) - ((r.h : Nat) : Int) := by rw [IntKind.wrap_i64]; omega
    have w2 : wrap64 ((((T.node lp lk lv ll i).h : Nat) : Int) - ((r.h : Nat) : Int)) = (((T.node lp lk lv ll i).h : Nat) : Int) - ((r.h : Nat) : Int) := by unfold wrap64; omega
    rw [node_ptr] at e1 ⊢
    obtain ⟨a, ha⟩ := r.ptr_shape
    rw [ha] at e2 hc ⊢
    clear c1 hn hN hl hr ha z1 z2
    generalize (T.node lp lk lv ll i).h = X at *
    generalize r.h = Y at *
    go_enter Tryz.func117, Tryz.ntmps117
    go_wp2_with (first
      | (go_at_call 75; clear tk; refine e1.mono ?_; rintro e w' ⟨rfl, rfl⟩)
      | (go_at_call 75; refine e2.mono ?_; rintro e w' ⟨rfl, rfl⟩)
      | (go_at_call 123; refine hc.mono ?_; rintro e w' ⟨t, ⟨rfl, hg, hb⟩, hs⟩))
    go_ret
    exact ⟨t, ⟨rfl, hg, hb⟩, hs⟩
  · by_cases c2 : l.h + 1 < r.h
    · obtain ⟨rp, rk, rv, i, rr, rfl⟩ := T.h_pos (t := r) (by omega)
      have hc := turnedLeft_any rp rk rv rr i l w hN hr hl c2 (by omega)
      have d1 : decide ((1 : Int) < ((l.h : Nat) : Int) - (((T.node rp rk rv i rr).h : Nat) : Int)) = false := by simp only [decide_eq_false_iff_not]; omega
      have d1' : ¬ (1 : Int) < ((l.h : Nat) : Int) - (((T.node rp rk rv i rr).h : Nat) : Int) := by omega
      have d2 : decide (((l.h : Nat) : Int) - (((T.node rp rk rv i rr).h : Nat) : Int) < (-1 : Int)) = true := by simp only [decide_eq_true_eq]; omega
      have d2' : ((l.h : Nat) : Int) - (((T.node rp rk rv i rr).h : Nat) : Int) < (-1 : Int) := by omega
      have w1 : IntKind.i64.wrap (((l.h : Nat) : Int) - (((T.node rp rk rv i rr).h : Nat) : Int)) = ((l.h : Nat) : Int) - (((T.node rp rk rv i rr).h : Nat) : Int) := by rw [IntKind.wrap_i64]; omega
      have w2 : wrap64 (((l.h : Nat) : Int) - (((T.node rp rk rv i rr).h : Nat) : Int)) = ((l.h : Nat) : Int) - (((T.node rp rk rv i rr).h : Nat) : Int) := by unfold wrap64; omega
      rw [node_ptr] at e2 ⊢
      obtain ⟨a, ha⟩ := l.ptr_shape
      rw [ha] at e1 hc ⊢
      clear c1 c2 hn hN hl hr ha z1 z2
      generalize (T.node rp rk rv i rr).h = X at *
      generalize l.h = Y at *
      go_enter Tryz.func117, Tryz.ntmps117
      go_wp2_with (first
        | (go_at_call 75; clear tk; refine e1.mono ?_; rintro e w' ⟨rfl, rfl⟩)
        | (go_at_call 75; refine e2.mono ?_; rintro e w' ⟨rfl, rfl⟩)
        | (go_at_call 124; refine hc.mono ?_; rintro e w' ⟨t, ⟨rfl, hg, hb⟩, hs⟩))
      go_ret
      exact ⟨t, ⟨rfl, hg, hb⟩, hs⟩
    · have hc := between_any l r w hN hl hr (by omega)
      have hs : Hid (Settled w.heap.size k v l r (.node w.heap.size k v l r)) := hide (.plain (by omega) (by omega) (Nat.le_refl _))
      have d1 : decide ((1 : Int) < ((l.h : Nat) : Int) - ((r.h : Nat) : Int)) = false := by simp only [decide_eq_false_iff_not]; omega
      have d1' : ¬ (1 : Int) < ((l.h : Nat) : Int) - ((r.h : Nat) : Int) := by omega
      have d2 : decide (((l.h : Nat) : Int) - ((r.h : Nat) : Int) < (-1 : Int)) = false := by simp only [decide_eq_false_iff_not]; omega
      have d2' : ¬ ((l.h : Nat) : Int) - ((r.h : Nat) : Int) < (-1 : Int) := by omega
      have w1 : IntKind.i64.wrap (((l.h : Nat) : Int) - ((r.h : Nat) : Int)) = ((l.h : Nat) : Int) - ((r.h : Nat) : Int) := by rw [IntKind.wrap_i64]; omega
      have w2 : wrap64 (((l.h : Nat) : Int) - ((r.h : Nat) : Int)) = ((l.h : Nat) : Int) - ((r.h : Nat) : Int) := by unfold wrap64; omega
      obtain ⟨a, ha⟩ := l.ptr_shape
      obtain ⟨b, hb⟩ := r.ptr_shape
      rw [ha] at e1 hc ⊢
      rw [hb] at e2 hc ⊢
      clear c1 c2 hn hN hl hr ha hb z1 z2
      generalize hX : l.h = X at *
      generalize hY : r.h = Y at *
      clear hX hY
      go_enter Tryz.func117, Tryz.ntmps117
      go_wp2_with (first
        | (go_at_call 75; clear tk; refine e1.mono ?_; rintro e w' ⟨rfl, rfl⟩)
        | (go_at_call 75; refine e2.mono ?_; rintro e w' ⟨rfl, rfl⟩)
        | (go_at_call 125; refine hc.mono ?_; rintro e w' ⟨rfl, hg, hb⟩))
      go_ret
      exact ⟨_, ⟨rfl, hg, hb⟩, hs.out⟩

/-- How many nodes what was joined has. -/
theorem Joined.n {B k v l r t} (h : Joined B k v l r t) : t.n = l.n + r.n + 1 := by
  rw [← T.n_eq, h.list, List.length_append, List.length_cons, T.n_eq, T.n_eq]; omega
set_option maxHeartbeats 4000000 in
set_option maxRecDepth 100000 in
theorem join_any (k : ByteArray) (v : ByteArray) (N : Nat) : ∀ (l r : T) (w : World), l.n + r.n ≤ N → N ≤ 800000 → In w l → In w r →
    Calls Tryz.prog 100 #[l.ptr, .string k, .string v, r.ptr] w fun e w' => ∃ t, Gives w e w' t ∧ Joined w.heap.size k v l r t := by
  induction N with
  | zero =>
    intro l r w h1 _ hl hr
    have : l.n = 0 := by omega
    have : r.n = 0 := by omega
    have z1 := l.h_le_n
    have z2 := r.h_le_n
    have el : l = .nil := T.h_zero (by omega)
    have er : r = .nil := T.h_zero (by omega)
    subst el er
    have e1 := height_any .nil w hl
    have hc := made_any .nil .nil k v w hl hr (by decide)
    have hs : Hid (Joined w.heap.size k v .nil .nil (.node w.heap.size k v .nil .nil)) := hide (.mid (by decide) (by decide) (Nat.le_refl _))
    simp only [T.ptr, T.h] at e1 hc ⊢
    clear hl hr z1 z2
    go_enter Tryz.func100, Tryz.ntmps100
    go_wp2_with (first
      | (go_at_call 75; refine e1.mono ?_; rintro e w' ⟨rfl, rfl⟩)
      | (go_at_call 48; refine hc.mono ?_; rintro e w' ⟨rfl, hg, hb⟩))
    go_ret
    exact ⟨_, ⟨rfl, hg, hb⟩, hs.out⟩
  | succ N ih =>
    intro l r w hNn hN hl hr
    have e1 := height_any l w hl
    have e2 := height_any r w hr
    have z1 := l.h_le_n
    have z2 := r.h_le_n
    have tk : True := trivial
    by_cases c1 : r.h + 1 < l.h
    · obtain ⟨lp, lk, lv, ll, lr, rfl⟩ := T.h_pos (t := l) (by omega)
      have q2 := hl.cells.c2
      have q3 := hl.cells.c3
      have b1 : ∀ W, Below w.heap.size w W → Calls Tryz.prog 100 #[lr.ptr, .string k, .string v, r.ptr] W fun e w' => ∃ m, Gives W e w' m ∧ Joined W.heap.size k v lr r m := fun W hW => ih lr r W (by simp only [T.n] at hNn; omega) (by omega) (In.below hW hl.2.2) (In.below hW hr)
      have b2 : ∀ W m, Below w.heap.size w W → In W m → m.n = lr.n + r.n + 1 → Calls Tryz.prog 117 #[.pointer (some ⟨lp, 0, none⟩), ll.ptr, m.ptr] W fun e w' => ∃ t, Gives W e w' t ∧ Settled W.heap.size lk lv ll m t := fun W m hW hm hmn => settled_any ll m W (In.below hW hl) (In.below hW hl.2.1) hm (by simp only [T.n] at hNn; omega)
      have HF := hide (show ∀ m t B C, w.heap.size ≤ B → w.heap.size ≤ C → Joined B k v lr r m → Settled C lk lv ll m t → Joined w.heap.size k v (.node lp lk lv ll lr) r t from fun m t B C hB hC hj hs => .left c1 (hj.mono hB) (hs.mono hC))
      have d1 : decide ((1 : Int) < (((T.node lp lk lv ll lr).h : Nat) : Int) - ((r.h : Nat) : Int)) = true := by simp only [decide_eq_true_eq]; omega
      have d1' : (1 : Int) < (((T.node lp lk lv ll lr).h : Nat) : Int) - ((r.h : Nat) : Int) := by omega
      have w1 : IntKind.i64.wrap ((((T.node lp lk lv ll lr).h : Nat) : Int) - ((r.h : Nat) : Int)) = (((T.node lp lk lv ll lr).h : Nat) : Int) - ((r.h : Nat) : Int) := by rw [IntKind.wrap_i64]; omega
      have w2 : wrap64 ((((T.node lp lk lv ll lr).h : Nat) : Int) - ((r.h : Nat) : Int)) = (((T.node lp lk lv ll lr).h : Nat) : Int) - ((r.h : Nat) : Int) := by unfold wrap64; omega
      obtain ⟨ax, hax⟩ := r.ptr_shape
      obtain ⟨ai, hai⟩ := lr.ptr_shape
      obtain ⟨ao, hao⟩ := ll.ptr_shape
      rw [node_ptr] at e1 ⊢
      rw [hax] at e2 ⊢
      simp only [hai, hax] at b1
      simp only [hao] at b2
      rw [hao] at q2
      rw [hai] at q3
      have hS : w.cell? ⟨lp, 2, none⟩ = some (.pointer ao) ∧ w.cell? ⟨lp, 3, none⟩ = some (.pointer ai) := ⟨q2, q3⟩
      have tk1 : True := trivial
      clear hl hr hNn hN c1 z1 z2 hax hai hao ih q2 q3
      generalize (T.node lp lk lv ll lr).h = X at *
      generalize r.h = Y at *
      go_enter Tryz.func100, Tryz.ntmps100
      go_wp2_with (first
        | (go_at_call 75; clear tk; refine e1.mono ?_; rintro e w' ⟨rfl, hw⟩; replace hw := hw.symm; subst hw)
        | (go_at_call 75; refine e2.mono ?_; rintro e w' ⟨rfl, hw⟩; replace hw := hw.symm; subst hw))
      have hB0 : Below w.heap.size w w := Below.refl _ w
      go_region_held3 (fun w' => w'.cell? ⟨lp, 2, none⟩ = some (.pointer ao) ∧ w'.cell? ⟨lp, 3, none⟩ = some (.pointer ai)) (first | exact hS | exact keep2 hS (by assumption) | exact keep2 (by assumption) (by assumption))
        (first
          | (go_at_call 100; clear tk1; refine (b1 _ hB0.drew).mono ?_; rintro e w1 ⟨m, hg, hj⟩; have he := hg.1; have hb1 := hg.2.2; have HI1 := hide hg.2.1; have hmn := hj.n; have HJ := hide hj; clear hg hj; obtain ⟨am, ham⟩ := m.ptr_shape; rw [ham] at he; subst he; have hB1 := hB0.drew.trans (hb1.mono hB0.size); have hb22 := b2 w1 m hB1 HI1.out hmn; rw [ham] at hb22)
          | (go_at_call 117; refine hb22.mono ?_; rintro e w2 ⟨t, hg, hs⟩; have he := hg.1; have hb2 := hg.2.2; have HI2 := hide hg.2.1; have HS := hide hs; clear hg hs; obtain ⟨at_, hat⟩ := t.ptr_shape; have HT := hide hat; rw [hat] at he; subst he; have hB2 := hB1.trans (hb2.mono hB1.size)))
      go_wp2
      go_ret
      exact ⟨t, ⟨by rw [HT.out]; rfl, HI2.out, hB2⟩, HF.out _ _ _ _ (Nat.le_refl _) hB1.size HJ.out HS.out⟩

    · by_cases c2 : l.h + 1 < r.h
      · obtain ⟨rp, rk, rv, rl, rr, rfl⟩ := T.h_pos (t := r) (by omega)
        have q3 := hr.cells.c3
        have q2 := hr.cells.c2
        have b1 : ∀ W, Below w.heap.size w W → Calls Tryz.prog 100 #[l.ptr, .string k, .string v, rl.ptr] W fun e w' => ∃ m, Gives W e w' m ∧ Joined W.heap.size k v l rl m := fun W hW => ih l rl W (by simp only [T.n] at hNn; omega) (by omega) (In.below hW hl) (In.below hW hr.2.1)
        have b2 : ∀ W m, Below w.heap.size w W → In W m → m.n = l.n + rl.n + 1 → Calls Tryz.prog 117 #[.pointer (some ⟨rp, 0, none⟩), m.ptr, rr.ptr] W fun e w' => ∃ t, Gives W e w' t ∧ Settled W.heap.size rk rv m rr t := fun W m hW hm hmn => settled_any m rr W (In.below hW hr) hm (In.below hW hr.2.2) (by simp only [T.n] at hNn; omega)
        have HF := hide (show ∀ m t B C, w.heap.size ≤ B → w.heap.size ≤ C → Joined B k v l rl m → Settled C rk rv m rr t → Joined w.heap.size k v l (.node rp rk rv rl rr) t from fun m t B C hB hC hj hs => .right c2 (hj.mono hB) (hs.mono hC))
        have d1 : decide ((1 : Int) < ((l.h : Nat) : Int) - (((T.node rp rk rv rl rr).h : Nat) : Int)) = false := by simp only [decide_eq_false_iff_not]; omega
        have d1' : ¬ (1 : Int) < ((l.h : Nat) : Int) - (((T.node rp rk rv rl rr).h : Nat) : Int) := by omega
        have d2 : decide (((l.h : Nat) : Int) - (((T.node rp rk rv rl rr).h : Nat) : Int) < (-1 : Int)) = true := by simp only [decide_eq_true_eq]; omega
        have d2' : ((l.h : Nat) : Int) - (((T.node rp rk rv rl rr).h : Nat) : Int) < (-1 : Int) := by omega
        have w1 : IntKind.i64.wrap (((l.h : Nat) : Int) - (((T.node rp rk rv rl rr).h : Nat) : Int)) = ((l.h : Nat) : Int) - (((T.node rp rk rv rl rr).h : Nat) : Int) := by rw [IntKind.wrap_i64]; omega
        have w2 : wrap64 (((l.h : Nat) : Int) - (((T.node rp rk rv rl rr).h : Nat) : Int)) = ((l.h : Nat) : Int) - (((T.node rp rk rv rl rr).h : Nat) : Int) := by unfold wrap64; omega
        obtain ⟨ax, hax⟩ := l.ptr_shape
        obtain ⟨ai, hai⟩ := rl.ptr_shape
        obtain ⟨ao, hao⟩ := rr.ptr_shape
        rw [node_ptr] at e2 ⊢
        rw [hax] at e1 ⊢
        simp only [hai, hax] at b1
        simp only [hao] at b2
        rw [hao] at q3
        rw [hai] at q2
        have hS : w.cell? ⟨rp, 3, none⟩ = some (.pointer ao) ∧ w.cell? ⟨rp, 2, none⟩ = some (.pointer ai) := ⟨q3, q2⟩
        have tk1 : True := trivial
        clear hl hr hNn hN c1 c2 z1 z2 hax hai hao ih q3 q2
        generalize (T.node rp rk rv rl rr).h = X at *
        generalize l.h = Y at *
        go_enter Tryz.func100, Tryz.ntmps100
        go_wp2_with (first
          | (go_at_call 75; clear tk; refine e1.mono ?_; rintro e w' ⟨rfl, hw⟩; replace hw := hw.symm; subst hw)
          | (go_at_call 75; refine e2.mono ?_; rintro e w' ⟨rfl, hw⟩; replace hw := hw.symm; subst hw))
        have hB0 : Below w.heap.size w w := Below.refl _ w
        go_region_held3 (fun w' => w'.cell? ⟨rp, 3, none⟩ = some (.pointer ao) ∧ w'.cell? ⟨rp, 2, none⟩ = some (.pointer ai)) (first | exact hS | exact keep2 hS (by assumption) | exact keep2 (by assumption) (by assumption))
          (first
            | (go_at_call 100; clear tk1; refine (b1 _ hB0.drew).mono ?_; rintro e w1 ⟨m, hg, hj⟩; have he := hg.1; have hb1 := hg.2.2; have HI1 := hide hg.2.1; have hmn := hj.n; have HJ := hide hj; clear hg hj; obtain ⟨am, ham⟩ := m.ptr_shape; rw [ham] at he; subst he; have hB1 := hB0.drew.trans (hb1.mono hB0.size); have hb22 := b2 w1 m hB1 HI1.out hmn; rw [ham] at hb22)
            | (go_at_call 117; refine hb22.mono ?_; rintro e w2 ⟨t, hg, hs⟩; have he := hg.1; have hb2 := hg.2.2; have HI2 := hide hg.2.1; have HS := hide hs; clear hg hs; obtain ⟨at_, hat⟩ := t.ptr_shape; have HT := hide hat; rw [hat] at he; subst he; have hB2 := hB1.trans (hb2.mono hB1.size)))
        go_wp2
        go_ret
        exact ⟨t, ⟨by rw [HT.out]; rfl, HI2.out, hB2⟩, HF.out _ _ _ _ (Nat.le_refl _) hB1.size HJ.out HS.out⟩

      · have hc := made_any l r k v w hl hr (by omega)
        have hs : Hid (Joined w.heap.size k v l r (.node w.heap.size k v l r)) := hide (.mid (by omega) (by omega) (Nat.le_refl _))
        have d1 : decide ((1 : Int) < ((l.h : Nat) : Int) - ((r.h : Nat) : Int)) = false := by simp only [decide_eq_false_iff_not]; omega
        have d1' : ¬ (1 : Int) < ((l.h : Nat) : Int) - ((r.h : Nat) : Int) := by omega
        have d2 : decide (((l.h : Nat) : Int) - ((r.h : Nat) : Int) < (-1 : Int)) = false := by simp only [decide_eq_false_iff_not]; omega
        have d2' : ¬ ((l.h : Nat) : Int) - ((r.h : Nat) : Int) < (-1 : Int) := by omega
        have w1 : IntKind.i64.wrap (((l.h : Nat) : Int) - ((r.h : Nat) : Int)) = ((l.h : Nat) : Int) - ((r.h : Nat) : Int) := by rw [IntKind.wrap_i64]; omega
        have w2 : wrap64 (((l.h : Nat) : Int) - ((r.h : Nat) : Int)) = ((l.h : Nat) : Int) - ((r.h : Nat) : Int) := by unfold wrap64; omega
        obtain ⟨a, ha⟩ := l.ptr_shape
        obtain ⟨b, hb⟩ := r.ptr_shape
        rw [ha] at e1 hc ⊢
        rw [hb] at e2 hc ⊢
        clear c1 c2 hNn hN hl hr ha hb z1 z2 ih
        generalize hX : l.h = X at *
        generalize hY : r.h = Y at *
        clear hX hY
        go_enter Tryz.func100, Tryz.ntmps100
        go_wp2_with (first
          | (go_at_call 75; clear tk; refine e1.mono ?_; rintro e w' ⟨rfl, hw⟩; replace hw := hw.symm; subst hw)
          | (go_at_call 75; refine e2.mono ?_; rintro e w' ⟨rfl, hw⟩; replace hw := hw.symm; subst hw)
          | (go_at_call 48; refine hc.mono ?_; rintro e w' ⟨rfl, hg, hb⟩))
        go_ret
        exact ⟨_, ⟨rfl, hg, hb⟩, hs.out⟩
end Go.Proofs.YtkkpdgfllnbigaaGreatDoor.Pm
namespace Go.Proofs.YtkkpdgfllnbigaaGreatDoor.Pm

/-- An order by -1, 0, 1. -/
structure Ord {α : Type} (f : α → α → Int) : Prop where
  range : ∀ a b, f a b = -1 ∨ f a b = 0 ∨ f a b = 1
  anti : ∀ a b, f a b = - f b a
  eq : ∀ a b, f a b = 0 → a = b
  trans : ∀ a b c, f a b = -1 → f b c = -1 → f a c = -1
theorem Ord.refl {α : Type} {f : α → α → Int} (h : Ord f) (a : α) : f a a = 0 := by have := h.anti a a; omega
theorem cb_range : ∀ l m : List UInt8, Lib.compareBytes l m = -1 ∨ Lib.compareBytes l m = 0 ∨ Lib.compareBytes l m = 1
  | [], [] => by simp [Lib.compareBytes]
  | [], _ :: _ => by simp [Lib.compareBytes]
  | _ :: _, [] => by simp [Lib.compareBytes]
  | a :: l, b :: m => by
    rw [Lib.compareBytes]
    split
    · simp
    · split
      · simp
      · exact cb_range l m
theorem cb_anti : ∀ l m : List UInt8, Lib.compareBytes l m = - Lib.compareBytes m l
  | [], [] => rfl
  | [], _ :: _ => rfl
  | _ :: _, [] => rfl
  | a :: l, b :: m => by
    rw [Lib.compareBytes, Lib.compareBytes]
    by_cases h1 : a < b
    · have h2 : ¬ b < a := fun h => absurd (UInt8.lt_iff_toNat_lt.1 h) (by have := UInt8.lt_iff_toNat_lt.1 h1; omega)
      rw [if_pos h1, if_neg h2, if_pos h1]
    · rw [if_neg h1]
      by_cases h2 : b < a
      · rw [if_pos h2, if_pos h2]; rfl
      · rw [if_neg h2, if_neg h2, if_neg h1]
        exact cb_anti l m
theorem u8_eq {a b : UInt8} (h1 : ¬ a < b) (h2 : ¬ b < a) : a = b := by
  apply UInt8.toNat_inj.1
  rw [UInt8.lt_iff_toNat_lt] at h1 h2
  omega
theorem cb_eq : ∀ l m : List UInt8, Lib.compareBytes l m = 0 → l = m
  | [], [], _ => rfl
  | [], _ :: _, h => by simp [Lib.compareBytes] at h
  | _ :: _, [], h => by simp [Lib.compareBytes] at h
  | a :: l, b :: m, h => by
    rw [Lib.compareBytes] at h
    by_cases h1 : a < b
    · rw [if_pos h1] at h; cases h
    · rw [if_neg h1] at h
      by_cases h2 : b < a
      · rw [if_pos h2] at h; cases h
      · rw [if_neg h2] at h
        rw [u8_eq h1 h2, cb_eq l m h]
theorem cb_trans : ∀ l m k : List UInt8, Lib.compareBytes l m = -1 → Lib.compareBytes m k = -1 → Lib.compareBytes l k = -1
  | [], [], _, h, _ => by simp [Lib.compareBytes] at h
  | _ :: _, [], _, h, _ => by simp [Lib.compareBytes] at h
  | _, _ :: _, [], _, h => by simp [Lib.compareBytes] at h
  | [], _ :: _, _ :: _, _, _ => rfl
  | a :: l, b :: m, c :: k, h1, h2 => by
    rw [Lib.compareBytes] at h1 h2 ⊢
    simp only [UInt8.lt_iff_toNat_lt] at h1 h2 ⊢
    by_cases ab : a.toNat < b.toNat
    · by_cases bc : b.toNat < c.toNat
      · rw [if_pos (by omega)]
      · rw [if_neg bc] at h2
        by_cases cb : c.toNat < b.toNat
        · rw [if_pos cb] at h2; cases h2
        · rw [if_pos (by omega)]
    · rw [if_neg ab] at h1
      by_cases ba : b.toNat < a.toNat
      · rw [if_pos ba] at h1; cases h1
      · rw [if_neg ba] at h1
        by_cases bc : b.toNat < c.toNat
        · rw [if_pos (by omega)]
        · rw [if_neg bc] at h2
          by_cases cb : c.toNat < b.toNat
          · rw [if_pos cb] at h2; cases h2
          · rw [if_neg cb] at h2
            rw [if_neg (by omega), if_neg (by omega)]
            exact cb_trans l m k h1 h2
def cmpB (a b : ByteArray) : Int := Lib.compareBytes a.data.toList b.data.toList
theorem ba_eq {a b : ByteArray} (h : a.data.toList = b.data.toList) : a = b := ByteArray.ext (Array.toList_inj.1 h)
theorem ord_B : Ord cmpB := ⟨fun _ _ => cb_range _ _, fun _ _ => cb_anti _ _, fun _ _ h => ba_eq (cb_eq _ _ h), fun _ _ _ => cb_trans _ _ _⟩
theorem less_cb : ∀ (a b : List UInt8), Op.bytesLess a b = decide (Lib.compareBytes a b = -1)
  | [], [] => by simp [Op.bytesLess, Lib.compareBytes]
  | [], _ :: _ => by simp [Op.bytesLess, Lib.compareBytes]
  | _ :: _, [] => by simp [Op.bytesLess, Lib.compareBytes]
  | a :: l, b :: m => by
    have := less_cb l m
    rw [Lib.compareBytes, Op.bytesLess]
    by_cases h1 : a < b
    · simp [h1]
    · by_cases h2 : b < a
      · simp [h1, h2]
        intro e
        subst e
        exact absurd h2 h1
      · have e := u8_eq h1 h2
        subst e
        simp [this]
theorem less_B (a b : ByteArray) : Op.bytesLess a.toList b.toList = decide (cmpB a b = -1) := by
  rw [ByteArray.toList_eq, ByteArray.toList_eq, less_cb]; rfl

/-- A list of keys, rising. -/
def Srt (l : List (ByteArray × ByteArray)) : Prop := l.Pairwise (fun a b => cmpB a.1 b.1 = -1)
theorem Srt.app {a b : List (ByteArray × ByteArray)} {x : ByteArray × ByteArray} : Srt (a ++ x :: b) ↔ Srt a ∧ Srt b ∧ (∀ y ∈ a, cmpB y.1 x.1 = -1) ∧ (∀ y ∈ b, cmpB x.1 y.1 = -1) := by
  unfold Srt
  rw [List.pairwise_append, List.pairwise_cons]
  constructor
  · rintro ⟨h1, ⟨h2, h3⟩, h4⟩
    exact ⟨h1, h3, fun y hy => h4 y hy x (by simp), h2⟩
  · rintro ⟨h1, h2, h3, h4⟩
    refine ⟨h1, ⟨h4, h2⟩, fun y hy z hz => ?_⟩
    rcases List.mem_cons.1 hz with rfl | hz
    · exact h3 y hy
    · exact ord_B.trans _ _ _ (h3 y hy) (h4 z hz)

/-- Where a key is, or would be. -/
def pos (k : ByteArray) : List (ByteArray × ByteArray) → Nat
  | [] => 0
  | x :: l => if cmpB x.1 k = -1 then pos k l + 1 else 0
/-- Is it there? -/
def has (k : ByteArray) (l : List (ByteArray × ByteArray)) : Bool := match l[pos k l]? with
  | some x => decide (x.1 = k)
  | none => false
def ins (k : ByteArray) (v : ByteArray) (l : List (ByteArray × ByteArray)) : List (ByteArray × ByteArray) := l.take (pos k l) ++ (k, v) :: l.drop (if has k l then pos k l + 1 else pos k l)
def del (k : ByteArray) (l : List (ByteArray × ByteArray)) : List (ByteArray × ByteArray) := if has k l then l.take (pos k l) ++ l.drop (pos k l + 1) else l
theorem pos_le (k : ByteArray) : ∀ l, pos k l ≤ l.length
  | [] => Nat.le_refl _
  | x :: l => by simp only [pos, List.length_cons]; have := pos_le k l; split <;> omega

theorem pos_left {k : ByteArray} {x : ByteArray × ByteArray} (h : cmpB k x.1 ≠ 1) : ∀ (a b : List (ByteArray × ByteArray)), pos k (a ++ x :: b) = pos k a
  | [], b => by
    have h2 : ¬ cmpB x.1 k = -1 := by have := ord_B.anti x.1 k; omega
    simp [pos, h2]
  | y :: a, b => by simp only [List.cons_append, pos, pos_left h a b]
theorem pos_right {k : ByteArray} : ∀ {a b : List (ByteArray × ByteArray)}, (∀ y ∈ a, cmpB y.1 k = -1) → pos k (a ++ b) = a.length + pos k b
  | [], b, _ => by simp
  | y :: a, b, h => by
    have h1 := h y (by simp)
    have := pos_right (a := a) (b := b) (fun z hz => h z (by simp [hz]))
    simp only [List.cons_append, pos, h1, if_true, this, List.length_cons]
    omega
theorem has_left {k : ByteArray} {x : ByteArray × ByteArray} (h : cmpB k x.1 = -1) (a b : List (ByteArray × ByteArray)) : has k (a ++ x :: b) = has k a := by
  unfold has
  rw [pos_left (by omega)]
  have hp := pos_le k a
  by_cases hl : pos k a < a.length
  · rw [List.getElem?_append_left hl]
  · have e : pos k a = a.length := by omega
    have hx : ¬ x.1 = k := fun e => by rw [e, ord_B.refl] at h; omega
    rw [e]
    simp [hx]
theorem has_right {k : ByteArray} {a b : List (ByteArray × ByteArray)} (h : ∀ y ∈ a, cmpB y.1 k = -1) : has k (a ++ b) = has k b := by
  unfold has
  rw [pos_right h, List.getElem?_append_right (by omega), Nat.add_sub_cancel_left]
theorem pos_same {k : ByteArray} {v : ByteArray} {a b : List (ByteArray × ByteArray)} (h : ∀ y ∈ a, cmpB y.1 k = -1) : pos k (a ++ (k, v) :: b) = a.length ∧ has k (a ++ (k, v) :: b) = true := by
  have h2 : pos k ((k, v) :: b) = 0 := by simp [pos, ord_B.refl]
  constructor
  · rw [pos_right h, h2, Nat.add_zero]
  · rw [has_right h]; simp [has, h2]
theorem ins_left {k : ByteArray} {v : ByteArray} {x : ByteArray × ByteArray} (h : cmpB k x.1 = -1) (a b : List (ByteArray × ByteArray)) : ins k v (a ++ x :: b) = ins k v a ++ x :: b := by
  unfold ins
  rw [pos_left (by omega), has_left h]
  have hp := pos_le k a
  have hh : has k a = true → pos k a < a.length := fun e => by
    unfold has at e
    split at e
    · rename_i y hy; exact (List.getElem?_eq_some_iff.1 hy).1
    · cases e
  rw [List.take_append_of_le_length hp]
  cases hb : has k a with
  | false => simp [List.drop_append_of_le_length hp]
  | true => simp [List.drop_append_of_le_length (hh hb)]
theorem ins_right {k : ByteArray} {v : ByteArray} {a b : List (ByteArray × ByteArray)} (h : ∀ y ∈ a, cmpB y.1 k = -1) : ins k v (a ++ b) = a ++ ins k v b := by
  unfold ins
  rw [pos_right h, has_right h, List.take_length_add_append]
  have : (if has k b = true then a.length + pos k b + 1 else a.length + pos k b) = a.length + (if has k b = true then pos k b + 1 else pos k b) := by split <;> omega
  rw [this, List.drop_length_add_append, List.append_assoc]
theorem ins_same {k : ByteArray} {v u : ByteArray} {a b : List (ByteArray × ByteArray)} (h : ∀ y ∈ a, cmpB y.1 k = -1) : ins k v (a ++ (k, u) :: b) = a ++ (k, v) :: b := by
  unfold ins
  obtain ⟨h1, h2⟩ := pos_same (v := u) (b := b) h
  rw [h1, h2]
  simp
theorem del_left {k : ByteArray} {x : ByteArray × ByteArray} (h : cmpB k x.1 = -1) (a b : List (ByteArray × ByteArray)) : del k (a ++ x :: b) = del k a ++ x :: b := by
  unfold del
  rw [pos_left (by omega), has_left h]
  have hp := pos_le k a
  have hh : has k a = true → pos k a < a.length := fun e => by
    unfold has at e
    split at e
    · rename_i y hy; exact (List.getElem?_eq_some_iff.1 hy).1
    · cases e
  cases hb : has k a with
  | false => simp
  | true => simp [List.take_append_of_le_length hp, List.drop_append_of_le_length (hh hb)]
theorem del_right {k : ByteArray} {a b : List (ByteArray × ByteArray)} (h : ∀ y ∈ a, cmpB y.1 k = -1) : del k (a ++ b) = a ++ del k b := by
  unfold del
  rw [pos_right h, has_right h]
  split
  · rw [List.take_length_add_append, Nat.add_assoc, List.drop_length_add_append, List.append_assoc]
  · rfl
theorem del_same {k : ByteArray} {u : ByteArray} {a b : List (ByteArray × ByteArray)} (h : ∀ y ∈ a, cmpB y.1 k = -1) : del k (a ++ (k, u) :: b) = a ++ b := by
  unfold del
  obtain ⟨h1, h2⟩ := pos_same (v := u) (b := b) h
  rw [h1, h2]
  simp
theorem has_mem {k : ByteArray} {l : List (ByteArray × ByteArray)} (h : has k l = true) : ∃ v, l[pos k l]? = some (k, v) := by
  unfold has at h
  split at h
  · rename_i y hy
    simp only [decide_eq_true_eq] at h
    exact ⟨y.2, by rw [hy, ← h]⟩
  · cases h
end Go.Proofs.YtkkpdgfllnbigaaGreatDoor.Pm
namespace Go.Proofs.YtkkpdgfllnbigaaGreatDoor.Pm

/-- What joining answers. -/
def Joins (B : Nat) (p : Nat) (k : ByteArray) (v : ByteArray) (nl nr l r t : T) : Prop := (l = nl ∧ r = nr ∧ t = .node p k v nl nr) ∨ (¬ (l = nl ∧ r = nr) ∧ Joined B k v l r t)
theorem Joins.mono {B B' p k v nl nr l r t} (h : Joins B' p k v nl nr l r t) (hB : B ≤ B') : Joins B p k v nl nr l r t := h.imp id (fun h => ⟨h.1, h.2.mono hB⟩)
theorem Joins.list {B p k v nl nr l r t} (h : Joins B p k v nl nr l r t) : t.list = l.list ++ (k, v) :: r.list := by
  rcases h with ⟨rfl, rfl, rfl⟩ | ⟨_, h⟩
  · rfl
  · exact h.list
/-- All nodes lie below block B. -/
def T.under (B : Nat) : T → Prop
  | .nil => True
  | .node p _ _ l r => p < B ∧ l.under B ∧ r.under B
theorem T.under_fresh {B : Nat} : ∀ {t : T}, t.under B → t.fresh B = 0
  | .nil, _ => rfl
  | .node p _ _ l r, ⟨h1, h2, h3⟩ => by simp [T.fresh, T.under_fresh h2, T.under_fresh h3]; omega
def T.newRoot (B : Nat) : T → Prop
  | .nil => False
  | .node p _ _ _ _ => B ≤ p
theorem T.under_root {B : Nat} {t : T} (h : t.under B) (h2 : t.newRoot B) : False := by
  cases t with
  | nil => exact h2
  | node p k v l r => have := h.1; simp only [T.newRoot] at h2; omega
theorem T.fresh_root {B : Nat} {p k v l r} (h : (T.node p k v l r).newRoot B) : (T.node p k v l r).fresh B = l.fresh B + r.fresh B + 1 := T.fresh_new h

/-- A part of a tree. -/
inductive Sub (s : T) : T → Prop where
  | here : Sub s s
  | left {p k v l r} (h : Sub s l) : Sub s (.node p k v l r)
  | right {p k v l r} (h : Sub s r) : Sub s (.node p k v l r)
theorem Sub.trans {a b c : T} (h : Sub a b) (k : Sub b c) : Sub a c := by
  induction k with
  | here => exact h
  | left _ ih => exact .left ih
  | right _ ih => exact .right ih
/-- A tree of new nodes above parts that meet C. -/
inductive Built (B : Nat) (C : T → Prop) : T → Prop where
  | nil : Built B C .nil
  | old {t : T} (h : C t) : Built B C t
  | new {p k v l r} (hp : B ≤ p) (hl : Built B C l) (hr : Built B C r) : Built B C (.node p k v l r)
theorem Built.mono {B B' : Nat} {C C' : T → Prop} {t : T} (h : Built B' C t) (hB : B ≤ B') (hC : ∀ t, C t → Built B C' t) : Built B C' t := by
  induction h with
  | nil => exact .nil
  | old h => exact hC _ h
  | new hp _ _ ihl ihr => exact .new (by omega) ihl ihr
/-- C is met by the sides of what meets it. -/
def Down (C : T → Prop) : Prop := ∀ p k v l r, C (.node p k v l r) → C l ∧ C r
theorem Built.sides {B : Nat} {C : T → Prop} (hD : Down C) {p k v l r} (h : Built B C (.node p k v l r)) : Built B C l ∧ Built B C r := by
  cases h with
  | old h => exact ⟨.old (hD _ _ _ _ _ h).1, .old (hD _ _ _ _ _ h).2⟩
  | new _ hl hr => exact ⟨hl, hr⟩
theorem Settled.built {B : Nat} {C : T → Prop} (hD : Down C) {k v l r t} (h : Settled B k v l r t) (hl : Built B C l) (hr : Built B C r) : Built B C t := by
  cases h with
  | plain _ _ hp => exact .new hp hl hr
  | rightIn _ _ hp hq hs =>
    obtain ⟨a, b⟩ := hl.sides hD
    obtain ⟨c, d⟩ := b.sides hD
    exact .new hp (.new hq a c) (.new hs d hr)
  | rightOut _ _ hp hq =>
    obtain ⟨a, b⟩ := hl.sides hD
    exact .new hp a (.new hq b hr)
  | leftIn _ _ hp hq hs =>
    obtain ⟨a, b⟩ := hr.sides hD
    obtain ⟨c, d⟩ := a.sides hD
    exact .new hp (.new hq hl c) (.new hs d b)
  | leftOut _ _ hp hq =>
    obtain ⟨a, b⟩ := hr.sides hD
    exact .new hp (.new hq hl a) b
theorem Joined.built {B : Nat} {C : T → Prop} (hD : Down C) {k v l r t} (h : Joined B k v l r t) : Built B C l → Built B C r → Built B C t := by
  induction h with
  | mid _ _ hp => exact fun hl hr => .new hp hl hr
  | left _ _ hs ih => exact fun hl hr => hs.built hD (hl.sides hD).1 (ih (hl.sides hD).2 hr)
  | right _ _ hs ih => exact fun hl hr => hs.built hD (ih hl (hr.sides hD).1) (hr.sides hD).2
theorem Joins.built {B : Nat} {C : T → Prop} (hD : Down C) {p k v nl nr l r t} (h : Joins B p k v nl nr l r t) (hn : C (.node p k v nl nr)) (hl : Built B C l) (hr : Built B C r) : Built B C t := by
  rcases h with ⟨rfl, rfl, rfl⟩ | ⟨_, h⟩
  · exact .old hn
  · exact h.built hD hl hr
theorem down_sub (a : T) : Down (fun t => Sub t a) := fun _ _ _ _ _ h => ⟨(Sub.left .here).trans h, (Sub.right .here).trans h⟩

/-- Sides whose heights differ by two: which nodes there are. -/
theorem Joined.twoL {B k v l r t} (h : Joined B k v l r t) (bl : l.bal) (e : l.h = r.h + 2) : ∃ lp lk lv ll lr, l = .node lp lk lv ll lr ∧
    ((lr.h ≤ ll.h ∧ ∃ p q, B ≤ p ∧ B ≤ q ∧ t = .node q lk lv ll (.node p k v lr r)) ∨ (ll.h < lr.h ∧ ∃ ip ik iv il ir p q s, lr = .node ip ik iv il ir ∧ B ≤ p ∧ B ≤ q ∧ B ≤ s ∧ t = .node p ik iv (.node q lk lv ll il) (.node s k v ir r))) := by
  cases h with
  | mid h1 h2 => omega
  | right h1 => omega
  | @left lp lk lv ll lr r m t h1 hm hs =>
    refine ⟨lp, lk, lv, ll, lr, rfl, ?_⟩
    obtain ⟨b1, b2, b3, b4⟩ := bl
    have hh : (T.node lp lk lv ll lr).h = max ll.h lr.h + 1 := rfl
    rw [hh] at e
    cases hm with
    | left g1 => omega
    | right g1 => omega
    | @mid _ _ p g1 g2 hp =>
      have hM : (T.node p k v lr r).h = max lr.h r.h + 1 := rfl
      generalize hmm : T.node p k v lr r = m at hs hM
      cases hs with
      | plain f1 f2 hq => subst hmm; exact .inl ⟨by omega, p, _, hp, hq, rfl⟩
      | rightIn f1 => omega
      | rightOut f1 => omega
      | @leftIn _ rp rk rv rr ip ik iv il ir p' q' s' f1 f2 hp' hq' hs' =>
        simp only [T.node.injEq] at hmm
        obtain ⟨rfl, rfl, rfl, rfl, rfl⟩ := hmm
        refine .inr ⟨by omega, ip, ik, iv, il, ir, _, _, _, rfl, hp', hq', hs', rfl⟩
      | @leftOut _ rp rk rv rr i p' q' f1 f2 =>
        simp only [T.node.injEq] at hmm
        obtain ⟨rfl, rfl, rfl, rfl, rfl⟩ := hmm
        omega
theorem Joined.twoR {B k v l r t} (h : Joined B k v l r t) (br : r.bal) (e : r.h = l.h + 2) : ∃ rp rk rv rl rr, r = .node rp rk rv rl rr ∧
    ((rl.h ≤ rr.h ∧ ∃ p q, B ≤ p ∧ B ≤ q ∧ t = .node q rk rv (.node p k v l rl) rr) ∨ (rr.h < rl.h ∧ ∃ ip ik iv il ir p q s, rl = .node ip ik iv il ir ∧ B ≤ p ∧ B ≤ q ∧ B ≤ s ∧ t = .node p ik iv (.node q k v l il) (.node s rk rv ir rr))) := by
  cases h with
  | mid h1 h2 => omega
  | left h1 => omega
  | @right rp rk rv rl rr l m t h1 hm hs =>
    refine ⟨rp, rk, rv, rl, rr, rfl, ?_⟩
    obtain ⟨b1, b2, b3, b4⟩ := br
    have hh : (T.node rp rk rv rl rr).h = max rl.h rr.h + 1 := rfl
    rw [hh] at e
    cases hm with
    | left g1 => omega
    | right g1 => omega
    | @mid _ _ p g1 g2 hp =>
      have hM : (T.node p k v l rl).h = max l.h rl.h + 1 := rfl
      generalize hmm : T.node p k v l rl = m at hs hM
      cases hs with
      | plain f1 f2 hq => subst hmm; exact .inl ⟨by omega, p, _, hp, hq, rfl⟩
      | leftIn f1 => omega
      | leftOut f1 => omega
      | @rightIn _ lp lk lv ll ip ik iv il ir p' q' s' f1 f2 hp' hq' hs' =>
        simp only [T.node.injEq] at hmm
        obtain ⟨rfl, rfl, rfl, rfl, rfl⟩ := hmm
        refine .inr ⟨by omega, ip, ik, iv, il, ir, _, _, _, rfl, hp', hq', hs', rfl⟩
      | @rightOut _ lp lk lv ll i p' q' f1 f2 =>
        simp only [T.node.injEq] at hmm
        obtain ⟨rfl, rfl, rfl, rfl, rfl⟩ := hmm
        omega

/-- put. -/
inductive Puts (B : Nat) (k : ByteArray) (v : ByteArray) : T → T → Prop where
  | none {p : Nat} (hp : B ≤ p) : Puts B k v .nil (.node p k v .nil .nil)
  | left {p nk nv l r l' t} (hc : cmpB k nk = -1) (h : Puts B k v l l') (hj : Joins B p nk nv l r l' r t) : Puts B k v (.node p nk nv l r) t
  | right {p nk nv l r r' t} (hc : cmpB k nk = 1) (h : Puts B k v r r') (hj : Joins B p nk nv l r l r' t) : Puts B k v (.node p nk nv l r) t
  | same {p nk nv l r q} (hc : cmpB k nk = 0) (hq : B ≤ q) : Puts B k v (.node p nk nv l r) (.node q k v l r)
theorem Puts.mono {B B' k v t t'} (h : Puts B' k v t t') (hB : B ≤ B') : Puts B k v t t' := by
  induction h with
  | none hp => exact .none (by omega)
  | left hc _ hj ih => exact .left hc ih (hj.mono hB)
  | right hc _ hj ih => exact .right hc ih (hj.mono hB)
  | same hc hq => exact .same hc (by omega)
theorem Puts.list {B k v t t'} (h : Puts B k v t t') : Srt t.list → t'.list = ins k v t.list := by
  induction h with
  | none hp => intro _; simp [T.list, ins, pos, has]
  | @left p nk nv l r l' t hc _ hj ih =>
    intro hs
    have hs' := Srt.app.1 hs
    rw [hj.list, ih hs'.1]
    exact (ins_left (x := (nk, nv)) hc _ _).symm
  | @right p nk nv l r r' t hc _ hj ih =>
    intro hs
    obtain ⟨s1, s2, s3, s4⟩ := Srt.app.1 hs
    have hnk : cmpB nk k = -1 := by have := ord_B.anti k nk; omega
    rw [hj.list, ih s2]
    have : (T.node p nk nv l r).list = (l.list ++ [(nk, nv)]) ++ r.list := by simp [T.list]
    rw [this, ins_right]
    · simp
    · intro y hy
      simp only [List.mem_append, List.mem_singleton] at hy
      rcases hy with hy | rfl
      · exact ord_B.trans _ _ _ (s3 y hy) hnk
      · exact hnk
  | @same p nk nv l r q hc hq =>
    intro hs
    obtain ⟨s1, s2, s3, s4⟩ := Srt.app.1 hs
    have := ord_B.eq _ _ hc
    subst this
    exact (ins_same s3).symm
theorem Puts.built {B k v t t'} (h : Puts B k v t t') : Built B (fun s => Sub s t) t' := by
  induction h with
  | none hp => exact .new hp .nil .nil
  | @left p nk nv l r l' t hc _ hj ih => exact hj.built (down_sub _) .here (ih.mono (Nat.le_refl _) (fun s hs => .old (.left hs))) (.old (.right .here))
  | @right p nk nv l r r' t hc _ hj ih => exact hj.built (down_sub _) .here (.old (.left .here)) (ih.mono (Nat.le_refl _) (fun s hs => .old (.right hs)))
  | @same p nk nv l r q hc hq => exact .new hq (.old (.left .here)) (.old (.right .here))

structure PutSays (B : Nat) (k : ByteArray) (t t' : T) : Prop where
  bal : t'.bal
  lo : t.h ≤ t'.h
  hi : t'.h ≤ t.h + 1
  root : t'.newRoot B
  fr : t'.fresh B ≤ t.h + 1
  there : has k t.list = true → t'.h = t.h ∧ t'.fresh B ≤ t.h
  grew : t'.h = t.h + 1 → (t'.right.h < t'.left.h → t'.left.newRoot B) ∧ (t'.left.h < t'.right.h → t'.right.newRoot B)
theorem Puts.says {B k v t t'} (h : Puts B k v t t') : Srt t.list → t.bal → t.under B → PutSays B k t t' := by
  induction h with
  | @none p hp =>
    intro _ _ _
    refine ⟨⟨by decide, by decide, trivial, trivial⟩, by simp [T.h], by simp [T.h], hp, by simp [T.fresh, T.h, hp], fun h => by simp [T.list, has, pos] at h, fun _ => ⟨fun h => by simp [T.left, T.right, T.h] at h, fun h => by simp [T.left, T.right, T.h] at h⟩⟩
  | @left p nk nv l r l' t hc hput hj ih =>
    intro hs hb hu
    obtain ⟨s1, s2, s3, s4⟩ := Srt.app.1 hs
    obtain ⟨b1, b2, b3, b4⟩ := hb
    obtain ⟨u1, u2, u3⟩ := hu
    have P := ih s1 b3 u2
    have hhas : has k (T.node p nk nv l r).list = has k l.list := has_left (x := (nk, nv)) hc _ _
    have hJ : Joined B nk nv l' r t := by
      rcases hj with ⟨rfl, _⟩ | ⟨_, hj⟩
      · exact (T.under_root u2 P.root).elim
      · exact hj
    have J := hJ.says P.bal b4
    have f0 := T.under_fresh u3
    have hh : (T.node p nk nv l r).h = max l.h r.h + 1 := rfl
    obtain ⟨P1, P2, P3, P4, P5, P6, P7⟩ := P
    by_cases hd : l'.h ≤ r.h + 1
    · have hmid : ∃ q, B ≤ q ∧ t = .node q nk nv l' r := by
        cases hJ with
        | mid _ _ hq => exact ⟨_, hq, rfl⟩
        | left g1 => omega
        | right g1 => omega
      obtain ⟨q, hq, rfl⟩ := hmid
      have ht : (T.node q nk nv l' r).h = max l'.h r.h + 1 := rfl
      have hf := T.fresh_new (B := B) (k := nk) (v := nv) (l := l') (r := r) hq
      refine ⟨J.bal, by omega, by omega, hq, by omega, fun g => ?_, fun g => ⟨fun _ => P4, fun g2 => ?_⟩⟩
      · rw [hhas] at g
        have := P6 g
        omega
      · simp only [T.left, T.right] at g2
        omega
    · have e2 : l'.h = r.h + 2 := by omega
      obtain ⟨lp, lk, lv, ll, lr, rfl, hcase⟩ := hJ.twoL P1 e2
      have hl' : (T.node lp lk lv ll lr).h = max ll.h lr.h + 1 := rfl
      have hfl := T.fresh_root P4
      obtain ⟨c1, c2, c3, c4⟩ := P1
      have hnot : ¬ has k l.list = true := fun g => by have := (P6 g).1; omega
      have G := P7 (by omega)
      simp only [T.left, T.right] at G
      rcases hcase with ⟨g1, p', q', hp', hq', rfl⟩ | ⟨g1, ip, ik, iv, il, ir, p', q', s', rfl, hp', hq', hs', rfl⟩
      · have ht : (T.node q' lk lv ll (T.node p' nk nv lr r)).h = max ll.h (max lr.h r.h + 1) + 1 := rfl
        have hf := T.fresh_new (B := B) (k := lk) (v := lv) (l := ll) (r := T.node p' nk nv lr r) hq'
        have hf2 := T.fresh_new (B := B) (k := nk) (v := nv) (l := lr) (r := r) hp'
        refine ⟨J.bal, by omega, by omega, hq', by omega, fun g => (hnot (hhas ▸ g)).elim, fun g => ⟨fun g2 => ?_, fun _ => hp'⟩⟩
        simp only [T.left, T.right, T.h_node] at g2
        omega
      · have ht : (T.node p' ik iv (T.node q' lk lv ll il) (T.node s' nk nv ir r)).h = max (max ll.h il.h + 1) (max ir.h r.h + 1) + 1 := rfl
        have hi : (T.node ip ik iv il ir).h = max il.h ir.h + 1 := rfl
        have hf := T.fresh_new (B := B) (k := ik) (v := iv) (l := T.node q' lk lv ll il) (r := T.node s' nk nv ir r) hp'
        have hf2 := T.fresh_new (B := B) (k := lk) (v := lv) (l := ll) (r := il) hq'
        have hf3 := T.fresh_new (B := B) (k := nk) (v := nv) (l := ir) (r := r) hs'
        have hf4 := T.fresh_root (G.2 g1)
        refine ⟨J.bal, by omega, by omega, hp', by omega, fun g => (hnot (hhas ▸ g)).elim, fun g => ⟨fun _ => hq', fun _ => hs'⟩⟩
  | @right p nk nv l r r' t hc hput hj ih =>
    intro hs hb hu
    obtain ⟨s1, s2, s3, s4⟩ := Srt.app.1 hs
    obtain ⟨b1, b2, b3, b4⟩ := hb
    obtain ⟨u1, u2, u3⟩ := hu
    have P := ih s2 b4 u3
    have hnk : cmpB nk k = -1 := by have := ord_B.anti k nk; omega
    have hhas : has k (T.node p nk nv l r).list = has k r.list := by
      have : (T.node p nk nv l r).list = (l.list ++ [(nk, nv)]) ++ r.list := by simp [T.list]
      rw [this, has_right]
      intro y hy
      simp only [List.mem_append, List.mem_singleton] at hy
      rcases hy with hy | rfl
      · exact ord_B.trans _ _ _ (s3 y hy) hnk
      · exact hnk
    have hJ : Joined B nk nv l r' t := by
      rcases hj with ⟨_, rfl, _⟩ | ⟨_, hj⟩
      · exact (T.under_root u3 P.root).elim
      · exact hj
    have J := hJ.says b3 P.bal
    have f0 := T.under_fresh u2
    have hh : (T.node p nk nv l r).h = max l.h r.h + 1 := rfl
    obtain ⟨P1, P2, P3, P4, P5, P6, P7⟩ := P
    by_cases hd : r'.h ≤ l.h + 1
    · have hmid : ∃ q, B ≤ q ∧ t = .node q nk nv l r' := by
        cases hJ with
        | mid _ _ hq => exact ⟨_, hq, rfl⟩
        | left g1 => omega
        | right g1 => omega
      obtain ⟨q, hq, rfl⟩ := hmid
      have ht : (T.node q nk nv l r').h = max l.h r'.h + 1 := rfl
      have hf := T.fresh_new (B := B) (k := nk) (v := nv) (l := l) (r := r') hq
      refine ⟨J.bal, by omega, by omega, hq, by omega, fun g => ?_, fun g => ⟨fun g2 => ?_, fun _ => P4⟩⟩
      · rw [hhas] at g
        have := P6 g
        omega
      · simp only [T.left, T.right] at g2
        omega
    · have e2 : r'.h = l.h + 2 := by omega
      obtain ⟨rp, rk, rv, rl, rr, rfl, hcase⟩ := hJ.twoR P1 e2
      have hl' : (T.node rp rk rv rl rr).h = max rl.h rr.h + 1 := rfl
      have hfl := T.fresh_root P4
      obtain ⟨c1, c2, c3, c4⟩ := P1
      have hnot : ¬ has k r.list = true := fun g => by have := (P6 g).1; omega
      have G := P7 (by omega)
      simp only [T.left, T.right] at G
      rcases hcase with ⟨g1, p', q', hp', hq', rfl⟩ | ⟨g1, ip, ik, iv, il, ir, p', q', s', rfl, hp', hq', hs', rfl⟩
      · have ht : (T.node q' rk rv (T.node p' nk nv l rl) rr).h = max (max l.h rl.h + 1) rr.h + 1 := rfl
        have hf := T.fresh_new (B := B) (k := rk) (v := rv) (l := T.node p' nk nv l rl) (r := rr) hq'
        have hf2 := T.fresh_new (B := B) (k := nk) (v := nv) (l := l) (r := rl) hp'
        refine ⟨J.bal, by omega, by omega, hq', by omega, fun g => (hnot (hhas ▸ g)).elim, fun g => ⟨fun _ => hp', fun g2 => ?_⟩⟩
        simp only [T.left, T.right, T.h_node] at g2
        omega
      · have ht : (T.node p' ik iv (T.node q' nk nv l il) (T.node s' rk rv ir rr)).h = max (max l.h il.h + 1) (max ir.h rr.h + 1) + 1 := rfl
        have hi : (T.node ip ik iv il ir).h = max il.h ir.h + 1 := rfl
        have hf := T.fresh_new (B := B) (k := ik) (v := iv) (l := T.node q' nk nv l il) (r := T.node s' rk rv ir rr) hp'
        have hf2 := T.fresh_new (B := B) (k := nk) (v := nv) (l := l) (r := il) hq'
        have hf3 := T.fresh_new (B := B) (k := rk) (v := rv) (l := ir) (r := rr) hs'
        have hf4 := T.fresh_root (G.1 g1)
        refine ⟨J.bal, by omega, by omega, hp', by omega, fun g => (hnot (hhas ▸ g)).elim, fun g => ⟨fun _ => hq', fun _ => hs'⟩⟩
  | @same p nk nv l r q hc hq =>
    intro hs hb hu
    obtain ⟨b1, b2, b3, b4⟩ := hb
    obtain ⟨u1, u2, u3⟩ := hu
    have f1 := T.under_fresh u2
    have f2 := T.under_fresh u3
    have hf := T.fresh_new (B := B) (k := k) (v := v) (l := l) (r := r) hq
    have hh : (T.node p nk nv l r).h = max l.h r.h + 1 := rfl
    have ht : (T.node q k v l r).h = max l.h r.h + 1 := rfl
    exact ⟨⟨b1, b2, b3, b4⟩, by omega, by omega, hq, by omega, fun _ => ⟨by omega, by omega⟩, fun g => by omega⟩
end Go.Proofs.YtkkpdgfllnbigaaGreatDoor.Pm
