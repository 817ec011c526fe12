/-
  TREES JOINED: settled, join, joining, as the program has them.
-/
import Derived.Test.YtkeldhohilmdcaaGreatPJoin
namespace Go.Proofs.YtkeldhohilmdcaaGreat.Pm
open Go.RowKit Go.Shelf
set_option linter.unusedSimpArgs false

/-- What a node is, where its value and key are told alone. -/
theorem node_ptr (p k v l r) : (T.node p k v l r).ptr = .pointer (some ⟨p, 0, none⟩) := rfl

set_option maxHeartbeats 2000000 in
set_option maxRecDepth 100000 in
theorem settled_any {pn : Nat} {k : ByteArray} {v : ByteArray} {nl nr : T} (l r : T) (w : World) (hN : In w (.node pn k v nl nr)) (hl : In w l) (hr : In w r) (hn : l.n + r.n ≤ 900000) :
    Calls Tryz.prog 196 #[.pointer (some ⟨pn, 0, none⟩), l.ptr, r.ptr] w fun e w' => ∃ t, Gives w e w' t ∧ Settled w.heap.size k v l r t := by
  have e1 := height_any l w hl
  have e2 := height_any r w hr
  have z1 := l.h_le_n
  have z2 := r.h_le_n
  have tk : True := trivial
  by_cases c1 : r.h + 1 < l.h
  · obtain ⟨lp, lk, lv, ll, i, rfl⟩ := T.h_pos (t := l) (by omega)
    have hc := turnedRight_any lp lk lv ll i r w hN hl hr c1 hn
    have d1 : decide ((1 : Int) < (((T.node lp lk lv ll i).h : Nat) : Int) - ((r.h : Nat) : Int)) = true := by simp only [decide_eq_true_eq]; omega
    have d1' : (1 : Int) < (((T.node lp lk lv ll i).h : Nat) : Int) - ((r.h : Nat) : Int) := by omega
    have w1 : IntKind.i64.wrap ((((T.node lp lk lv ll i).h : Nat) : Int) - ((r.h : Nat) : Int)) = (((T.node lp lk lv ll i).h : Nat) : Int) - ((r.h : Nat) : Int) := by rw [IntKind.wrap_i64]; omega
    have w2 : wrap64 ((((T.node lp lk lv ll i).h : Nat) : Int) - ((r.h : Nat) : Int)) = (((T.node lp lk lv ll i).h : Nat) : Int) - ((r.h : Nat) : Int) := by unfold wrap64; omega
    rw [node_ptr] at e1 ⊢
    obtain ⟨a, ha⟩ := r.ptr_shape
    rw [ha] at e2 hc ⊢
    clear c1 hn hN hl hr ha z1 z2
    generalize (T.node lp lk lv ll i).h = X at *
    generalize r.h = Y at *
    go_enter Tryz.func196, Tryz.ntmps196
    go_wp2_with (first
      | (go_at_call 163; clear tk; refine e1.mono ?_; rintro e w' ⟨rfl, rfl⟩)
      | (go_at_call 163; refine e2.mono ?_; rintro e w' ⟨rfl, rfl⟩)
      | (go_at_call 218; refine hc.mono ?_; rintro e w' ⟨t, ⟨rfl, hg, hb⟩, hs⟩))
    go_ret
    exact ⟨t, ⟨rfl, hg, hb⟩, hs⟩
  · by_cases c2 : l.h + 1 < r.h
    · obtain ⟨rp, rk, rv, i, rr, rfl⟩ := T.h_pos (t := r) (by omega)
      have hc := turnedLeft_any rp rk rv rr i l w hN hr hl c2 (by omega)
      have d1 : decide ((1 : Int) < ((l.h : Nat) : Int) - (((T.node rp rk rv i rr).h : Nat) : Int)) = false := by simp only [decide_eq_false_iff_not]; omega
      have d1' : ¬ (1 : Int) < ((l.h : Nat) : Int) - (((T.node rp rk rv i rr).h : Nat) : Int) := by omega
      have d2 : decide (((l.h : Nat) : Int) - (((T.node rp rk rv i rr).h : Nat) : Int) < (-1 : Int)) = true := by simp only [decide_eq_true_eq]; omega
      have d2' : ((l.h : Nat) : Int) - (((T.node rp rk rv i rr).h : Nat) : Int) < (-1 : Int) := by omega
      have w1 : IntKind.i64.wrap (((l.h : Nat) : Int) - (((T.node rp rk rv i rr).h : Nat) : Int)) = ((l.h : Nat) : Int) - (((T.node rp rk rv i rr).h : Nat) : Int) := by rw [IntKind.wrap_i64]; omega
      have w2 : wrap64 (((l.h : Nat) : Int) - (((T.node rp rk rv i rr).h : Nat) : Int)) = ((l.h : Nat) : Int) - (((T.node rp rk rv i rr).h : Nat) : Int) := by unfold wrap64; omega
      rw [node_ptr] at e2 ⊢
      obtain ⟨a, ha⟩ := l.ptr_shape
      rw [ha] at e1 hc ⊢
      clear c1 c2 hn hN hl hr ha z1 z2
      generalize (T.node rp rk rv i rr).h = X at *
      generalize l.h = Y at *
      go_enter Tryz.func196, Tryz.ntmps196
      go_wp2_with (first
        | (go_at_call 163; clear tk; refine e1.mono ?_; rintro e w' ⟨rfl, rfl⟩)
        | (go_at_call 163; refine e2.mono ?_; rintro e w' ⟨rfl, rfl⟩)
        | (go_at_call 219; refine hc.mono ?_; rintro e w' ⟨t, ⟨rfl, hg, hb⟩, hs⟩))
      go_ret
      exact ⟨t, ⟨rfl, hg, hb⟩, hs⟩
    · have hc := between_any l r w hN hl hr (by omega)
      have hs : Hid (Settled w.heap.size k v l r (.node w.heap.size k v l r)) := hide (.plain (by omega) (by omega) (Nat.le_refl _))
      have d1 : decide ((1 : Int) < ((l.h : Nat) : Int) - ((r.h : Nat) : Int)) = false := by simp only [decide_eq_false_iff_not]; omega
      have d1' : ¬ (1 : Int) < ((l.h : Nat) : Int) - ((r.h : Nat) : Int) := by omega
      have d2 : decide (((l.h : Nat) : Int) - ((r.h : Nat) : Int) < (-1 : Int)) = false := by simp only [decide_eq_false_iff_not]; omega
      have d2' : ¬ ((l.h : Nat) : Int) - ((r.h : Nat) : Int) < (-1 : Int) := by omega
      have w1 : IntKind.i64.wrap (((l.h : Nat) : Int) - ((r.h : Nat) : Int)) = ((l.h : Nat) : Int) - ((r.h : Nat) : Int) := by rw [IntKind.wrap_i64]; omega
      have w2 : wrap64 (((l.h : Nat) : Int) - ((r.h : Nat) : Int)) = ((l.h : Nat) : Int) - ((r.h : Nat) : Int) := by unfold wrap64; omega
      obtain ⟨a, ha⟩ := l.ptr_shape
      obtain ⟨b, hb⟩ := r.ptr_shape
      rw [ha] at e1 hc ⊢
      rw [hb] at e2 hc ⊢
      clear c1 c2 hn hN hl hr ha hb z1 z2
      generalize hX : l.h = X at *
      generalize hY : r.h = Y at *
      clear hX hY
      go_enter Tryz.func196, Tryz.ntmps196
      go_wp2_with (first
        | (go_at_call 163; clear tk; refine e1.mono ?_; rintro e w' ⟨rfl, rfl⟩)
        | (go_at_call 163; refine e2.mono ?_; rintro e w' ⟨rfl, rfl⟩)
        | (go_at_call 220; refine hc.mono ?_; rintro e w' ⟨rfl, hg, hb⟩))
      go_ret
      exact ⟨_, ⟨rfl, hg, hb⟩, hs.out⟩

/-- How many nodes what was joined has. -/
theorem Joined.n {B k v l r t} (h : Joined B k v l r t) : t.n = l.n + r.n + 1 := by
  rw [← T.n_eq, h.list, List.length_append, List.length_cons, T.n_eq, T.n_eq]; omega
set_option maxHeartbeats 4000000 in
set_option maxRecDepth 100000 in
theorem join_any (k : ByteArray) (v : ByteArray) (N : Nat) : ∀ (l r : T) (w : World), l.n + r.n ≤ N → N ≤ 800000 → In w l → In w r →
    Calls Tryz.prog 166 #[l.ptr, .string k, .string v, r.ptr] w fun e w' => ∃ t, Gives w e w' t ∧ Joined w.heap.size k v l r t := by
  induction N with
  | zero =>
    intro l r w h1 _ hl hr
    have : l.n = 0 := by omega
    have : r.n = 0 := by omega
    have z1 := l.h_le_n
    have z2 := r.h_le_n
    have el : l = .nil := T.h_zero (by omega)
    have er : r = .nil := T.h_zero (by omega)
    subst el er
    have e1 := height_any .nil w hl
    have hc := made_any .nil .nil k v w hl hr (by decide)
    have hs : Hid (Joined w.heap.size k v .nil .nil (.node w.heap.size k v .nil .nil)) := hide (.mid (by decide) (by decide) (Nat.le_refl _))
    simp only [T.ptr, T.h] at e1 hc ⊢
    clear hl hr z1 z2
    go_enter Tryz.func166, Tryz.ntmps166
    go_wp2_with (first
      | (go_at_call 163; refine e1.mono ?_; rintro e w' ⟨rfl, rfl⟩)
      | (go_at_call 130; refine hc.mono ?_; rintro e w' ⟨rfl, hg, hb⟩))
    go_ret
    exact ⟨_, ⟨rfl, hg, hb⟩, hs.out⟩
  | succ N ih =>
    intro l r w hNn hN hl hr
    have e1 := height_any l w hl
    have e2 := height_any r w hr
    have z1 := l.h_le_n
    have z2 := r.h_le_n
    have tk : True := trivial
    by_cases c1 : r.h + 1 < l.h
    · obtain ⟨lp, lk, lv, ll, lr, rfl⟩ := T.h_pos (t := l) (by omega)
      have q2 := hl.cells.c2
      have q3 := hl.cells.c3
      have b1 : ∀ W, Below w.heap.size w W → Calls Tryz.prog 166 #[lr.ptr, .string k, .string v, r.ptr] W fun e w' => ∃ m, Gives W e w' m ∧ Joined W.heap.size k v lr r m := fun W hW => ih lr r W (by simp only [T.n] at hNn; omega) (by omega) (In.below hW hl.2.2) (In.below hW hr)
      have b2 : ∀ W m, Below w.heap.size w W → In W m → m.n = lr.n + r.n + 1 → Calls Tryz.prog 196 #[.pointer (some ⟨lp, 0, none⟩), ll.ptr, m.ptr] W fun e w' => ∃ t, Gives W e w' t ∧ Settled W.heap.size lk lv ll m t := fun W m hW hm hmn => settled_any ll m W (In.below hW hl) (In.below hW hl.2.1) hm (by simp only [T.n] at hNn; omega)
      have HF := hide (show ∀ m t B C, w.heap.size ≤ B → w.heap.size ≤ C → Joined B k v lr r m → Settled C lk lv ll m t → Joined w.heap.size k v (.node lp lk lv ll lr) r t from fun m t B C hB hC hj hs => .left c1 (hj.mono hB) (hs.mono hC))
      have d1 : decide ((1 : Int) < (((T.node lp lk lv ll lr).h : Nat) : Int) - ((r.h : Nat) : Int)) = true := by simp only [decide_eq_true_eq]; omega
      have d1' : (1 : Int) < (((T.node lp lk lv ll lr).h : Nat) : Int) - ((r.h : Nat) : Int) := by omega
      have w1 : IntKind.i64.wrap ((((T.node lp lk lv ll lr).h : Nat) : Int) - ((r.h : Nat) : Int)) = (((T.node lp lk lv ll lr).h : Nat) : Int) - ((r.h : Nat) : Int) := by rw [IntKind.wrap_i64]; omega
      have w2 : wrap64 ((((T.node lp lk lv ll lr).h : Nat) : Int) - ((r.h : Nat) : Int)) = (((T.node lp lk lv ll lr).h : Nat) : Int) - ((r.h : Nat) : Int) := by unfold wrap64; omega
      obtain ⟨ax, hax⟩ := r.ptr_shape
      obtain ⟨ai, hai⟩ := lr.ptr_shape
      obtain ⟨ao, hao⟩ := ll.ptr_shape
      rw [node_ptr] at e1 ⊢
      rw [hax] at e2 ⊢
      simp only [hai, hax] at b1
      simp only [hao] at b2
      rw [hao] at q2
      rw [hai] at q3
      have hS : w.cell? ⟨lp, 2, none⟩ = some (.pointer ao) ∧ w.cell? ⟨lp, 3, none⟩ = some (.pointer ai) := ⟨q2, q3⟩
      have tk1 : True := trivial
      clear hl hr hNn hN c1 z1 z2 hax hai hao ih q2 q3
      generalize (T.node lp lk lv ll lr).h = X at *
      generalize r.h = Y at *
      go_enter Tryz.func166, Tryz.ntmps166
      go_wp2_with (first
        | (go_at_call 163; clear tk; refine e1.mono ?_; rintro e w' ⟨rfl, hw⟩; replace hw := hw.symm; subst hw)
        | (go_at_call 163; refine e2.mono ?_; rintro e w' ⟨rfl, hw⟩; replace hw := hw.symm; subst hw))
      have hB0 : Below w.heap.size w w := Below.refl _ w
      go_region_held3 (fun w' => w'.cell? ⟨lp, 2, none⟩ = some (.pointer ao) ∧ w'.cell? ⟨lp, 3, none⟩ = some (.pointer ai)) (first | exact hS | exact keep2 hS (by assumption) | exact keep2 (by assumption) (by assumption))
        (first
          | (go_at_call 166; clear tk1; refine (b1 _ hB0.drew).mono ?_; rintro e w1 ⟨m, hg, hj⟩; have he := hg.1; have hb1 := hg.2.2; have HI1 := hide hg.2.1; have hmn := hj.n; have HJ := hide hj; clear hg hj; obtain ⟨am, ham⟩ := m.ptr_shape; rw [ham] at he; subst he; have hB1 := hB0.drew.trans (hb1.mono hB0.size); have hb22 := b2 w1 m hB1 HI1.out hmn; rw [ham] at hb22)
          | (go_at_call 196; refine hb22.mono ?_; rintro e w2 ⟨t, hg, hs⟩; have he := hg.1; have hb2 := hg.2.2; have HI2 := hide hg.2.1; have HS := hide hs; clear hg hs; obtain ⟨at_, hat⟩ := t.ptr_shape; have HT := hide hat; rw [hat] at he; subst he; have hB2 := hB1.trans (hb2.mono hB1.size)))
      go_wp2
      go_ret
      exact ⟨t, ⟨by rw [HT.out]; rfl, HI2.out, hB2⟩, HF.out _ _ _ _ (Nat.le_refl _) hB1.size HJ.out HS.out⟩

    · by_cases c2 : l.h + 1 < r.h
      · obtain ⟨rp, rk, rv, rl, rr, rfl⟩ := T.h_pos (t := r) (by omega)
        have q3 := hr.cells.c3
        have q2 := hr.cells.c2
        have b1 : ∀ W, Below w.heap.size w W → Calls Tryz.prog 166 #[l.ptr, .string k, .string v, rl.ptr] W fun e w' => ∃ m, Gives W e w' m ∧ Joined W.heap.size k v l rl m := fun W hW => ih l rl W (by simp only [T.n] at hNn; omega) (by omega) (In.below hW hl) (In.below hW hr.2.1)
        have b2 : ∀ W m, Below w.heap.size w W → In W m → m.n = l.n + rl.n + 1 → Calls Tryz.prog 196 #[.pointer (some ⟨rp, 0, none⟩), m.ptr, rr.ptr] W fun e w' => ∃ t, Gives W e w' t ∧ Settled W.heap.size rk rv m rr t := fun W m hW hm hmn => settled_any m rr W (In.below hW hr) hm (In.below hW hr.2.2) (by simp only [T.n] at hNn; omega)
        have HF := hide (show ∀ m t B C, w.heap.size ≤ B → w.heap.size ≤ C → Joined B k v l rl m → Settled C rk rv m rr t → Joined w.heap.size k v l (.node rp rk rv rl rr) t from fun m t B C hB hC hj hs => .right c2 (hj.mono hB) (hs.mono hC))
        have d1 : decide ((1 : Int) < ((l.h : Nat) : Int) - (((T.node rp rk rv rl rr).h : Nat) : Int)) = false := by simp only [decide_eq_false_iff_not]; omega
        have d1' : ¬ (1 : Int) < ((l.h : Nat) : Int) - (((T.node rp rk rv rl rr).h : Nat) : Int) := by omega
        have d2 : decide (((l.h : Nat) : Int) - (((T.node rp rk rv rl rr).h : Nat) : Int) < (-1 : Int)) = true := by simp only [decide_eq_true_eq]; omega
        have d2' : ((l.h : Nat) : Int) - (((T.node rp rk rv rl rr).h : Nat) : Int) < (-1 : Int) := by omega
        have w1 : IntKind.i64.wrap (((l.h : Nat) : Int) - (((T.node rp rk rv rl rr).h : Nat) : Int)) = ((l.h : Nat) : Int) - (((T.node rp rk rv rl rr).h : Nat) : Int) := by rw [IntKind.wrap_i64]; omega
        have w2 : wrap64 (((l.h : Nat) : Int) - (((T.node rp rk rv rl rr).h : Nat) : Int)) = ((l.h : Nat) : Int) - (((T.node rp rk rv rl rr).h : Nat) : Int) := by unfold wrap64; omega
        obtain ⟨ax, hax⟩ := l.ptr_shape
        obtain ⟨ai, hai⟩ := rl.ptr_shape
        obtain ⟨ao, hao⟩ := rr.ptr_shape
        rw [node_ptr] at e2 ⊢
        rw [hax] at e1 ⊢
        simp only [hai, hax] at b1
        simp only [hao] at b2
        rw [hao] at q3
        rw [hai] at q2
        have hS : w.cell? ⟨rp, 3, none⟩ = some (.pointer ao) ∧ w.cell? ⟨rp, 2, none⟩ = some (.pointer ai) := ⟨q3, q2⟩
        have tk1 : True := trivial
        clear hl hr hNn hN c1 c2 z1 z2 hax hai hao ih q3 q2
        generalize (T.node rp rk rv rl rr).h = X at *
        generalize l.h = Y at *
        go_enter Tryz.func166, Tryz.ntmps166
        go_wp2_with (first
          | (go_at_call 163; clear tk; refine e1.mono ?_; rintro e w' ⟨rfl, hw⟩; replace hw := hw.symm; subst hw)
          | (go_at_call 163; refine e2.mono ?_; rintro e w' ⟨rfl, hw⟩; replace hw := hw.symm; subst hw))
        have hB0 : Below w.heap.size w w := Below.refl _ w
        go_region_held3 (fun w' => w'.cell? ⟨rp, 3, none⟩ = some (.pointer ao) ∧ w'.cell? ⟨rp, 2, none⟩ = some (.pointer ai)) (first | exact hS | exact keep2 hS (by assumption) | exact keep2 (by assumption) (by assumption))
          (first
            | (go_at_call 166; clear tk1; refine (b1 _ hB0.drew).mono ?_; rintro e w1 ⟨m, hg, hj⟩; have he := hg.1; have hb1 := hg.2.2; have HI1 := hide hg.2.1; have hmn := hj.n; have HJ := hide hj; clear hg hj; obtain ⟨am, ham⟩ := m.ptr_shape; rw [ham] at he; subst he; have hB1 := hB0.drew.trans (hb1.mono hB0.size); have hb22 := b2 w1 m hB1 HI1.out hmn; rw [ham] at hb22)
            | (go_at_call 196; refine hb22.mono ?_; rintro e w2 ⟨t, hg, hs⟩; have he := hg.1; have hb2 := hg.2.2; have HI2 := hide hg.2.1; have HS := hide hs; clear hg hs; obtain ⟨at_, hat⟩ := t.ptr_shape; have HT := hide hat; rw [hat] at he; subst he; have hB2 := hB1.trans (hb2.mono hB1.size)))
        go_wp2
        go_ret
        exact ⟨t, ⟨by rw [HT.out]; rfl, HI2.out, hB2⟩, HF.out _ _ _ _ (Nat.le_refl _) hB1.size HJ.out HS.out⟩

      · have hc := made_any l r k v w hl hr (by omega)
        have hs : Hid (Joined w.heap.size k v l r (.node w.heap.size k v l r)) := hide (.mid (by omega) (by omega) (Nat.le_refl _))
        have d1 : decide ((1 : Int) < ((l.h : Nat) : Int) - ((r.h : Nat) : Int)) = false := by simp only [decide_eq_false_iff_not]; omega
        have d1' : ¬ (1 : Int) < ((l.h : Nat) : Int) - ((r.h : Nat) : Int) := by omega
        have d2 : decide (((l.h : Nat) : Int) - ((r.h : Nat) : Int) < (-1 : Int)) = false := by simp only [decide_eq_false_iff_not]; omega
        have d2' : ¬ ((l.h : Nat) : Int) - ((r.h : Nat) : Int) < (-1 : Int) := by omega
        have w1 : IntKind.i64.wrap (((l.h : Nat) : Int) - ((r.h : Nat) : Int)) = ((l.h : Nat) : Int) - ((r.h : Nat) : Int) := by rw [IntKind.wrap_i64]; omega
        have w2 : wrap64 (((l.h : Nat) : Int) - ((r.h : Nat) : Int)) = ((l.h : Nat) : Int) - ((r.h : Nat) : Int) := by unfold wrap64; omega
        obtain ⟨a, ha⟩ := l.ptr_shape
        obtain ⟨b, hb⟩ := r.ptr_shape
        rw [ha] at e1 hc ⊢
        rw [hb] at e2 hc ⊢
        clear c1 c2 hNn hN hl hr ha hb z1 z2 ih
        generalize hX : l.h = X at *
        generalize hY : r.h = Y at *
        clear hX hY
        go_enter Tryz.func166, Tryz.ntmps166
        go_wp2_with (first
          | (go_at_call 163; clear tk; refine e1.mono ?_; rintro e w' ⟨rfl, hw⟩; replace hw := hw.symm; subst hw)
          | (go_at_call 163; refine e2.mono ?_; rintro e w' ⟨rfl, hw⟩; replace hw := hw.symm; subst hw)
          | (go_at_call 130; refine hc.mono ?_; rintro e w' ⟨rfl, hg, hb⟩))
        go_ret
        exact ⟨_, ⟨rfl, hg, hb⟩, hs.out⟩
end Go.Proofs.YtkeldhohilmdcaaGreat.Pm
