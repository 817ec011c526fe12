/-
  NODES PUT TOGETHER: between, turnedRight, turnedLeft, settled, join, joining, as the program has them.
-/
import Derived.Test.YtkeldhohilmdcaaGreatPNode
namespace Go.Proofs.YtkeldhohilmdcaaGreat.Pm
open Go.RowKit Go.Shelf
set_option linter.unusedSimpArgs false

theorem Gives.grow {w w1 : World} {e : Ending} {w' : World} {t : T} (h : Gives w1 e w' t) (hb : Below w.heap.size w w1) : Gives w e w' t := ⟨h.1, h.2.1, hb.trans (h.2.2.mono hb.size)⟩
theorem cell_stays {w w' : World} {a : Addr} {x : Value} (h : w.cell? a = some x) (hb : Below w.heap.size w w') : w'.cell? a = some x := by
  rw [hb.cell (World.block_lt_of_cell? w _ h)]; exact h
theorem keep2 {w w' : World} {a b : Addr} {x y : Value} (h : w.cell? a = some x ∧ w.cell? b = some y) (hb : Below w.heap.size w w') : w'.cell? a = some x ∧ w'.cell? b = some y := ⟨cell_stays h.1 hb, cell_stays h.2 hb⟩
theorem keep3 {w w' : World} {a b c : Addr} {x y z : Value} (h : w.cell? a = some x ∧ w.cell? b = some y ∧ w.cell? c = some z) (hb : Below w.heap.size w w') : w'.cell? a = some x ∧ w'.cell? b = some y ∧ w'.cell? c = some z := ⟨cell_stays h.1 hb, keep2 h.2 hb⟩
theorem In.drew {w : World} {t : T} (h : In w t) : In w.drew t := In.below (Below.refl _ w).drew h

set_option maxHeartbeats 1000000 in
theorem between_any {p : Nat} {k : ByteArray} {v : ByteArray} {l0 r0 : T} (l r : T) (w : World) (h : In w (.node p k v l0 r0)) (hl : In w l) (hr : In w r) (hn : l.n + r.n ≤ 1000000) :
    Calls Tryz.prog 220 #[.pointer (some ⟨p, 0, none⟩), l.ptr, r.ptr] w fun e w' => Gives w e w' (.node w.heap.size k v l r) := by
  obtain ⟨c0, c1, c2, c3, c4, c5⟩ := h.cells
  have hm := made_any l r k v w.drew hl.drew hr.drew hn
  have hG : ∀ e w', Gives w.drew e w' (.node w.drew.heap.size k v l r) → Hid (Gives w e w' (.node w.heap.size k v l r)) ∧ e = .returned (.pointer (some ⟨w.heap.size, 0, none⟩)) ∧ Below w.heap.size w w' := fun e w' h => ⟨h.grow (Below.refl _ w).drew, h.1, (h.grow (Below.refl _ w).drew).2.2⟩
  obtain ⟨a, ha⟩ := l.ptr_shape
  obtain ⟨b, hb⟩ := r.ptr_shape
  rw [ha] at hm ⊢
  rw [hb] at hm ⊢
  have hS : w.cell? ⟨p, 0, none⟩ = some (.string k) ∧ w.cell? ⟨p, 1, none⟩ = some (.string v) := ⟨c0, c1⟩
  clear c0 c1 c2 c3 c4 c5 h hl hr ha hb
  go_enter Tryz.func220, Tryz.ntmps220
  go_wp2_with fail
  go_region_held3 (fun w' => w'.cell? ⟨p, 0, none⟩ = some (.string k) ∧ w'.cell? ⟨p, 1, none⟩ = some (.string v)) (first | exact hS | exact keep2 hS (by assumption))
    (first | (go_at_call 130; refine hm.mono ?_; intro e w' hg; obtain ⟨HG, rfl, hb2⟩ := hG e w' hg))
  go_wp2
  go_ret
  exact HG.out

set_option maxHeartbeats 2000000 in
set_option maxRecDepth 100000 in
theorem turnedRight_any {pn : Nat} {k : ByteArray} {v : ByteArray} {nl nr : T} (lp : Nat) (lk : ByteArray) (lv : ByteArray) (ll i r : T) (w : World) (hN : In w (.node pn k v nl nr)) (hH : In w (T.node lp lk lv ll i)) (hx : In w r) (hh : r.h + 1 < (T.node lp lk lv ll i).h) (hn : (T.node lp lk lv ll i).n + r.n ≤ 900000) :
    Calls Tryz.prog 218 #[.pointer (some ⟨pn, 0, none⟩), .pointer (some ⟨lp, 0, none⟩), r.ptr] w fun e w' => ∃ t, Gives w e w' t ∧ Settled w.heap.size k v (T.node lp lk lv ll i) r t := by
  have q2 := hH.cells.c2
  have q3 := hH.cells.c3
  obtain ⟨ax, hax⟩ := r.ptr_shape
  obtain ⟨ao, hao⟩ := ll.ptr_shape
  have e1 := fun n => height_any i (w.drewN n) (In.below (below_drew w n) hH.2.2)
  have e2 := fun n => height_any ll (w.drewN n) (In.below (below_drew w n) hH.2.1)
  have toB : ∀ {n : Nat} {W : World}, Below (w.drewN n).heap.size (w.drewN n) W → Below w.heap.size w W := fun h => (below_drew w _).trans h
  by_cases hc : ll.h < i.h
  · obtain ⟨ip, ik, iv, il, ir, rfl⟩ := T.h_pos (t := i) (by omega)
    have d2 := hH.2.2.cells.c2
    have d3 := hH.2.2.cells.c3
    have b1 : ∀ W, Below w.heap.size w W → Calls Tryz.prog 220 #[.pointer (some ⟨lp, 0, none⟩), ll.ptr, il.ptr] W fun e w' => Gives W e w' (.node W.heap.size lk lv ll il) := fun W hW => between_any ll il W (In.below hW hH) (In.below hW hH.2.1) (In.below hW hH.2.2.2.1) (by simp only [T.n] at hn; omega)
    have b2 : ∀ W, Below w.heap.size w W → Calls Tryz.prog 220 #[.pointer (some ⟨pn, 0, none⟩), ir.ptr, r.ptr] W fun e w' => Gives W e w' (.node W.heap.size k v ir r) := fun W hW => between_any ir r W (In.below hW hN) (In.below hW hH.2.2.2.2) (In.below hW hx) (by simp only [T.n] at hn; omega)
    have b3 : ∀ W A C, Below w.heap.size w W → In W (T.node A lk lv ll il) → In W (T.node C k v ir r) → Calls Tryz.prog 220 #[.pointer (some ⟨ip, 0, none⟩), .pointer (some ⟨A, 0, none⟩), .pointer (some ⟨C, 0, none⟩)] W fun e w' => Gives W e w' (.node W.heap.size ik iv (T.node A lk lv ll il) (T.node C k v ir r)) := fun W A C hW h1 h2 => between_any (T.node A lk lv ll il) (T.node C k v ir r) W (In.below hW hH.2.2) h1 h2 (by simp only [T.n] at hn ⊢; omega)
    have hfin : ∀ A C D, w.heap.size ≤ A → w.heap.size ≤ C → w.heap.size ≤ D → Settled w.heap.size k v (T.node lp lk lv ll (.node ip ik iv il ir)) r (T.node D ik iv (T.node A lk lv ll il) (T.node C k v ir r)) := fun A C D hA hC hD => .rightIn (ip := ip) hh hc hD hA hC
    obtain ⟨il', hil⟩ := il.ptr_shape
    obtain ⟨ir', hir⟩ := ir.ptr_shape
    have ei : (T.node ip ik iv il ir).ptr = .pointer (some ⟨ip, 0, none⟩) := rfl
    rw [ei] at q3 e1
    rw [hao] at q2 e2
    rw [hil] at d2
    rw [hir] at d3
    rw [hax]
    simp only [hao, hil] at b1
    simp only [hax, hir] at b2
    have hcz : decide ((((ll.h : Nat)) : Int) < (((T.node ip ik iv il ir).h : Nat) : Int)) = true := by simp only [decide_eq_true_eq]; exact_mod_cast hc
    have hcz' : ((((ll.h : Nat)) : Int) < (((T.node ip ik iv il ir).h : Nat) : Int)) := by exact_mod_cast hc
    have HF := hide hfin
    have tk1 : True := trivial
    have tk2 : True := trivial
    have hS : w.cell? ⟨lp, 2, none⟩ = some (.pointer ao) ∧ w.cell? ⟨ip, 2, none⟩ = some (.pointer il') ∧ w.cell? ⟨ip, 3, none⟩ = some (.pointer ir') := ⟨q2, d2, d3⟩
    clear hN hH hx hh hn hfin hc hax hao hil hir ei
    generalize ll.h = X at e2 hcz hcz'
    generalize (T.node ip ik iv il ir).h = Y at e1 hcz hcz'
    go_enter Tryz.func218, Tryz.ntmps218
    go_wp2_with fail
    go_quiet (first | (go_at_call_of 163 ao; refine Calls.quiet_of_same (e2 _)) | (go_at_call 163; refine Calls.quiet_of_same (e1 _)))
    clear e1 e2
    go_wp2_with fail
    obtain ⟨w0, hw0⟩ : ∃ w0, w0 = w.drewN nq := ⟨_, rfl⟩
    rw [← hw0]
    have hB0 : Below w.heap.size w w0 := by rw [hw0]; exact below_drew w nq
    have hS0 := keep3 hS hB0
    clear hw0 toB q2 q3 d2 d3 hS hcz hcz'
    go_region_held3 (fun w' => w'.cell? ⟨lp, 2, none⟩ = some (.pointer ao) ∧ w'.cell? ⟨ip, 2, none⟩ = some (.pointer il') ∧ w'.cell? ⟨ip, 3, none⟩ = some (.pointer ir')) (first | exact hS0 | exact keep3 hS0 (by assumption) | exact keep3 (by assumption) (by assumption))
      (first
        | (go_at_call 220; clear tk1; refine (b1 _ hB0.drew).mono ?_; intro e w1 hg; have he := hg.1; have hb1 := hg.2.2; have HI1 := hide hg.2.1; clear hg; subst he; have hB1 := hB0.drew.trans (hb1.mono hB0.size))
        | (go_at_call 220; clear tk2; refine (b2 _ hB1).mono ?_; intro e w2 hg; have he := hg.1; have hb2 := hg.2.2; have HI2 := hide hg.2.1; clear hg; subst he; have hB2 := hB1.trans (hb2.mono hB1.size))
        | (go_at_call 220; refine (b3 _ _ _ hB2 (In.below hb2 HI1.out) HI2.out).mono ?_; intro e w3 hg; have he := hg.1; have hb3 := hg.2.2; have HI3 := hide hg.2.1; clear hg; subst he; have hB3 := hB2.trans (hb3.mono hB2.size)))
    go_wp2
    go_ret
    exact ⟨_, ⟨rfl, HI3.out, hB3⟩, HF.out _ _ _ hB0.size hB1.size hB2.size⟩
  · have b1 : ∀ W, Below w.heap.size w W → Calls Tryz.prog 220 #[.pointer (some ⟨pn, 0, none⟩), i.ptr, r.ptr] W fun e w' => Gives W e w' (.node W.heap.size k v i r) := fun W hW => between_any i r W (In.below hW hN) (In.below hW hH.2.2) (In.below hW hx) (by simp only [T.n] at hn; omega)
    have b2 : ∀ W A, Below w.heap.size w W → In W (T.node A k v i r) → Calls Tryz.prog 220 #[.pointer (some ⟨lp, 0, none⟩), ll.ptr, .pointer (some ⟨A, 0, none⟩)] W fun e w' => Gives W e w' (.node W.heap.size lk lv ll (.node A k v i r)) := fun W A hW h1 => between_any ll (.node A k v i r) W (In.below hW hH) (In.below hW hH.2.1) h1 (by simp only [T.n] at hn ⊢; omega)
    have hfin : ∀ A C, w.heap.size ≤ A → w.heap.size ≤ C → Settled w.heap.size k v (T.node lp lk lv ll i) r (T.node C lk lv ll (.node A k v i r)) := fun A C hA hC => .rightOut hh (by omega) hC hA
    obtain ⟨ai, hai⟩ := i.ptr_shape
    rw [hai] at q3 e1
    rw [hao] at q2 e2
    rw [hax]
    simp only [hax, hai] at b1
    simp only [hao] at b2
    have hcz : decide ((((ll.h : Nat)) : Int) < ((i.h : Nat) : Int)) = false := by simp only [decide_eq_false_iff_not]; intro h; exact hc (by exact_mod_cast h)
    have hcz' : ¬ ((((ll.h : Nat)) : Int) < ((i.h : Nat) : Int)) := by intro h; exact hc (by exact_mod_cast h)
    have HF := hide hfin
    have tk1 : True := trivial
    have hS : w.cell? ⟨lp, 2, none⟩ = some (.pointer ao) := q2
    clear hN hH hx hh hn hfin hc hax hao hai
    generalize ll.h = X at e2 hcz hcz'
    generalize i.h = Y at e1 hcz hcz'
    go_enter Tryz.func218, Tryz.ntmps218
    go_wp2_with fail
    go_quiet (first | (go_at_call_of 163 ao; refine Calls.quiet_of_same (e2 _)) | (go_at_call 163; refine Calls.quiet_of_same (e1 _)))
    clear e1 e2
    go_wp2_with fail
    obtain ⟨w0, hw0⟩ : ∃ w0, w0 = w.drewN nq := ⟨_, rfl⟩
    rw [← hw0]
    have hB0 : Below w.heap.size w w0 := by rw [hw0]; exact below_drew w nq
    have hS0 := cell_stays hS hB0
    clear hw0 toB q2 q3 hS hcz hcz'
    go_region_held3 (fun w' => w'.cell? ⟨lp, 2, none⟩ = some (.pointer ao)) (first | exact hS0 | exact cell_stays hS0 (by assumption) | exact cell_stays (by assumption) (by assumption))
      (first
        | (go_at_call 220; clear tk1; refine (b1 _ hB0.drew).mono ?_; intro e w1 hg; have he := hg.1; have hb1 := hg.2.2; have HI1 := hide hg.2.1; clear hg; subst he; have hB1 := hB0.drew.trans (hb1.mono hB0.size))
        | (go_at_call 220; refine (b2 _ _ hB1 HI1.out).mono ?_; intro e w2 hg; have he := hg.1; have hb2 := hg.2.2; have HI2 := hide hg.2.1; clear hg; subst he; have hB2 := hB1.trans (hb2.mono hB1.size)))
    go_wp2
    go_ret
    exact ⟨_, ⟨rfl, HI2.out, hB2⟩, HF.out _ _ hB0.size hB1.size⟩

set_option maxHeartbeats 2000000 in
set_option maxRecDepth 100000 in
theorem turnedLeft_any {pn : Nat} {k : ByteArray} {v : ByteArray} {nl nr : T} (rp : Nat) (rk : ByteArray) (rv : ByteArray) (rr i l : T) (w : World) (hN : In w (.node pn k v nl nr)) (hH : In w (T.node rp rk rv i rr)) (hx : In w l) (hh : l.h + 1 < (T.node rp rk rv i rr).h) (hn : (T.node rp rk rv i rr).n + l.n ≤ 900000) :
    Calls Tryz.prog 219 #[.pointer (some ⟨pn, 0, none⟩), l.ptr, .pointer (some ⟨rp, 0, none⟩)] w fun e w' => ∃ t, Gives w e w' t ∧ Settled w.heap.size k v l (T.node rp rk rv i rr) t := by
  have q3 := hH.cells.c3
  have q2 := hH.cells.c2
  obtain ⟨ax, hax⟩ := l.ptr_shape
  obtain ⟨ao, hao⟩ := rr.ptr_shape
  have e1 := fun n => height_any i (w.drewN n) (In.below (below_drew w n) hH.2.1)
  have e2 := fun n => height_any rr (w.drewN n) (In.below (below_drew w n) hH.2.2)
  have toB : ∀ {n : Nat} {W : World}, Below (w.drewN n).heap.size (w.drewN n) W → Below w.heap.size w W := fun h => (below_drew w _).trans h
  by_cases hc : rr.h < i.h
  · obtain ⟨ip, ik, iv, il, ir, rfl⟩ := T.h_pos (t := i) (by omega)
    have d2 := hH.2.1.cells.c2
    have d3 := hH.2.1.cells.c3
    have b1 : ∀ W, Below w.heap.size w W → Calls Tryz.prog 220 #[.pointer (some ⟨pn, 0, none⟩), l.ptr, il.ptr] W fun e w' => Gives W e w' (.node W.heap.size k v l il) := fun W hW => between_any l il W (In.below hW hN) (In.below hW hx) (In.below hW hH.2.1.2.1) (by simp only [T.n] at hn; omega)
    have b2 : ∀ W, Below w.heap.size w W → Calls Tryz.prog 220 #[.pointer (some ⟨rp, 0, none⟩), ir.ptr, rr.ptr] W fun e w' => Gives W e w' (.node W.heap.size rk rv ir rr) := fun W hW => between_any ir rr W (In.below hW hH) (In.below hW hH.2.1.2.2) (In.below hW hH.2.2) (by simp only [T.n] at hn; omega)
    have b3 : ∀ W A C, Below w.heap.size w W → In W (T.node A k v l il) → In W (T.node C rk rv ir rr) → Calls Tryz.prog 220 #[.pointer (some ⟨ip, 0, none⟩), .pointer (some ⟨A, 0, none⟩), .pointer (some ⟨C, 0, none⟩)] W fun e w' => Gives W e w' (.node W.heap.size ik iv (T.node A k v l il) (T.node C rk rv ir rr)) := fun W A C hW h1 h2 => between_any (T.node A k v l il) (T.node C rk rv ir rr) W (In.below hW hH.2.1) h1 h2 (by simp only [T.n] at hn ⊢; omega)
    have hfin : ∀ A C D, w.heap.size ≤ A → w.heap.size ≤ C → w.heap.size ≤ D → Settled w.heap.size k v l (T.node rp rk rv (.node ip ik iv il ir) rr) (T.node D ik iv (T.node A k v l il) (T.node C rk rv ir rr)) := fun A C D hA hC hD => .leftIn (ip := ip) hh hc hD hA hC
    obtain ⟨il', hil⟩ := il.ptr_shape
    obtain ⟨ir', hir⟩ := ir.ptr_shape
    have ei : (T.node ip ik iv il ir).ptr = .pointer (some ⟨ip, 0, none⟩) := rfl
    rw [ei] at q2 e1
    rw [hao] at q3 e2
    rw [hil] at d2
    rw [hir] at d3
    rw [hax]
    simp only [hax, hil] at b1
    simp only [hao, hir] at b2
    have hcz : decide ((((rr.h : Nat)) : Int) < (((T.node ip ik iv il ir).h : Nat) : Int)) = true := by simp only [decide_eq_true_eq]; exact_mod_cast hc
    have hcz' : ((((rr.h : Nat)) : Int) < (((T.node ip ik iv il ir).h : Nat) : Int)) := by exact_mod_cast hc
    have HF := hide hfin
    have tk1 : True := trivial
    have tk2 : True := trivial
    have hS : w.cell? ⟨rp, 3, none⟩ = some (.pointer ao) ∧ w.cell? ⟨ip, 2, none⟩ = some (.pointer il') ∧ w.cell? ⟨ip, 3, none⟩ = some (.pointer ir') := ⟨q3, d2, d3⟩
    clear hN hH hx hh hn hfin hc hax hao hil hir ei
    generalize rr.h = X at e2 hcz hcz'
    generalize (T.node ip ik iv il ir).h = Y at e1 hcz hcz'
    go_enter Tryz.func219, Tryz.ntmps219
    go_wp2_with fail
    go_quiet (first | (go_at_call_of 163 ao; refine Calls.quiet_of_same (e2 _)) | (go_at_call 163; refine Calls.quiet_of_same (e1 _)))
    clear e1 e2
    go_wp2_with fail
    obtain ⟨w0, hw0⟩ : ∃ w0, w0 = w.drewN nq := ⟨_, rfl⟩
    rw [← hw0]
    have hB0 : Below w.heap.size w w0 := by rw [hw0]; exact below_drew w nq
    have hS0 := keep3 hS hB0
    clear hw0 toB q3 q2 d2 d3 hS hcz hcz'
    go_region_held3 (fun w' => w'.cell? ⟨rp, 3, none⟩ = some (.pointer ao) ∧ w'.cell? ⟨ip, 2, none⟩ = some (.pointer il') ∧ w'.cell? ⟨ip, 3, none⟩ = some (.pointer ir')) (first | exact hS0 | exact keep3 hS0 (by assumption) | exact keep3 (by assumption) (by assumption))
      (first
        | (go_at_call 220; clear tk1; refine (b1 _ hB0.drew).mono ?_; intro e w1 hg; have he := hg.1; have hb1 := hg.2.2; have HI1 := hide hg.2.1; clear hg; subst he; have hB1 := hB0.drew.trans (hb1.mono hB0.size))
        | (go_at_call 220; clear tk2; refine (b2 _ hB1).mono ?_; intro e w2 hg; have he := hg.1; have hb2 := hg.2.2; have HI2 := hide hg.2.1; clear hg; subst he; have hB2 := hB1.trans (hb2.mono hB1.size))
        | (go_at_call 220; refine (b3 _ _ _ hB2 (In.below hb2 HI1.out) HI2.out).mono ?_; intro e w3 hg; have he := hg.1; have hb3 := hg.2.2; have HI3 := hide hg.2.1; clear hg; subst he; have hB3 := hB2.trans (hb3.mono hB2.size)))
    go_wp2
    go_ret
    exact ⟨_, ⟨rfl, HI3.out, hB3⟩, HF.out _ _ _ hB0.size hB1.size hB2.size⟩
  · have b1 : ∀ W, Below w.heap.size w W → Calls Tryz.prog 220 #[.pointer (some ⟨pn, 0, none⟩), l.ptr, i.ptr] W fun e w' => Gives W e w' (.node W.heap.size k v l i) := fun W hW => between_any l i W (In.below hW hN) (In.below hW hx) (In.below hW hH.2.1) (by simp only [T.n] at hn; omega)
    have b2 : ∀ W A, Below w.heap.size w W → In W (T.node A k v l i) → Calls Tryz.prog 220 #[.pointer (some ⟨rp, 0, none⟩), .pointer (some ⟨A, 0, none⟩), rr.ptr] W fun e w' => Gives W e w' (.node W.heap.size rk rv (.node A k v l i) rr) := fun W A hW h1 => between_any (.node A k v l i) rr W (In.below hW hH) h1 (In.below hW hH.2.2) (by simp only [T.n] at hn ⊢; omega)
    have hfin : ∀ A C, w.heap.size ≤ A → w.heap.size ≤ C → Settled w.heap.size k v l (T.node rp rk rv i rr) (T.node C rk rv (.node A k v l i) rr) := fun A C hA hC => .leftOut hh (by omega) hC hA
    obtain ⟨ai, hai⟩ := i.ptr_shape
    rw [hai] at q2 e1
    rw [hao] at q3 e2
    rw [hax]
    simp only [hax, hai] at b1
    simp only [hao] at b2
    have hcz : decide ((((rr.h : Nat)) : Int) < ((i.h : Nat) : Int)) = false := by simp only [decide_eq_false_iff_not]; intro h; exact hc (by exact_mod_cast h)
    have hcz' : ¬ ((((rr.h : Nat)) : Int) < ((i.h : Nat) : Int)) := by intro h; exact hc (by exact_mod_cast h)
    have HF := hide hfin
    have tk1 : True := trivial
    have hS : w.cell? ⟨rp, 3, none⟩ = some (.pointer ao) := q3
    clear hN hH hx hh hn hfin hc hax hao hai
    generalize rr.h = X at e2 hcz hcz'
    generalize i.h = Y at e1 hcz hcz'
    go_enter Tryz.func219, Tryz.ntmps219
    go_wp2_with fail
    go_quiet (first | (go_at_call_of 163 ao; refine Calls.quiet_of_same (e2 _)) | (go_at_call 163; refine Calls.quiet_of_same (e1 _)))
    clear e1 e2
    go_wp2_with fail
    obtain ⟨w0, hw0⟩ : ∃ w0, w0 = w.drewN nq := ⟨_, rfl⟩
    rw [← hw0]
    have hB0 : Below w.heap.size w w0 := by rw [hw0]; exact below_drew w nq
    have hS0 := cell_stays hS hB0
    clear hw0 toB q3 q2 hS hcz hcz'
    go_region_held3 (fun w' => w'.cell? ⟨rp, 3, none⟩ = some (.pointer ao)) (first | exact hS0 | exact cell_stays hS0 (by assumption) | exact cell_stays (by assumption) (by assumption))
      (first
        | (go_at_call 220; clear tk1; refine (b1 _ hB0.drew).mono ?_; intro e w1 hg; have he := hg.1; have hb1 := hg.2.2; have HI1 := hide hg.2.1; clear hg; subst he; have hB1 := hB0.drew.trans (hb1.mono hB0.size))
        | (go_at_call 220; refine (b2 _ _ hB1 HI1.out).mono ?_; intro e w2 hg; have he := hg.1; have hb2 := hg.2.2; have HI2 := hide hg.2.1; clear hg; subst he; have hB2 := hB1.trans (hb2.mono hB1.size)))
    go_wp2
    go_ret
    exact ⟨_, ⟨rfl, HI2.out, hB2⟩, HF.out _ _ hB0.size hB1.size⟩
end Go.Proofs.YtkeldhohilmdcaaGreat.Pm
