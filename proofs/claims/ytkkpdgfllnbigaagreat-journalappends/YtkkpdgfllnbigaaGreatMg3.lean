/-
  NODES PUT TOGETHER: between, turnedRight, turnedLeft, settled, join, joining, as the program has them.
  TREES JOINED: settled, join, joining, as the program has them.
-/
import Derived.Test.YtkkpdgfllnbigaaGreatMg2
namespace Go.Proofs.YtkkpdgfllnbigaaGreat.Pm
open Go.RowKit Go.Shelf
set_option linter.unusedSimpArgs false

theorem Gives.grow {w w1 : World} {e : Ending} {w' : World} {t : T} (h : Gives w1 e w' t) (hb : Below w.heap.size w w1) : Gives w e w' t := ⟨h.1, h.2.1, hb.trans (h.2.2.mono hb.size)⟩
theorem cell_stays {w w' : World} {a : Addr} {x : Value} (h : w.cell? a = some x) (hb : Below w.heap.size w w') : w'.cell? a = some x := by
  rw [hb.cell (World.block_lt_of_cell? w _ h)]; exact h
theorem keep2 {w w' : World} {a b : Addr} {x y : Value} (h : w.cell? a = some x ∧ w.cell? b = some y) (hb : Below w.heap.size w w') : w'.cell? a = some x ∧ w'.cell? b = some y := ⟨cell_stays h.1 hb, cell_stays h.2 hb⟩
theorem keep3 {w w' : World} {a b c : Addr} {x y z : Value} (h : w.cell? a = some x ∧ w.cell? b = some y ∧ w.cell? c = some z) (hb : Below w.heap.size w w') : w'.cell? a = some x ∧ w'.cell? b = some y ∧ w'.cell? c = some z := ⟨cell_stays h.1 hb, keep2 h.2 hb⟩
theorem In.drew {w : World} {t : T} (h : In w t) : In w.drew t := In.below (Below.refl _ w).drew h

set_option maxHeartbeats 1000000 in
theorem between_any {p : Nat} {k : ByteArray} {v : ByteArray} {l0 r0 : T} (l r : T) (w : World) (h : In w (.node p k v l0 r0)) (hl : In w l) (hr : In w r) (hn : l.n + r.n ≤ 1000000) :
    Calls Tryz.prog 262 #[.pointer (some ⟨p, 0, none⟩), l.ptr, r.ptr] w fun e w' => Gives w e w' (.node w.heap.size k v l r) := by
  obtain ⟨c0, c1, c2, c3, c4, c5⟩ := h.cells
  have hm := made_any l r k v w.drew hl.drew hr.drew hn
  have hG : ∀ e w', Gives w.drew e w' (.node w.drew.heap.size k v l r) → Hid (Gives w e w' (.node w.heap.size k v l r)) ∧ e = .returned (.pointer (some ⟨w.heap.size, 0, none⟩)) ∧ Below w.heap.size w w' := fun e w' h => ⟨h.grow (Below.refl _ w).drew, h.1, (h.grow (Below.refl _ w).drew).2.2⟩
  obtain ⟨a, ha⟩ := l.ptr_shape
  obtain ⟨b, hb⟩ := r.ptr_shape
  rw [ha] at hm ⊢
  rw [hb] at hm ⊢
  have hS : w.cell? ⟨p, 0, none⟩ = some (.string k) ∧ w.cell? ⟨p, 1, none⟩ = some (.string v) := ⟨c0, c1⟩
  clear c0 c1 c2 c3 c4 c5 h hl hr ha hb
  go_enter Tryz.func262, Tryz.ntmps262
  go_wp2_with fail
  go_region_held3 (fun w' => w'.cell? ⟨p, 0, none⟩ = some (.string k) ∧ w'.cell? ⟨p, 1, none⟩ = some (.string v)) (first | exact hS | exact keep2 hS (by assumption))
    (first | (go_at_call 168; refine hm.mono ?_; intro e w' hg; obtain ⟨HG, rfl, hb2⟩ := hG e w' hg))
  go_wp2
  go_ret
  exact HG.out

set_option maxHeartbeats 2000000 in
set_option maxRecDepth 100000 in
theorem turnedRight_any {pn : Nat} {k : ByteArray} {v : ByteArray} {nl nr : T} (lp : Nat) (lk : ByteArray) (lv : ByteArray) (ll i r : T) (w : World) (hN : In w (.node pn k v nl nr)) (hH : In w (T.node lp lk lv ll i)) (hx : In w r) (hh : r.h + 1 < (T.node lp lk lv ll i).h) (hn : (T.node lp lk lv ll i).n + r.n ≤ 900000) :
    Calls Tryz.prog 260 #[.pointer (some ⟨pn, 0, none⟩), .pointer (some ⟨lp, 0, none⟩), r.ptr] w fun e w' => ∃ t, Gives w e w' t ∧ Settled w.heap.size k v (T.node lp lk lv ll i) r t := by
  have q2 := hH.cells.c2
  have q3 := hH.cells.c3
  obtain ⟨ax, hax⟩ := r.ptr_shape
  obtain ⟨ao, hao⟩ := ll.ptr_shape
  have e1 := fun n => height_any i (w.drewN n) (In.below (below_drew w n) hH.2.2)
  have e2 := fun n => height_any ll (w.drewN n) (In.below (below_drew w n) hH.2.1)
  have toB : ∀ {n : Nat} {W : World}, Below (w.drewN n).heap.size (w.drewN n) W → Below w.heap.size w W := fun h => (below_drew w _).trans h
  by_cases hc : ll.h < i.h
  · obtain ⟨ip, ik, iv, il, ir, rfl⟩ := T.h_pos (t := i) (by omega)
    have d2 := hH.2.2.cells.c2
    have d3 := hH.2.2.cells.c3
    have b1 : ∀ W, Below w.heap.size w W → Calls Tryz.prog 262 #[.pointer (some ⟨lp, 0, none⟩), ll.ptr, il.ptr] W fun e w' => Gives W e w' (.node W.heap.size lk lv ll il) := fun W hW => between_any ll il W (In.below hW hH) (In.below hW hH.2.1) (In.below hW hH.2.2.2.1) (by simp only [T.n] at hn; omega)
    have b2 : ∀ W, Below w.heap.size w W → Calls Tryz.prog 262 #[.pointer (some ⟨pn, 0, none⟩), ir.ptr, r.ptr] W fun e w' => Gives W e w' (.node W.heap.size k v ir r) := fun W hW => between_any ir r W (In.below hW hN) (In.below hW hH.2.2.2.2) (In.below hW hx) (by simp only [T.n] at hn; omega)
    have b3 : ∀ W A C, Below w.heap.size w W → In W (T.node A lk lv ll il) → In W (T.node C k v ir r) → Calls Tryz.prog 262 #[.pointer (some ⟨ip, 0, none⟩), .pointer (some ⟨A, 0, none⟩), .pointer (some ⟨C, 0, none⟩)] W fun e w' => Gives W e w' (.node W.heap.size ik iv (T.node A lk lv ll il) (T.node C k v ir r)) := fun W A C hW h1 h2 => between_any (T.node A lk lv ll il) (T.node C k v ir r) W (In.below hW hH.2.2) h1 h2 (by simp only [T.n] at hn ⊢; omega)
    have hfin : ∀ A C D, w.heap.size ≤ A → w.heap.size ≤ C → w.heap.size ≤ D → Settled w.heap.size k v (T.node lp lk lv ll (.node ip ik iv il ir)) r (T.node D ik iv (T.node A lk lv ll il) (T.node C k v ir r)) := fun A C D hA hC hD => .rightIn (ip := ip) hh hc hD hA hC
    obtain ⟨il', hil⟩ := il.ptr_shape
    obtain ⟨ir', hir⟩ := ir.ptr_shape
    have ei : (T.node ip ik iv il ir).ptr = .pointer (some ⟨ip, 0, none⟩) := rfl
    rw [ei] at q3 e1
    rw [hao] at q2 e2
    rw [hil] at d2
    rw [hir] at d3
    rw [hax]
    simp only [hao, hil] at b1
    simp only [hax, hir] at b2
    have hcz : decide ((((ll.h : Nat)) : Int) < (((T.node ip ik iv il ir).h : Nat) : Int)) = true := by simp only [decide_eq_true_eq]; exact_mod_cast hc
    have hcz' : ((((ll.h : Nat)) : Int) < (((T.node ip ik iv il ir).h : Nat) : Int)) := by exact_mod_cast hc
    have HF := hide hfin
    have tk1 : True := trivial
    have tk2 : True := trivial
    have hS : w.cell? ⟨lp, 2, none⟩ = some (.pointer ao) ∧ w.cell? ⟨ip, 2, none⟩ = some (.pointer il') ∧ w.cell? ⟨ip, 3, none⟩ = some (.pointer ir') := ⟨q2, d2, d3⟩
    clear hN hH hx hh hn hfin hc hax hao hil hir ei
    generalize ll.h = X at e2 hcz hcz'
    generalize (T.node ip ik iv il ir).h = Y at e1 hcz hcz'
    go_enter Tryz.func260, Tryz.ntmps260
    go_wp2_with fail
    go_quiet (first | (go_at_call_of 206 ao; refine Calls.quiet_of_same (e2 _)) | (go_at_call 206; refine Calls.quiet_of_same (e1 _)))
    clear e1 e2
    go_wp2_with fail
    obtain ⟨w0, hw0⟩ : ∃ w0, w0 = w.drewN nq := ⟨_, rfl⟩
    rw [← hw0]
    have hB0 : Below w.heap.size w w0 := by rw [hw0]; exact below_drew w nq
    have hS0 := keep3 hS hB0
    clear hw0 toB q2 q3 d2 d3 hS hcz hcz'
    go_region_held3 (fun w' => w'.cell? ⟨lp, 2, none⟩ = some (.pointer ao) ∧ w'.cell? ⟨ip, 2, none⟩ = some (.pointer il') ∧ w'.cell? ⟨ip, 3, none⟩ = some (.pointer ir')) (first | exact hS0 | exact keep3 hS0 (by assumption) | exact keep3 (by assumption) (by assumption))
      (first
        | (go_at_call 262; clear tk1; refine (b1 _ hB0.drew).mono ?_; intro e w1 hg; have he := hg.1; have hb1 := hg.2.2; have HI1 := hide hg.2.1; clear hg; subst he; have hB1 := hB0.drew.trans (hb1.mono hB0.size))
        | (go_at_call 262; clear tk2; refine (b2 _ hB1).mono ?_; intro e w2 hg; have he := hg.1; have hb2 := hg.2.2; have HI2 := hide hg.2.1; clear hg; subst he; have hB2 := hB1.trans (hb2.mono hB1.size))
        | (go_at_call 262; refine (b3 _ _ _ hB2 (In.below hb2 HI1.out) HI2.out).mono ?_; intro e w3 hg; have he := hg.1; have hb3 := hg.2.2; have HI3 := hide hg.2.1; clear hg; subst he; have hB3 := hB2.trans (hb3.mono hB2.size)))
    go_wp2
    go_ret
    exact ⟨_, ⟨rfl, HI3.out, hB3⟩, HF.out _ _ _ hB0.size hB1.size hB2.size⟩
  · have b1 : ∀ W, Below w.heap.size w W → Calls Tryz.prog 262 #[.pointer (some ⟨pn, 0, none⟩), i.ptr, r.ptr] W fun e w' => Gives W e w' (.node W.heap.size k v i r) := fun W hW => between_any i r W (In.below hW hN) (In.below hW hH.2.2) (In.below hW hx) (by simp only [T.n] at hn; omega)
    have b2 : ∀ W A, Below w.heap.size w W → In W (T.node A k v i r) → Calls Tryz.prog 262 #[.pointer (some ⟨lp, 0, none⟩), ll.ptr, .pointer (some ⟨A, 0, none⟩)] W fun e w' => Gives W e w' (.node W.heap.size lk lv ll (.node A k v i r)) := fun W A hW h1 => between_any ll (.node A k v i r) W (In.below hW hH) (In.below hW hH.2.1) h1 (by simp only [T.n] at hn ⊢; omega)
    have hfin : ∀ A C, w.heap.size ≤ A → w.heap.size ≤ C → Settled w.heap.size k v (T.node lp lk lv ll i) r (T.node C lk lv ll (.node A k v i r)) := fun A C hA hC => .rightOut hh (by omega) hC hA
    obtain ⟨ai, hai⟩ := i.ptr_shape
    rw [hai] at q3 e1
    rw [hao] at q2 e2
    rw [hax]
    simp only [hax, hai] at b1
    simp only [hao] at b2
    have hcz : decide ((((ll.h : Nat)) : Int) < ((i.h : Nat) : Int)) = false := by simp only [decide_eq_false_iff_not]; intro h; exact hc (by exact_mod_cast h)
    have hcz' : ¬ ((((ll.h : Nat)) : Int) < ((i.h : Nat) : Int)) := by intro h; exact hc (by exact_mod_cast h)
    have HF := hide hfin
    have tk1 : True := trivial
    have hS : w.cell? ⟨lp, 2, none⟩ = some (.pointer ao) := q2
    clear hN hH hx hh hn hfin hc hax hao hai
    generalize ll.h = X at e2 hcz hcz'
    generalize i.h = Y at e1 hcz hcz'
    go_enter Tryz.func260, Tryz.ntmps260
    go_wp2_with fail
    go_quiet (first | (go_at_call_of 206 ao; refine Calls.quiet_of_same (e2 _)) | (go_at_call 206; refine Calls.quiet_of_same (e1 _)))
    clear e1 e2
    go_wp2_with fail
    obtain ⟨w0, hw0⟩ : ∃ w0, w0 = w.drewN nq := ⟨_, rfl⟩
    rw [← hw0]
    have hB0 : Below w.heap.size w w0 := by rw [hw0]; exact below_drew w nq
    have hS0 := cell_stays hS hB0
    clear hw0 toB q2 q3 hS hcz hcz'
    go_region_held3 (fun w' => w'.cell? ⟨lp, 2, none⟩ = some (.pointer ao)) (first | exact hS0 | exact cell_stays hS0 (by assumption) | exact cell_stays (by assumption) (by assumption))
      (first
        | (go_at_call 262; clear tk1; refine (b1 _ hB0.drew).mono ?_; intro e w1 hg; have he := hg.1; have hb1 := hg.2.2; have HI1 := hide hg.2.1; clear hg; subst he; have hB1 := hB0.drew.trans (hb1.mono hB0.size))
        | (go_at_call 262; refine (b2 _ _ hB1 HI1.out).mono ?_; intro e w2 hg; have he := hg.1; have hb2 := hg.2.2; have HI2 := hide hg.2.1; clear hg; subst he; have hB2 := hB1.trans (hb2.mono hB1.size)))
    go_wp2
    go_ret
    exact ⟨_, ⟨rfl, HI2.out, hB2⟩, HF.out _ _ hB0.size hB1.size⟩

set_option maxHeartbeats 2000000 in
set_option maxRecDepth 100000 in
theorem turnedLeft_any {pn : Nat} {k : ByteArray} {v : ByteArray} {nl nr : T} (rp : Nat) (rk : ByteArray) (rv : ByteArray) (rr i l : T) (w : World) (hN : In w (.node pn k v nl nr)) (hH : In w (T.node rp rk rv i rr)) (hx : In w l) (hh : l.h + 1 < (T.node rp rk rv i rr).h) (hn : (T.node rp rk rv i rr).n + l.n ≤ 900000) :
    Calls Tryz.prog 261 #[.pointer (some ⟨pn, 0, none⟩), l.ptr, .pointer (some ⟨rp, 0, none⟩)] w fun e w' => ∃ t, Gives w e w' t ∧ Settled w.heap.size k v l (T.node rp rk rv i rr) t := by
  have q3 := hH.cells.c3
  have q2 := hH.cells.c2
  obtain ⟨ax, hax⟩ := l.ptr_shape
  obtain ⟨ao, hao⟩ := rr.ptr_shape
  have e1 := fun n => height_any i (w.drewN n) (In.below (below_drew w n) hH.2.1)
  have e2 := fun n => height_any rr (w.drewN n) (In.below (below_drew w n) hH.2.2)
  have toB : ∀ {n : Nat} {W : World}, Below (w.drewN n).heap.size (w.drewN n) W → Below w.heap.size w W := fun h => (below_drew w _).trans h
  by_cases hc : rr.h < i.h
  · obtain ⟨ip, ik, iv, il, ir, rfl⟩ := T.h_pos (t := i) (by omega)
    have d2 := hH.2.1.cells.c2
    have d3 := hH.2.1.cells.c3
    have b1 : ∀ W, Below w.heap.size w W → Calls Tryz.prog 262 #[.pointer (some ⟨pn, 0, none⟩), l.ptr, il.ptr] W fun e w' => Gives W e w' (.node W.heap.size k v l il) := fun W hW => between_any l il W (In.below hW hN) (In.below hW hx) (In.below hW hH.2.1.2.1) (by simp only [T.n] at hn; omega)
    have b2 : ∀ W, Below w.heap.size w W → Calls Tryz.prog 262 #[.pointer (some ⟨rp, 0, none⟩), ir.ptr, rr.ptr] W fun e w' => Gives W e w' (.node W.heap.size rk rv ir rr) := fun W hW => between_any ir rr W (In.below hW hH) (In.below hW hH.2.1.2.2) (In.below hW hH.2.2) (by simp only [T.n] at hn; omega)
    have b3 : ∀ W A C, Below w.heap.size w W → In W (T.node A k v l il) → In W (T.node C rk rv ir rr) → Calls Tryz.prog 262 #[.pointer (some ⟨ip, 0, none⟩), .pointer (some ⟨A, 0, none⟩), .pointer (some ⟨C, 0, none⟩)] W fun e w' => Gives W e w' (.node W.heap.size ik iv (T.node A k v l il) (T.node C rk rv ir rr)) := fun W A C hW h1 h2 => between_any (T.node A k v l il) (T.node C rk rv ir rr) W (In.below hW hH.2.1) h1 h2 (by simp only [T.n] at hn ⊢; omega)
    have hfin : ∀ A C D, w.heap.size ≤ A → w.heap.size ≤ C → w.heap.size ≤ D → Settled w.heap.size k v l (T.node rp rk rv (.node ip ik iv il ir) rr) (T.node D ik iv (T.node A k v l il) (T.node C rk rv ir rr)) := fun A C D hA hC hD => .leftIn (ip := ip) hh hc hD hA hC
    obtain ⟨il', hil⟩ := il.ptr_shape
    obtain ⟨ir', hir⟩ := ir.ptr_shape
    have ei : (T.node ip ik iv il ir).ptr = .pointer (some ⟨ip, 0, none⟩) := rfl
    rw [ei] at q2 e1
    rw [hao] at q3 e2
    rw [hil] at d2
    rw [hir] at d3
    rw [hax]
    simp only [hax, hil] at b1
    simp only [hao, hir] at b2
    have hcz : decide ((((rr.h : Nat)) : Int) < (((T.node ip ik iv il ir).h : Nat) : Int)) = true := by simp only [decide_eq_true_eq]; exact_mod_cast hc
    have hcz' : ((((rr.h : Nat)) : Int) < (((T.node ip ik iv il ir).h : Nat) : Int)) := by exact_mod_cast hc
    have HF := hide hfin
    have tk1 : True := trivial
    have tk2 : True := trivial
    have hS : w.cell? ⟨rp, 3, none⟩ = some (.pointer ao) ∧ w.cell? ⟨ip, 2, none⟩ = some (.pointer il') ∧ w.cell? ⟨ip, 3, none⟩ = some (.pointer ir') := ⟨q3, d2, d3⟩
    clear hN hH hx hh hn hfin hc hax hao hil hir ei
    generalize rr.h = X at e2 hcz hcz'
    generalize (T.node ip ik iv il ir).h = Y at e1 hcz hcz'
    go_enter Tryz.func261, Tryz.ntmps261
    go_wp2_with fail
    go_quiet (first | (go_at_call_of 206 ao; refine Calls.quiet_of_same (e2 _)) | (go_at_call 206; refine Calls.quiet_of_same (e1 _)))
    clear e1 e2
    go_wp2_with fail
    obtain ⟨w0, hw0⟩ : ∃ w0, w0 = w.drewN nq := ⟨_, rfl⟩
    rw [← hw0]
    have hB0 : Below w.heap.size w w0 := by rw [hw0]; exact below_drew w nq
    have hS0 := keep3 hS hB0
    clear hw0 toB q3 q2 d2 d3 hS hcz hcz'
    go_region_held3 (fun w' => w'.cell? ⟨rp, 3, none⟩ = some (.pointer ao) ∧ w'.cell? ⟨ip, 2, none⟩ = some (.pointer il') ∧ w'.cell? ⟨ip, 3, none⟩ = some (.pointer ir')) (first | exact hS0 | exact keep3 hS0 (by assumption) | exact keep3 (by assumption) (by assumption))
      (first
        | (go_at_call 262; clear tk1; refine (b1 _ hB0.drew).mono ?_; intro e w1 hg; have he := hg.1; have hb1 := hg.2.2; have HI1 := hide hg.2.1; clear hg; subst he; have hB1 := hB0.drew.trans (hb1.mono hB0.size))
        | (go_at_call 262; clear tk2; refine (b2 _ hB1).mono ?_; intro e w2 hg; have he := hg.1; have hb2 := hg.2.2; have HI2 := hide hg.2.1; clear hg; subst he; have hB2 := hB1.trans (hb2.mono hB1.size))
        | (go_at_call 262; refine (b3 _ _ _ hB2 (In.below hb2 HI1.out) HI2.out).mono ?_; intro e w3 hg; have he := hg.1; have hb3 := hg.2.2; have HI3 := hide hg.2.1; clear hg; subst he; have hB3 := hB2.trans (hb3.mono hB2.size)))
    go_wp2
    go_ret
    exact ⟨_, ⟨rfl, HI3.out, hB3⟩, HF.out _ _ _ hB0.size hB1.size hB2.size⟩
  · have b1 : ∀ W, Below w.heap.size w W → Calls Tryz.prog 262 #[.pointer (some ⟨pn, 0, none⟩), l.ptr, i.ptr] W fun e w' => Gives W e w' (.node W.heap.size k v l i) := fun W hW => between_any l i W (In.below hW hN) (In.below hW hx) (In.below hW hH.2.1) (by simp only [T.n] at hn; omega)
    have b2 : ∀ W A, Below w.heap.size w W → In W (T.node A k v l i) → Calls Tryz.prog 262 #[.pointer (some ⟨rp, 0, none⟩), .pointer (some ⟨A, 0, none⟩), rr.ptr] W fun e w' => Gives W e w' (.node W.heap.size rk rv (.node A k v l i) rr) := fun W A hW h1 => between_any (.node A k v l i) rr W (In.below hW hH) h1 (In.below hW hH.2.2) (by simp only [T.n] at hn ⊢; omega)
    have hfin : ∀ A C, w.heap.size ≤ A → w.heap.size ≤ C → Settled w.heap.size k v l (T.node rp rk rv i rr) (T.node C rk rv (.node A k v l i) rr) := fun A C hA hC => .leftOut hh (by omega) hC hA
    obtain ⟨ai, hai⟩ := i.ptr_shape
    rw [hai] at q2 e1
    rw [hao] at q3 e2
    rw [hax]
    simp only [hax, hai] at b1
    simp only [hao] at b2
    have hcz : decide ((((rr.h : Nat)) : Int) < ((i.h : Nat) : Int)) = false := by simp only [decide_eq_false_iff_not]; intro h; exact hc (by exact_mod_cast h)
    have hcz' : ¬ ((((rr.h : Nat)) : Int) < ((i.h : Nat) : Int)) := by intro h; exact hc (by exact_mod_cast h)
    have HF := hide hfin
    have tk1 : True := trivial
    have hS : w.cell? ⟨rp, 3, none⟩ = some (.pointer ao) := q3
    clear hN hH hx hh hn hfin hc hax hao hai
    generalize rr.h = X at e2 hcz hcz'
    generalize i.h = Y at e1 hcz hcz'
    go_enter Tryz.func261, Tryz.ntmps261
    go_wp2_with fail
    go_quiet (first | (go_at_call_of 206 ao; refine Calls.quiet_of_same (e2 _)) | (go_at_call 206; refine Calls.quiet_of_same (e1 _)))
    clear e1 e2
    go_wp2_with fail
    obtain ⟨w0, hw0⟩ : ∃ w0, w0 = w.drewN nq := ⟨_, rfl⟩
    rw [← hw0]
    have hB0 : Below w.heap.size w w0 := by rw [hw0]; exact below_drew w nq
    have hS0 := cell_stays hS hB0
    clear hw0 toB q3 q2 hS hcz hcz'
    go_region_held3 (fun w' => w'.cell? ⟨rp, 3, none⟩ = some (.pointer ao)) (first | exact hS0 | exact cell_stays hS0 (by assumption) | exact cell_stays (by assumption) (by assumption))
      (first
        | (go_at_call 262; clear tk1; refine (b1 _ hB0.drew).mono ?_; intro e w1 hg; have he := hg.1; have hb1 := hg.2.2; have HI1 := hide hg.2.1; clear hg; subst he; have hB1 := hB0.drew.trans (hb1.mono hB0.size))
        | (go_at_call 262; refine (b2 _ _ hB1 HI1.out).mono ?_; intro e w2 hg; have he := hg.1; have hb2 := hg.2.2; have HI2 := hide hg.2.1; clear hg; subst he; have hB2 := hB1.trans (hb2.mono hB1.size)))
    go_wp2
    go_ret
    exact ⟨_, ⟨rfl, HI2.out, hB2⟩, HF.out _ _ hB0.size hB1.size⟩
end Go.Proofs.YtkkpdgfllnbigaaGreat.Pm
namespace Go.Proofs.YtkkpdgfllnbigaaGreat.Pm
open Go.RowKit Go.Shelf
set_option linter.unusedSimpArgs false

/-- What a node is, where its value and key are told alone. -/
theorem node_ptr (p k v l r) : (T.node p k v l r).ptr = .pointer (some ⟨p, 0, none⟩) := rfl

set_option maxHeartbeats 2000000 in
set_option maxRecDepth 100000 in
theorem settled_any {pn : Nat} {k : ByteArray} {v : ByteArray} {nl nr : T} (l r : T) (w : World) (hN : In w (.node pn k v nl nr)) (hl : In w l) (hr : In w r) (hn : l.n + r.n ≤ 900000) :
    Calls Tryz.prog 238 #[.pointer (some ⟨pn, 0, none⟩), l.ptr, r.ptr] w fun e w' => ∃ t, Gives w e w' t ∧ Settled w.heap.size k v l r t := by
  have e1 := height_any l w hl
  have e2 := height_any r w hr
  have z1 := l.h_le_n
  have z2 := r.h_le_n
  have tk : True := trivial
  by_cases c1 : r.h + 1 < l.h
  · obtain ⟨lp, lk, lv, ll, i, rfl⟩ := T.h_pos (t := l) (by omega)
    have hc := turnedRight_any lp lk lv ll i r w hN hl hr c1 hn
    have d1 : decide ((1 : Int) < (((T.node lp lk lv ll i).h : Nat) : Int) - ((r.h : Nat) : Int)) = true := by simp only [decide_eq_true_eq]; omega
    have d1' : (1 : Int) < (((T.node lp lk lv ll i).h : Nat) : Int) - ((r.h : Nat) : Int) := by omega
    have w1 : IntKind.i64.wrap ((((T.node lp lk lv ll i).h : Nat) : Int) - ((r.h : Nat) : Int)) = (((T.node lp lk lv ll i).h : Nat) : Int) - ((r.h : Nat) : Int) := by rw [IntKind.wrap_i64]; omega
    have w2 : wrap64 ((((T.node lp lk lv ll i).h : Nat) : Int) - ((r.h : Nat) : Int)) = (((T.node lp lk lv ll i).h : Nat) : Int) - ((r.h : Nat) : Int) := by unfold wrap64; omega
    rw [node_ptr] at e1 ⊢
    obtain ⟨a, ha⟩ := r.ptr_shape
    rw [ha] at e2 hc ⊢
    clear c1 hn hN hl hr ha z1 z2
    generalize (T.node lp lk lv ll i).h = X at *
    generalize r.h = Y at *
    go_enter Tryz.func238, Tryz.ntmps238
    go_wp2_with (first
      | (go_at_call 206; clear tk; refine e1.mono ?_; rintro e w' ⟨rfl, rfl⟩)
      | (go_at_call 206; refine e2.mono ?_; rintro e w' ⟨rfl, rfl⟩)
      | (go_at_call 260; refine hc.mono ?_; rintro e w' ⟨t, ⟨rfl, hg, hb⟩, hs⟩))
    go_ret
    exact ⟨t, ⟨rfl, hg, hb⟩, hs⟩
  · by_cases c2 : l.h + 1 < r.h
    · obtain ⟨rp, rk, rv, i, rr, rfl⟩ := T.h_pos (t := r) (by omega)
      have hc := turnedLeft_any rp rk rv rr i l w hN hr hl c2 (by omega)
      have d1 : decide ((1 : Int) < ((l.h : Nat) : Int) - (((T.node rp rk rv i rr).h : Nat) : Int)) = false := by simp only [decide_eq_false_iff_not]; omega
      have d1' : ¬ (1 : Int) < ((l.h : Nat) : Int) - (((T.node rp rk rv i rr).h : Nat) : Int) := by omega
      have d2 : decide (((l.h : Nat) : Int) - (((T.node rp rk rv i rr).h : Nat) : Int) < (-1 : Int)) = true := by simp only [decide_eq_true_eq]; omega
      have d2' : ((l.h : Nat) : Int) - (((T.node rp rk rv i rr).h : Nat) : Int) < (-1 : Int) := by omega
      have w1 : IntKind.i64.wrap (((l.h : Nat) : Int) - (((T.node rp rk rv i rr).h : Nat) : Int)) = ((l.h : Nat) : Int) - (((T.node rp rk rv i rr).h : Nat) : Int) := by rw [IntKind.wrap_i64]; omega
      have w2 : wrap64 (((l.h : Nat) : Int) - (((T.node rp rk rv i rr).h : Nat) : Int)) = ((l.h : Nat) : Int) - (((T.node rp rk rv i rr).h : Nat) : Int) := by unfold wrap64; omega
      rw [node_ptr] at e2 ⊢
      obtain ⟨a, ha⟩ := l.ptr_shape
      rw [ha] at e1 hc ⊢
      clear c1 c2 hn hN hl hr ha z1 z2
      generalize (T.node rp rk rv i rr).h = X at *
      generalize l.h = Y at *
      go_enter Tryz.func238, Tryz.ntmps238
      go_wp2_with (first
        | (go_at_call 206; clear tk; refine e1.mono ?_; rintro e w' ⟨rfl, rfl⟩)
        | (go_at_call 206; refine e2.mono ?_; rintro e w' ⟨rfl, rfl⟩)
        | (go_at_call 261; refine hc.mono ?_; rintro e w' ⟨t, ⟨rfl, hg, hb⟩, hs⟩))
      go_ret
      exact ⟨t, ⟨rfl, hg, hb⟩, hs⟩
    · have hc := between_any l r w hN hl hr (by omega)
      have hs : Hid (Settled w.heap.size k v l r (.node w.heap.size k v l r)) := hide (.plain (by omega) (by omega) (Nat.le_refl _))
      have d1 : decide ((1 : Int) < ((l.h : Nat) : Int) - ((r.h : Nat) : Int)) = false := by simp only [decide_eq_false_iff_not]; omega
      have d1' : ¬ (1 : Int) < ((l.h : Nat) : Int) - ((r.h : Nat) : Int) := by omega
      have d2 : decide (((l.h : Nat) : Int) - ((r.h : Nat) : Int) < (-1 : Int)) = false := by simp only [decide_eq_false_iff_not]; omega
      have d2' : ¬ ((l.h : Nat) : Int) - ((r.h : Nat) : Int) < (-1 : Int) := by omega
      have w1 : IntKind.i64.wrap (((l.h : Nat) : Int) - ((r.h : Nat) : Int)) = ((l.h : Nat) : Int) - ((r.h : Nat) : Int) := by rw [IntKind.wrap_i64]; omega
      have w2 : wrap64 (((l.h : Nat) : Int) - ((r.h : Nat) : Int)) = ((l.h : Nat) : Int) - ((r.h : Nat) : Int) := by unfold wrap64; omega
      obtain ⟨a, ha⟩ := l.ptr_shape
      obtain ⟨b, hb⟩ := r.ptr_shape
      rw [ha] at e1 hc ⊢
      rw [hb] at e2 hc ⊢
      clear c1 c2 hn hN hl hr ha hb z1 z2
      generalize hX : l.h = X at *
      generalize hY : r.h = Y at *
      clear hX hY
      go_enter Tryz.func238, Tryz.ntmps238
      go_wp2_with (first
        | (go_at_call 206; clear tk; refine e1.mono ?_; rintro e w' ⟨rfl, rfl⟩)
        | (go_at_call 206; refine e2.mono ?_; rintro e w' ⟨rfl, rfl⟩)
        | (go_at_call 262; refine hc.mono ?_; rintro e w' ⟨rfl, hg, hb⟩))
      go_ret
      exact ⟨_, ⟨rfl, hg, hb⟩, hs.out⟩

/-- How many nodes what was joined has. -/
theorem Joined.n {B k v l r t} (h : Joined B k v l r t) : t.n = l.n + r.n + 1 := by
  rw [← T.n_eq, h.list, List.length_append, List.length_cons, T.n_eq, T.n_eq]; omega
set_option maxHeartbeats 4000000 in
set_option maxRecDepth 100000 in
theorem join_any (k : ByteArray) (v : ByteArray) (N : Nat) : ∀ (l r : T) (w : World), l.n + r.n ≤ N → N ≤ 800000 → In w l → In w r →
    Calls Tryz.prog 209 #[l.ptr, .string k, .string v, r.ptr] w fun e w' => ∃ t, Gives w e w' t ∧ Joined w.heap.size k v l r t := by
  induction N with
  | zero =>
    intro l r w h1 _ hl hr
    have : l.n = 0 := by omega
    have : r.n = 0 := by omega
    have z1 := l.h_le_n
    have z2 := r.h_le_n
    have el : l = .nil := T.h_zero (by omega)
    have er : r = .nil := T.h_zero (by omega)
    subst el er
    have e1 := height_any .nil w hl
    have hc := made_any .nil .nil k v w hl hr (by decide)
    have hs : Hid (Joined w.heap.size k v .nil .nil (.node w.heap.size k v .nil .nil)) := hide (.mid (by decide) (by decide) (Nat.le_refl _))
    simp only [T.ptr, T.h] at e1 hc ⊢
    clear hl hr z1 z2
    go_enter Tryz.func209, Tryz.ntmps209
    go_wp2_with (first
      | (go_at_call 206; refine e1.mono ?_; rintro e w' ⟨rfl, rfl⟩)
      | (go_at_call 168; refine hc.mono ?_; rintro e w' ⟨rfl, hg, hb⟩))
    go_ret
    exact ⟨_, ⟨rfl, hg, hb⟩, hs.out⟩
  | succ N ih =>
    intro l r w hNn hN hl hr
    have e1 := height_any l w hl
    have e2 := height_any r w hr
    have z1 := l.h_le_n
    have z2 := r.h_le_n
    have tk : True := trivial
    by_cases c1 : r.h + 1 < l.h
    · obtain ⟨lp, lk, lv, ll, lr, rfl⟩ := T.h_pos (t := l) (by omega)
      have q2 := hl.cells.c2
      have q3 := hl.cells.c3
      have b1 : ∀ W, Below w.heap.size w W → Calls Tryz.prog 209 #[lr.ptr, .string k, .string v, r.ptr] W fun e w' => ∃ m, Gives W e w' m ∧ Joined W.heap.size k v lr r m := fun W hW => ih lr r W (by simp only [T.n] at hNn; omega) (by omega) (In.below hW hl.2.2) (In.below hW hr)
      have b2 : ∀ W m, Below w.heap.size w W → In W m → m.n = lr.n + r.n + 1 → Calls Tryz.prog 238 #[.pointer (some ⟨lp, 0, none⟩), ll.ptr, m.ptr] W fun e w' => ∃ t, Gives W e w' t ∧ Settled W.heap.size lk lv ll m t := fun W m hW hm hmn => settled_any ll m W (In.below hW hl) (In.below hW hl.2.1) hm (by simp only [T.n] at hNn; omega)
      have HF := hide (show ∀ m t B C, w.heap.size ≤ B → w.heap.size ≤ C → Joined B k v lr r m → Settled C lk lv ll m t → Joined w.heap.size k v (.node lp lk lv ll lr) r t from fun m t B C hB hC hj hs => .left c1 (hj.mono hB) (hs.mono hC))
      have d1 : decide ((1 : Int) < (((T.node lp lk lv ll lr).h : Nat) : Int) - ((r.h : Nat) : Int)) = true := by simp only [decide_eq_true_eq]; omega
      have d1' : (1 : Int) < (((T.node lp lk lv ll lr).h : Nat) : Int) - ((r.h : Nat) : Int) := by omega
      have w1 : IntKind.i64.wrap ((((T.node lp lk lv ll lr).h : Nat) : Int) - ((r.h : Nat) : Int)) = (((T.node lp lk lv ll lr).h : Nat) : Int) - ((r.h : Nat) : Int) := by rw [IntKind.wrap_i64]; omega
      have w2 : wrap64 ((((T.node lp lk lv ll lr).h : Nat) : Int) - ((r.h : Nat) : Int)) = (((T.node lp lk lv ll lr).h : Nat) : Int) - ((r.h : Nat) : Int) := by unfold wrap64; omega
      obtain ⟨ax, hax⟩ := r.ptr_shape
      obtain ⟨ai, hai⟩ := lr.ptr_shape
      obtain ⟨ao, hao⟩ := ll.ptr_shape
      rw [node_ptr] at e1 ⊢
      rw [hax] at e2 ⊢
      simp only [hai, hax] at b1
      simp only [hao] at b2
      rw [hao] at q2
      rw [hai] at q3
      have hS : w.cell? ⟨lp, 2, none⟩ = some (.pointer ao) ∧ w.cell? ⟨lp, 3, none⟩ = some (.pointer ai) := ⟨q2, q3⟩
      have tk1 : True := trivial
      clear hl hr hNn hN c1 z1 z2 hax hai hao ih q2 q3
      generalize (T.node lp lk lv ll lr).h = X at *
      generalize r.h = Y at *
      go_enter Tryz.func209, Tryz.ntmps209
      go_wp2_with (first
        | (go_at_call 206; clear tk; refine e1.mono ?_; rintro e w' ⟨rfl, hw⟩; replace hw := hw.symm; subst hw)
        | (go_at_call 206; refine e2.mono ?_; rintro e w' ⟨rfl, hw⟩; replace hw := hw.symm; subst hw))
      have hB0 : Below w.heap.size w w := Below.refl _ w
      go_region_held3 (fun w' => w'.cell? ⟨lp, 2, none⟩ = some (.pointer ao) ∧ w'.cell? ⟨lp, 3, none⟩ = some (.pointer ai)) (first | exact hS | exact keep2 hS (by assumption) | exact keep2 (by assumption) (by assumption))
        (first
          | (go_at_call 209; clear tk1; refine (b1 _ hB0.drew).mono ?_; rintro e w1 ⟨m, hg, hj⟩; have he := hg.1; have hb1 := hg.2.2; have HI1 := hide hg.2.1; have hmn := hj.n; have HJ := hide hj; clear hg hj; obtain ⟨am, ham⟩ := m.ptr_shape; rw [ham] at he; subst he; have hB1 := hB0.drew.trans (hb1.mono hB0.size); have hb22 := b2 w1 m hB1 HI1.out hmn; rw [ham] at hb22)
          | (go_at_call 238; refine hb22.mono ?_; rintro e w2 ⟨t, hg, hs⟩; have he := hg.1; have hb2 := hg.2.2; have HI2 := hide hg.2.1; have HS := hide hs; clear hg hs; obtain ⟨at_, hat⟩ := t.ptr_shape; have HT := hide hat; rw [hat] at he; subst he; have hB2 := hB1.trans (hb2.mono hB1.size)))
      go_wp2
      go_ret
      exact ⟨t, ⟨by rw [HT.out]; rfl, HI2.out, hB2⟩, HF.out _ _ _ _ (Nat.le_refl _) hB1.size HJ.out HS.out⟩

    · by_cases c2 : l.h + 1 < r.h
      · obtain ⟨rp, rk, rv, rl, rr, rfl⟩ := T.h_pos (t := r) (by omega)
        have q3 := hr.cells.c3
        have q2 := hr.cells.c2
        have b1 : ∀ W, Below w.heap.size w W → Calls Tryz.prog 209 #[l.ptr, .string k, .string v, rl.ptr] W fun e w' => ∃ m, Gives W e w' m ∧ Joined W.heap.size k v l rl m := fun W hW => ih l rl W (by simp only [T.n] at hNn; omega) (by omega) (In.below hW hl) (In.below hW hr.2.1)
        have b2 : ∀ W m, Below w.heap.size w W → In W m → m.n = l.n + rl.n + 1 → Calls Tryz.prog 238 #[.pointer (some ⟨rp, 0, none⟩), m.ptr, rr.ptr] W fun e w' => ∃ t, Gives W e w' t ∧ Settled W.heap.size rk rv m rr t := fun W m hW hm hmn => settled_any m rr W (In.below hW hr) hm (In.below hW hr.2.2) (by simp only [T.n] at hNn; omega)
        have HF := hide (show ∀ m t B C, w.heap.size ≤ B → w.heap.size ≤ C → Joined B k v l rl m → Settled C rk rv m rr t → Joined w.heap.size k v l (.node rp rk rv rl rr) t from fun m t B C hB hC hj hs => .right c2 (hj.mono hB) (hs.mono hC))
        have d1 : decide ((1 : Int) < ((l.h : Nat) : Int) - (((T.node rp rk rv rl rr).h : Nat) : Int)) = false := by simp only [decide_eq_false_iff_not]; omega
        have d1' : ¬ (1 : Int) < ((l.h : Nat) : Int) - (((T.node rp rk rv rl rr).h : Nat) : Int) := by omega
        have d2 : decide (((l.h : Nat) : Int) - (((T.node rp rk rv rl rr).h : Nat) : Int) < (-1 : Int)) = true := by simp only [decide_eq_true_eq]; omega
        have d2' : ((l.h : Nat) : Int) - (((T.node rp rk rv rl rr).h : Nat) : Int) < (-1 : Int) := by omega
        have w1 : IntKind.i64.wrap (((l.h : Nat) : Int) - (((T.node rp rk rv rl rr).h : Nat) : Int)) = ((l.h : Nat) : Int) - (((T.node rp rk rv rl rr).h : Nat) : Int) := by rw [IntKind.wrap_i64]; omega
        have w2 : wrap64 (((l.h : Nat) : Int) - (((T.node rp rk rv rl rr).h : Nat) : Int)) = ((l.h : Nat) : Int) - (((T.node rp rk rv rl rr).h : Nat) : Int) := by unfold wrap64; omega
        obtain ⟨ax, hax⟩ := l.ptr_shape
        obtain ⟨ai, hai⟩ := rl.ptr_shape
        obtain ⟨ao, hao⟩ := rr.ptr_shape
        rw [node_ptr] at e2 ⊢
        rw [hax] at e1 ⊢
        simp only [hai, hax] at b1
        simp only [hao] at b2
        rw [hao] at q3
        rw [hai] at q2
        have hS : w.cell? ⟨rp, 3, none⟩ = some (.pointer ao) ∧ w.cell? ⟨rp, 2, none⟩ = some (.pointer ai) := ⟨q3, q2⟩
        have tk1 : True := trivial
        clear hl hr hNn hN c1 c2 z1 z2 hax hai hao ih q3 q2
        generalize (T.node rp rk rv rl rr).h = X at *
        generalize l.h = Y at *
        go_enter Tryz.func209, Tryz.ntmps209
        go_wp2_with (first
          | (go_at_call 206; clear tk; refine e1.mono ?_; rintro e w' ⟨rfl, hw⟩; replace hw := hw.symm; subst hw)
          | (go_at_call 206; refine e2.mono ?_; rintro e w' ⟨rfl, hw⟩; replace hw := hw.symm; subst hw))
        have hB0 : Below w.heap.size w w := Below.refl _ w
        go_region_held3 (fun w' => w'.cell? ⟨rp, 3, none⟩ = some (.pointer ao) ∧ w'.cell? ⟨rp, 2, none⟩ = some (.pointer ai)) (first | exact hS | exact keep2 hS (by assumption) | exact keep2 (by assumption) (by assumption))
          (first
            | (go_at_call 209; clear tk1; refine (b1 _ hB0.drew).mono ?_; rintro e w1 ⟨m, hg, hj⟩; have he := hg.1; have hb1 := hg.2.2; have HI1 := hide hg.2.1; have hmn := hj.n; have HJ := hide hj; clear hg hj; obtain ⟨am, ham⟩ := m.ptr_shape; rw [ham] at he; subst he; have hB1 := hB0.drew.trans (hb1.mono hB0.size); have hb22 := b2 w1 m hB1 HI1.out hmn; rw [ham] at hb22)
            | (go_at_call 238; refine hb22.mono ?_; rintro e w2 ⟨t, hg, hs⟩; have he := hg.1; have hb2 := hg.2.2; have HI2 := hide hg.2.1; have HS := hide hs; clear hg hs; obtain ⟨at_, hat⟩ := t.ptr_shape; have HT := hide hat; rw [hat] at he; subst he; have hB2 := hB1.trans (hb2.mono hB1.size)))
        go_wp2
        go_ret
        exact ⟨t, ⟨by rw [HT.out]; rfl, HI2.out, hB2⟩, HF.out _ _ _ _ (Nat.le_refl _) hB1.size HJ.out HS.out⟩

      · have hc := made_any l r k v w hl hr (by omega)
        have hs : Hid (Joined w.heap.size k v l r (.node w.heap.size k v l r)) := hide (.mid (by omega) (by omega) (Nat.le_refl _))
        have d1 : decide ((1 : Int) < ((l.h : Nat) : Int) - ((r.h : Nat) : Int)) = false := by simp only [decide_eq_false_iff_not]; omega
        have d1' : ¬ (1 : Int) < ((l.h : Nat) : Int) - ((r.h : Nat) : Int) := by omega
        have d2 : decide (((l.h : Nat) : Int) - ((r.h : Nat) : Int) < (-1 : Int)) = false := by simp only [decide_eq_false_iff_not]; omega
        have d2' : ¬ ((l.h : Nat) : Int) - ((r.h : Nat) : Int) < (-1 : Int) := by omega
        have w1 : IntKind.i64.wrap (((l.h : Nat) : Int) - ((r.h : Nat) : Int)) = ((l.h : Nat) : Int) - ((r.h : Nat) : Int) := by rw [IntKind.wrap_i64]; omega
        have w2 : wrap64 (((l.h : Nat) : Int) - ((r.h : Nat) : Int)) = ((l.h : Nat) : Int) - ((r.h : Nat) : Int) := by unfold wrap64; omega
        obtain ⟨a, ha⟩ := l.ptr_shape
        obtain ⟨b, hb⟩ := r.ptr_shape
        rw [ha] at e1 hc ⊢
        rw [hb] at e2 hc ⊢
        clear c1 c2 hNn hN hl hr ha hb z1 z2 ih
        generalize hX : l.h = X at *
        generalize hY : r.h = Y at *
        clear hX hY
        go_enter Tryz.func209, Tryz.ntmps209
        go_wp2_with (first
          | (go_at_call 206; clear tk; refine e1.mono ?_; rintro e w' ⟨rfl, hw⟩; replace hw := hw.symm; subst hw)
          | (go_at_call 206; refine e2.mono ?_; rintro e w' ⟨rfl, hw⟩; replace hw := hw.symm; subst hw)
          | (go_at_call 168; refine hc.mono ?_; rintro e w' ⟨rfl, hg, hb⟩))
        go_ret
        exact ⟨_, ⟨rfl, hg, hb⟩, hs.out⟩
end Go.Proofs.YtkkpdgfllnbigaaGreat.Pm
