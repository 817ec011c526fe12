/-
  The walk of CounterSums 3.
-/
import Derived.Test.YtlhfkdgdbjinoaaTogW
namespace Go.Proofs.Ytlhfkdgdbjinoaa
open Go.RowKit Go.Shelf
set_option linter.unusedSimpArgs false
attribute [local go_sem] Oper.semAt_some

theorem below_drw {B : Nat} {w w' : World} (h : Below B w w') (n : Nat) : Below B w (w'.drewN n) := ⟨h.os, h.tape, h.output, h.size, h.block⟩
theorem keepS {w W W' : World} {x y : Value} {B : Nat} (h : W.cell? ⟨B, 0, none⟩ = some x ∧ W.cell? ⟨B, 1, none⟩ = some y ∧ Below w.heap.size w W) (hb : Below W.heap.size W W') : W'.cell? ⟨B, 0, none⟩ = some x ∧ W'.cell? ⟨B, 1, none⟩ = some y ∧ Below w.heap.size w W' :=
  ⟨cell_stays h.1 hb, cell_stays h.2.1 hb, h.2.2.trans (hb.mono h.2.2.size)⟩
theorem slice_hi {ao : Option Addr} {n c j : Nat} (hj : j ≤ c) (hn : ao = none → c = 0) (w : World) : (Instr.slice 23 (.slice ao n c) none (some (.int .i64 j)) none).run Try.prog w = .ok (.slice ao j c) w := by
  have h2 : (0 : Int) ≤ (j : Int) ∧ (j : Int) ≤ (c : Int) := by omega
  by_cases hc : c = 0
  · subst hc
    simp [Instr.slice, Instr.sliceBounds, Instr.sliceBound, asIntOf, run_underlying Try.underlying23, go_sem, hj]
  · cases ao with
    | none => exact (hc (hn rfl)).elim
    | some a => simp [Instr.slice, Instr.sliceBounds, Instr.sliceBound, asIntOf, run_underlying Try.underlying23, go_sem, hj, hc, Addr.add]

set_option maxHeartbeats 4000000 in
set_option maxRecDepth 100000 in
theorem sums_long (base x y : Int) (n : Nat) (ao : Option Addr) (c : Nat) (w : World) (h : 1000 < n) : Calls Try.prog 3 #[.int .i64 base, .agg #[.int .i64 x, .int .i64 y], .slice ao n c] w fun e w' => e = .returned (.bool true) ∧ Below w.heap.size w w' := by
  have k := fun W => known_any W
  have hA : (1000 : Int) < n := by omega
  go_enter Try.func3, Try.ntmps3
  go_wp2_with (go_at_call 6; refine (k _).mono ?_; rintro e w' ⟨rfl, bk⟩)
  go_ret
  have h1 : Below w.heap.size w (w.alloc (.cells #[.int .i64 x, .int .i64 y] 22)) := (Below.refl _ w).alloc (Nat.le_refl _) _
  exact ⟨rfl, h1.trans (bk.mono h1.size)⟩

set_option maxHeartbeats 4000000 in
set_option maxRecDepth 100000 in
theorem sums_walk (base x y : Int) (l : List Int) (ao : Option Addr) (c : Nat) (w : World) (hb : In64 base) (h : Nd w ao l) (hc : ao = none → c = 0) (hl : l.length ≤ 1000) :
    Calls Try.prog 3 #[.int .i64 base, .agg #[.int .i64 x, .int .i64 y], .slice ao l.length c] w fun e w' => e = .returned (.bool true) ∧ Below w.heap.size w w' := by
  obtain ⟨N, hN⟩ : ∃ N, N = l.length := ⟨_, rfl⟩
  rw [← hN] at hl ⊢
  have z1 : ¬ ((1000 : Int) < N) := by omega
  obtain ⟨i0, hi, hz0, hz1, hz2⟩ := info_of info2
  have HI := hide (And.intro hi (And.intro hz0 (And.intro hz1 hz2)))
  clear hi hz0 hz1 hz2
  obtain ⟨w1, hw1⟩ : ∃ w1, w1 = w.alloc (.cells #[.int .i64 x, .int .i64 y] 22) := ⟨_, rfl⟩
  have b1 : Below w.heap.size w w1 := by rw [hw1]; exact (Below.refl _ w).alloc (Nat.le_refl _) _
  have m0 : w1.heap[w.heap.size]? = some (.cells #[.int .i64 x, .int .i64 y] 22 (0, 0)) := by rw [hw1]; exact heap_alloc_new w _
  have app1 : ∀ W, W = w1 → ∀ {ops : Array Oper} {rest : List Oper} {o : Oper} {a : Act} {Q : Exit → Act → World → Prop} (_ : o.guard = none) (s t : Operand) (_ : o.op = .call { callee := .builtin .append, args := #[s, t], argTypes := #[23, 23] })
      (_ : a.eval s = .slice none 0 0) (_ : a.eval t = .slice ao N c)
      (_ : ∀ ao' cap' w', Hid (Nw 2 w' w1.heap.size (.slice ao' N cap') l ∧ Below w1.heap.size w1 w' ∧ (ao' = none → cap' = 0)) → wpList Try.prog ops Q rest (a.put o.dst (.slice ao' N cap')) w'),
      wpList Try.prog ops Q (o :: rest) a W := by
    intro W hWw ops rest o a Q hg s t ho hs ht hk
    subst hWw
    refine wpList_append_nd hg s t 23 ho W.heap.size 2 i0 Try.underlying23 HI.out.1 HI.out.2.1 HI.out.2.2.1 HI.out.2.2.2 (.slice none 0 0) [] hs (Nw.nil _ _ _) ao c l (by rw [ht, hN]) hc (h.below b1) (by simp; omega) (Nat.le_refl _) ?_
    intro ao' cap' w' h1 h2 h3
    rw [List.length_nil, Nat.zero_add, ← hN, List.nil_append] at h1
    rw [List.length_nil, Nat.zero_add, ← hN]
    exact hk ao' cap' w' (hide ⟨h1, below_nw (Below.refl _ _) (Nat.le_refl _) (Nw.nil 2 _ _) h2, h3⟩)
  have app2 : ∀ (w2 : World) (a2 : Option Addr) (c2 : Nat), Hid (Nw 2 w2 w1.heap.size (.slice a2 N c2) l ∧ Below w1.heap.size w1 w2 ∧ (a2 = none → c2 = 0)) → ∀ {ops : Array Oper} {rest : List Oper} {o : Oper} {a : Act} {Q : Exit → Act → World → Prop} (_ : o.guard = none) (s t : Operand) (_ : o.op = .call { callee := .builtin .append, args := #[s, t], argTypes := #[23, 23] })
      (_ : a.eval s = .slice a2 N c2) (_ : a.eval t = .slice (some ⟨w2.heap.size, 0, none⟩) 1 1)
      (_ : ∀ ab off cap' w', Hid (Nw 2 w' w1.heap.size (.slice (some ⟨ab, off, none⟩) (N + 1) cap') (l ++ [77]) ∧ Below w1.heap.size w1 w' ∧ N + 1 ≤ cap' ∧ w'.cell? ⟨ab, off + N, none⟩ = some (.int .i64 77)) → wpList Try.prog ops Q rest (a.put o.dst (.slice (some ⟨ab, off, none⟩) (N + 1) cap')) w'),
      wpList Try.prog ops Q (o :: rest) a (w2.alloc (.cells #[.int .i64 77] 2)) := by
    intro w2 a2 c2 H2 ops rest o a Q hg s t ho hs ht hk
    have hbA := H2.out.2.1.alloc H2.out.2.1.size (.cells #[.int .i64 77] 2)
    have hownA := H2.out.1.alloc (.cells #[.int .i64 77] 2)
    refine wpList_pushN hg s t 23 ho w1.heap.size 2 i0 Try.underlying23 HI.out.1 HI.out.2.1 HI.out.2.2.1 HI.out.2.2.2 (.slice a2 N c2) l hs hownA ⟨w2.heap.size, 0, none⟩ 1 77 ht ?_ (by omega) (by simp; have := H2.out.2.1.size; omega) ?_
    · rw [cell_of_row _ _ 0 _ 2 (0, 0) (heap_alloc_new w2 _)]; rfl
    · intro ao' cap' w' h1 h2 h3
      rw [← hN] at h1 ⊢
      obtain ⟨ab, off, e, hcell⟩ := h1.rd.at (k := N) (b := 77) (by rw [hN]; simp)
      subst e
      have hcap : N + 1 ≤ cap' := by
        rcases h1.2 with ⟨q, _⟩ | ⟨g, cap, cur, q, _, _, q2, _⟩
        · cases q
        · simp only [Value.slice.injEq] at q; simp at q2; omega
      exact hk ab off cap' w' (hide ⟨h1, below_nw hbA (by simp; have := H2.out.2.1.size; omega) hownA h2, hcap, hcell⟩)
  have own3 : ∀ {w3 : World} {ab off c3 : Nat}, Hid (Nw 2 w3 w1.heap.size (.slice (some ⟨ab, off, none⟩) (N + 1) c3) (l ++ [77]) ∧ Below w1.heap.size w1 w3 ∧ N + 1 ≤ c3 ∧ w3.cell? ⟨ab, off + N, none⟩ = some (.int .i64 77)) →
      ∀ W, Below w3.heap.size w3 W → Nd W (some ⟨ab, off, none⟩) l := fun H3 W hW => by
    have := (H3.out.1.rd.take N).below hW
    rw [hN, List.take_left] at this
    exact this
  have k7 := fun (W : World) (a : Option Addr) (d : Nat) (hW : Nd W a l) => sum_any (c := d) hW (by omega)
  have k8 := fun (W : World) (a : Option Addr) (d : Nat) (hW : Nd W a l) => many_any (b := base) (c := d) hW (by omega)
  have k9 := fun (W : World) (a : Option Addr) (d : Nat) (hW : Nd W a l) (hb : Below w.heap.size w W) => refSame_any (c := d) (d := c) hW (h.below hb) (by omega)
  have k10 := fun (W : World) (hb : Below w.heap.size w W) => refSum_any (c := c) (h.below hb) (by omega)
  have k11 := fun (W : World) (hb : Below w.heap.size w W) => refMany_any (b := base) (c := c) (h.below hb) (by omega)
  simp only [← hN, decide_true] at k7 k8 k9 k10 k11
  have k12 := fun W => add_any x y W
  have k13 := fun W => delta_any base x W
  have k14 := fun W : World => three_any (w := W) base x y
  have k6 := fun W => known_any W
  have e14 : manyN base base [x, y] = wrap64 (wrap64 (x + y) - base) := by
    rw [manyN_eq _ _ _ hb.w]
    simp only [List.sum_cons, List.sum_nil, List.length_cons, List.length_nil]
    unfold wrap64; omega
  simp only [e14] at k14
  obtain ⟨s0, hs0⟩ : ∃ z, z = sumN 0 l := ⟨_, rfl⟩
  obtain ⟨s1, hs1'⟩ : ∃ z, z = manyN base base l := ⟨_, rfl⟩
  simp only [← hs0] at k7 k10
  simp only [← hs1'] at k8 k11
  clear hs0 hs1' e14
  have i64w : ∀ n, IntKind.i64.wrap n = wrap64 n := fun n => by rw [IntKind.wrap_i64, wrap64]
  obtain ⟨z1', hz1⟩ : ∃ z, z = wrap64 (x + y) := ⟨_, rfl⟩
  obtain ⟨z2', hz2⟩ : ∃ z, z = wrap64 (x - base) := ⟨_, rfl⟩
  simp only [← hz1] at k14
  obtain ⟨z3', hz3⟩ : ∃ z, z = wrap64 (z1' - base) := ⟨_, rfl⟩
  simp only [← hz1] at k12
  simp only [← hz2] at k13
  simp only [← hz3] at k14
  have v1 : wrap64 (x + y) = z1' := hz1.symm
  have v2 : wrap64 (x - base) = z2' := hz2.symm
  have v3 : wrap64 (z1' - base) = z3' := hz3.symm
  have u1 : IntKind.i64.wrap (x + y) = z1' := (i64w _).trans v1
  have u2 : IntKind.i64.wrap (x - base) = z2' := (i64w _).trans v2
  have u3 : IntKind.i64.wrap (z1' - base) = z3' := (i64w _).trans v3
  clear hz1 hz2 hz3 i64w
  have hs1 : w1.heap.size = w.heap.size + 1 := by rw [hw1]; simp
  have HW := hide (And.intro hw1 (And.intro hN (And.intro h hs1)))
  clear hN h hw1 hs1
  go_enter Try.func3, Try.ntmps3
  go_wp2_with (first
    | (refine app1 _ HW.out.1.symm rfl _ _ rfl rfl rfl ?_; intro a2 c2 w2 H2; clear app1)
    | (refine app2 _ _ _ H2 rfl _ _ rfl rfl rfl ?_; intro ab off c3 w3 H3; clear app2; have hsl := fun W => slice_hi (ao := some ⟨ab, off, none⟩) (n := N + 1) (c := c3) (j := N) (by have := H3.out.2.2.1; omega) (by simp) W)
    | (go_at_call 7; refine (k7 _ _ _ (own3 H3 _ (Below.refl _ _))).mono ?_; rintro e w4 ⟨rfl, b4⟩; clear k7)
    | (go_at_call 8; refine (k8 _ _ _ (own3 H3 _ b4)).mono ?_; rintro e w5 ⟨rfl, hw5⟩; obtain rfl : w4 = w5 := hw5.symm; clear hw5 k8; have b41 : Hid (Below w.heap.size w w4) := hide ((b1.trans (H3.out.2.1.mono b1.size)).trans (b4.mono (Nat.le_trans b1.size H3.out.2.1.size)))))
  refine (k9 _ _ _ (own3 H3 _ b4) b41.out).mono ?_
  rintro e w5 ⟨rfl, n5, hw5⟩
  clear k9
  have hcl : w5.cell? ⟨ab, off + N, none⟩ = some (.int .i64 77) := by rw [hw5]; exact cell_stays H3.out.2.2.2 (below_drw b4 n5)
  have b5 : Hid (Below w.heap.size w w5) := by rw [hw5]; exact hide (below_drw b41.out n5)
  have hx0 : Hid (w5 = w4.drewN n5) := hide hw5
  clear hw5
  have hS0 : w5.cell? ⟨w.heap.size, 0, none⟩ = some (.int .i64 x) ∧ w5.cell? ⟨w.heap.size, 1, none⟩ = some (.int .i64 y) ∧ Below w.heap.size w w5 := by
    have hb' : Below w1.heap.size w1 w5 := by rw [hx0.out]; exact below_drw (H3.out.2.1.trans (b4.mono H3.out.2.1.size)) n5
    have := (hb'.block _ (Array.getElem?_eq_some_iff.1 m0).1).trans m0
    exact ⟨(cell_of_row _ _ 0 _ 22 (0, 0) this).trans rfl, (cell_of_row _ _ 1 _ 22 (0, 0) this).trans rfl, b5.out⟩
  clear b1 m0 own3 b4 hsl hc hb
  go_wp2
  go_region_held3 (fun W => W.cell? ⟨w.heap.size, 0, none⟩ = some (.int .i64 x) ∧ W.cell? ⟨w.heap.size, 1, none⟩ = some (.int .i64 y) ∧ Below w.heap.size w W) (first | assumption | exact keepS hS0 (below_drw (Below.refl _ _) 1) | exact keepS (by assumption) (by assumption))
    (first
      | (go_at_call 10; refine (k10 _ (‹(_ : World).cell? ⟨w.heap.size, 0, none⟩ = _ ∧ _ ∧ _›.2.2)).mono ?_; rintro e w' ⟨rfl, rfl⟩)
      | (go_at_call 11; refine (k11 _ (‹(_ : World).cell? ⟨w.heap.size, 0, none⟩ = _ ∧ _ ∧ _›.2.2)).mono ?_; rintro e w' ⟨rfl, rfl⟩)
      | (go_at_call 12; refine (k12 _).mono ?_; rintro e w' ⟨rfl, rfl⟩)
      | (go_at_call 13; refine (k13 _).mono ?_; rintro e w' ⟨rfl, rfl⟩)
      | (go_at_call 14; refine (k14 _).mono ?_; rintro e w' ⟨rfl, b14⟩)
      | (go_at_call 6; refine (k6 _).mono ?_; rintro e w' ⟨rfl, b15⟩))
  have HE := hide (‹(_ : World).cell? ⟨w.heap.size, 0, none⟩ = _ ∧ _ ∧ Below w.heap.size w w'›.2.2)
  go_wp2
  go_ret
  exact ⟨rfl, HE.out⟩
end Go.Proofs.Ytlhfkdgdbjinoaa
