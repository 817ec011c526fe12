/-
  kinds: changed 56.
-/
import Derived.Test.YtkdgageljgfgoaaDoorDel3
namespace Go.Proofs.YtkdgageljgfgoaaDoor
open Go.RowKit Go.Shelf Go.Sort
set_option linter.unusedSimpArgs false
attribute [local go_sem] Oper.semAt_some

/-- What a Do makes of elements. -/
def changeL (l : List El) (d : Int) (x : El) : List El := if d = 4 then [x] else if d = 2 ∨ d = 5 ∨ d = 7 then l ++ [x] else if d = 3 then keepL x.2 l else if d = 6 then l.drop 1 else l
/-- A slice of elements in memory that is new from B on. -/
structure Nv (w : World) (B : Nat) (ao : Option Addr) (c : Nat) (l : List El) : Prop where
  rv : Rv w ao c l
  new : ∀ a, ao = some a → B ≤ a.block
theorem Nv.own {w : World} {B B' : Nat} {ao : Option Addr} {n c : Nat} {l : List El} (h : Oe w B' (.slice ao n c) l) (hB : B ≤ B') : Nv w B ao c l := ⟨Rv.own h, fun a ha => by
  obtain ⟨a', c', e, _, _, _, h4⟩ := h.form
  cases e
  exact Nat.le_trans hB (h4 a ha).1⟩
def ChgE (w : World) (L : List El) (e : Ending) (w' : World) : Prop := ∃ a' c', e = .returned (.slice a' L.length c') ∧ Nv w' w.heap.size a' c' L ∧ Below w.heap.size w w'

theorem delete_nil (X : Nat) (w : World) : Calls Tryd.prog 46 #[.slice none 0 0, .func (.func 47) #[] #[.pointer (some ⟨X, 0, none⟩)]] w fun e w' => e = .returned (.slice none 0 0) ∧ w' = w := by
  have hi : Calls Tryd.prog 62 #[.slice none 0 0, .func (.func 47) #[] #[.pointer (some ⟨X, 0, none⟩)]] w fun e w' => e = .returned (.int .i64 (-1)) ∧ w' = w := by
    go_enter Tryd.func62, Tryd.ntmps62
    go_wp2
    go_loopw [8] (fun iv wr => iv = .int .i64 0 ∧ wr = w) (fun _ _ => 0)
    case atStart => exact ⟨rfl, rfl⟩
    case round =>
      obtain ⟨rfl, rfl⟩ := hrel
      go_wp2
      go_ret
      exact ⟨rfl, rfl⟩
  go_enter Tryd.func46, Tryd.ntmps46
  go_wp2_with (go_at_call 62; refine hi.mono ?_; rintro e w' ⟨rfl, rfl⟩)
  go_ret
  exact ⟨rfl, rfl⟩
theorem pop_slice {w : World} {B N c : Nat} {ao : Option Addr} {l : List El} (h : Oe w B (.slice ao N c) l) (hN : N = l.length) :
    ∃ A C, (∀ W, (Instr.slice 28 (.slice ao N c) (some (.int .i64 (min 1 (N : Int)))) none none).run Tryd.prog W = .ok (.slice A (N - 1) C) W) ∧ Nv w B A C (l.drop 1) := by
  subst hN
  rcases h.shape with ⟨e, rfl⟩ | ⟨g, cap, e, hg1, hg2, hg3⟩
  · cases e
    refine ⟨none, 0, fun W => ?_, ⟨Rv.none _, by simp⟩⟩
    show (Instr.slice 28 (.slice none 0 0) (some (.int .i64 0)) none none).run Tryd.prog W = .ok (.slice none 0 0) W
    simp [Instr.slice, Instr.sliceBounds, Instr.sliceBound, asIntOf, run_underlying Tryd.underlying28, go_sem, Tryd.sizeOf58]
  · cases e
    by_cases h0 : l.length = 0
    · have := List.eq_nil_of_length_eq_zero h0
      subst this
      refine ⟨some ⟨g, 0, none⟩, c, fun W => ?_, ⟨⟨Re.nil _ _, by simp, by simp, fun a ha => by cases ha; rfl⟩, fun a ha => by cases ha; exact hg1⟩⟩
      have hA : (if c = 0 then (some ⟨g, 0, none⟩ : Option Addr) else (some ⟨g, 0, none⟩ : Option Addr).map (fun x => x.add (0 * 6))) = some ⟨g, 0, none⟩ := by
        split
        · rfl
        · rw [Option.map_some, add_lit]
      have : (Instr.slice 28 (.slice (some ⟨g, 0, none⟩) 0 c) (some (.int .i64 0)) none none).run Tryd.prog W = .ok (.slice (if c = 0 then (some ⟨g, 0, none⟩ : Option Addr) else (some ⟨g, 0, none⟩ : Option Addr).map (fun x => x.add (0 * 6))) 0 c) W := by
        simp [Instr.slice, Instr.sliceBounds, Instr.sliceBound, asIntOf, run_underlying Tryd.underlying28, go_sem, Tryd.sizeOf58]
      rw [hA] at this
      exact this
    · have hm : min (1 : Int) (l.length : Int) = ((1 : Nat) : Int) := by omega
      rw [hm]
      by_cases hc : c = 1
      · subst hc
        have h1 : l.length = 1 := by omega
        refine ⟨some ⟨g, 0, none⟩, 0, fun W => ?_, ⟨⟨?_, by rw [List.length_drop]; omega, by simp, fun a ha => by cases ha; rfl⟩, fun a ha => by cases ha; exact hg1⟩⟩
        · rw [h1]
          simp [Instr.slice, Instr.sliceBounds, Instr.sliceBound, asIntOf, run_underlying Tryd.underlying28, go_sem, Tryd.sizeOf58]
        · rw [List.drop_eq_nil_of_le (by omega)]; exact Re.nil _ _
      · refine ⟨some ⟨g, 1 * 6, none⟩, c - 1, fun W => sliceE_lo (by omega) hg3 (by omega) W, ⟨⟨?_, by rw [List.length_drop]; omega, by simp, fun a ha => by cases ha; rfl⟩, fun a ha => by cases ha; exact hg1⟩⟩
        have := h.re.drop 1 (by omega)
        rw [Nat.zero_add] at this
        exact this
set_option maxHeartbeats 4000000 in
set_option maxRecDepth 100000 in
theorem changed_any {w : World} {ao : Option Addr} {c : Nat} {l : List El} (d : Int) (x : El) (h : Rv w ao c l) (hl : l.length ≤ 90000) : Calls Tryd.prog 26 #[.slice ao l.length c, .int .i64 d, ev x] w (ChgE w (changeL l d x)) := by
  obtain ⟨N, hN⟩ : ∃ N, N = l.length := ⟨_, rfl⟩
  obtain ⟨⟨g, r, l0, n0, i0⟩, t0⟩ := x
  obtain ⟨w1, hw1⟩ : ∃ w1, w1 = w.alloc (.cells #[.int .i64 g, .int .i64 r, .string l0, .int .i64 n0, .int .i64 i0, .string t0] 58) := ⟨_, rfl⟩
  have b1 : Below w.heap.size w w1 := by rw [hw1]; exact (Below.refl _ w).alloc (Nat.le_refl _) _
  have m0 := heap_alloc_new w (.cells #[.int .i64 g, .int .i64 r, .string l0, .int .i64 n0, .int .i64 i0, .string t0] 58)
  obtain ⟨p0, p1, p2, p3, p4, p5⟩ := new6 w (.int .i64 g) (.int .i64 r) (.string l0) (.int .i64 n0) (.int .i64 i0) (.string t0) 58
  rw [← hw1] at m0 p0 p1 p2 p3 p4 p5
  have hs1 : w1.heap.size = w.heap.size + 1 := by rw [hw1]; simp
  have hcl := cloneE_any (h.below b1) (by omega)
  rw [← hN] at hcl
  rw [hw1] at hcl
  have HC := hide (And.intro hw1 (And.intro b1 (And.intro m0 (And.intro hs1 (And.intro hN hl)))))
  have HP := hide (And.intro p0 (And.intro p1 (And.intro p2 (And.intro p3 (And.intro p4 p5)))))
  clear b1 m0 p0 p1 p2 p3 p4 p5 hs1 h
  rw [← hN]
  have fin : ∀ {w2 : World} {a2 : Option Addr} {c2 : Nat}, Oe w2 w1.heap.size (.slice a2 N c2) l → Below w1.heap.size w1 w2 → Oe w2 w1.heap.size (.slice a2 l.length c2) l ∧ Below w.heap.size w w2 ∧ w.heap.size ≤ w1.heap.size := fun ho hb => ⟨by rw [← hN]; exact ho, HC.out.2.1.trans (hb.mono HC.out.2.1.size), HC.out.2.1.size⟩
  clear hN hl
  have push : ∀ (w2 : World) (v : Value) (p : List El) (M : Nat), Below w1.heap.size w1 w2 → Oe w2 w1.heap.size v p → p.length ≤ 90000 → M = p.length + 1 → ∀ {ops : Array Oper} {rest : List Oper} {o : Oper} {a : Act} {Q : Exit → Act → World → Prop} (_ : o.guard = none) (s t : Operand) (_ : o.op = .call { callee := .builtin .append, args := #[s, t], argTypes := #[28, 28] })
      (_ : a.eval s = v) (_ : a.eval t = .slice (some ⟨w2.heap.size, 0, none⟩) 1 1)
      (_ : ∀ ao' cap' w', Hid (ChgE w (p ++ [((g, r, l0, n0, i0), t0)]) (.returned (.slice ao' M cap')) w') → wpList Tryd.prog ops Q rest (a.put o.dst (.slice ao' M cap')) w'),
      wpList Tryd.prog ops Q (o :: rest) a (w2.alloc (.cells #[.int .i64 g, .int .i64 r, .string l0, .int .i64 n0, .int .i64 i0, .string t0] 58)) := by
    intro w2 v p M hb2 hO hp hM ops rest o a Q hg s t ho hs ht hk
    have hbA : Below w1.heap.size w1 (w2.alloc (.cells #[.int .i64 g, .int .i64 r, .string l0, .int .i64 n0, .int .i64 i0, .string t0] 58)) := hb2.alloc hb2.size _
    refine wpList_pushE hg s t ho w1.heap.size v p hs (hO.alloc _) w2.heap.size 1 ((g, r, l0, n0, i0), t0) ht (heap_alloc_new w2 _) (by omega) (by simp; have := hb2.size; omega) ?_
    intro ao' cap' w' h1 h2 h3
    rw [← hM] at h1 ⊢
    have hb := below_oe hbA (by simp; have := hb2.size; omega) (hO.alloc _) h2
    exact hk ao' cap' w' (hide ⟨ao', cap', by rw [List.length_append, hM]; rfl, Nv.own h1 HC.out.2.1.size, HC.out.2.1.trans (hb.mono HC.out.2.1.size)⟩)
  by_cases h4 : d = 4
  · subst h4
    rw [show changeL l 4 ((g, r, l0, n0, i0), t0) = [] ++ [((g, r, l0, n0, i0), t0)] from rfl]
    go_enter Tryd.func26, Tryd.ntmps26
    go_wp2_with (first
      | (go_at_call 45; refine hcl.mono ?_; rw [← HC.out.1]; rintro e w2 ⟨a2, c2, rfl, o2, b2⟩; obtain ⟨c0, c1, c2', c3, c4, c5⟩ := HP.out; replace c0 := cell_stays c0 b2; replace c1 := cell_stays c1 b2; replace c2' := cell_stays c2' b2; replace c3 := cell_stays c3 b2; replace c4 := cell_stays c4 b2; replace c5 := cell_stays c5 b2; have H2 := hide (And.intro o2 b2); clear o2 b2 hcl)
      | (refine push _ _ [] 1 H2.out.2 (Oe.nil _ _) (by simp) rfl rfl _ _ rfl rfl rfl ?_; intro a3 c3' w3 H3))
    go_ret
    exact H3.out
  by_cases h257 : d = 2 ∨ d = 5 ∨ d = 7
  · rw [show changeL l d ((g, r, l0, n0, i0), t0) = l ++ [((g, r, l0, n0, i0), t0)] by unfold changeL; rw [if_neg h4, if_pos h257]]
    have e4 : (d == 4) = false := by simpa using h4
    have hpl := fun (w2 : World) (a2 : Option Addr) (c2 : Nat) (H : Hid (Oe w2 w1.heap.size (.slice a2 N c2) l ∧ Below w1.heap.size w1 w2)) => @push w2 (.slice a2 N c2) l (N + 1) H.out.2 H.out.1 HC.out.2.2.2.2.2 (by rw [HC.out.2.2.2.2.1])
    clear push
    rcases h257 with rfl | rfl | rfl
    all_goals
      go_enter Tryd.func26, Tryd.ntmps26
      go_wp2_with (first
        | (go_at_call 45; refine hcl.mono ?_; rw [← HC.out.1]; rintro e w2 ⟨a2, c2, rfl, o2, b2⟩; obtain ⟨c0, c1, c2', c3, c4, c5⟩ := HP.out; replace c0 := cell_stays c0 b2; replace c1 := cell_stays c1 b2; replace c2' := cell_stays c2' b2; replace c3 := cell_stays c3 b2; replace c4 := cell_stays c4 b2; replace c5 := cell_stays c5 b2; have H2 := hide (And.intro o2 b2); clear o2 b2 hcl)
        | (refine hpl _ _ _ H2 rfl _ _ rfl rfl rfl ?_; intro a3 c3' w3 H3))
      go_ret
      exact H3.out
  have e4 : (d == 4) = false := by simpa using h4
  have e2 : (d == 2) = false := by rw [beq_eq_false_iff_ne]; omega
  have e5 : (d == 5) = false := by rw [beq_eq_false_iff_ne]; omega
  have e7 : (d == 7) = false := by rw [beq_eq_false_iff_ne]; omega
  clear push
  by_cases h3 : d = 3
  · subst h3
    rw [show changeL l 3 ((g, r, l0, n0, i0), t0) = keepL t0 l from rfl]
    have kd : ∀ (w2 : World) (a2 : Option Addr) (c2 : Nat), Hid (Oe w2 w1.heap.size (.slice a2 N c2) l ∧ Below w1.heap.size w1 w2) → Calls Tryd.prog 46 #[.slice a2 N c2, .func (.func 47) #[] #[.pointer (some ⟨w.heap.size, 0, none⟩)]] w2 fun e w' => ∃ a' c', e = .returned (.slice a' (keepL t0 l).length c') ∧ Hid (ChgE w (keepL t0 l) (.returned (.slice a' (keepL t0 l).length c')) w') := by
      intro w2 a2 c2 H
      obtain ⟨ho, hbw, hsz⟩ := fin H.out.1 H.out.2
      rw [HC.out.2.2.2.2.1]
      rcases ho.shape with ⟨e, rfl⟩ | ⟨g2, cap2, e, hg1, hg2, hg3⟩
      · cases e
        refine (delete_nil w.heap.size w2).mono ?_
        rintro e w' ⟨rfl, rfl⟩
        exact ⟨none, 0, rfl, hide ⟨none, 0, rfl, ⟨Rv.none _, by simp⟩, hbw⟩⟩
      · cases e
        refine (delete_any t0 ho (by have := HC.out.2.2.2.2.2; omega) (cell_stays HP.out.2.2.2.2.2 H.out.2) (by have := HC.out.2.2.2.1; omega) H.out.2.size).mono ?_
        rintro e w' ⟨rfl, h1, h2⟩
        exact ⟨_, _, rfl, hide ⟨_, _, rfl, Nv.own h1 hsz, hbw.trans (h2.mono hsz)⟩⟩
    generalize hK : keepL t0 l = K at kd ⊢
    obtain ⟨M, hM⟩ : ∃ M, M = K.length := ⟨_, rfl⟩
    simp only [← hM] at kd
    clear hK hM
    go_enter Tryd.func26, Tryd.ntmps26
    go_wp2_with (first
      | (go_at_call 45; refine hcl.mono ?_; rw [← HC.out.1]; rintro e w2 ⟨a2, c2, rfl, o2, b2⟩; obtain ⟨c0, c1, c2', c3, c4, c5⟩ := HP.out; replace c0 := cell_stays c0 b2; replace c1 := cell_stays c1 b2; replace c2' := cell_stays c2' b2; replace c3 := cell_stays c3 b2; replace c4 := cell_stays c4 b2; replace c5 := cell_stays c5 b2; have H2 := hide (And.intro o2 b2); clear o2 b2 hcl)
      | (go_at_call 46; refine (kd _ _ _ H2).mono ?_; rintro e w3 ⟨a3, c3', rfl, H3⟩))
    go_ret
    exact H3.out
  have e3 : (d == 3) = false := by simpa using h3
  by_cases h6 : d = 6
  · subst h6
    rw [show changeL l 6 ((g, r, l0, n0, i0), t0) = l.drop 1 from rfl]
    have kp := fun (w2 : World) (a2 : Option Addr) (c2 : Nat) (H : Hid (Oe w2 w1.heap.size (.slice a2 N c2) l ∧ Below w1.heap.size w1 w2)) => pop_slice H.out.1 HC.out.2.2.2.2.1
    go_enter Tryd.func26, Tryd.ntmps26
    go_wp2_with (go_at_call 45; refine hcl.mono ?_; rw [← HC.out.1]; rintro e w2 ⟨a2, c2, rfl, o2, b2⟩; obtain ⟨c0, c1, c2', c3, c4, c5⟩ := HP.out; replace c0 := cell_stays c0 b2; replace c1 := cell_stays c1 b2; replace c2' := cell_stays c2' b2; replace c3 := cell_stays c3 b2; replace c4 := cell_stays c4 b2; replace c5 := cell_stays c5 b2; have H2 := hide (And.intro o2 b2); clear o2 b2 hcl; obtain ⟨A, C, hsl, hnv⟩ := kp _ _ _ H2; have HN := hide hnv; clear hnv kp)
    go_ret
    obtain ⟨ho, hbw, hsz⟩ := fin H2.out.1 H2.out.2
    exact ⟨A, C, by rw [List.length_drop, ← HC.out.2.2.2.2.1]; rfl, ⟨HN.out.rv, fun a ha => Nat.le_trans hsz (HN.out.new a ha)⟩, hbw⟩
  · have e6 : (d == 6) = false := by simpa using h6
    rw [show changeL l d ((g, r, l0, n0, i0), t0) = l by unfold changeL; rw [if_neg h4, if_neg h257, if_neg h3, if_neg h6]]
    go_enter Tryd.func26, Tryd.ntmps26
    go_wp2_with (go_at_call 45; refine hcl.mono ?_; rw [← HC.out.1]; rintro e w2 ⟨a2, c2, rfl, o2, b2⟩; obtain ⟨c0, c1, c2', c3, c4, c5⟩ := HP.out; replace c0 := cell_stays c0 b2; replace c1 := cell_stays c1 b2; replace c2' := cell_stays c2' b2; replace c3 := cell_stays c3 b2; replace c4 := cell_stays c4 b2; replace c5 := cell_stays c5 b2; have H2 := hide (And.intro o2 b2); clear o2 b2 hcl)
    go_ret
    obtain ⟨ho, hbw, hsz⟩ := fin H2.out.1 H2.out.2
    exact ⟨a2, c2, by rw [← HC.out.2.2.2.2.1]; rfl, Nv.own ho hsz, hbw⟩
end Go.Proofs.YtkdgageljgfgoaaDoor
