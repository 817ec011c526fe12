/-
  slices.Equal 61 over elements; kinds: Same 26, Stamped 15.
-/
import Derived.Test.YtkdgageljgfgoaaGreatDoorThree
namespace Go.Proofs.YtkdgageljgfgoaaGreatDoor
open Go.RowKit Go.Shelf
set_option linter.unusedSimpArgs false
attribute [local go_sem] Oper.semAt_some

set_option maxHeartbeats 4000000 in
set_option maxRecDepth 100000 in
theorem equalE_any {w : World} {ao bo : Option Addr} {c d : Nat} {l m : List El} (h : Re w ao l) (k : Re w bo m) (hl : l.length ≤ 1000000) (hm : m.length ≤ 1000000) : Calls Tryz.prog 61 #[.slice ao l.length c, .slice bo m.length d] w fun e w' => e = .returned (.bool (decide (l = m))) ∧ ∃ n, w' = w.drewN n := by
  obtain ⟨N, hN⟩ : ∃ N, N = l.length := ⟨_, rfl⟩
  obtain ⟨M, hM⟩ : ∃ N, N = m.length := ⟨_, rfl⟩
  obtain ⟨R, hR⟩ : ∃ R, R = decide (l = m) := ⟨_, rfl⟩
  rw [← hR]
  rw [← hN] at hl ⊢
  rw [← hM] at hm ⊢
  have H := hide (And.intro hN (And.intro hM (And.intro h k)))
  have HR := hide hR
  clear hN hM hR h k
  by_cases hNM : N = M
  · subst hNM
    go_enter Tryz.func61, Tryz.ntmps61
    go_wp2
    go_loopw [13] (fun iv wr => ∃ i : Nat, i ≤ N ∧ iv = .int .i64 i ∧ Hid (l.take i = m.take i) ∧ ∃ n, wr = w.drewN n) (fun iv _ => N - (intOf iv).toNat)
    case atStart => exact ⟨0, by omega, rfl, hide (by simp), 0, rfl⟩
    case round =>
      obtain ⟨i, hi, rfl, hrest, n, hwr⟩ := hrel
      have hlr : Re wr ao l := by rw [hwr]; exact ⟨H.out.2.2.1.1, H.out.2.2.1.2⟩
      have hmr : Re wr bo m := by rw [hwr]; exact ⟨H.out.2.2.2.1, H.out.2.2.2.2⟩
      have HWR := hide hwr
      clear hwr
      by_cases h1 : i < N
      · have z1 : (i : Int) < (N : Int) := by omega
        have d1 : decide (i < N) = true := by simpa using h1
        obtain ⟨x, hx⟩ : ∃ x, l[i]? = some x := ⟨_, List.getElem?_eq_getElem (by rw [← H.out.1]; exact h1)⟩
        obtain ⟨y, hy⟩ : ∃ y, m[i]? = some y := ⟨_, List.getElem?_eq_getElem (by rw [← H.out.2.1]; exact h1)⟩
        obtain ⟨ab, off, rfl, q0, q1, q2, q3, q4, q5⟩ := hlr.cells hx
        obtain ⟨bb, ob, rfl, p0, p1, p2, p3, p4, p5⟩ := hmr.cells hy
        have hne := fun W => run_ne77 x y W
        have HX := hide (And.intro hx hy)
        clear hx hy hlr hmr
        by_cases hxy : x = y
        · have HXY := hide hxy
          have d2 : decide (x = y) = true := by simpa using hxy
          rw [d2] at hne
          clear hxy d2
          obtain ⟨⟨g, r, l0, n0, i0⟩, t0⟩ := x
          obtain ⟨⟨g', r', l0', n0', i0'⟩, t0'⟩ := y
          dsimp only at q0 q1 q2 q3 q4 q5 p0 p1 p2 p3 p4 p5
          go_wp2
          go_quiet (fail)
          go_wp2
          go_roundw
          case rel => exact ⟨i + 1, by omega, by go_num, hide (by rw [List.take_add_one, List.take_add_one, HX.out.1, HX.out.2, hrest.out, HXY.out]), _, by rw [HWR.out, World.drewN_drewN]⟩
          case measure => simp [intOf]; omega
        · have hd : R = false := by
            rw [HR.out]
            simp only [decide_eq_false_iff_not]
            intro e
            have := HX.out.1.symm.trans ((congrArg (·[i]?) e).trans HX.out.2)
            exact hxy (by simpa using this)
          have d2 : decide (x = y) = false := by simpa using hxy
          rw [d2] at hne
          have HD := hide hd
          clear hd hxy d2
          obtain ⟨⟨g, r, l0, n0, i0⟩, t0⟩ := x
          obtain ⟨⟨g', r', l0', n0', i0'⟩, t0'⟩ := y
          dsimp only at q0 q1 q2 q3 q4 q5 p0 p1 p2 p3 p4 p5
          go_wp2
          go_quiet (fail)
          go_wp2
          go_ret
          exact ⟨by rw [HD.out]; rfl, _, by rw [HWR.out, World.drewN_drewN]⟩
      · obtain rfl : i = N := by omega
        have d1 : decide (i < i) = false := by simp
        go_wp2
        go_ret
        have : l = m := by
          have := hrest.out
          rwa [show l.take i = l by rw [H.out.1]; exact List.take_length, show m.take i = m by rw [H.out.2.1]; exact List.take_length] at this
        exact ⟨by rw [HR.out, decide_eq_true this]; rfl, n, HWR.out⟩
  · have e1 : ((N : Int) == (M : Int)) = false := by rw [beq_eq_false_iff_ne]; omega
    have hd : R = false := by
      rw [HR.out]
      simp only [decide_eq_false_iff_not]
      intro e
      exact hNM (by rw [H.out.1, H.out.2.1, e])
    subst hd
    go_enter Tryz.func61, Tryz.ntmps61
    go_wp2
    go_ret
    exact ⟨rfl, 0, rfl⟩

/-- Have two values the same fields? -/
def sameV (k n : Int) (l : List El) (k' n' : Int) (m : List El) : Bool := (k == k') && (n == n') && decide (l = m)
theorem new2b (w : World) (o1 o2 : Obj) : ((w.alloc o1).alloc o2).heap[w.heap.size]? = some o1 ∧ ((w.alloc o1).alloc o2).heap[w.heap.size + 1]? = some o2 ∧ Below w.heap.size w ((w.alloc o1).alloc o2) := by
  have h1 := heap_alloc_new w o1
  have h2 := heap_alloc_new (w.alloc o1) o2
  have hs : (w.alloc o1).heap.size = w.heap.size + 1 := by simp
  have b1 : Below w.heap.size w (w.alloc o1) := (Below.refl _ w).alloc (Nat.le_refl _) _
  have b2 : Below (w.alloc o1).heap.size (w.alloc o1) ((w.alloc o1).alloc o2) := (Below.refl _ _).alloc (Nat.le_refl _) _
  rw [hs] at h2
  exact ⟨(b2.block _ (by omega)).trans h1, h2, b1.trans (b2.mono b1.size)⟩
set_option maxHeartbeats 2000000 in
set_option maxRecDepth 100000 in
theorem same_any {w : World} (k n k' n' : Int) {ao bo : Option Addr} {c d : Nat} {l m : List El} (h : Re w ao l) (hm : Re w bo m) (hl : l.length ≤ 1000000) (hml : m.length ≤ 1000000) : Calls Tryz.prog 26 #[vv k n ao l.length c, vv k' n' bo m.length d] w fun e w' => e = .returned (.bool (sameV k n l k' n' m)) ∧ Below w.heap.size w w' := by
  obtain ⟨N, hN⟩ : ∃ N, N = l.length := ⟨_, rfl⟩
  obtain ⟨M, hM⟩ : ∃ N, N = m.length := ⟨_, rfl⟩
  obtain ⟨m0, m1, b1⟩ := new2b w (.cells #[.int .i64 k, .int .i64 n, .slice ao N c] 46) (.cells #[.int .i64 k', .int .i64 n', .slice bo M d] 46)
  have he := equalE_any (c := c) (d := d) (h.below b1) (hm.below b1) hl hml
  rw [← hN, ← hM] at he
  rw [← hN, ← hM]
  unfold sameV
  generalize decide (l = m) = R at *
  have HB := hide b1
  clear h hm hl hml hN hM b1
  by_cases h1 : k = k'
  · subst h1
    by_cases h2 : n = n'
    · subst h2
      simp only [beq_self_eq_true, Bool.true_and]
      go_enter Tryz.func26, Tryz.ntmps26
      go_wp2_with (go_at_call 61; refine he.mono ?_; rintro e w2 ⟨rfl, q, hq⟩; have Hq := hide hq; clear hq)
      go_ret
      exact ⟨rfl, by rw [Hq.out]; exact below_drw HB.out q⟩
    · have e2 : (n == n') = false := by simpa using h2
      simp only [beq_self_eq_true, Bool.true_and, e2, Bool.false_and]
      go_enter Tryz.func26, Tryz.ntmps26
      go_wp2
      go_ret
      exact ⟨rfl, HB.out⟩
  · have e1 : (k == k') = false := by simpa using h1
    simp only [e1, Bool.false_and]
    go_enter Tryz.func26, Tryz.ntmps26
    go_wp2
    go_ret
    exact ⟨rfl, HB.out⟩

end Go.Proofs.YtkdgageljgfgoaaGreatDoor
