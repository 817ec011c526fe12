/-
  The document's SameElements 65, Same 35, SameTexts 54; the laws' at 38.
-/
import Derived.Test.YtkdgageljgfgoaaDoorWords2
namespace Go.Proofs.YtkdgageljgfgoaaDoor
open Go.RowKit Go.Shelf
set_option linter.unusedSimpArgs false
attribute [local go_sem] Oper.semAt_some

set_option maxHeartbeats 4000000 in
set_option maxRecDepth 100000 in
theorem sameEls_any {w : World} {ao bo : Option Addr} {c d : Nat} {l m : List El} (h : Re w ao l) (k : Re w bo m) (hl : l.length ≤ 1000000) (hm : m.length ≤ 1000000) : Calls Tryd.prog 32 #[.slice ao l.length c, .slice bo m.length d] w fun e w' => e = .returned (.bool (decide (l = m))) ∧ ∃ n, w' = w.drewN n := by
  obtain ⟨N, hN⟩ : ∃ N, N = l.length := ⟨_, rfl⟩
  obtain ⟨M, hM⟩ : ∃ N, N = m.length := ⟨_, rfl⟩
  obtain ⟨R, hR⟩ : ∃ R, R = decide (l = m) := ⟨_, rfl⟩
  rw [← hR]
  rw [← hN] at hl ⊢
  rw [← hM] at hm ⊢
  have H := hide (And.intro hN (And.intro hM (And.intro h k)))
  have HR := hide hR
  clear hN hM hR h k
  by_cases hNM : N = M
  · subst hNM
    go_enter Tryd.func32, Tryd.ntmps32
    go_wp2
    go_loopw [5] (fun iv wr => ∃ i : Nat, i ≤ N ∧ iv = .int .i64 i ∧ Hid (l.take i = m.take i) ∧ ∃ n, wr = w.drewN n) (fun iv _ => N - (intOf iv).toNat)
    case atStart => exact ⟨0, by omega, rfl, hide (by simp), 0, rfl⟩
    case round =>
      obtain ⟨i, hi, rfl, hrest, n, hwr⟩ := hrel
      have hlr : Re wr ao l := by rw [hwr]; exact ⟨H.out.2.2.1.1, H.out.2.2.1.2⟩
      have hmr : Re wr bo m := by rw [hwr]; exact ⟨H.out.2.2.2.1, H.out.2.2.2.2⟩
      have HWR := hide hwr
      clear hwr
      by_cases h1 : i < N
      · have z1 : (i : Int) < (N : Int) := by omega
        have d1 : decide (i < N) = true := by simpa using h1
        obtain ⟨x, hx⟩ : ∃ x, l[i]? = some x := ⟨_, List.getElem?_eq_getElem (by rw [← H.out.1]; exact h1)⟩
        obtain ⟨y, hy⟩ : ∃ y, m[i]? = some y := ⟨_, List.getElem?_eq_getElem (by rw [← H.out.2.1]; exact h1)⟩
        obtain ⟨ab, off, rfl, q0, q1, q2, q3, q4, q5⟩ := hlr.cells hx
        obtain ⟨bb, ob, rfl, p0, p1, p2, p3, p4, p5⟩ := hmr.cells hy
        have hne := fun W => run_ne77 x y W
        have HX := hide (And.intro hx hy)
        clear hx hy hlr hmr
        by_cases hxy : x = y
        · have HXY := hide hxy
          have d2 : decide (x = y) = true := by simpa using hxy
          rw [d2] at hne
          clear hxy d2
          obtain ⟨⟨g, r, l0, n0, i0⟩, t0⟩ := x
          obtain ⟨⟨g', r', l0', n0', i0'⟩, t0'⟩ := y
          dsimp only at q0 q1 q2 q3 q4 q5 p0 p1 p2 p3 p4 p5
          go_wp2
          go_quiet (fail)
          go_wp2
          go_roundw
          case rel => exact ⟨i + 1, by omega, by go_num, hide (by rw [List.take_add_one, List.take_add_one, HX.out.1, HX.out.2, hrest.out, HXY.out]), _, by rw [HWR.out, World.drewN_drewN]⟩
          case measure => simp [intOf]; omega
        · have hd : R = false := by
            rw [HR.out]
            simp only [decide_eq_false_iff_not]
            intro e
            have := HX.out.1.symm.trans ((congrArg (·[i]?) e).trans HX.out.2)
            exact hxy (by simpa using this)
          have d2 : decide (x = y) = false := by simpa using hxy
          rw [d2] at hne
          have HD := hide hd
          clear hd hxy d2
          obtain ⟨⟨g, r, l0, n0, i0⟩, t0⟩ := x
          obtain ⟨⟨g', r', l0', n0', i0'⟩, t0'⟩ := y
          dsimp only at q0 q1 q2 q3 q4 q5 p0 p1 p2 p3 p4 p5
          go_wp2
          go_quiet (fail)
          go_wp2
          go_ret
          exact ⟨by rw [HD.out]; rfl, _, by rw [HWR.out, World.drewN_drewN]⟩
      · obtain rfl : i = N := by omega
        have d1 : decide (i < i) = false := by simp
        go_wp2
        go_ret
        have : l = m := by
          have := hrest.out
          rwa [show l.take i = l by rw [H.out.1]; exact List.take_length, show m.take i = m by rw [H.out.2.1]; exact List.take_length] at this
        exact ⟨by rw [HR.out, decide_eq_true this]; rfl, n, HWR.out⟩
  · have e1 : ((N : Int) == (M : Int)) = false := by rw [beq_eq_false_iff_ne]; omega
    have hd : R = false := by
      rw [HR.out]
      simp only [decide_eq_false_iff_not]
      intro e
      exact hNM (by rw [H.out.1, H.out.2.1, e])
    subst hd
    go_enter Tryd.func32, Tryd.ntmps32
    go_wp2
    go_ret
    exact ⟨rfl, 0, rfl⟩

set_option maxHeartbeats 2000000 in
set_option maxRecDepth 100000 in
theorem refSame_any {w : World} (k n k' n' : Int) {ao bo : Option Addr} {c d : Nat} {l m : List El} (h : Re w ao l) (hm : Re w bo m) (hl : l.length ≤ 1000000) (hml : m.length ≤ 1000000) : Calls Tryd.prog 17 #[vv k n ao l.length c, vv k' n' bo m.length d] w fun e w' => e = .returned (.bool (sameV k n l k' n' m)) ∧ Below w.heap.size w w' := by
  obtain ⟨N, hN⟩ : ∃ N, N = l.length := ⟨_, rfl⟩
  obtain ⟨M, hM⟩ : ∃ N, N = m.length := ⟨_, rfl⟩
  obtain ⟨m0, m1, b1⟩ := new2b w (.cells #[.int .i64 k, .int .i64 n, .slice ao N c] 30) (.cells #[.int .i64 k', .int .i64 n', .slice bo M d] 30)
  have he := sameEls_any (c := c) (d := d) (h.below b1) (hm.below b1) hl hml
  rw [← hN, ← hM] at he
  rw [← hN, ← hM]
  unfold sameV
  generalize decide (l = m) = R at *
  have HB := hide b1
  clear h hm hl hml hN hM b1
  by_cases h1 : k = k'
  · subst h1
    by_cases h2 : n = n'
    · subst h2
      simp only [beq_self_eq_true, Bool.true_and]
      go_enter Tryd.func17, Tryd.ntmps17
      go_wp2_with (go_at_call 32; refine he.mono ?_; rintro e w2 ⟨rfl, q, hq⟩; have Hq := hide hq; clear hq)
      go_ret
      exact ⟨rfl, by rw [Hq.out]; exact below_drw HB.out q⟩
    · have e2 : (n == n') = false := by simpa using h2
      simp only [beq_self_eq_true, Bool.true_and, e2, Bool.false_and]
      go_enter Tryd.func17, Tryd.ntmps17
      go_wp2
      go_ret
      exact ⟨rfl, HB.out⟩
  · have e1 : (k == k') = false := by simpa using h1
    simp only [e1, Bool.false_and]
    go_enter Tryd.func17, Tryd.ntmps17
    go_wp2
    go_ret
    exact ⟨rfl, HB.out⟩

set_option maxHeartbeats 4000000 in
set_option maxRecDepth 100000 in
theorem sameTexts_any {w : World} {ao bo : Option Addr} {c d : Nat} {l m : List ByteArray} (h : Rs w ao l) (k : Rs w bo m) (hl : l.length ≤ 1000000) (hm : m.length ≤ 1000000) : Calls Tryd.prog 18 #[.slice ao l.length c, .slice bo m.length d] w fun e w' => e = .returned (.bool (decide (l = m))) ∧ ∃ n, w' = w.drewN n := by
  obtain ⟨N, hN⟩ : ∃ N, N = l.length := ⟨_, rfl⟩
  obtain ⟨M, hM⟩ : ∃ N, N = m.length := ⟨_, rfl⟩
  obtain ⟨R, hR⟩ : ∃ R, R = decide (l = m) := ⟨_, rfl⟩
  rw [← hR]
  rw [← hN] at hl ⊢
  rw [← hM] at hm ⊢
  have H := hide (And.intro hN (And.intro hM (And.intro h k)))
  have HR := hide hR
  clear hN hM hR h k
  by_cases hNM : N = M
  · subst hNM
    go_enter Tryd.func18, Tryd.ntmps18
    go_wp2
    go_loopw [5] (fun iv wr => ∃ i : Nat, i ≤ N ∧ iv = .int .i64 i ∧ Hid (l.take i = m.take i) ∧ ∃ n, wr = w.drewN n) (fun iv _ => N - (intOf iv).toNat)
    case atStart => exact ⟨0, by omega, rfl, hide (by simp), 0, rfl⟩
    case round =>
      obtain ⟨i, hi, rfl, hrest, n, hwr⟩ := hrel
      have hlr : Rs wr ao l := by rw [hwr]; exact ⟨H.out.2.2.1.1, H.out.2.2.1.2⟩
      have hmr : Rs wr bo m := by rw [hwr]; exact ⟨H.out.2.2.2.1, H.out.2.2.2.2⟩
      have HWR := hide hwr
      clear hwr
      by_cases h1 : i < N
      · have z1 : (i : Int) < (N : Int) := by omega
        have d1 : decide (i < N) = true := by simpa using h1
        obtain ⟨x, hx⟩ : ∃ x, l[i]? = some x := ⟨_, List.getElem?_eq_getElem (by rw [← H.out.1]; exact h1)⟩
        obtain ⟨y, hy⟩ : ∃ y, m[i]? = some y := ⟨_, List.getElem?_eq_getElem (by rw [← H.out.2.1]; exact h1)⟩
        obtain ⟨ab, off, rfl, q0⟩ := hlr.at hx
        obtain ⟨bb, ob, rfl, p0⟩ := hmr.at hy
        have HX := hide (And.intro hx hy)
        clear hx hy hlr hmr
        by_cases hxy : x = y
        · have HXY := hide hxy
          have d2 : (x.toList == y.toList) = true := bytes_same.2 hxy
          clear hxy
          go_wp2
          go_quiet (fail)
          go_wp2
          go_roundw
          case rel => exact ⟨i + 1, by omega, by go_num, hide (by rw [List.take_add_one, List.take_add_one, HX.out.1, HX.out.2, hrest.out, HXY.out]), _, by rw [HWR.out, World.drewN_drewN]⟩
          case measure => simp [intOf]; omega
        · have hd : R = false := by
            rw [HR.out]
            simp only [decide_eq_false_iff_not]
            intro e
            have := HX.out.1.symm.trans ((congrArg (·[i]?) e).trans HX.out.2)
            exact hxy (by simpa using this)
          have d2 : (x.toList == y.toList) = false := by rw [Bool.eq_false_iff, Ne, bytes_same]; exact hxy
          have HD := hide hd
          clear hd hxy
          go_wp2
          go_quiet (fail)
          go_wp2
          go_ret
          exact ⟨by rw [HD.out]; rfl, _, by rw [HWR.out, World.drewN_drewN]⟩
      · obtain rfl : i = N := by omega
        have d1 : decide (i < i) = false := by simp
        go_wp2
        go_ret
        have : l = m := by
          have := hrest.out
          rwa [show l.take i = l by rw [H.out.1]; exact List.take_length, show m.take i = m by rw [H.out.2.1]; exact List.take_length] at this
        exact ⟨by rw [HR.out, decide_eq_true this]; rfl, n, HWR.out⟩
  · have e1 : ((N : Int) == (M : Int)) = false := by rw [beq_eq_false_iff_ne]; omega
    have hd : R = false := by
      rw [HR.out]
      simp only [decide_eq_false_iff_not]
      intro e
      exact hNM (by rw [H.out.1, H.out.2.1, e])
    subst hd
    go_enter Tryd.func18, Tryd.ntmps18
    go_wp2
    go_ret
    exact ⟨rfl, 0, rfl⟩


/-- The laws' stamps. -/
def atS (g : Int) : St := (g, 0, ⟨#[97]⟩, 1, 0)
theorem Tryd.info46 : (Tryd.prog.info? 46).map (·.size) = some 5 := by kernel_rfl
theorem at_any (g : Int) (w : World) : Calls Tryd.prog 13 #[.int .i64 g] w fun e w' => e = .returned (svT (atS g)) ∧ Below w.heap.size w w' := by
  have hb : Below w.heap.size w (w.alloc (.cells #[.int .i64 g, .int .i64 0, .string ⟨#[97]⟩, .int .i64 1, .int .i64 0] 46)) := (Below.refl _ w).alloc (Nat.le_refl _) _
  have hn := heap_alloc_new w (.cells #[.int .i64 g, .int .i64 0, .string ⟨#[97]⟩, .int .i64 1, .int .i64 0] 46)
  have HB := hide (And.intro hb hn)
  clear hb hn
  go_enter Tryd.func13, Tryd.ntmps13
  go_wp2
  refine ret_row w.heap.size [.int .i64 g, .int .i64 0, .string ⟨#[97]⟩, .int .i64 1, .int .i64 0] rfl rfl Tryd.underlying46 rfl Tryd.info46 HB.out.2 rfl ?_
  exact ⟨rfl, HB.out.1⟩
end Go.Proofs.YtkdgageljgfgoaaDoor
