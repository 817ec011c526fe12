/-
  kinds: SameTexts, DoWords, Check of the document.
-/
import Derived.Test.YtpepgoelnagoaaaGreatDoorKiB
namespace Go.Proofs.YtpepgoelnagoaaaGreatDoor.Ki
open Go.RowKit Go.Shelf
set_option linter.unusedSimpArgs false
attribute [local go_sem] Oper.semAt_some
set_option maxHeartbeats 4000000 in
set_option maxRecDepth 100000 in
theorem sameTexts_any {w : World} {ao bo : Option Addr} {c d : Nat} {l m : List ByteArray} (h : Rs w ao l) (k : Rs w bo m) (hl : l.length ≤ 1000000) (hm : m.length ≤ 1000000) : Calls Tryz.prog 74 #[.slice ao l.length c, .slice bo m.length d] w fun e w' => e = .returned (.bool (decide (l = m))) ∧ ∃ n, w' = w.drewN n := by
  obtain ⟨N, hN⟩ : ∃ N, N = l.length := ⟨_, rfl⟩
  obtain ⟨M, hM⟩ : ∃ N, N = m.length := ⟨_, rfl⟩
  obtain ⟨R, hR⟩ : ∃ R, R = decide (l = m) := ⟨_, rfl⟩
  rw [← hR]
  rw [← hN] at hl ⊢
  rw [← hM] at hm ⊢
  have H := hide (And.intro hN (And.intro hM (And.intro h k)))
  have HR := hide hR
  clear hN hM hR h k
  by_cases hNM : N = M
  · subst hNM
    go_enter Tryz.func74, Tryz.ntmps74
    go_wp2
    go_loopw [5] (fun iv wr => ∃ i : Nat, i ≤ N ∧ iv = .int .i64 i ∧ Hid (l.take i = m.take i) ∧ ∃ n, wr = w.drewN n) (fun iv _ => N - (intOf iv).toNat)
    case atStart => exact ⟨0, by omega, rfl, hide (by simp), 0, rfl⟩
    case round =>
      obtain ⟨i, hi, rfl, hrest, n, hwr⟩ := hrel
      have hlr : Rs wr ao l := by rw [hwr]; exact ⟨H.out.2.2.1.1, H.out.2.2.1.2⟩
      have hmr : Rs wr bo m := by rw [hwr]; exact ⟨H.out.2.2.2.1, H.out.2.2.2.2⟩
      have HWR := hide hwr
      clear hwr
      by_cases h1 : i < N
      · have z1 : (i : Int) < (N : Int) := by omega
        have d1 : decide (i < N) = true := by simpa using h1
        obtain ⟨x, hx⟩ : ∃ x, l[i]? = some x := ⟨_, List.getElem?_eq_getElem (by rw [← H.out.1]; exact h1)⟩
        obtain ⟨y, hy⟩ : ∃ y, m[i]? = some y := ⟨_, List.getElem?_eq_getElem (by rw [← H.out.2.1]; exact h1)⟩
        obtain ⟨ab, off, rfl, q0⟩ := hlr.at hx
        obtain ⟨bb, ob, rfl, p0⟩ := hmr.at hy
        have HX := hide (And.intro hx hy)
        clear hx hy hlr hmr
        by_cases hxy : x = y
        · have HXY := hide hxy
          have d2 : (x.toList == y.toList) = true := bytes_same.2 hxy
          clear hxy
          go_wp2
          go_quiet (fail)
          go_wp2
          go_roundw
          case rel => exact ⟨i + 1, by omega, by go_num, hide (by rw [List.take_add_one, List.take_add_one, HX.out.1, HX.out.2, hrest.out, HXY.out]), _, by rw [HWR.out, World.drewN_drewN]⟩
          case measure => simp [intOf]; omega
        · have hd : R = false := by
            rw [HR.out]
            simp only [decide_eq_false_iff_not]
            intro e
            have := HX.out.1.symm.trans ((congrArg (·[i]?) e).trans HX.out.2)
            exact hxy (by simpa using this)
          have d2 : (x.toList == y.toList) = false := by rw [Bool.eq_false_iff, Ne, bytes_same]; exact hxy
          have HD := hide hd
          clear hd hxy
          go_wp2
          go_quiet (fail)
          go_wp2
          go_ret
          exact ⟨by rw [HD.out]; rfl, _, by rw [HWR.out, World.drewN_drewN]⟩
      · obtain rfl : i = N := by omega
        have d1 : decide (i < i) = false := by simp
        go_wp2
        go_ret
        have : l = m := by
          have := hrest.out
          rwa [show l.take i = l by rw [H.out.1]; exact List.take_length, show m.take i = m by rw [H.out.2.1]; exact List.take_length] at this
        exact ⟨by rw [HR.out, decide_eq_true this]; rfl, n, HWR.out⟩
  · have e1 : ((N : Int) == (M : Int)) = false := by rw [beq_eq_false_iff_ne]; omega
    have hd : R = false := by
      rw [HR.out]
      simp only [decide_eq_false_iff_not]
      intro e
      exact hNM (by rw [H.out.1, H.out.2.1, e])
    subst hd
    go_enter Tryz.func74, Tryz.ntmps74
    go_wp2
    go_ret
    exact ⟨rfl, 0, rfl⟩


theorem words9 (w : World) : Calls Tryz.prog 56 #[] w fun e w' => e = .returned (.slice (some ⟨w.heap.size, 0, none⟩) 8 8) ∧ w' = w.alloc (.cells ((⟨#[]⟩ :: doWs).map Value.string).toArray 9) := by
  go_enter Tryz.func56, Tryz.ntmps56
  go_wp2
  go_ret
  exact ⟨rfl, rfl⟩
theorem chk_bad {V1 V2 V3 V4 V5 V6 : Bool} {a b : Int} (h : V1 = false ∨ V2 = false ∨ V3 = false ∨ V4 = false ∨ V5 = false ∨ V6 = false) : (if (V1 && V2 && V3 && V4 && V5 && V6) = true then a else b) = b := by
  rcases h with rfl | rfl | rfl | rfl | rfl | rfl <;> simp

set_option maxHeartbeats 8000000 in
set_option maxRecDepth 100000 in
theorem refCheck_any {w : World} {ao : Option Addr} {c : Nat} {p : List ByteArray} (k : Int) (s : ByteArray) (d n : Int) (t : ByteArray) (h : Rs w ao p) : Calls Tryz.prog 13 #[opv ao p.length c k s d n t] w fun e w' => e = .returned (.int .i64 (checkE p k s d n t)) ∧ Below w.heap.size w w' := by
  obtain ⟨N, hN⟩ : ∃ N, N = p.length := ⟨_, rfl⟩
  obtain ⟨w1, hw1⟩ : ∃ w1, w1 = w.alloc (.cells #[.slice ao N c, .int .i64 k, .string s, .int .i64 d, .int .i64 n, .string t] 34) := ⟨_, rfl⟩
  have b1 : Below w.heap.size w w1 := by rw [hw1]; exact (Below.refl _ w).alloc (Nat.le_refl _) _
  have m0 := heap_alloc_new w (.cells #[.slice ao N c, .int .i64 k, .string s, .int .i64 d, .int .i64 n, .string t] 34)
  rw [← hw1] at m0
  have hrs : Rs w1 ao p := ⟨h.1, fun a ha j s hj => cell_stays (h.2 a ha j s hj) b1⟩
  have k48 := refPath_any (c := c) hrs
  have k49 := fun W => refKey_any s W
  have k50 := fun W => refText_any t W
  have k20 := fun W => refOf_any d W
  obtain ⟨X, hX⟩ : ∃ X, X = w.heap.size := ⟨_, rfl⟩
  rw [← hX] at m0
  have up : ∀ W, Below w1.heap.size w1 W → W.cell? ⟨X, 0, none⟩ = some (.slice ao N c) ∧ W.cell? ⟨X, 1, none⟩ = some (.int .i64 k) ∧ W.cell? ⟨X, 2, none⟩ = some (.string s) ∧ W.cell? ⟨X, 3, none⟩ = some (.int .i64 d) ∧ W.cell? ⟨X, 4, none⟩ = some (.int .i64 n) ∧ W.cell? ⟨X, 5, none⟩ = some (.string t) := fun W hW => by
    have q := (hW.block _ (Array.getElem?_eq_some_iff.1 m0).1).trans m0
    exact ⟨(cell_of_row _ _ 0 _ 34 (0, 0) q).trans rfl, (cell_of_row _ _ 1 _ 34 (0, 0) q).trans rfl, (cell_of_row _ _ 2 _ 34 (0, 0) q).trans rfl, (cell_of_row _ _ 3 _ 34 (0, 0) q).trans rfl, (cell_of_row _ _ 4 _ 34 (0, 0) q).trans rfl, (cell_of_row _ _ 5 _ 34 (0, 0) q).trans rfl⟩
  have hex : checkE p k s d n t = if (pathB p && keyB s.data.toList && valuedK k && !(ofD d == 0) && (unN d n == 0 && (unT d t).toList == (⟨#[]⟩ : ByteArray).toList) && textB t) = true then (if ofD d = k then 0 else 7) else 2 := rfl
  obtain ⟨R, hR⟩ : ∃ R, R = checkE p k s d n t := ⟨_, rfl⟩
  rw [← hR]
  rw [hex] at hR
  rw [← hN] at k48 ⊢
  generalize pathB p = V1 at *
  generalize keyB s.data.toList = V2 at *
  generalize textB t = V6 at *
  have HR := hide hR
  have HW := hide (And.intro hw1 (And.intro b1 hX))
  obtain ⟨x0, x1, x2, x3, x4, x5⟩ := up w1 (Below.refl _ _)
  replace up := hide up
  clear h hN hw1 b1 m0 hrs hX hex hR
  cases V1
  · have hr : R = 2 := HR.out.trans (chk_bad (.inl rfl))
    subst hr
    go_enter Tryz.func13, Tryz.ntmps13
    go_upto_region 1 with fail
    have q1 := HW.out.1
    have q2 := HW.out.2.2
    rw [← q1, ← q2]
    clear q1 q2
    go_wp2_with (first
      | (go_at_call 49; refine k48.mono ?_; rintro e w2 ⟨rfl, b2⟩; clear x0 x1 x2 x3 x4 x5; obtain ⟨x0, x1, x2, x3, x4, x5⟩ := up.out w2 b2; have H2 := hide b2; clear b2))
    go_ret
    exact ⟨rfl, HW.out.2.1.trans (H2.out.mono HW.out.2.1.size)⟩
  cases V2
  · have hr : R = 2 := HR.out.trans (chk_bad (.inr (.inl rfl)))
    subst hr
    go_enter Tryz.func13, Tryz.ntmps13
    go_upto_region 1 with fail
    have q1 := HW.out.1
    have q2 := HW.out.2.2
    rw [← q1, ← q2]
    clear q1 q2
    go_wp2_with (first
      | (go_at_call 49; refine k48.mono ?_; rintro e w2 ⟨rfl, b2⟩; clear x0 x1 x2 x3 x4 x5; obtain ⟨x0, x1, x2, x3, x4, x5⟩ := up.out w2 b2; have H2 := hide b2; clear b2)
      | (go_at_call 50; refine (k49 _).mono ?_; rintro e w3 ⟨rfl, b3⟩; clear x0 x1 x2 x3 x4 x5; obtain ⟨x0, x1, x2, x3, x4, x5⟩ := up.out w3 (H2.out.trans (b3.mono H2.out.size)); have H3 := hide (H2.out.trans (b3.mono H2.out.size)); clear b3))
    go_ret
    exact ⟨rfl, HW.out.2.1.trans (H3.out.mono HW.out.2.1.size)⟩
  by_cases hk1 : k < 1
  · have ek1 : decide (k < 1) = true := by simpa using hk1
    have hr : R = 2 := HR.out.trans (chk_bad (.inr (.inr (.inl (by unfold valuedK; simp; omega)))))
    subst hr
    go_enter Tryz.func13, Tryz.ntmps13
    go_upto_region 1 with fail
    have q1 := HW.out.1
    have q2 := HW.out.2.2
    rw [← q1, ← q2]
    clear q1 q2
    go_wp2_with (first
      | (go_at_call 49; refine k48.mono ?_; rintro e w2 ⟨rfl, b2⟩; clear x0 x1 x2 x3 x4 x5; obtain ⟨x0, x1, x2, x3, x4, x5⟩ := up.out w2 b2; have H2 := hide b2; clear b2)
      | (go_at_call 50; refine (k49 _).mono ?_; rintro e w3 ⟨rfl, b3⟩; clear x0 x1 x2 x3 x4 x5; obtain ⟨x0, x1, x2, x3, x4, x5⟩ := up.out w3 (H2.out.trans (b3.mono H2.out.size)); have H3 := hide (H2.out.trans (b3.mono H2.out.size)); clear b3))
    go_ret
    exact ⟨rfl, HW.out.2.1.trans (H3.out.mono HW.out.2.1.size)⟩
  have ek1 : decide (k < 1) = false := by simpa using hk1
  by_cases hk5 : 5 < k
  · have ek5 : decide (5 < k) = true := by simpa using hk5
    have hr : R = 2 := HR.out.trans (chk_bad (.inr (.inr (.inl (by unfold valuedK; simp; omega)))))
    subst hr
    go_enter Tryz.func13, Tryz.ntmps13
    go_upto_region 1 with fail
    have q1 := HW.out.1
    have q2 := HW.out.2.2
    rw [← q1, ← q2]
    clear q1 q2
    go_wp2_with (first
      | (go_at_call 49; refine k48.mono ?_; rintro e w2 ⟨rfl, b2⟩; clear x0 x1 x2 x3 x4 x5; obtain ⟨x0, x1, x2, x3, x4, x5⟩ := up.out w2 b2; have H2 := hide b2; clear b2)
      | (go_at_call 50; refine (k49 _).mono ?_; rintro e w3 ⟨rfl, b3⟩; clear x0 x1 x2 x3 x4 x5; obtain ⟨x0, x1, x2, x3, x4, x5⟩ := up.out w3 (H2.out.trans (b3.mono H2.out.size)); have H3 := hide (H2.out.trans (b3.mono H2.out.size)); clear b3))
    go_ret
    exact ⟨rfl, HW.out.2.1.trans (H3.out.mono HW.out.2.1.size)⟩
  have ek5 : decide (5 < k) = false := by simpa using hk5
  by_cases hd1 : d < 1
  · have ed1 : decide (d < 1) = true := by simpa using hd1
    have hr : R = 2 := HR.out.trans (chk_bad (.inr (.inr (.inr (.inl (by have : ofD d = 0 := (by unfold ofD; repeat (first | rw [if_neg (by omega)])); simp [this]))))))
    subst hr
    go_enter Tryz.func13, Tryz.ntmps13
    go_upto_region 1 with fail
    have q1 := HW.out.1
    have q2 := HW.out.2.2
    rw [← q1, ← q2]
    clear q1 q2
    go_wp2_with (first
      | (go_at_call 49; refine k48.mono ?_; rintro e w2 ⟨rfl, b2⟩; clear x0 x1 x2 x3 x4 x5; obtain ⟨x0, x1, x2, x3, x4, x5⟩ := up.out w2 b2; have H2 := hide b2; clear b2)
      | (go_at_call 50; refine (k49 _).mono ?_; rintro e w3 ⟨rfl, b3⟩; clear x0 x1 x2 x3 x4 x5; obtain ⟨x0, x1, x2, x3, x4, x5⟩ := up.out w3 (H2.out.trans (b3.mono H2.out.size)); have H3 := hide (H2.out.trans (b3.mono H2.out.size)); clear b3))
    go_ret
    exact ⟨rfl, HW.out.2.1.trans (H3.out.mono HW.out.2.1.size)⟩
  have ed1 : decide (d < 1) = false := by simpa using hd1
  by_cases hd7 : 7 < d
  · have ed7 : decide (7 < d) = true := by simpa using hd7
    have hr : R = 2 := HR.out.trans (chk_bad (.inr (.inr (.inr (.inl (by have : ofD d = 0 := (by unfold ofD; repeat (first | rw [if_neg (by omega)])); simp [this]))))))
    subst hr
    go_enter Tryz.func13, Tryz.ntmps13
    go_upto_region 1 with fail
    have q1 := HW.out.1
    have q2 := HW.out.2.2
    rw [← q1, ← q2]
    clear q1 q2
    go_wp2_with (first
      | (go_at_call 49; refine k48.mono ?_; rintro e w2 ⟨rfl, b2⟩; clear x0 x1 x2 x3 x4 x5; obtain ⟨x0, x1, x2, x3, x4, x5⟩ := up.out w2 b2; have H2 := hide b2; clear b2)
      | (go_at_call 50; refine (k49 _).mono ?_; rintro e w3 ⟨rfl, b3⟩; clear x0 x1 x2 x3 x4 x5; obtain ⟨x0, x1, x2, x3, x4, x5⟩ := up.out w3 (H2.out.trans (b3.mono H2.out.size)); have H3 := hide (H2.out.trans (b3.mono H2.out.size)); clear b3))
    go_ret
    exact ⟨rfl, HW.out.2.1.trans (H3.out.mono HW.out.2.1.size)⟩
  have hvk : valuedK k = true := by unfold valuedK; simp; omega
  rw [hvk] at HR
  obtain rfl | rfl | rfl | rfl | rfl | rfl | rfl : d = 1 ∨ d = 2 ∨ d = 3 ∨ d = 4 ∨ d = 5 ∨ d = 6 ∨ d = 7 := by omega
  · rw [show ofD 1 = 1 by decide] at k20 HR
    by_cases ht : t = ⟨#[]⟩
    rotate_left
    · have et : (t.toList == (⟨#[]⟩ : ByteArray).toList) = false := by rw [Bool.eq_false_iff, Ne, bytes_same]; exact ht
      have et4 : ¬ t.toList = [] := fun e => ht (bytes_same.1 (by rw [e, ByteArray.toList_eq]; rfl))
      have et2 : (t.toList == []) = false := by simpa using et4
      have et3 : t.toList.isEmpty = false := by simpa using et4
      have hr : R = 2 := HR.out.trans (chk_bad (.inr (.inr (.inr (.inr (.inl (by have : unT 1 t = t := (by unfold unT bringsD; simp); rw [this, et]; simp)))))))
      subst hr
      go_enter Tryz.func13, Tryz.ntmps13
      go_upto_region 1 with fail
      have q1 := HW.out.1
      have q2 := HW.out.2.2
      rw [← q1, ← q2]
      clear q1 q2
      go_wp2_with (first
        | (go_at_call 49; refine k48.mono ?_; rintro e w2 ⟨rfl, b2⟩; clear x0 x1 x2 x3 x4 x5; obtain ⟨x0, x1, x2, x3, x4, x5⟩ := up.out w2 b2; have H2 := hide b2; clear b2)
        | (go_at_call 50; refine (k49 _).mono ?_; rintro e w3 ⟨rfl, b3⟩; clear x0 x1 x2 x3 x4 x5; obtain ⟨x0, x1, x2, x3, x4, x5⟩ := up.out w3 (H2.out.trans (b3.mono H2.out.size)); have H3 := hide (H2.out.trans (b3.mono H2.out.size)); clear b3))
      go_ret
      exact ⟨rfl, HW.out.2.1.trans (H3.out.mono HW.out.2.1.size)⟩
    subst ht
    cases V6
    · have hr : R = 2 := HR.out.trans (chk_bad (.inr (.inr (.inr (.inr (.inr rfl))))))
      subst hr
      go_enter Tryz.func13, Tryz.ntmps13
      go_upto_region 1 with fail
      have q1 := HW.out.1
      have q2 := HW.out.2.2
      rw [← q1, ← q2]
      clear q1 q2
      go_wp2_with (first
        | (go_at_call 49; refine k48.mono ?_; rintro e w2 ⟨rfl, b2⟩; clear x0 x1 x2 x3 x4 x5; obtain ⟨x0, x1, x2, x3, x4, x5⟩ := up.out w2 b2; have H2 := hide b2; clear b2)
        | (go_at_call 50; refine (k49 _).mono ?_; rintro e w3 ⟨rfl, b3⟩; clear x0 x1 x2 x3 x4 x5; obtain ⟨x0, x1, x2, x3, x4, x5⟩ := up.out w3 (H2.out.trans (b3.mono H2.out.size)); have H3 := hide (H2.out.trans (b3.mono H2.out.size)); clear b3)
        | (go_at_call 51; refine (k50 _).mono ?_; rintro e w4 ⟨rfl, rfl⟩))
      go_ret
      exact ⟨rfl, HW.out.2.1.trans (H3.out.mono HW.out.2.1.size)⟩
    have h5 : (unN 1 n == 0 && (unT 1 ⟨#[]⟩).toList == (⟨#[]⟩ : ByteArray).toList) = true := by unfold unN unT bringsD; simp
    rw [h5] at HR
    by_cases hof : (1 : Int) = k
    · subst hof
      have hr : R = 0 := HR.out.trans (by simp)
      subst hr
      go_enter Tryz.func13, Tryz.ntmps13
      go_upto_region 1 with fail
      have q1 := HW.out.1
      have q2 := HW.out.2.2
      rw [← q1, ← q2]
      clear q1 q2
      go_wp2_with (first
        | (go_at_call 49; refine k48.mono ?_; rintro e w2 ⟨rfl, b2⟩; clear x0 x1 x2 x3 x4 x5; obtain ⟨x0, x1, x2, x3, x4, x5⟩ := up.out w2 b2; have H2 := hide b2; clear b2)
        | (go_at_call 50; refine (k49 _).mono ?_; rintro e w3 ⟨rfl, b3⟩; clear x0 x1 x2 x3 x4 x5; obtain ⟨x0, x1, x2, x3, x4, x5⟩ := up.out w3 (H2.out.trans (b3.mono H2.out.size)); have H3 := hide (H2.out.trans (b3.mono H2.out.size)); clear b3)
        | (go_at_call 51; refine (k50 _).mono ?_; rintro e w4 ⟨rfl, rfl⟩))
      go_quiet (first | (go_at_call 52; refine Calls.quiet_of_same (k20 _)))
      go_wp2
      go_ret
      exact ⟨rfl, below_drw (HW.out.2.1.trans (H3.out.mono HW.out.2.1.size)) _⟩
    · have eof : ((1 : Int) == k) = false := by simpa using hof
      have hr : R = 7 := HR.out.trans (by simp [hof])
      subst hr
      go_enter Tryz.func13, Tryz.ntmps13
      go_upto_region 1 with fail
      have q1 := HW.out.1
      have q2 := HW.out.2.2
      rw [← q1, ← q2]
      clear q1 q2
      go_wp2_with (first
        | (go_at_call 49; refine k48.mono ?_; rintro e w2 ⟨rfl, b2⟩; clear x0 x1 x2 x3 x4 x5; obtain ⟨x0, x1, x2, x3, x4, x5⟩ := up.out w2 b2; have H2 := hide b2; clear b2)
        | (go_at_call 50; refine (k49 _).mono ?_; rintro e w3 ⟨rfl, b3⟩; clear x0 x1 x2 x3 x4 x5; obtain ⟨x0, x1, x2, x3, x4, x5⟩ := up.out w3 (H2.out.trans (b3.mono H2.out.size)); have H3 := hide (H2.out.trans (b3.mono H2.out.size)); clear b3)
        | (go_at_call 51; refine (k50 _).mono ?_; rintro e w4 ⟨rfl, rfl⟩))
      go_quiet (first | (go_at_call 52; refine Calls.quiet_of_same (k20 _)))
      go_wp2
      go_ret
      exact ⟨rfl, below_drw (HW.out.2.1.trans (H3.out.mono HW.out.2.1.size)) _⟩
  · rw [show ofD 2 = 2 by decide] at k20 HR
    by_cases hn : n = 0
    rotate_left
    · have en : (n == 0) = false := by simpa using hn
      have hr : R = 2 := HR.out.trans (chk_bad (.inr (.inr (.inr (.inr (.inl (by unfold unN; simp [hn])))))))
      subst hr
      go_enter Tryz.func13, Tryz.ntmps13
      go_upto_region 1 with fail
      have q1 := HW.out.1
      have q2 := HW.out.2.2
      rw [← q1, ← q2]
      clear q1 q2
      go_wp2_with (first
        | (go_at_call 49; refine k48.mono ?_; rintro e w2 ⟨rfl, b2⟩; clear x0 x1 x2 x3 x4 x5; obtain ⟨x0, x1, x2, x3, x4, x5⟩ := up.out w2 b2; have H2 := hide b2; clear b2)
        | (go_at_call 50; refine (k49 _).mono ?_; rintro e w3 ⟨rfl, b3⟩; clear x0 x1 x2 x3 x4 x5; obtain ⟨x0, x1, x2, x3, x4, x5⟩ := up.out w3 (H2.out.trans (b3.mono H2.out.size)); have H3 := hide (H2.out.trans (b3.mono H2.out.size)); clear b3))
      go_ret
      exact ⟨rfl, HW.out.2.1.trans (H3.out.mono HW.out.2.1.size)⟩
    subst hn
    cases V6
    · have hr : R = 2 := HR.out.trans (chk_bad (.inr (.inr (.inr (.inr (.inr rfl))))))
      subst hr
      go_enter Tryz.func13, Tryz.ntmps13
      go_upto_region 1 with fail
      have q1 := HW.out.1
      have q2 := HW.out.2.2
      rw [← q1, ← q2]
      clear q1 q2
      go_wp2_with (first
        | (go_at_call 49; refine k48.mono ?_; rintro e w2 ⟨rfl, b2⟩; clear x0 x1 x2 x3 x4 x5; obtain ⟨x0, x1, x2, x3, x4, x5⟩ := up.out w2 b2; have H2 := hide b2; clear b2)
        | (go_at_call 50; refine (k49 _).mono ?_; rintro e w3 ⟨rfl, b3⟩; clear x0 x1 x2 x3 x4 x5; obtain ⟨x0, x1, x2, x3, x4, x5⟩ := up.out w3 (H2.out.trans (b3.mono H2.out.size)); have H3 := hide (H2.out.trans (b3.mono H2.out.size)); clear b3)
        | (go_at_call 51; refine (k50 _).mono ?_; rintro e w4 ⟨rfl, rfl⟩))
      go_ret
      exact ⟨rfl, HW.out.2.1.trans (H3.out.mono HW.out.2.1.size)⟩
    have h5 : (unN 2 0 == 0 && (unT 2 t).toList == (⟨#[]⟩ : ByteArray).toList) = true := by unfold unN unT bringsD; simp
    rw [h5] at HR
    by_cases hof : (2 : Int) = k
    · subst hof
      have hr : R = 0 := HR.out.trans (by simp)
      subst hr
      go_enter Tryz.func13, Tryz.ntmps13
      go_upto_region 1 with fail
      have q1 := HW.out.1
      have q2 := HW.out.2.2
      rw [← q1, ← q2]
      clear q1 q2
      go_wp2_with (first
        | (go_at_call 49; refine k48.mono ?_; rintro e w2 ⟨rfl, b2⟩; clear x0 x1 x2 x3 x4 x5; obtain ⟨x0, x1, x2, x3, x4, x5⟩ := up.out w2 b2; have H2 := hide b2; clear b2)
        | (go_at_call 50; refine (k49 _).mono ?_; rintro e w3 ⟨rfl, b3⟩; clear x0 x1 x2 x3 x4 x5; obtain ⟨x0, x1, x2, x3, x4, x5⟩ := up.out w3 (H2.out.trans (b3.mono H2.out.size)); have H3 := hide (H2.out.trans (b3.mono H2.out.size)); clear b3)
        | (go_at_call 51; refine (k50 _).mono ?_; rintro e w4 ⟨rfl, rfl⟩))
      go_quiet (first | (go_at_call 52; refine Calls.quiet_of_same (k20 _)))
      go_wp2
      go_ret
      exact ⟨rfl, below_drw (HW.out.2.1.trans (H3.out.mono HW.out.2.1.size)) _⟩
    · have eof : ((2 : Int) == k) = false := by simpa using hof
      have hr : R = 7 := HR.out.trans (by simp [hof])
      subst hr
      go_enter Tryz.func13, Tryz.ntmps13
      go_upto_region 1 with fail
      have q1 := HW.out.1
      have q2 := HW.out.2.2
      rw [← q1, ← q2]
      clear q1 q2
      go_wp2_with (first
        | (go_at_call 49; refine k48.mono ?_; rintro e w2 ⟨rfl, b2⟩; clear x0 x1 x2 x3 x4 x5; obtain ⟨x0, x1, x2, x3, x4, x5⟩ := up.out w2 b2; have H2 := hide b2; clear b2)
        | (go_at_call 50; refine (k49 _).mono ?_; rintro e w3 ⟨rfl, b3⟩; clear x0 x1 x2 x3 x4 x5; obtain ⟨x0, x1, x2, x3, x4, x5⟩ := up.out w3 (H2.out.trans (b3.mono H2.out.size)); have H3 := hide (H2.out.trans (b3.mono H2.out.size)); clear b3)
        | (go_at_call 51; refine (k50 _).mono ?_; rintro e w4 ⟨rfl, rfl⟩))
      go_quiet (first | (go_at_call 52; refine Calls.quiet_of_same (k20 _)))
      go_wp2
      go_ret
      exact ⟨rfl, below_drw (HW.out.2.1.trans (H3.out.mono HW.out.2.1.size)) _⟩
  · rw [show ofD 3 = 2 by decide] at k20 HR
    by_cases hn : n = 0
    rotate_left
    · have en : (n == 0) = false := by simpa using hn
      have hr : R = 2 := HR.out.trans (chk_bad (.inr (.inr (.inr (.inr (.inl (by unfold unN; simp [hn])))))))
      subst hr
      go_enter Tryz.func13, Tryz.ntmps13
      go_upto_region 1 with fail
      have q1 := HW.out.1
      have q2 := HW.out.2.2
      rw [← q1, ← q2]
      clear q1 q2
      go_wp2_with (first
        | (go_at_call 49; refine k48.mono ?_; rintro e w2 ⟨rfl, b2⟩; clear x0 x1 x2 x3 x4 x5; obtain ⟨x0, x1, x2, x3, x4, x5⟩ := up.out w2 b2; have H2 := hide b2; clear b2)
        | (go_at_call 50; refine (k49 _).mono ?_; rintro e w3 ⟨rfl, b3⟩; clear x0 x1 x2 x3 x4 x5; obtain ⟨x0, x1, x2, x3, x4, x5⟩ := up.out w3 (H2.out.trans (b3.mono H2.out.size)); have H3 := hide (H2.out.trans (b3.mono H2.out.size)); clear b3))
      go_ret
      exact ⟨rfl, HW.out.2.1.trans (H3.out.mono HW.out.2.1.size)⟩
    subst hn
    cases V6
    · have hr : R = 2 := HR.out.trans (chk_bad (.inr (.inr (.inr (.inr (.inr rfl))))))
      subst hr
      go_enter Tryz.func13, Tryz.ntmps13
      go_upto_region 1 with fail
      have q1 := HW.out.1
      have q2 := HW.out.2.2
      rw [← q1, ← q2]
      clear q1 q2
      go_wp2_with (first
        | (go_at_call 49; refine k48.mono ?_; rintro e w2 ⟨rfl, b2⟩; clear x0 x1 x2 x3 x4 x5; obtain ⟨x0, x1, x2, x3, x4, x5⟩ := up.out w2 b2; have H2 := hide b2; clear b2)
        | (go_at_call 50; refine (k49 _).mono ?_; rintro e w3 ⟨rfl, b3⟩; clear x0 x1 x2 x3 x4 x5; obtain ⟨x0, x1, x2, x3, x4, x5⟩ := up.out w3 (H2.out.trans (b3.mono H2.out.size)); have H3 := hide (H2.out.trans (b3.mono H2.out.size)); clear b3)
        | (go_at_call 51; refine (k50 _).mono ?_; rintro e w4 ⟨rfl, rfl⟩))
      go_ret
      exact ⟨rfl, HW.out.2.1.trans (H3.out.mono HW.out.2.1.size)⟩
    have h5 : (unN 3 0 == 0 && (unT 3 t).toList == (⟨#[]⟩ : ByteArray).toList) = true := by unfold unN unT bringsD; simp
    rw [h5] at HR
    by_cases hof : (2 : Int) = k
    · subst hof
      have hr : R = 0 := HR.out.trans (by simp)
      subst hr
      go_enter Tryz.func13, Tryz.ntmps13
      go_upto_region 1 with fail
      have q1 := HW.out.1
      have q2 := HW.out.2.2
      rw [← q1, ← q2]
      clear q1 q2
      go_wp2_with (first
        | (go_at_call 49; refine k48.mono ?_; rintro e w2 ⟨rfl, b2⟩; clear x0 x1 x2 x3 x4 x5; obtain ⟨x0, x1, x2, x3, x4, x5⟩ := up.out w2 b2; have H2 := hide b2; clear b2)
        | (go_at_call 50; refine (k49 _).mono ?_; rintro e w3 ⟨rfl, b3⟩; clear x0 x1 x2 x3 x4 x5; obtain ⟨x0, x1, x2, x3, x4, x5⟩ := up.out w3 (H2.out.trans (b3.mono H2.out.size)); have H3 := hide (H2.out.trans (b3.mono H2.out.size)); clear b3)
        | (go_at_call 51; refine (k50 _).mono ?_; rintro e w4 ⟨rfl, rfl⟩))
      go_quiet (first | (go_at_call 52; refine Calls.quiet_of_same (k20 _)))
      go_wp2
      go_ret
      exact ⟨rfl, below_drw (HW.out.2.1.trans (H3.out.mono HW.out.2.1.size)) _⟩
    · have eof : ((2 : Int) == k) = false := by simpa using hof
      have hr : R = 7 := HR.out.trans (by simp [hof])
      subst hr
      go_enter Tryz.func13, Tryz.ntmps13
      go_upto_region 1 with fail
      have q1 := HW.out.1
      have q2 := HW.out.2.2
      rw [← q1, ← q2]
      clear q1 q2
      go_wp2_with (first
        | (go_at_call 49; refine k48.mono ?_; rintro e w2 ⟨rfl, b2⟩; clear x0 x1 x2 x3 x4 x5; obtain ⟨x0, x1, x2, x3, x4, x5⟩ := up.out w2 b2; have H2 := hide b2; clear b2)
        | (go_at_call 50; refine (k49 _).mono ?_; rintro e w3 ⟨rfl, b3⟩; clear x0 x1 x2 x3 x4 x5; obtain ⟨x0, x1, x2, x3, x4, x5⟩ := up.out w3 (H2.out.trans (b3.mono H2.out.size)); have H3 := hide (H2.out.trans (b3.mono H2.out.size)); clear b3)
        | (go_at_call 51; refine (k50 _).mono ?_; rintro e w4 ⟨rfl, rfl⟩))
      go_quiet (first | (go_at_call 52; refine Calls.quiet_of_same (k20 _)))
      go_wp2
      go_ret
      exact ⟨rfl, below_drw (HW.out.2.1.trans (H3.out.mono HW.out.2.1.size)) _⟩
  · rw [show ofD 4 = 3 by decide] at k20 HR
    by_cases hn : n = 0
    rotate_left
    · have en : (n == 0) = false := by simpa using hn
      have hr : R = 2 := HR.out.trans (chk_bad (.inr (.inr (.inr (.inr (.inl (by unfold unN; simp [hn])))))))
      subst hr
      go_enter Tryz.func13, Tryz.ntmps13
      go_upto_region 1 with fail
      have q1 := HW.out.1
      have q2 := HW.out.2.2
      rw [← q1, ← q2]
      clear q1 q2
      go_wp2_with (first
        | (go_at_call 49; refine k48.mono ?_; rintro e w2 ⟨rfl, b2⟩; clear x0 x1 x2 x3 x4 x5; obtain ⟨x0, x1, x2, x3, x4, x5⟩ := up.out w2 b2; have H2 := hide b2; clear b2)
        | (go_at_call 50; refine (k49 _).mono ?_; rintro e w3 ⟨rfl, b3⟩; clear x0 x1 x2 x3 x4 x5; obtain ⟨x0, x1, x2, x3, x4, x5⟩ := up.out w3 (H2.out.trans (b3.mono H2.out.size)); have H3 := hide (H2.out.trans (b3.mono H2.out.size)); clear b3))
      go_ret
      exact ⟨rfl, HW.out.2.1.trans (H3.out.mono HW.out.2.1.size)⟩
    subst hn
    cases V6
    · have hr : R = 2 := HR.out.trans (chk_bad (.inr (.inr (.inr (.inr (.inr rfl))))))
      subst hr
      go_enter Tryz.func13, Tryz.ntmps13
      go_upto_region 1 with fail
      have q1 := HW.out.1
      have q2 := HW.out.2.2
      rw [← q1, ← q2]
      clear q1 q2
      go_wp2_with (first
        | (go_at_call 49; refine k48.mono ?_; rintro e w2 ⟨rfl, b2⟩; clear x0 x1 x2 x3 x4 x5; obtain ⟨x0, x1, x2, x3, x4, x5⟩ := up.out w2 b2; have H2 := hide b2; clear b2)
        | (go_at_call 50; refine (k49 _).mono ?_; rintro e w3 ⟨rfl, b3⟩; clear x0 x1 x2 x3 x4 x5; obtain ⟨x0, x1, x2, x3, x4, x5⟩ := up.out w3 (H2.out.trans (b3.mono H2.out.size)); have H3 := hide (H2.out.trans (b3.mono H2.out.size)); clear b3)
        | (go_at_call 51; refine (k50 _).mono ?_; rintro e w4 ⟨rfl, rfl⟩))
      go_ret
      exact ⟨rfl, HW.out.2.1.trans (H3.out.mono HW.out.2.1.size)⟩
    have h5 : (unN 4 0 == 0 && (unT 4 t).toList == (⟨#[]⟩ : ByteArray).toList) = true := by unfold unN unT bringsD; simp
    rw [h5] at HR
    by_cases hof : (3 : Int) = k
    · subst hof
      have hr : R = 0 := HR.out.trans (by simp)
      subst hr
      go_enter Tryz.func13, Tryz.ntmps13
      go_upto_region 1 with fail
      have q1 := HW.out.1
      have q2 := HW.out.2.2
      rw [← q1, ← q2]
      clear q1 q2
      go_wp2_with (first
        | (go_at_call 49; refine k48.mono ?_; rintro e w2 ⟨rfl, b2⟩; clear x0 x1 x2 x3 x4 x5; obtain ⟨x0, x1, x2, x3, x4, x5⟩ := up.out w2 b2; have H2 := hide b2; clear b2)
        | (go_at_call 50; refine (k49 _).mono ?_; rintro e w3 ⟨rfl, b3⟩; clear x0 x1 x2 x3 x4 x5; obtain ⟨x0, x1, x2, x3, x4, x5⟩ := up.out w3 (H2.out.trans (b3.mono H2.out.size)); have H3 := hide (H2.out.trans (b3.mono H2.out.size)); clear b3)
        | (go_at_call 51; refine (k50 _).mono ?_; rintro e w4 ⟨rfl, rfl⟩))
      go_quiet (first | (go_at_call 52; refine Calls.quiet_of_same (k20 _)))
      go_wp2
      go_ret
      exact ⟨rfl, below_drw (HW.out.2.1.trans (H3.out.mono HW.out.2.1.size)) _⟩
    · have eof : ((3 : Int) == k) = false := by simpa using hof
      have hr : R = 7 := HR.out.trans (by simp [hof])
      subst hr
      go_enter Tryz.func13, Tryz.ntmps13
      go_upto_region 1 with fail
      have q1 := HW.out.1
      have q2 := HW.out.2.2
      rw [← q1, ← q2]
      clear q1 q2
      go_wp2_with (first
        | (go_at_call 49; refine k48.mono ?_; rintro e w2 ⟨rfl, b2⟩; clear x0 x1 x2 x3 x4 x5; obtain ⟨x0, x1, x2, x3, x4, x5⟩ := up.out w2 b2; have H2 := hide b2; clear b2)
        | (go_at_call 50; refine (k49 _).mono ?_; rintro e w3 ⟨rfl, b3⟩; clear x0 x1 x2 x3 x4 x5; obtain ⟨x0, x1, x2, x3, x4, x5⟩ := up.out w3 (H2.out.trans (b3.mono H2.out.size)); have H3 := hide (H2.out.trans (b3.mono H2.out.size)); clear b3)
        | (go_at_call 51; refine (k50 _).mono ?_; rintro e w4 ⟨rfl, rfl⟩))
      go_quiet (first | (go_at_call 52; refine Calls.quiet_of_same (k20 _)))
      go_wp2
      go_ret
      exact ⟨rfl, below_drw (HW.out.2.1.trans (H3.out.mono HW.out.2.1.size)) _⟩
  · rw [show ofD 5 = 4 by decide] at k20 HR
    by_cases hn : n = 0
    rotate_left
    · have en : (n == 0) = false := by simpa using hn
      have hr : R = 2 := HR.out.trans (chk_bad (.inr (.inr (.inr (.inr (.inl (by unfold unN; simp [hn])))))))
      subst hr
      go_enter Tryz.func13, Tryz.ntmps13
      go_upto_region 1 with fail
      have q1 := HW.out.1
      have q2 := HW.out.2.2
      rw [← q1, ← q2]
      clear q1 q2
      go_wp2_with (first
        | (go_at_call 49; refine k48.mono ?_; rintro e w2 ⟨rfl, b2⟩; clear x0 x1 x2 x3 x4 x5; obtain ⟨x0, x1, x2, x3, x4, x5⟩ := up.out w2 b2; have H2 := hide b2; clear b2)
        | (go_at_call 50; refine (k49 _).mono ?_; rintro e w3 ⟨rfl, b3⟩; clear x0 x1 x2 x3 x4 x5; obtain ⟨x0, x1, x2, x3, x4, x5⟩ := up.out w3 (H2.out.trans (b3.mono H2.out.size)); have H3 := hide (H2.out.trans (b3.mono H2.out.size)); clear b3))
      go_ret
      exact ⟨rfl, HW.out.2.1.trans (H3.out.mono HW.out.2.1.size)⟩
    subst hn
    cases V6
    · have hr : R = 2 := HR.out.trans (chk_bad (.inr (.inr (.inr (.inr (.inr rfl))))))
      subst hr
      go_enter Tryz.func13, Tryz.ntmps13
      go_upto_region 1 with fail
      have q1 := HW.out.1
      have q2 := HW.out.2.2
      rw [← q1, ← q2]
      clear q1 q2
      go_wp2_with (first
        | (go_at_call 49; refine k48.mono ?_; rintro e w2 ⟨rfl, b2⟩; clear x0 x1 x2 x3 x4 x5; obtain ⟨x0, x1, x2, x3, x4, x5⟩ := up.out w2 b2; have H2 := hide b2; clear b2)
        | (go_at_call 50; refine (k49 _).mono ?_; rintro e w3 ⟨rfl, b3⟩; clear x0 x1 x2 x3 x4 x5; obtain ⟨x0, x1, x2, x3, x4, x5⟩ := up.out w3 (H2.out.trans (b3.mono H2.out.size)); have H3 := hide (H2.out.trans (b3.mono H2.out.size)); clear b3)
        | (go_at_call 51; refine (k50 _).mono ?_; rintro e w4 ⟨rfl, rfl⟩))
      go_ret
      exact ⟨rfl, HW.out.2.1.trans (H3.out.mono HW.out.2.1.size)⟩
    have h5 : (unN 5 0 == 0 && (unT 5 t).toList == (⟨#[]⟩ : ByteArray).toList) = true := by unfold unN unT bringsD; simp
    rw [h5] at HR
    by_cases hof : (4 : Int) = k
    · subst hof
      have hr : R = 0 := HR.out.trans (by simp)
      subst hr
      go_enter Tryz.func13, Tryz.ntmps13
      go_upto_region 1 with fail
      have q1 := HW.out.1
      have q2 := HW.out.2.2
      rw [← q1, ← q2]
      clear q1 q2
      go_wp2_with (first
        | (go_at_call 49; refine k48.mono ?_; rintro e w2 ⟨rfl, b2⟩; clear x0 x1 x2 x3 x4 x5; obtain ⟨x0, x1, x2, x3, x4, x5⟩ := up.out w2 b2; have H2 := hide b2; clear b2)
        | (go_at_call 50; refine (k49 _).mono ?_; rintro e w3 ⟨rfl, b3⟩; clear x0 x1 x2 x3 x4 x5; obtain ⟨x0, x1, x2, x3, x4, x5⟩ := up.out w3 (H2.out.trans (b3.mono H2.out.size)); have H3 := hide (H2.out.trans (b3.mono H2.out.size)); clear b3)
        | (go_at_call 51; refine (k50 _).mono ?_; rintro e w4 ⟨rfl, rfl⟩))
      go_quiet (first | (go_at_call 52; refine Calls.quiet_of_same (k20 _)))
      go_wp2
      go_ret
      exact ⟨rfl, below_drw (HW.out.2.1.trans (H3.out.mono HW.out.2.1.size)) _⟩
    · have eof : ((4 : Int) == k) = false := by simpa using hof
      have hr : R = 7 := HR.out.trans (by simp [hof])
      subst hr
      go_enter Tryz.func13, Tryz.ntmps13
      go_upto_region 1 with fail
      have q1 := HW.out.1
      have q2 := HW.out.2.2
      rw [← q1, ← q2]
      clear q1 q2
      go_wp2_with (first
        | (go_at_call 49; refine k48.mono ?_; rintro e w2 ⟨rfl, b2⟩; clear x0 x1 x2 x3 x4 x5; obtain ⟨x0, x1, x2, x3, x4, x5⟩ := up.out w2 b2; have H2 := hide b2; clear b2)
        | (go_at_call 50; refine (k49 _).mono ?_; rintro e w3 ⟨rfl, b3⟩; clear x0 x1 x2 x3 x4 x5; obtain ⟨x0, x1, x2, x3, x4, x5⟩ := up.out w3 (H2.out.trans (b3.mono H2.out.size)); have H3 := hide (H2.out.trans (b3.mono H2.out.size)); clear b3)
        | (go_at_call 51; refine (k50 _).mono ?_; rintro e w4 ⟨rfl, rfl⟩))
      go_quiet (first | (go_at_call 52; refine Calls.quiet_of_same (k20 _)))
      go_wp2
      go_ret
      exact ⟨rfl, below_drw (HW.out.2.1.trans (H3.out.mono HW.out.2.1.size)) _⟩
  · rw [show ofD 6 = 4 by decide] at k20 HR
    by_cases hn : n = 0
    rotate_left
    · have en : (n == 0) = false := by simpa using hn
      have hr : R = 2 := HR.out.trans (chk_bad (.inr (.inr (.inr (.inr (.inl (by unfold unN; simp [hn])))))))
      subst hr
      go_enter Tryz.func13, Tryz.ntmps13
      go_upto_region 1 with fail
      have q1 := HW.out.1
      have q2 := HW.out.2.2
      rw [← q1, ← q2]
      clear q1 q2
      go_wp2_with (first
        | (go_at_call 49; refine k48.mono ?_; rintro e w2 ⟨rfl, b2⟩; clear x0 x1 x2 x3 x4 x5; obtain ⟨x0, x1, x2, x3, x4, x5⟩ := up.out w2 b2; have H2 := hide b2; clear b2)
        | (go_at_call 50; refine (k49 _).mono ?_; rintro e w3 ⟨rfl, b3⟩; clear x0 x1 x2 x3 x4 x5; obtain ⟨x0, x1, x2, x3, x4, x5⟩ := up.out w3 (H2.out.trans (b3.mono H2.out.size)); have H3 := hide (H2.out.trans (b3.mono H2.out.size)); clear b3))
      go_ret
      exact ⟨rfl, HW.out.2.1.trans (H3.out.mono HW.out.2.1.size)⟩
    subst hn
    by_cases ht : t = ⟨#[]⟩
    rotate_left
    · have et : (t.toList == (⟨#[]⟩ : ByteArray).toList) = false := by rw [Bool.eq_false_iff, Ne, bytes_same]; exact ht
      have et4 : ¬ t.toList = [] := fun e => ht (bytes_same.1 (by rw [e, ByteArray.toList_eq]; rfl))
      have et2 : (t.toList == []) = false := by simpa using et4
      have et3 : t.toList.isEmpty = false := by simpa using et4
      have hr : R = 2 := HR.out.trans (chk_bad (.inr (.inr (.inr (.inr (.inl (by have : unT 6 t = t := (by unfold unT bringsD; simp); rw [this, et]; simp)))))))
      subst hr
      go_enter Tryz.func13, Tryz.ntmps13
      go_upto_region 1 with fail
      have q1 := HW.out.1
      have q2 := HW.out.2.2
      rw [← q1, ← q2]
      clear q1 q2
      go_wp2_with (first
        | (go_at_call 49; refine k48.mono ?_; rintro e w2 ⟨rfl, b2⟩; clear x0 x1 x2 x3 x4 x5; obtain ⟨x0, x1, x2, x3, x4, x5⟩ := up.out w2 b2; have H2 := hide b2; clear b2)
        | (go_at_call 50; refine (k49 _).mono ?_; rintro e w3 ⟨rfl, b3⟩; clear x0 x1 x2 x3 x4 x5; obtain ⟨x0, x1, x2, x3, x4, x5⟩ := up.out w3 (H2.out.trans (b3.mono H2.out.size)); have H3 := hide (H2.out.trans (b3.mono H2.out.size)); clear b3))
      go_ret
      exact ⟨rfl, HW.out.2.1.trans (H3.out.mono HW.out.2.1.size)⟩
    subst ht
    cases V6
    · have hr : R = 2 := HR.out.trans (chk_bad (.inr (.inr (.inr (.inr (.inr rfl))))))
      subst hr
      go_enter Tryz.func13, Tryz.ntmps13
      go_upto_region 1 with fail
      have q1 := HW.out.1
      have q2 := HW.out.2.2
      rw [← q1, ← q2]
      clear q1 q2
      go_wp2_with (first
        | (go_at_call 49; refine k48.mono ?_; rintro e w2 ⟨rfl, b2⟩; clear x0 x1 x2 x3 x4 x5; obtain ⟨x0, x1, x2, x3, x4, x5⟩ := up.out w2 b2; have H2 := hide b2; clear b2)
        | (go_at_call 50; refine (k49 _).mono ?_; rintro e w3 ⟨rfl, b3⟩; clear x0 x1 x2 x3 x4 x5; obtain ⟨x0, x1, x2, x3, x4, x5⟩ := up.out w3 (H2.out.trans (b3.mono H2.out.size)); have H3 := hide (H2.out.trans (b3.mono H2.out.size)); clear b3)
        | (go_at_call 51; refine (k50 _).mono ?_; rintro e w4 ⟨rfl, rfl⟩))
      go_ret
      exact ⟨rfl, HW.out.2.1.trans (H3.out.mono HW.out.2.1.size)⟩
    have h5 : (unN 6 0 == 0 && (unT 6 ⟨#[]⟩).toList == (⟨#[]⟩ : ByteArray).toList) = true := by unfold unN unT bringsD; simp
    rw [h5] at HR
    by_cases hof : (4 : Int) = k
    · subst hof
      have hr : R = 0 := HR.out.trans (by simp)
      subst hr
      go_enter Tryz.func13, Tryz.ntmps13
      go_upto_region 1 with fail
      have q1 := HW.out.1
      have q2 := HW.out.2.2
      rw [← q1, ← q2]
      clear q1 q2
      go_wp2_with (first
        | (go_at_call 49; refine k48.mono ?_; rintro e w2 ⟨rfl, b2⟩; clear x0 x1 x2 x3 x4 x5; obtain ⟨x0, x1, x2, x3, x4, x5⟩ := up.out w2 b2; have H2 := hide b2; clear b2)
        | (go_at_call 50; refine (k49 _).mono ?_; rintro e w3 ⟨rfl, b3⟩; clear x0 x1 x2 x3 x4 x5; obtain ⟨x0, x1, x2, x3, x4, x5⟩ := up.out w3 (H2.out.trans (b3.mono H2.out.size)); have H3 := hide (H2.out.trans (b3.mono H2.out.size)); clear b3)
        | (go_at_call 51; refine (k50 _).mono ?_; rintro e w4 ⟨rfl, rfl⟩))
      go_quiet (first | (go_at_call 52; refine Calls.quiet_of_same (k20 _)))
      go_wp2
      go_ret
      exact ⟨rfl, below_drw (HW.out.2.1.trans (H3.out.mono HW.out.2.1.size)) _⟩
    · have eof : ((4 : Int) == k) = false := by simpa using hof
      have hr : R = 7 := HR.out.trans (by simp [hof])
      subst hr
      go_enter Tryz.func13, Tryz.ntmps13
      go_upto_region 1 with fail
      have q1 := HW.out.1
      have q2 := HW.out.2.2
      rw [← q1, ← q2]
      clear q1 q2
      go_wp2_with (first
        | (go_at_call 49; refine k48.mono ?_; rintro e w2 ⟨rfl, b2⟩; clear x0 x1 x2 x3 x4 x5; obtain ⟨x0, x1, x2, x3, x4, x5⟩ := up.out w2 b2; have H2 := hide b2; clear b2)
        | (go_at_call 50; refine (k49 _).mono ?_; rintro e w3 ⟨rfl, b3⟩; clear x0 x1 x2 x3 x4 x5; obtain ⟨x0, x1, x2, x3, x4, x5⟩ := up.out w3 (H2.out.trans (b3.mono H2.out.size)); have H3 := hide (H2.out.trans (b3.mono H2.out.size)); clear b3)
        | (go_at_call 51; refine (k50 _).mono ?_; rintro e w4 ⟨rfl, rfl⟩))
      go_quiet (first | (go_at_call 52; refine Calls.quiet_of_same (k20 _)))
      go_wp2
      go_ret
      exact ⟨rfl, below_drw (HW.out.2.1.trans (H3.out.mono HW.out.2.1.size)) _⟩
  · rw [show ofD 7 = 5 by decide] at k20 HR
    by_cases hn : n = 0
    rotate_left
    · have en : (n == 0) = false := by simpa using hn
      have hr : R = 2 := HR.out.trans (chk_bad (.inr (.inr (.inr (.inr (.inl (by unfold unN; simp [hn])))))))
      subst hr
      go_enter Tryz.func13, Tryz.ntmps13
      go_upto_region 1 with fail
      have q1 := HW.out.1
      have q2 := HW.out.2.2
      rw [← q1, ← q2]
      clear q1 q2
      go_wp2_with (first
        | (go_at_call 49; refine k48.mono ?_; rintro e w2 ⟨rfl, b2⟩; clear x0 x1 x2 x3 x4 x5; obtain ⟨x0, x1, x2, x3, x4, x5⟩ := up.out w2 b2; have H2 := hide b2; clear b2)
        | (go_at_call 50; refine (k49 _).mono ?_; rintro e w3 ⟨rfl, b3⟩; clear x0 x1 x2 x3 x4 x5; obtain ⟨x0, x1, x2, x3, x4, x5⟩ := up.out w3 (H2.out.trans (b3.mono H2.out.size)); have H3 := hide (H2.out.trans (b3.mono H2.out.size)); clear b3))
      go_ret
      exact ⟨rfl, HW.out.2.1.trans (H3.out.mono HW.out.2.1.size)⟩
    subst hn
    cases V6
    · have hr : R = 2 := HR.out.trans (chk_bad (.inr (.inr (.inr (.inr (.inr rfl))))))
      subst hr
      go_enter Tryz.func13, Tryz.ntmps13
      go_upto_region 1 with fail
      have q1 := HW.out.1
      have q2 := HW.out.2.2
      rw [← q1, ← q2]
      clear q1 q2
      go_wp2_with (first
        | (go_at_call 49; refine k48.mono ?_; rintro e w2 ⟨rfl, b2⟩; clear x0 x1 x2 x3 x4 x5; obtain ⟨x0, x1, x2, x3, x4, x5⟩ := up.out w2 b2; have H2 := hide b2; clear b2)
        | (go_at_call 50; refine (k49 _).mono ?_; rintro e w3 ⟨rfl, b3⟩; clear x0 x1 x2 x3 x4 x5; obtain ⟨x0, x1, x2, x3, x4, x5⟩ := up.out w3 (H2.out.trans (b3.mono H2.out.size)); have H3 := hide (H2.out.trans (b3.mono H2.out.size)); clear b3)
        | (go_at_call 51; refine (k50 _).mono ?_; rintro e w4 ⟨rfl, rfl⟩))
      go_ret
      exact ⟨rfl, HW.out.2.1.trans (H3.out.mono HW.out.2.1.size)⟩
    have h5 : (unN 7 0 == 0 && (unT 7 t).toList == (⟨#[]⟩ : ByteArray).toList) = true := by unfold unN unT bringsD; simp
    rw [h5] at HR
    by_cases hof : (5 : Int) = k
    · subst hof
      have hr : R = 0 := HR.out.trans (by simp)
      subst hr
      go_enter Tryz.func13, Tryz.ntmps13
      go_upto_region 1 with fail
      have q1 := HW.out.1
      have q2 := HW.out.2.2
      rw [← q1, ← q2]
      clear q1 q2
      go_wp2_with (first
        | (go_at_call 49; refine k48.mono ?_; rintro e w2 ⟨rfl, b2⟩; clear x0 x1 x2 x3 x4 x5; obtain ⟨x0, x1, x2, x3, x4, x5⟩ := up.out w2 b2; have H2 := hide b2; clear b2)
        | (go_at_call 50; refine (k49 _).mono ?_; rintro e w3 ⟨rfl, b3⟩; clear x0 x1 x2 x3 x4 x5; obtain ⟨x0, x1, x2, x3, x4, x5⟩ := up.out w3 (H2.out.trans (b3.mono H2.out.size)); have H3 := hide (H2.out.trans (b3.mono H2.out.size)); clear b3)
        | (go_at_call 51; refine (k50 _).mono ?_; rintro e w4 ⟨rfl, rfl⟩))
      go_quiet (first | (go_at_call 52; refine Calls.quiet_of_same (k20 _)))
      go_wp2
      go_ret
      exact ⟨rfl, below_drw (HW.out.2.1.trans (H3.out.mono HW.out.2.1.size)) _⟩
    · have eof : ((5 : Int) == k) = false := by simpa using hof
      have hr : R = 7 := HR.out.trans (by simp [hof])
      subst hr
      go_enter Tryz.func13, Tryz.ntmps13
      go_upto_region 1 with fail
      have q1 := HW.out.1
      have q2 := HW.out.2.2
      rw [← q1, ← q2]
      clear q1 q2
      go_wp2_with (first
        | (go_at_call 49; refine k48.mono ?_; rintro e w2 ⟨rfl, b2⟩; clear x0 x1 x2 x3 x4 x5; obtain ⟨x0, x1, x2, x3, x4, x5⟩ := up.out w2 b2; have H2 := hide b2; clear b2)
        | (go_at_call 50; refine (k49 _).mono ?_; rintro e w3 ⟨rfl, b3⟩; clear x0 x1 x2 x3 x4 x5; obtain ⟨x0, x1, x2, x3, x4, x5⟩ := up.out w3 (H2.out.trans (b3.mono H2.out.size)); have H3 := hide (H2.out.trans (b3.mono H2.out.size)); clear b3)
        | (go_at_call 51; refine (k50 _).mono ?_; rintro e w4 ⟨rfl, rfl⟩))
      go_quiet (first | (go_at_call 52; refine Calls.quiet_of_same (k20 _)))
      go_wp2
      go_ret
      exact ⟨rfl, below_drw (HW.out.2.1.trans (H3.out.mono HW.out.2.1.size)) _⟩
end Go.Proofs.YtpepgoelnagoaaaGreatDoor.Ki
