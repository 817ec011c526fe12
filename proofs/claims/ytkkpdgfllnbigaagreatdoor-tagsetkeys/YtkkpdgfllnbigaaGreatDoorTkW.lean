/-
  tagset: the walk of TagsetKeys (3).
-/
import Derived.Test.YtkkpdgfllnbigaaGreatDoorTkO
import Derived.Test.YtkkpdgfllnbigaaGreatDoorTgK
import Derived.Test.YtkkpdgfllnbigaaGreatDoorMg15
import Derived.Test.YtkkpdgfllnbigaaGreatDoorMg12
import Derived.Test.YtkkpdgfllnbigaaGreatDoorMg10
namespace Go.Proofs.YtkkpdgfllnbigaaGreatDoor.Tg
open Go.RowKit Go.Shelf
set_option linter.unusedSimpArgs false
set_option linter.unusedVariables false
attribute [local go_sem] Oper.semAt_some

theorem run_eq77 (x y : El) (w : World) : (binOp .eql 33 (ev x) (ev y)).run Tryz.prog w = .ok (.bool (decide (x = y))) w := by
  rw [run_eql_struct, show (10000 : Nat) = 9995 + 5 from rfl, equalIn77, ← sameE_dec]
  rfl
theorem ofK_key {X : ByteArray} {s : St} (hX : txtB X = true) (hs : stV s = true) : ofK (tkey X s) = ((s, X), true) := by
  obtain ⟨h1, h2⟩ := tgV_key hX hs
  obtain ⟨h3, h4⟩ := (ofK_iff _ _).2 h1
  have h5 := ofK_some h3
  rw [h4, h2] at h5
  generalize ofK (tkey X s) = q at *
  obtain ⟨⟨a, b⟩, c⟩ := q
  dsimp only at h3 h4 h5
  rw [h3, h4, h5]
set_option maxHeartbeats 8000000 in
set_option maxRecDepth 100000 in
theorem keys3 (X K : ByteArray) (s : St) (w : World) (hM : MxE w) : Calls Tryz.prog 3 #[.string X, svT s, .string K] w fun e w' => e = .returned (.bool true) ∧ Below w.heap.size w w' := by
  obtain ⟨g, r, lb, n, ix⟩ := s
  dsimp only [svT, sv]
  obtain ⟨w0, hw0⟩ : ∃ q, q = w.alloc (.cells #[.int .i64 g, .int .i64 r, .string lb, .int .i64 n, .int .i64 ix] 27) := ⟨_, rfl⟩
  have m := heap_alloc_new w (.cells #[.int .i64 g, .int .i64 r, .string lb, .int .i64 n, .int .i64 ix] 27)
  have b0 : Below w.heap.size w w0 := by rw [hw0]; exact (Below.refl _ w).alloc (Nat.le_refl _) _
  rw [← hw0] at m
  obtain ⟨Sb, hSb⟩ : ∃ q, q = w.heap.size := ⟨_, rfl⟩
  rw [← hSb] at m
  have HC : Hid (∀ W, Below w0.heap.size w0 W → W.cell? ⟨Sb, 0, none⟩ = some (.int .i64 g) ∧ W.cell? ⟨Sb, 1, none⟩ = some (.int .i64 r) ∧ W.cell? ⟨Sb, 2, none⟩ = some (.string lb) ∧ W.cell? ⟨Sb, 3, none⟩ = some (.int .i64 n) ∧ W.cell? ⟨Sb, 4, none⟩ = some (.int .i64 ix)) := hide (fun W hW => by
    have q := (hW.block _ (gI m).1).trans m
    exact ⟨(cell_of_row _ _ 0 _ 27 (0, 0) q).trans rfl, (cell_of_row _ _ 1 _ 27 (0, 0) q).trans rfl, (cell_of_row _ _ 2 _ 27 (0, 0) q).trans rfl, (cell_of_row _ _ 3 _ 27 (0, 0) q).trans rfl, (cell_of_row _ _ 4 _ 27 (0, 0) q).trans rfl⟩)
  have HB : Hid (∀ W, Below w0.heap.size w0 W → Below w.heap.size w W) := hide (fun W hW => b0.trans (hW.mono b0.size))
  have HM : Hid (MxE w0) := hide (hM.below b0)
  have HW := hide (And.intro hw0 hSb)
  have H0 : Hid (Below w0.heap.size w0 w0) := hide (Below.refl _ _)
  obtain ⟨y0, y1, y2, y3, y4⟩ := HC.out w0 H0.out
  clear hw0 m b0 hSb hM
  by_cases hK : 2000 < K.size
  · have a1 : (2000 : Int) < (K.size : Int) := by omega
    have a2 : decide (2000 < K.size) = true := by simpa using hK
    go_enter Tryz.func3, Tryz.ntmps3
    go_upto_region 1 with fail
    rw [← HW.out.1, ← HW.out.2]
    go_wp2_with (go_at_call 4; refine (known17 _).mono ?_; rintro e wk ⟨rfl, bk⟩; have HK9 := hide bk; clear bk; dsimp only)
    go_ret
    exact ⟨rfl, HB.out _ HK9.out⟩
  · have a1 : ¬ (2000 : Int) < (K.size : Int) := by omega
    have a2 : decide (2000 < K.size) = false := by simpa using hK
    by_cases hX : 2000 < X.size
    · have c1 : (2000 : Int) < (X.size : Int) := by omega
      have c2 : decide (2000 < X.size) = true := by simpa using hX
      go_enter Tryz.func3, Tryz.ntmps3
      go_upto_region 1 with fail
      rw [← HW.out.1, ← HW.out.2]
      go_wp2_with (go_at_call 4; refine (known17 _).mono ?_; rintro e wk ⟨rfl, bk⟩; have HK9 := hide bk; clear bk; dsimp only)
      go_ret
      exact ⟨rfl, HB.out _ HK9.out⟩
    · have c1 : ¬ (2000 : Int) < (X.size : Int) := by omega
      have c2 : decide (2000 < X.size) = false := by simpa using hX
      by_cases hl : 2000 < lb.size
      · have e1 : (2000 : Int) < (lb.size : Int) := by omega
        have e2 : decide (2000 < lb.size) = true := by simpa using hl
        go_enter Tryz.func3, Tryz.ntmps3
        go_upto_region 1 with fail
        rw [← HW.out.1, ← HW.out.2]
        go_wp2_with (go_at_call 4; refine (known17 _).mono ?_; rintro e wk ⟨rfl, bk⟩; have HK9 := hide bk; clear bk; dsimp only)
        go_ret
        exact ⟨rfl, HB.out _ HK9.out⟩
      · have e1 : ¬ (2000 : Int) < (lb.size : Int) := by omega
        have e2 : decide (2000 < lb.size) = false := by simpa using hl
        have kK := fun W => key109 X (g, r, lb, n, ix) W
        have kO := fun W (hW : Below w0.heap.size w0 W) => ofKey6 K W (by omega) (HM.out.below hW)
        have kR := fun W => ofKey27 K W (by omega)
        have kX := fun W => refText_any X W
        have kS := fun W => refStamp_any g r lb n ix W (by omega)
        dsimp only [svT, sv] at kK kS
        generalize ofK K = OKK at kO kR
        obtain ⟨⟨⟨g1, r1, l1, n1, i1⟩, t1⟩, B1⟩ := OKK
        have hne := fun W => run_ne77 ((g1, r1, l1, n1, i1), t1) ((g1, r1, l1, n1, i1), t1) W
        rw [decide_eq_true rfl] at hne
        dsimp only [ev, svT, sv] at kO kR hne
        have hok : okEl ((g, r, lb, n, ix), X) = (stV (g, r, lb, n, ix) && txtB X) := rfl
        obtain ⟨SV, hSV⟩ : ∃ q, q = stampV g r lb n ix := ⟨_, rfl⟩
        obtain ⟨TV, hTV⟩ : ∃ q, q = txtB X := ⟨_, rfl⟩
        rw [show stV (g, r, lb, n, ix) = SV from hSV.symm, ← hTV] at hok
        rw [← hSV] at kS
        rw [← hTV] at kX
        have HOK := hide (And.intro hSV hTV)
        clear hSV hTV
        cases TV with
        | false =>
          have hF : okEl ((g, r, lb, n, ix), X) = false := by rw [hok]; rw [Bool.and_false]
          have hkE : keyE ((g, r, lb, n, ix), X) = ⟨#[]⟩ := by unfold keyE; rw [hF]; rfl
          rw [hkE, hF] at kK
          simp only [Bool.false_eq_true, if_false] at kK
          have hnm := fun (z : Int) W => num20 z W
          clear hok hF hkE
          go_enter Tryz.func3, Tryz.ntmps3
          go_upto_region 1 with fail
          rw [← HW.out.1, ← HW.out.2]
          go_upto_region 4 with (go_at_call 5; refine (kK _).mono ?_; rintro e w1 ⟨rfl, b1⟩; have H1 := hide b1; clear b1 kK; dsimp only)
          clear y0 y1 y2 y3 y4
          go_upto_region 5 with (go_at_call 6; refine (kO _ H1.out).mono ?_; rintro e w2 ⟨rfl, b2⟩; have H2 := hide (H1.out.trans (b2.mono H1.out.size)); clear b2 kO; dsimp only)
          obtain ⟨W3, hW3⟩ : ∃ q, q = w2.alloc (.cells #[.int .i64 g1, .int .i64 r1, .string l1, .int .i64 n1, .int .i64 i1, .string t1] 33) := ⟨_, rfl⟩
          have m3 := heap_alloc_new w2 (.cells #[.int .i64 g1, .int .i64 r1, .string l1, .int .i64 n1, .int .i64 i1, .string t1] 33)
          have b3 : Below w2.heap.size w2 W3 := by rw [hW3]; exact (Below.refl _ w2).alloc (Nat.le_refl _) _
          obtain ⟨P3, hP3⟩ : ∃ q, q = w2.heap.size := ⟨_, rfl⟩
          rw [← hW3, ← hP3] at m3
          rw [← hW3, ← hP3]
          have H3 := hide (And.intro (H2.out.trans (b3.mono H2.out.size)) m3)
          clear hW3 m3 b3 hP3
          go_upto_region 6 with (go_at_call 7; refine (kR _).mono ?_; rintro e w4 ⟨rfl, b4⟩; have H4 := hide (And.intro (H3.out.1.trans (b4.mono H3.out.1.size)) ((b4.block _ (gI H3.out.2).1).trans H3.out.2)); clear b4 kR; dsimp only)
          obtain ⟨W5, hW5⟩ : ∃ q, q = w4.alloc (.cells #[.int .i64 g1, .int .i64 r1, .string l1, .int .i64 n1, .int .i64 i1, .string t1] 33) := ⟨_, rfl⟩
          have m5 := heap_alloc_new w4 (.cells #[.int .i64 g1, .int .i64 r1, .string l1, .int .i64 n1, .int .i64 i1, .string t1] 33)
          have b5 : Below w4.heap.size w4 W5 := by rw [hW5]; exact (Below.refl _ w4).alloc (Nat.le_refl _) _
          obtain ⟨P5, hP5⟩ : ∃ q, q = w4.heap.size := ⟨_, rfl⟩
          rw [← hW5, ← hP5] at m5
          rw [← hW5, ← hP5]
          have m53 := (b5.block _ (gI H4.out.2).1).trans H4.out.2
          have H5 := hide (H4.out.1.trans (b5.mono H4.out.1.size))
          obtain ⟨y0, y1, y2, y3, y4⟩ := HC.out W5 H5.out
          have u0 : W5.cell? ⟨P3, 0, none⟩ = some (.int .i64 g1) := (cell_of_row _ _ 0 _ 33 (0, 0) m53).trans rfl
          have u1 : W5.cell? ⟨P3, 1, none⟩ = some (.int .i64 r1) := (cell_of_row _ _ 1 _ 33 (0, 0) m53).trans rfl
          have u2 : W5.cell? ⟨P3, 2, none⟩ = some (.string l1) := (cell_of_row _ _ 2 _ 33 (0, 0) m53).trans rfl
          have u3 : W5.cell? ⟨P3, 3, none⟩ = some (.int .i64 n1) := (cell_of_row _ _ 3 _ 33 (0, 0) m53).trans rfl
          have u4 : W5.cell? ⟨P3, 4, none⟩ = some (.int .i64 i1) := (cell_of_row _ _ 4 _ 33 (0, 0) m53).trans rfl
          have u5 : W5.cell? ⟨P3, 5, none⟩ = some (.string t1) := (cell_of_row _ _ 5 _ 33 (0, 0) m53).trans rfl
          have v0 : W5.cell? ⟨P5, 0, none⟩ = some (.int .i64 g1) := (cell_of_row _ _ 0 _ 33 (0, 0) m5).trans rfl
          have v1 : W5.cell? ⟨P5, 1, none⟩ = some (.int .i64 r1) := (cell_of_row _ _ 1 _ 33 (0, 0) m5).trans rfl
          have v2 : W5.cell? ⟨P5, 2, none⟩ = some (.string l1) := (cell_of_row _ _ 2 _ 33 (0, 0) m5).trans rfl
          have v3 : W5.cell? ⟨P5, 3, none⟩ = some (.int .i64 n1) := (cell_of_row _ _ 3 _ 33 (0, 0) m5).trans rfl
          have v4 : W5.cell? ⟨P5, 4, none⟩ = some (.int .i64 i1) := (cell_of_row _ _ 4 _ 33 (0, 0) m5).trans rfl
          have v5 : W5.cell? ⟨P5, 5, none⟩ = some (.string t1) := (cell_of_row _ _ 5 _ 33 (0, 0) m5).trans rfl
          clear hW5 m5 b5 hP5 m53
          go_wp2_with (first
            | (go_at_call 10; refine (hnm _ _).mono ?_; rintro e wz ⟨rfl, hz⟩; replace hz := hz.symm; subst hz; dsimp only)
            | (go_at_call 4; refine (known17 _).mono ?_; rintro e wk ⟨rfl, bk⟩; have HK9 := hide (H5.out.trans (bk.mono H5.out.size)); clear bk; dsimp only)
            | (go_at_call 8; refine (kX _).mono ?_; rintro e wz ⟨rfl, hz⟩; replace hz := hz.symm; subst hz; dsimp only))
          go_ret
          exact ⟨rfl, HB.out _ HK9.out⟩
        | true =>
          cases SV with
          | false =>
            have hF : okEl ((g, r, lb, n, ix), X) = false := by rw [hok]; rfl
            have hkE : keyE ((g, r, lb, n, ix), X) = ⟨#[]⟩ := by unfold keyE; rw [hF]; rfl
            rw [hkE, hF] at kK
            simp only [Bool.false_eq_true, if_false] at kK
            have hnm := fun (z : Int) W => num20 z W
            clear hok hF hkE
            go_enter Tryz.func3, Tryz.ntmps3
            go_upto_region 1 with fail
            rw [← HW.out.1, ← HW.out.2]
            go_upto_region 4 with (go_at_call 5; refine (kK _).mono ?_; rintro e w1 ⟨rfl, b1⟩; have H1 := hide b1; clear b1 kK; dsimp only)
            clear y0 y1 y2 y3 y4
            go_upto_region 5 with (go_at_call 6; refine (kO _ H1.out).mono ?_; rintro e w2 ⟨rfl, b2⟩; have H2 := hide (H1.out.trans (b2.mono H1.out.size)); clear b2 kO; dsimp only)
            obtain ⟨W3, hW3⟩ : ∃ q, q = w2.alloc (.cells #[.int .i64 g1, .int .i64 r1, .string l1, .int .i64 n1, .int .i64 i1, .string t1] 33) := ⟨_, rfl⟩
            have m3 := heap_alloc_new w2 (.cells #[.int .i64 g1, .int .i64 r1, .string l1, .int .i64 n1, .int .i64 i1, .string t1] 33)
            have b3 : Below w2.heap.size w2 W3 := by rw [hW3]; exact (Below.refl _ w2).alloc (Nat.le_refl _) _
            obtain ⟨P3, hP3⟩ : ∃ q, q = w2.heap.size := ⟨_, rfl⟩
            rw [← hW3, ← hP3] at m3
            rw [← hW3, ← hP3]
            have H3 := hide (And.intro (H2.out.trans (b3.mono H2.out.size)) m3)
            clear hW3 m3 b3 hP3
            go_upto_region 6 with (go_at_call 7; refine (kR _).mono ?_; rintro e w4 ⟨rfl, b4⟩; have H4 := hide (And.intro (H3.out.1.trans (b4.mono H3.out.1.size)) ((b4.block _ (gI H3.out.2).1).trans H3.out.2)); clear b4 kR; dsimp only)
            obtain ⟨W5, hW5⟩ : ∃ q, q = w4.alloc (.cells #[.int .i64 g1, .int .i64 r1, .string l1, .int .i64 n1, .int .i64 i1, .string t1] 33) := ⟨_, rfl⟩
            have m5 := heap_alloc_new w4 (.cells #[.int .i64 g1, .int .i64 r1, .string l1, .int .i64 n1, .int .i64 i1, .string t1] 33)
            have b5 : Below w4.heap.size w4 W5 := by rw [hW5]; exact (Below.refl _ w4).alloc (Nat.le_refl _) _
            obtain ⟨P5, hP5⟩ : ∃ q, q = w4.heap.size := ⟨_, rfl⟩
            rw [← hW5, ← hP5] at m5
            rw [← hW5, ← hP5]
            have m53 := (b5.block _ (gI H4.out.2).1).trans H4.out.2
            have H5 := hide (H4.out.1.trans (b5.mono H4.out.1.size))
            obtain ⟨y0, y1, y2, y3, y4⟩ := HC.out W5 H5.out
            have u0 : W5.cell? ⟨P3, 0, none⟩ = some (.int .i64 g1) := (cell_of_row _ _ 0 _ 33 (0, 0) m53).trans rfl
            have u1 : W5.cell? ⟨P3, 1, none⟩ = some (.int .i64 r1) := (cell_of_row _ _ 1 _ 33 (0, 0) m53).trans rfl
            have u2 : W5.cell? ⟨P3, 2, none⟩ = some (.string l1) := (cell_of_row _ _ 2 _ 33 (0, 0) m53).trans rfl
            have u3 : W5.cell? ⟨P3, 3, none⟩ = some (.int .i64 n1) := (cell_of_row _ _ 3 _ 33 (0, 0) m53).trans rfl
            have u4 : W5.cell? ⟨P3, 4, none⟩ = some (.int .i64 i1) := (cell_of_row _ _ 4 _ 33 (0, 0) m53).trans rfl
            have u5 : W5.cell? ⟨P3, 5, none⟩ = some (.string t1) := (cell_of_row _ _ 5 _ 33 (0, 0) m53).trans rfl
            have v0 : W5.cell? ⟨P5, 0, none⟩ = some (.int .i64 g1) := (cell_of_row _ _ 0 _ 33 (0, 0) m5).trans rfl
            have v1 : W5.cell? ⟨P5, 1, none⟩ = some (.int .i64 r1) := (cell_of_row _ _ 1 _ 33 (0, 0) m5).trans rfl
            have v2 : W5.cell? ⟨P5, 2, none⟩ = some (.string l1) := (cell_of_row _ _ 2 _ 33 (0, 0) m5).trans rfl
            have v3 : W5.cell? ⟨P5, 3, none⟩ = some (.int .i64 n1) := (cell_of_row _ _ 3 _ 33 (0, 0) m5).trans rfl
            have v4 : W5.cell? ⟨P5, 4, none⟩ = some (.int .i64 i1) := (cell_of_row _ _ 4 _ 33 (0, 0) m5).trans rfl
            have v5 : W5.cell? ⟨P5, 5, none⟩ = some (.string t1) := (cell_of_row _ _ 5 _ 33 (0, 0) m5).trans rfl
            clear hW5 m5 b5 hP5 m53
            go_wp2_with (first
              | (go_at_call 10; refine (hnm _ _).mono ?_; rintro e wz ⟨rfl, hz⟩; replace hz := hz.symm; subst hz; dsimp only)
              | (go_at_call 4; refine (known17 _).mono ?_; rintro e wk ⟨rfl, bk⟩; have HK9 := hide (H6.out.trans (bk.mono H6.out.size)); clear bk; dsimp only)
              | (go_at_call 9; refine (kS _).mono ?_; rintro e w6 ⟨rfl, b6⟩; have H6 := hide (H5.out.trans (b6.mono H5.out.size)); clear b6; dsimp only)
              | (go_at_call 8; refine (kX _).mono ?_; rintro e wz ⟨rfl, hz⟩; replace hz := hz.symm; subst hz; dsimp only))
            go_ret
            exact ⟨rfl, HB.out _ HK9.out⟩
          | true =>
            have hT : okEl ((g, r, lb, n, ix), X) = true := by rw [hok]; rfl
            have hkE : keyE ((g, r, lb, n, ix), X) = tkey X (g, r, lb, n, ix) := by unfold keyE; rw [hT]; rfl
            rw [hkE, hT] at kK
            simp only [if_true] at kK
            have hvX : txtB X = true := HOK.out.2.symm
            have hvS : stV (g, r, lb, n, ix) = true := HOK.out.1.symm
            have hof := ofK_key hvX hvS
            have hsz := tkey_size hvX hvS
            have kO2 := fun W (hW : Below w0.heap.size w0 W) => ofKey6 (tkey X (g, r, lb, n, ix)) W (by omega) (HM.out.below hW)
            rw [hof] at kO2
            have kY := fun W => key122 X (g, r, lb, n, ix) W (frB_size hvX).1 hvS
            obtain ⟨TK, hTK⟩ : ∃ q, q = tkey X (g, r, lb, n, ix) := ⟨_, rfl⟩
            rw [← hTK] at kK kO2 kY
            have heq := fun W => run_eq77 ((g, r, lb, n, ix), X) ((g, r, lb, n, ix), X) W
            rw [decide_eq_true rfl] at heq
            dsimp only [ev, svT, sv] at kO2 kY heq
            have bq : (TK.toList == TK.toList) = true := by simp
            have hnm := fun (z : Int) W => num20 z W
            clear hok hT hkE hvX hvS hof hsz hTK
            go_enter Tryz.func3, Tryz.ntmps3
            go_upto_region 1 with fail
            rw [← HW.out.1, ← HW.out.2]
            go_upto_region 4 with (go_at_call 5; refine (kK _).mono ?_; rintro e w1 ⟨rfl, b1⟩; have H1 := hide b1; clear b1 kK; dsimp only)
            clear y0 y1 y2 y3 y4
            go_upto_region 5 with (go_at_call 6; refine (kO _ H1.out).mono ?_; rintro e w2 ⟨rfl, b2⟩; have H2 := hide (H1.out.trans (b2.mono H1.out.size)); clear b2 kO; dsimp only)
            obtain ⟨W3, hW3⟩ : ∃ q, q = w2.alloc (.cells #[.int .i64 g1, .int .i64 r1, .string l1, .int .i64 n1, .int .i64 i1, .string t1] 33) := ⟨_, rfl⟩
            have m3 := heap_alloc_new w2 (.cells #[.int .i64 g1, .int .i64 r1, .string l1, .int .i64 n1, .int .i64 i1, .string t1] 33)
            have b3 : Below w2.heap.size w2 W3 := by rw [hW3]; exact (Below.refl _ w2).alloc (Nat.le_refl _) _
            obtain ⟨P3, hP3⟩ : ∃ q, q = w2.heap.size := ⟨_, rfl⟩
            rw [← hW3, ← hP3] at m3
            rw [← hW3, ← hP3]
            have H3 := hide (And.intro (H2.out.trans (b3.mono H2.out.size)) m3)
            clear hW3 m3 b3 hP3
            go_upto_region 6 with (go_at_call 7; refine (kR _).mono ?_; rintro e w4 ⟨rfl, b4⟩; have H4 := hide (And.intro (H3.out.1.trans (b4.mono H3.out.1.size)) ((b4.block _ (gI H3.out.2).1).trans H3.out.2)); clear b4 kR; dsimp only)
            obtain ⟨W5, hW5⟩ : ∃ q, q = w4.alloc (.cells #[.int .i64 g1, .int .i64 r1, .string l1, .int .i64 n1, .int .i64 i1, .string t1] 33) := ⟨_, rfl⟩
            have m5 := heap_alloc_new w4 (.cells #[.int .i64 g1, .int .i64 r1, .string l1, .int .i64 n1, .int .i64 i1, .string t1] 33)
            have b5 : Below w4.heap.size w4 W5 := by rw [hW5]; exact (Below.refl _ w4).alloc (Nat.le_refl _) _
            obtain ⟨P5, hP5⟩ : ∃ q, q = w4.heap.size := ⟨_, rfl⟩
            rw [← hW5, ← hP5] at m5
            rw [← hW5, ← hP5]
            have m53 := (b5.block _ (gI H4.out.2).1).trans H4.out.2
            have H5 := hide (H4.out.1.trans (b5.mono H4.out.1.size))
            obtain ⟨y0, y1, y2, y3, y4⟩ := HC.out W5 H5.out
            have u0 : W5.cell? ⟨P3, 0, none⟩ = some (.int .i64 g1) := (cell_of_row _ _ 0 _ 33 (0, 0) m53).trans rfl
            have u1 : W5.cell? ⟨P3, 1, none⟩ = some (.int .i64 r1) := (cell_of_row _ _ 1 _ 33 (0, 0) m53).trans rfl
            have u2 : W5.cell? ⟨P3, 2, none⟩ = some (.string l1) := (cell_of_row _ _ 2 _ 33 (0, 0) m53).trans rfl
            have u3 : W5.cell? ⟨P3, 3, none⟩ = some (.int .i64 n1) := (cell_of_row _ _ 3 _ 33 (0, 0) m53).trans rfl
            have u4 : W5.cell? ⟨P3, 4, none⟩ = some (.int .i64 i1) := (cell_of_row _ _ 4 _ 33 (0, 0) m53).trans rfl
            have u5 : W5.cell? ⟨P3, 5, none⟩ = some (.string t1) := (cell_of_row _ _ 5 _ 33 (0, 0) m53).trans rfl
            have v0 : W5.cell? ⟨P5, 0, none⟩ = some (.int .i64 g1) := (cell_of_row _ _ 0 _ 33 (0, 0) m5).trans rfl
            have v1 : W5.cell? ⟨P5, 1, none⟩ = some (.int .i64 r1) := (cell_of_row _ _ 1 _ 33 (0, 0) m5).trans rfl
            have v2 : W5.cell? ⟨P5, 2, none⟩ = some (.string l1) := (cell_of_row _ _ 2 _ 33 (0, 0) m5).trans rfl
            have v3 : W5.cell? ⟨P5, 3, none⟩ = some (.int .i64 n1) := (cell_of_row _ _ 3 _ 33 (0, 0) m5).trans rfl
            have v4 : W5.cell? ⟨P5, 4, none⟩ = some (.int .i64 i1) := (cell_of_row _ _ 4 _ 33 (0, 0) m5).trans rfl
            have v5 : W5.cell? ⟨P5, 5, none⟩ = some (.string t1) := (cell_of_row _ _ 5 _ 33 (0, 0) m5).trans rfl
            clear hW5 m5 b5 hP5 m53
            go_upto_region 10 with (first
              | (go_at_call 9; refine (kS _).mono ?_; rintro e w6 ⟨rfl, b6⟩; have H6 := hide (H5.out.trans (b6.mono H5.out.size)); clear b6; dsimp only)
              | (go_at_call 8; refine (kX _).mono ?_; rintro e wz ⟨rfl, hz⟩; replace hz := hz.symm; subst hz; dsimp only))
            clear u0 u1 u2 u3 u4 u5 v0 v1 v2 v3 v4 v5 y0 y1 y2 y3 y4 hne
            go_upto_region 11 with (go_at_call 6; refine (kO2 _ H6.out).mono ?_; rintro e w7 ⟨rfl, b7⟩; have H7 := hide (H6.out.trans (b7.mono H6.out.size)); clear b7 kO2; dsimp only)
            obtain ⟨W8, hW8⟩ : ∃ q, q = w7.alloc (.cells #[.int .i64 g, .int .i64 r, .string lb, .int .i64 n, .int .i64 ix, .string X] 33) := ⟨_, rfl⟩
            have m8 := heap_alloc_new w7 (.cells #[.int .i64 g, .int .i64 r, .string lb, .int .i64 n, .int .i64 ix, .string X] 33)
            have b8 : Below w7.heap.size w7 W8 := by rw [hW8]; exact (Below.refl _ w7).alloc (Nat.le_refl _) _
            obtain ⟨P8, hP8⟩ : ∃ q, q = w7.heap.size := ⟨_, rfl⟩
            rw [← hW8, ← hP8] at m8
            rw [← hW8, ← hP8]
            have H8 := hide (And.intro (H7.out.trans (b8.mono H7.out.size)) m8)
            obtain ⟨y0, y1, y2, y3, y4⟩ := HC.out W8 H8.out.1
            clear hW8 m8 b8 hP8
            go_wp2_with (first
              | (go_at_call 10; refine (hnm _ _).mono ?_; rintro e wz ⟨rfl, hz⟩; replace hz := hz.symm; subst hz; dsimp only)
              | (go_at_call 4; refine (known17 _).mono ?_; rintro e wk ⟨rfl, bk⟩; have HK9 := hide (H9.out.trans (bk.mono H9.out.size)); clear bk; dsimp only)
              | (go_at_call 11; refine (kY _).mono ?_; rintro e w9 ⟨rfl, b9⟩; have H9 := hide (H8.out.1.trans (b9.mono H8.out.1.size)); obtain ⟨y0, y1, y2, y3, y4⟩ := HC.out w9 H9.out; have m9 := (b9.block _ (gI H8.out.2).1).trans H8.out.2; have q0 : w9.cell? ⟨P8, 0, none⟩ = some (.int .i64 g) := (cell_of_row _ _ 0 _ 33 (0, 0) m9).trans rfl; have q1 : w9.cell? ⟨P8, 1, none⟩ = some (.int .i64 r) := (cell_of_row _ _ 1 _ 33 (0, 0) m9).trans rfl; have q2 : w9.cell? ⟨P8, 2, none⟩ = some (.string lb) := (cell_of_row _ _ 2 _ 33 (0, 0) m9).trans rfl; have q3 : w9.cell? ⟨P8, 3, none⟩ = some (.int .i64 n) := (cell_of_row _ _ 3 _ 33 (0, 0) m9).trans rfl; have q4 : w9.cell? ⟨P8, 4, none⟩ = some (.int .i64 ix) := (cell_of_row _ _ 4 _ 33 (0, 0) m9).trans rfl; have q5 : w9.cell? ⟨P8, 5, none⟩ = some (.string X) := (cell_of_row _ _ 5 _ 33 (0, 0) m9).trans rfl; clear b9 m9; dsimp only))
            go_ret
            exact ⟨rfl, HB.out _ HK9.out⟩
end Go.Proofs.YtkkpdgfllnbigaaGreatDoor.Tg
