/-
  WalkRules: THE WALK.
-/
import Derived.Test.YtckkoigghkgfdaaRuleX
import Derived.Test.YtckkoigghkgfdaaKeyT
namespace Go.Proofs.Ytckkoigghkgfdaa
open Go.RowKit Go.Shelf
set_option linter.unusedSimpArgs false

theorem RJ.below {B Ask Rt Xo Xa Xb Pk : Nat} {o a b : T} {po pa pb : Option Addr} {pkv : Value} {bs : List Bool} {ks : List ByteArray} {W W' : World} (h : RJ B o a b po pa pb Ask Rt Xo Xa Xb Pk pkv bs ks W) (hb : Below W.heap.size W W') : RJ B o a b po pa pb Ask Rt Xo Xa Xb Pk pkv bs ks W' := by
  have up : ∀ {j : Nat} {x : Obj}, W.heap[j]? = some x → W'.heap[j]? = some x := fun {j x} h => (hb.block _ (Array.getElem?_eq_some_iff.1 h).1).trans h
  obtain ⟨sv, h1, h2⟩ := h.ask
  refine ⟨⟨sv, up h1, h2.below hb⟩, up h.right, up h.xo, up h.xa, up h.xb, up h.pk, ?_, In.below hb h.io, In.below hb h.ia, In.below hb h.ib⟩
  obtain ⟨ao, cap, e, hc⟩ := h.pick.ex
  exact ⟨ao, cap, e, fun j u hj => by obtain ⟨b', off, e2, hlt, c⟩ := hc j u hj; exact ⟨b', off, e2, hlt, cell_stays c hb⟩⟩
set_option maxHeartbeats 16000000 in
set_option maxRecDepth 100000 in
theorem rules_walk (HK : KnownOk) {ks pa pb : List ByteArray} {ta tb : List Int} {s0 s1 s2 s3 s4 : Value} {ap : Option Addr} {np cp : Nat} {bs : List Bool} (x y z : Bool) (w : World) (h : ThreeIs w s0 s1 s2 s3 s4 ks pa pb ta tb) (hbs : Cs w (.slice ap np cp) (bs.map .bool)) :
    Calls Try.prog 5 #[.agg #[s0, s1, s2, s3, s4, .bool x, .bool y, .bool z], .slice ap np cp] w fun e w' => e = .returned (.bool true) ∧ Below w.heap.size w w' := by
  have hf := h.few x y z ((w.alloc (.cells #[s0, s1, s2, s3, s4, .bool x, .bool y, .bool z] 25)).alloc (.cells #[.slice ap np cp] 50))
  obtain ⟨r0, rp0⟩ := new2 w (.cells #[s0, s1, s2, s3, s4, .bool x, .bool y, .bool z] 25) (.cells #[.slice ap np cp] 50)
  have b0 : Below w.heap.size w ((w.alloc (.cells #[s0, s1, s2, s3, s4, .bool x, .bool y, .bool z] 25)).alloc (.cells #[.slice ap np cp] 50)) := ((Below.refl _ w).alloc (Nat.le_refl _) _).alloc (by simp) _
  obtain ⟨a0, n0, c0, a1, n1, c1, a2, n2, c2, a3, n3, c3, a4, n4, c4, rfl, rfl, rfl, rfl, rfl⟩ := h.shapes
  have HT := hide (And.intro h (And.intro b0 (And.intro r0 rp0)))
  have HBS := hide hbs
  replace HK := hide HK
  clear h b0 r0 rp0 hbs
  by_cases hfew : fewB ks pa pb ta tb
  · have hf1 := hf.1 hfew
    have HF := hide hfew
    clear hf hfew
    go_enter Try.func5, Try.ntmps5
    go_upto_if 25 with (go_at_call 7; refine hf1.mono ?_; rintro e w1 ⟨rfl, b1⟩; dsimp only)
    clear hf1
    have r1 := (b1.block _ (Array.getElem?_eq_some_iff.1 HT.out.2.2.1).1).trans HT.out.2.2.1
    have rp1 := (b1.block _ (Array.getElem?_eq_some_iff.1 HT.out.2.2.2).1).trans HT.out.2.2.2
    have cx0 : w1.cell? ⟨w.heap.size, 0, none⟩ = some (.slice a0 n0 c0) := (cell_of_row _ _ 0 _ 25 (0, 0) r1).trans rfl
    have cx1 : w1.cell? ⟨w.heap.size, 1, none⟩ = some (.slice a1 n1 c1) := (cell_of_row _ _ 1 _ 25 (0, 0) r1).trans rfl
    have cx2 : w1.cell? ⟨w.heap.size, 2, none⟩ = some (.slice a2 n2 c2) := (cell_of_row _ _ 2 _ 25 (0, 0) r1).trans rfl
    have cx3 : w1.cell? ⟨w.heap.size, 3, none⟩ = some (.slice a3 n3 c3) := (cell_of_row _ _ 3 _ 25 (0, 0) r1).trans rfl
    have cx4 : w1.cell? ⟨w.heap.size, 4, none⟩ = some (.slice a4 n4 c4) := (cell_of_row _ _ 4 _ 25 (0, 0) r1).trans rfl
    have cx5 : w1.cell? ⟨w.heap.size, 5, none⟩ = some (.bool x) := (cell_of_row _ _ 5 _ 25 (0, 0) r1).trans rfl
    have cx6 : w1.cell? ⟨w.heap.size, 6, none⟩ = some (.bool y) := (cell_of_row _ _ 6 _ 25 (0, 0) r1).trans rfl
    have cx7 : w1.cell? ⟨w.heap.size, 7, none⟩ = some (.bool z) := (cell_of_row _ _ 7 _ 25 (0, 0) r1).trans rfl
    have bw1 := HT.out.2.1.trans (b1.mono HT.out.2.1.size)
    have H1 := hide bw1
    have hm := (HT.out.1.below bw1).maps x y z HF.out
    have HRP := hide rp1
    obtain ⟨Pk, hPk⟩ : ∃ P, P = w.heap.size + 1 := ⟨_, rfl⟩
    clear r1 b1 bw1 rp1
    go_upto_region 4 with (go_at_call 9; refine hm.mono ?_; rintro e w2 ⟨o, a, b, po, pa', pb', rfl, htr, b2⟩; dsimp only)
    clear hm cx0 cx1 cx2 cx3 cx4 cx5 cx6 cx7
    obtain ⟨m0, m1, m2, b3⟩ := new3 w2 (.cells #[.pointer po] 29) (.cells #[.pointer pa'] 29) (.cells #[.pointer pb'] 29)
    obtain ⟨w3, hw3⟩ : ∃ w3, w3 = ((w2.alloc (.cells #[.pointer po] 29)).alloc (.cells #[.pointer pa'] 29)).alloc (.cells #[.pointer pb'] 29) := ⟨_, rfl⟩
    rw [← hw3] at m0 m1 m2 b3 ⊢
    have b23 := b2.trans (b3.mono b2.size)
    have pk3X := (b23.block _ (Array.getElem?_eq_some_iff.1 HRP.out).1).trans HRP.out
    rw [← hPk] at pk3X
    try rw [← hPk]
    have HP := hide htr.2
    have H3 := hide (And.intro (htr.1.below b3) (H1.out.trans (b23.mono H1.out.size)))
    obtain ⟨X0, hX0⟩ : ∃ X, X = w2.heap.size := ⟨_, rfl⟩
    obtain ⟨X1, hX1⟩ : ∃ X, X = w2.heap.size + 1 := ⟨_, rfl⟩
    obtain ⟨X2, hX2⟩ : ∃ X, X = w2.heap.size + 1 + 1 := ⟨_, rfl⟩
    rw [← hX2] at m2 ⊢
    rw [← hX1] at m1 ⊢
    rw [← hX0] at m0 ⊢
    clear hX0 hX1 hX2 hw3 b3 b2 b23 htr H1 hPk HRP
    -- the three boxes stand at X0, X1, X2
    have pk3 := pk3X
    go_upto_region 6 with (fail)
    obtain ⟨ra, rr⟩ := new2 w3 (.cells #[.slice none 0 0] 22) (.cells #[.bool true] 4)
    have b4 : Below w3.heap.size w3 ((w3.alloc (.cells #[.slice none 0 0] 22)).alloc (.cells #[.bool true] 4)) := ((Below.refl _ w3).alloc (Nat.le_refl _) _).alloc (by simp) _
    obtain ⟨w4, hw4⟩ : ∃ w4, w4 = (w3.alloc (.cells #[.slice none 0 0] 22)).alloc (.cells #[.bool true] 4) := ⟨_, rfl⟩
    rw [← hw4] at ra rr b4 ⊢
    obtain ⟨Ask, hAsk⟩ : ∃ A, A = w3.heap.size := ⟨_, rfl⟩
    obtain ⟨Rt, hRt⟩ : ∃ R, R = w3.heap.size + 1 := ⟨_, rfl⟩
    rw [← hRt] at rr ⊢
    rw [← hAsk] at ra ⊢
    have up4 : ∀ {j : Nat} {x : Obj}, w3.heap[j]? = some x → w4.heap[j]? = some x := fun {j x} h => (b4.block _ (Array.getElem?_eq_some_iff.1 h).1).trans h
    have hX : X0 < w3.heap.size ∧ X1 < w3.heap.size ∧ X2 < w3.heap.size ∧ Pk < w3.heap.size := ⟨(Array.getElem?_eq_some_iff.1 m0).1, (Array.getElem?_eq_some_iff.1 m1).1, (Array.getElem?_eq_some_iff.1 m2).1, (Array.getElem?_eq_some_iff.1 pk3).1⟩
    have hj0 : RJ w3.heap.size o a b po pa' pb' Ask Rt X0 X1 X2 Pk (.slice ap np cp) bs [] w4 := by
      refine ⟨⟨_, ra, OnS.start _ _⟩, rr, up4 m0, up4 m1, up4 m2, up4 pk3, ?_, In.below b4 H3.out.1.io, In.below b4 H3.out.1.ia, In.below b4 H3.out.1.ib⟩
      obtain ⟨ao, cap, e, _, hc⟩ := HBS.out.ex
      refine ⟨ao, cap, e, fun j u hj => ?_⟩
      obtain ⟨b', off, e2, c⟩ := hc j u hj
      have hb3 := H3.out.2
      have c3 := cell_stays c hb3
      exact ⟨b', off, e2, Nat.lt_of_lt_of_le (World.block_lt_of_cell? w _ c) hb3.size, cell_stays c3 b4⟩
    have hrun := rules_run w4 (B := w3.heap.size) (by omega) (by omega) hX.1 hX.2.1 hX.2.2.1 hX.2.2.2 HP.out.1 HP.out.2.1 HP.out.2.2.1 (H3.out.1.below b4) b4.size hj0
    have d0 : w4.cell? ⟨X0, 0, none⟩ = some (.pointer po) := (cell_of_row _ _ 0 _ 29 (0, 0) (up4 m0)).trans rfl
    have d1 : w4.cell? ⟨X1, 0, none⟩ = some (.pointer pa') := (cell_of_row _ _ 0 _ 29 (0, 0) (up4 m1)).trans rfl
    have d2 : w4.cell? ⟨X2, 0, none⟩ = some (.pointer pb') := (cell_of_row _ _ 0 _ 29 (0, 0) (up4 m2)).trans rfl
    have H4 := hide (And.intro H3.out.1 (And.intro (H3.out.2.trans (b4.mono H3.out.2.size)) H3.out.2.size))
    have HX := hide hX
    clear hw4 hAsk hRt ra rr up4 hX hj0 m0 m1 m2 pk3 b4
    go_upto_region 8 with (go_at_call 18; refine hrun.mono ?_; rintro e u0 ⟨m, pm, L, MM, ks', rfl, hpm, hL, im, sym, hj1, b1'⟩; have HL0 := hide hL; clear hL; dsimp only)
    clear hrun d0 d1 d2
    have hL := HL0.out
    clear HL0
    obtain ⟨v1, hv1, e0, ⟨-, e01, -⟩, f0⟩ := box_new2 u0 (.pointer pm) (.int .i64 (L : Nat)) (.int .i64 (L : Nat)) (.int .i64 (MM : Nat))
    rw [← hv1]
    have hj2 := hj1.below f0
    have bw1 : Below w.heap.size w v1 := H4.out.2.1.trans ((b1'.mono H4.out.2.2).trans (f0.mono (Nat.le_trans H4.out.2.1.size (b1'.size))))
    obtain ⟨Y0, hY0⟩ : ∃ Y, Y = u0.heap.size := ⟨_, rfl⟩
    obtain ⟨Y1, hY1⟩ : ∃ Y, Y = u0.heap.size + 1 := ⟨_, rfl⟩
    rw [← hY1] at e01 ⊢
    rw [← hY0] at e0 ⊢
    obtain ⟨sv, hav, hon⟩ := hj2.ask
    have hcs := hon.cs
    obtain ⟨sa, sc, esv, -⟩ := hcs.ex
    rw [List.length_map, ← hL] at esv
    subst esv
    have cAsk : v1.cell? ⟨Ask, 0, none⟩ = some (.slice sa L sc) := (cell_of_row _ _ 0 _ 22 (0, 0) hav).trans rfl
    have cRt : v1.cell? ⟨Rt, 0, none⟩ = some (.bool true) := (cell_of_row _ _ 0 _ 4 (0, 0) hj2.right).trans rfl
    have HJ := hide hj2
    have HM := hide (And.intro hpm (And.intro sym (And.intro hL (And.intro (In.below f0 im) bw1))))
    have HCS := hide hcs
    have hL1 : L ≤ 1000 := by rw [hL]; exact Nat.le_trans sym.few H4.out.1.nab
    clear hY0 hY1 hv1 f0 b1' im sym hpm hL hj1 hj2 hav hon hcs bw1 HX
    have HE := hide e0
    clear e0
    go_wp2
    clear e01 cRt
    go_loopw [14] (fun v14 wr => ∃ (i : Nat), i ≤ L ∧ v14 = .int .i64 i ∧ Hid (Below v1.heap.size v1 wr)) (fun v14 _ => L - (intOf v14).toNat)
    case atStart => exact ⟨0, by omega, rfl, hide (Below.refl _ _)⟩
    case round =>
      obtain ⟨i, hi, rfl, HB⟩ := hrel
      have cA1 := cell_stays cAsk HB.out
      by_cases hiL : i < L
      · as_aux_lemma =>
        have y1 : (i : Int) < (L : Int) := by omega
        obtain ⟨ki, hki⟩ : ∃ k, ks'[i]? = some k := ⟨ks'[i]'(by rw [← HM.out.2.2.1]; exact hiL), List.getElem?_eq_getElem _⟩
        obtain ⟨kb, ko, kc', e2, ck⟩ := csAt HCS.out (j := i) (u := .string ki) (by rw [List.getElem?_map, hki]; rfl)
        simp only [Value.slice.injEq] at e2
        obtain ⟨rfl, -, rfl⟩ := e2
        have HLC : Hid (∀ (j : Nat) kj, ks'[j]? = some kj → v1.cell? ⟨kb, ko + j, none⟩ = some (.string kj)) := hide (fun j kj hj => by
          obtain ⟨b', o', c', e3, c3⟩ := csAt HCS.out (j := j) (u := .string kj) (by rw [List.getElem?_map, hj]; rfl)
          simp only [Value.slice.injEq, Option.some.injEq, Addr.mk.injEq] at e3
          obtain ⟨⟨rfl, rfl, -⟩, -⟩ := e3
          exact c3)
        have HKI := hide hki
        clear hki ck
        go_wp2
        go_loopw [15] (fun v15 wr => ∃ (j : Nat), j ≤ i ∧ v15 = .int .i64 j ∧ Hid (Below v1.heap.size v1 wr)) (fun v15 _ => i - (intOf v15).toNat)
        case atStart => exact ⟨0, by omega, rfl, HB⟩
        case round =>
          clear HB cA1
          obtain ⟨j, hj, rfl, HB⟩ := hrel
          rename World => wr
          by_cases hji : j < i
          · have y2 : (j : Int) < (i : Int) := by omega
            have y3 : (j : Int) < (L : Int) := by omega
            have y4 : j < L := by omega
            have y5 : i < L := hiL
            obtain ⟨kj, hkj⟩ : ∃ k, ks'[j]? = some k := ⟨ks'[j]'(by rw [← HM.out.2.2.1]; omega), List.getElem?_eq_getElem _⟩
            have q0 : wr.cell? ⟨Ask, 0, none⟩ = some (.slice (some ⟨kb, ko, none⟩) L sc) ∧ wr.cell? ⟨kb, ko + j, none⟩ = some (.string kj) ∧ wr.cell? ⟨kb, ko + i, none⟩ = some (.string ki) ∧ Hid (Below v1.heap.size v1 wr) := ⟨cell_stays cAsk HB.out, cell_stays (HLC.out j kj hkj) HB.out, cell_stays (HLC.out i ki HKI.out) HB.out, HB⟩
            have hne : (kj.toList == ki.toList) = false := by
              rw [beq_eq_false_iff_ne]
              intro e
              have h1 := bytes_ext e
              subst h1
              have hnd := HM.out.2.1.once
              obtain ⟨l1, g1⟩ := List.getElem?_eq_some_iff.1 hkj
              obtain ⟨l2, g2⟩ := List.getElem?_eq_some_iff.1 HKI.out
              exact List.pairwise_iff_getElem.1 hnd j i l1 l2 hji (g1.trans g2.symm)
            clear hkj
            go_upto_region 16 with (fail)
            have qd : wr.drew.cell? ⟨Ask, 0, none⟩ = some (.slice (some ⟨kb, ko, none⟩) L sc) ∧ wr.drew.cell? ⟨kb, ko + j, none⟩ = some (.string kj) ∧ wr.drew.cell? ⟨kb, ko + i, none⟩ = some (.string ki) ∧ Hid (Below v1.heap.size v1 wr.drew) := ⟨q0.1, q0.2.1, q0.2.2.1, hide (q0.2.2.2.out.trans ((drew_below wr).mono q0.2.2.2.out.size))⟩
            refine wp_region_held_drew (S := (fun w' => w'.cell? ⟨Ask, 0, none⟩ = some (.slice (some ⟨kb, ko, none⟩) L sc) ∧ w'.cell? ⟨kb, ko + j, none⟩ = some (.string kj) ∧ w'.cell? ⟨kb, ko + i, none⟩ = some (.string ki) ∧ Hid (Below v1.heap.size v1 w'))) (by kernel_rfl) qd (fun hHeld => ?_)
            try dsimp only at hHeld
            refine take_op (i := 0) (d := 67) (OP := Op.load 22 (Operand.tmp 8)) (T := 22) (v := ?vzz36) rfl rfl rfl rfl (by kernel_rfl) (by kernel_rfl) (by kernel_rfl) (fun _ _ _ h => h) (by rfl) ?hzz36 hHeld ?rzz36
            case hzz36 => (intro w' hSw; (try dsimp only at hSw); go_simp <;> with_reducible rfl)
            try simp only [Act.put, List.setIfInBounds_toArray, List.set_cons_zero, List.set_cons_succ]
            refine take_op (i := 1) (d := 68) (OP := Op.move (Operand.tmp 15)) (T := 3) (v := ?vzz37) rfl rfl rfl rfl (by kernel_rfl) (by kernel_rfl) (by kernel_rfl) (fun _ _ _ h => h) (by rfl) ?hzz37 hHeld ?rzz37
            case hzz37 => (intro w' hSw; (try dsimp only at hSw); go_simp <;> with_reducible rfl)
            try simp only [Act.put, List.setIfInBounds_toArray, List.set_cons_zero, List.set_cons_succ]
            refine take_op (i := 2) (d := 69) (OP := Op.indexAddr 22 (Operand.tmp 67) (Operand.tmp 68)) (T := 0) (v := ?vzz38) rfl rfl rfl rfl (by kernel_rfl) (by kernel_rfl) (by kernel_rfl) (fun _ _ _ h => h) (by rfl) ?hzz38 hHeld ?rzz38
            case hzz38 => (intro w' hSw; (try dsimp only at hSw); go_simp <;> with_reducible rfl)
            try simp only [Act.put, List.setIfInBounds_toArray, List.set_cons_zero, List.set_cons_succ]
            refine take_op (i := 3) (d := 70) (OP := Op.load 9 (Operand.tmp 69)) (T := 9) (v := ?vzz39) rfl rfl rfl rfl (by kernel_rfl) (by kernel_rfl) (by kernel_rfl) (fun _ _ _ h => h) (by rfl) ?hzz39 hHeld ?rzz39
            case hzz39 => (intro w' hSw; (try dsimp only at hSw); go_simp <;> with_reducible rfl)
            try simp only [Act.put, List.setIfInBounds_toArray, List.set_cons_zero, List.set_cons_succ]
            refine take_op (i := 4) (d := 71) (OP := Op.load 22 (Operand.tmp 8)) (T := 22) (v := ?vzz40) rfl rfl rfl rfl (by kernel_rfl) (by kernel_rfl) (by kernel_rfl) (fun _ _ _ h => h) (by rfl) ?hzz40 hHeld ?rzz40
            case hzz40 => (intro w' hSw; (try dsimp only at hSw); go_simp <;> with_reducible rfl)
            try simp only [Act.put, List.setIfInBounds_toArray, List.set_cons_zero, List.set_cons_succ]
            refine take_op (i := 5) (d := 72) (OP := Op.move (Operand.tmp 14)) (T := 3) (v := ?vzz41) rfl rfl rfl rfl (by kernel_rfl) (by kernel_rfl) (by kernel_rfl) (fun _ _ _ h => h) (by rfl) ?hzz41 hHeld ?rzz41
            case hzz41 => (intro w' hSw; (try dsimp only at hSw); go_simp <;> with_reducible rfl)
            try simp only [Act.put, List.setIfInBounds_toArray, List.set_cons_zero, List.set_cons_succ]
            refine take_op (i := 6) (d := 73) (OP := Op.indexAddr 22 (Operand.tmp 71) (Operand.tmp 72)) (T := 0) (v := ?vzz42) rfl rfl rfl rfl (by kernel_rfl) (by kernel_rfl) (by kernel_rfl) (fun _ _ _ h => h) (by rfl) ?hzz42 hHeld ?rzz42
            case hzz42 => (intro w' hSw; (try dsimp only at hSw); go_simp <;> with_reducible rfl)
            try simp only [Act.put, List.setIfInBounds_toArray, List.set_cons_zero, List.set_cons_succ]
            refine take_op (i := 7) (d := 74) (OP := Op.load 9 (Operand.tmp 73)) (T := 9) (v := ?vzz43) rfl rfl rfl rfl (by kernel_rfl) (by kernel_rfl) (by kernel_rfl) (fun _ _ _ h => h) (by rfl) ?hzz43 hHeld ?rzz43
            case hzz43 => (intro w' hSw; (try dsimp only at hSw); go_simp <;> with_reducible rfl)
            try simp only [Act.put, List.setIfInBounds_toArray, List.set_cons_zero, List.set_cons_succ]
            refine take_op (i := 8) (d := 75) (OP := Op.binOp BinOp.eql 9 (Operand.tmp 70) (Operand.tmp 74) 9) (T := 4) (v := ?vzz44) rfl rfl rfl rfl (by kernel_rfl) (by kernel_rfl) (by kernel_rfl) (fun _ _ _ h => h) (by rfl) ?hzz44 hHeld ?rzz44
            case hzz44 => (intro w' hSw; (try dsimp only at hSw); go_simp <;> with_reducible rfl)
            try simp only [Act.put, List.setIfInBounds_toArray, List.set_cons_zero, List.set_cons_succ]
            refine wpAnyH_done (by kernel_rfl) ?_ _
            clear hHeld q0
            replace qd := qd.2.2.2
            go_wp2
            go_roundw
            case rel => exact ⟨j + 1, by omega, by go_num, qd⟩
            case measure => simp [intOf]; omega
          · have ej : j = i := by omega
            subst ej
            have y2 : decide ((j : Int) < (j : Int)) = false := by simp
            go_wp2
            go_roundw
            case rel => exact ⟨j + 1, by omega, by go_num, HB⟩
            case measure => simp [intOf]; omega
      · as_aux_lemma =>
        have ei : i = L := by omega
        subst ei
        have y1 : decide ((i : Int) < (i : Int)) = false := by simp
        have bw0 := hide (HM.out.2.2.2.2.trans (HB.out.mono HM.out.2.2.2.2.size))
        have gK := keys_three (o := o) (a := a) (b := b) HP.out.1 HP.out.2.1 HP.out.2.2.1 (In.below HB.out HJ.out.io) (In.below HB.out HJ.out.ia) (In.below HB.out HJ.out.ib) (by have := HP.out.2.2.2; omega) (by have := HP.out.2.2.2; omega) (by have := HP.out.2.2.2; omega)
        have d0 : wr.cell? ⟨X0, 0, none⟩ = some (.pointer po) := cell_stays ((cell_of_row _ _ 0 _ 29 (0, 0) HJ.out.xo).trans rfl) HB.out
        have d1 : wr.cell? ⟨X1, 0, none⟩ = some (.pointer pa') := cell_stays ((cell_of_row _ _ 0 _ 29 (0, 0) HJ.out.xa).trans rfl) HB.out
        have d2 : wr.cell? ⟨X2, 0, none⟩ = some (.pointer pb') := cell_stays ((cell_of_row _ _ 0 _ 29 (0, 0) HJ.out.xb).trans rfl) HB.out
        obtain ⟨N, hN⟩ : ∃ N, N = (o.keys ++ a.keys ++ b.keys).length := ⟨_, rfl⟩
        go_upto_region 19 with (go_at_call 11; refine gK.mono ?_; rintro e wL ⟨sv, rfl, hcs, bL⟩; obtain ⟨la, lc, rfl, -⟩ := hcs.ex; have HCS2 := hide hcs; have HBL := hide bL; clear hcs bL; dsimp only)
        clear gK d0 d1 d2 cA1
        rw [List.length_map] at HCS2
        simp only [List.length_map]
        rw [← hN] at HCS2 ⊢
        obtain ⟨KL, hKL⟩ : ∃ L, L = o.keys ++ a.keys ++ b.keys := ⟨_, rfl⟩
        rw [← hKL] at HCS2 hN
        have hN1 : N ≤ 1000 := by rw [hN, hKL, List.length_append, List.length_append, T.keys_len, T.keys_len, T.keys_len]; have := HP.out.2.2.2; omega
        have HN := hide hN
        have hB2 := HB.out.trans (HBL.out.mono HB.out.size)
        have HIN := hide (And.intro (In.below hB2 HJ.out.io) (And.intro (In.below hB2 HJ.out.ia) (And.intro (In.below hB2 HJ.out.ib) (In.below hB2 HM.out.2.2.2.1))))
        have HCL : Hid (wL.cell? ⟨X0, 0, none⟩ = some (.pointer po) ∧ wL.cell? ⟨X1, 0, none⟩ = some (.pointer pa') ∧ wL.cell? ⟨X2, 0, none⟩ = some (.pointer pb') ∧ wL.cell? ⟨Y0, 0, none⟩ = some (.pointer pm) ∧ wL.cell? ⟨Pk, 0, none⟩ = some (.slice ap np cp)) := hide ⟨cell_stays ((cell_of_row _ _ 0 _ 29 (0, 0) HJ.out.xo).trans rfl) hB2, cell_stays ((cell_of_row _ _ 0 _ 29 (0, 0) HJ.out.xa).trans rfl) hB2, cell_stays ((cell_of_row _ _ 0 _ 29 (0, 0) HJ.out.xb).trans rfl) hB2, cell_stays HE.out hB2, cell_stays ((cell_of_row _ _ 0 _ 50 (0, 0) HJ.out.pk).trans rfl) hB2⟩
        have HPC : Hid (∃ ao, .slice ap np cp = Value.slice ao bs.length cp ∧ ∀ (j : Nat) (bv : Bool), bs[j]? = some bv → ∃ b' off, ao = some ⟨b', off, none⟩ ∧ wL.cell? ⟨b', off + j, none⟩ = some (.bool bv)) := hide (by
          obtain ⟨ao, cap, e, hc⟩ := HJ.out.pick.ex
          rw [List.length_map] at e
          have e' := e
          simp only [Value.slice.injEq] at e'
          refine ⟨ao, by rw [e]; simp [e'.2.2], fun j bv hj => ?_⟩
          obtain ⟨b', off, e2, _, c⟩ := hc j (.bool bv) (by rw [List.getElem?_map, hj]; rfl)
          exact ⟨b', off, e2, cell_stays c hB2⟩)
        have HWL := hide (bw0.out.trans (HBL.out.mono bw0.out.size))
        clear hN hKL hB2 bw0 HBL cAsk HE
        clear HB
        go_wp2
        go_loopw [17] (fun v17 wr => ∃ (i : Nat), i ≤ N ∧ v17 = .int .i64 i ∧ Hid (Below wL.heap.size wL wr)) (fun v17 _ => N - (intOf v17).toNat)
        case atStart => exact ⟨0, by omega, rfl, hide (Below.refl _ _)⟩
        case round =>
          rename Nat => iOld
          obtain ⟨i, hi, rfl, HB⟩ := hrel
          rename World => wr
          by_cases hiN : i < N
          · as_aux_lemma =>
            have y1 : (i : Int) < (N : Int) := by omega
            obtain ⟨k, hk⟩ : ∃ k, KL[i]? = some k := ⟨KL[i]'(by rw [← HN.out]; exact hiN), List.getElem?_eq_getElem _⟩
            obtain ⟨lb, lo, lc', e2, ck⟩ := csAt HCS2.out (j := i) (u := .string k) (by rw [List.getElem?_map, hk]; rfl)
            simp only [Value.slice.injEq] at e2
            obtain ⟨rfl, -, rfl⟩ := e2
            clear hk
            have q0 : wr.cell? ⟨X0, 0, none⟩ = some (.pointer po) ∧ wr.cell? ⟨X1, 0, none⟩ = some (.pointer pa') ∧ wr.cell? ⟨X2, 0, none⟩ = some (.pointer pb') ∧ wr.cell? ⟨Y0, 0, none⟩ = some (.pointer pm) ∧ wr.cell? ⟨lb, lo + i, none⟩ = some (.string k) ∧ wr.cell? ⟨Pk, 0, none⟩ = some (.slice ap np cp) ∧ Hid (Below wL.heap.size wL wr) := ⟨cell_stays HCL.out.1 HB.out, cell_stays HCL.out.2.1 HB.out, cell_stays HCL.out.2.2.1 HB.out, cell_stays HCL.out.2.2.2.1 HB.out, cell_stays ck HB.out, cell_stays HCL.out.2.2.2.2 HB.out, HB⟩
            clear ck
            obtain ⟨⟨p1, p2⟩, hp⟩ : ∃ p, p = look k o.list := ⟨_, rfl⟩
            obtain ⟨⟨s1', s2'⟩, hs⟩ : ∃ p, p = look k a.list := ⟨_, rfl⟩
            obtain ⟨⟨r1, r2⟩, hr⟩ : ∃ p, p = look k b.list := ⟨_, rfl⟩
            have hpartp : ∀ W, Below wL.heap.size wL W → Calls Try.prog 12 #[.agg #[.pointer po], .string k] W fun e w' => ∃ v, e = .returned v ∧ (v = .agg #[.int .i64 p1, .bool p2]) ∧ Below W.heap.size W w' := fun W hW => by
              have := part_any o k W (In.below hW HIN.out.1) H4.out.1.so
              rw [mv_ptr HP.out.1, ← hp] at this
              exact this.mono (fun e w' h => ⟨_, h.1, rfl, h.2⟩)
            have hparts : ∀ W, Below wL.heap.size wL W → Calls Try.prog 12 #[.agg #[.pointer pa'], .string k] W fun e w' => ∃ v, e = .returned v ∧ (v = .agg #[.int .i64 s1', .bool s2']) ∧ Below W.heap.size W w' := fun W hW => by
              have := part_any a k W (In.below hW HIN.out.2.1) H4.out.1.sa
              rw [mv_ptr HP.out.2.1, ← hs] at this
              exact this.mono (fun e w' h => ⟨_, h.1, rfl, h.2⟩)
            have hpartr : ∀ W, Below wL.heap.size wL W → Calls Try.prog 12 #[.agg #[.pointer pb'], .string k] W fun e w' => ∃ v, e = .returned v ∧ (v = .agg #[.int .i64 r1, .bool r2]) ∧ Below W.heap.size W w' := fun W hW => by
              have := part_any b k W (In.below hW HIN.out.2.2.1) H4.out.1.sb
              rw [mv_ptr HP.out.2.2.1, ← hr] at this
              exact this.mono (fun e w' h => ⟨_, h.1, rfl, h.2⟩)
            have hgm0 : ∀ W' (V : Int) (Wb : Bool), (V, Wb) = look k m.list → Below wL.heap.size wL W' → Calls Try.prog 12 #[.agg #[.pointer pm], .string k] W' fun e w' => e = .returned (.agg #[.int .i64 V, .bool Wb]) ∧ Below W'.heap.size W' w' := fun W' V Wb hv hW => by
              have := part_any m k W' (In.below hW HIN.out.2.2.2) HM.out.2.1.srt
              rw [mv_ptr HM.out.1, ← hv] at this
              exact this
            have HRX : Hid (look k m.list = ruleR bs k (p1, p2) (s1', s2') (r1, r2)) := hide (by rw [HM.out.2.1.look k, hp, hs, hr])
            clear hp hs hr
            go_upto_region 22 with (fail)
            have qd : wr.drew.cell? ⟨X0, 0, none⟩ = some (.pointer po) ∧ wr.drew.cell? ⟨X1, 0, none⟩ = some (.pointer pa') ∧ wr.drew.cell? ⟨X2, 0, none⟩ = some (.pointer pb') ∧ wr.drew.cell? ⟨Y0, 0, none⟩ = some (.pointer pm) ∧ wr.drew.cell? ⟨lb, lo + i, none⟩ = some (.string k) ∧ wr.drew.cell? ⟨Pk, 0, none⟩ = some (.slice ap np cp) ∧ Hid (Below wL.heap.size wL wr.drew) := ⟨q0.1, q0.2.1, q0.2.2.1, q0.2.2.2.1, q0.2.2.2.2.1, q0.2.2.2.2.2.1, hide (q0.2.2.2.2.2.2.out.trans ((drew_below wr).mono q0.2.2.2.2.2.2.out.size))⟩
            refine wp_region_held_drew (S := (fun w' => w'.cell? ⟨X0, 0, none⟩ = some (.pointer po) ∧ w'.cell? ⟨X1, 0, none⟩ = some (.pointer pa') ∧ w'.cell? ⟨X2, 0, none⟩ = some (.pointer pb') ∧ w'.cell? ⟨Y0, 0, none⟩ = some (.pointer pm) ∧ w'.cell? ⟨lb, lo + i, none⟩ = some (.string k) ∧ w'.cell? ⟨Pk, 0, none⟩ = some (.slice ap np cp) ∧ Hid (Below wL.heap.size wL w'))) (by kernel_rfl) qd (fun hHeld => ?_)
            try dsimp only at hHeld
            refine take_op (i := 0) (d := 87) (OP := Op.load 29 (Operand.tmp 5)) (T := 29) (v := ?vzz1) rfl rfl rfl rfl (by kernel_rfl) (by kernel_rfl) (by kernel_rfl) (fun _ _ _ h => h) (by rfl) ?hzz1 hHeld ?rzz1
            case hzz1 => (intro w' hSw; (try dsimp only at hSw); go_simp <;> with_reducible rfl)
            try simp only [Act.put, List.setIfInBounds_toArray, List.set_cons_zero, List.set_cons_succ]
            refine take_op (i := 1) (d := 88) (OP := Op.move (Operand.tmp 16)) (T := 22) (v := ?vzz2) rfl rfl rfl rfl (by kernel_rfl) (by kernel_rfl) (by kernel_rfl) (fun _ _ _ h => h) (by rfl) ?hzz2 hHeld ?rzz2
            case hzz2 => (intro w' hSw; (try dsimp only at hSw); go_simp <;> with_reducible rfl)
            try simp only [Act.put, List.setIfInBounds_toArray, List.set_cons_zero, List.set_cons_succ]
            refine take_op (i := 2) (d := 89) (OP := Op.move (Operand.tmp 17)) (T := 3) (v := ?vzz3) rfl rfl rfl rfl (by kernel_rfl) (by kernel_rfl) (by kernel_rfl) (fun _ _ _ h => h) (by rfl) ?hzz3 hHeld ?rzz3
            case hzz3 => (intro w' hSw; (try dsimp only at hSw); go_simp <;> with_reducible rfl)
            try simp only [Act.put, List.setIfInBounds_toArray, List.set_cons_zero, List.set_cons_succ]
            refine take_op (i := 3) (d := 90) (OP := Op.indexAddr 22 (Operand.tmp 88) (Operand.tmp 89)) (T := 0) (v := ?vzz4) rfl rfl rfl rfl (by kernel_rfl) (by kernel_rfl) (by kernel_rfl) (fun _ _ _ h => h) (by rfl) ?hzz4 hHeld ?rzz4
            case hzz4 => (intro w' hSw; (try dsimp only at hSw); go_simp <;> with_reducible rfl)
            try simp only [Act.put, List.setIfInBounds_toArray, List.set_cons_zero, List.set_cons_succ]
            refine take_op (i := 4) (d := 91) (OP := Op.load 9 (Operand.tmp 90)) (T := 9) (v := ?vzz5) rfl rfl rfl rfl (by kernel_rfl) (by kernel_rfl) (by kernel_rfl) (fun _ _ _ h => h) (by rfl) ?hzz5 hHeld ?rzz5
            case hzz5 => (intro w' hSw; (try dsimp only at hSw); go_simp <;> with_reducible rfl)
            try simp only [Act.put, List.setIfInBounds_toArray, List.set_cons_zero, List.set_cons_succ]
            refine take_op (i := 6) (d := 93) (OP := Op.load 29 (Operand.tmp 6)) (T := 29) (v := ?vzz6) rfl rfl rfl rfl (by kernel_rfl) (by kernel_rfl) (by kernel_rfl) (fun _ _ _ h => h) (by rfl) ?hzz6 hHeld ?rzz6
            case hzz6 => (intro w' hSw; (try dsimp only at hSw); go_simp <;> with_reducible rfl)
            try simp only [Act.put, List.setIfInBounds_toArray, List.set_cons_zero, List.set_cons_succ]
            refine take_op (i := 7) (d := 94) (OP := Op.move (Operand.tmp 16)) (T := 22) (v := ?vzz7) rfl rfl rfl rfl (by kernel_rfl) (by kernel_rfl) (by kernel_rfl) (fun _ _ _ h => h) (by rfl) ?hzz7 hHeld ?rzz7
            case hzz7 => (intro w' hSw; (try dsimp only at hSw); go_simp <;> with_reducible rfl)
            try simp only [Act.put, List.setIfInBounds_toArray, List.set_cons_zero, List.set_cons_succ]
            refine take_op (i := 8) (d := 95) (OP := Op.move (Operand.tmp 17)) (T := 3) (v := ?vzz8) rfl rfl rfl rfl (by kernel_rfl) (by kernel_rfl) (by kernel_rfl) (fun _ _ _ h => h) (by rfl) ?hzz8 hHeld ?rzz8
            case hzz8 => (intro w' hSw; (try dsimp only at hSw); go_simp <;> with_reducible rfl)
            try simp only [Act.put, List.setIfInBounds_toArray, List.set_cons_zero, List.set_cons_succ]
            refine take_op (i := 9) (d := 96) (OP := Op.indexAddr 22 (Operand.tmp 94) (Operand.tmp 95)) (T := 0) (v := ?vzz9) rfl rfl rfl rfl (by kernel_rfl) (by kernel_rfl) (by kernel_rfl) (fun _ _ _ h => h) (by rfl) ?hzz9 hHeld ?rzz9
            case hzz9 => (intro w' hSw; (try dsimp only at hSw); go_simp <;> with_reducible rfl)
            try simp only [Act.put, List.setIfInBounds_toArray, List.set_cons_zero, List.set_cons_succ]
            refine take_op (i := 10) (d := 97) (OP := Op.load 9 (Operand.tmp 96)) (T := 9) (v := ?vzz10) rfl rfl rfl rfl (by kernel_rfl) (by kernel_rfl) (by kernel_rfl) (fun _ _ _ h => h) (by rfl) ?hzz10 hHeld ?rzz10
            case hzz10 => (intro w' hSw; (try dsimp only at hSw); go_simp <;> with_reducible rfl)
            try simp only [Act.put, List.setIfInBounds_toArray, List.set_cons_zero, List.set_cons_succ]
            refine take_op (i := 12) (d := 99) (OP := Op.load 29 (Operand.tmp 7)) (T := 29) (v := ?vzz11) rfl rfl rfl rfl (by kernel_rfl) (by kernel_rfl) (by kernel_rfl) (fun _ _ _ h => h) (by rfl) ?hzz11 hHeld ?rzz11
            case hzz11 => (intro w' hSw; (try dsimp only at hSw); go_simp <;> with_reducible rfl)
            try simp only [Act.put, List.setIfInBounds_toArray, List.set_cons_zero, List.set_cons_succ]
            refine take_op (i := 13) (d := 100) (OP := Op.move (Operand.tmp 16)) (T := 22) (v := ?vzz12) rfl rfl rfl rfl (by kernel_rfl) (by kernel_rfl) (by kernel_rfl) (fun _ _ _ h => h) (by rfl) ?hzz12 hHeld ?rzz12
            case hzz12 => (intro w' hSw; (try dsimp only at hSw); go_simp <;> with_reducible rfl)
            try simp only [Act.put, List.setIfInBounds_toArray, List.set_cons_zero, List.set_cons_succ]
            refine take_op (i := 14) (d := 101) (OP := Op.move (Operand.tmp 17)) (T := 3) (v := ?vzz13) rfl rfl rfl rfl (by kernel_rfl) (by kernel_rfl) (by kernel_rfl) (fun _ _ _ h => h) (by rfl) ?hzz13 hHeld ?rzz13
            case hzz13 => (intro w' hSw; (try dsimp only at hSw); go_simp <;> with_reducible rfl)
            try simp only [Act.put, List.setIfInBounds_toArray, List.set_cons_zero, List.set_cons_succ]
            refine take_op (i := 15) (d := 102) (OP := Op.indexAddr 22 (Operand.tmp 100) (Operand.tmp 101)) (T := 0) (v := ?vzz14) rfl rfl rfl rfl (by kernel_rfl) (by kernel_rfl) (by kernel_rfl) (fun _ _ _ h => h) (by rfl) ?hzz14 hHeld ?rzz14
            case hzz14 => (intro w' hSw; (try dsimp only at hSw); go_simp <;> with_reducible rfl)
            try simp only [Act.put, List.setIfInBounds_toArray, List.set_cons_zero, List.set_cons_succ]
            refine take_op (i := 16) (d := 103) (OP := Op.load 9 (Operand.tmp 102)) (T := 9) (v := ?vzz15) rfl rfl rfl rfl (by kernel_rfl) (by kernel_rfl) (by kernel_rfl) (fun _ _ _ h => h) (by rfl) ?hzz15 hHeld ?rzz15
            case hzz15 => (intro w' hSw; (try dsimp only at hSw); go_simp <;> with_reducible rfl)
            try simp only [Act.put, List.setIfInBounds_toArray, List.set_cons_zero, List.set_cons_succ]
            refine to_reg9 (ops' := ops_regR) (l' := #[true, true, true, true, true, false, true, true, true, true, true, false, true, true, true, true, true, false, false, false, false, false, false, false]) rfl (by kernel_rfl) ?_
            refine regR_any (w0 := wr.drew) (x5_0 := .agg #[.pointer po]) (x5_1 := .string k) (C5 := fun v _ => v = .agg #[.int .i64 p1, .bool p2]) (x11_0 := .agg #[.pointer pa']) (x11_1 := .string k) (C11 := fun v _ => v = .agg #[.int .i64 s1', .bool s2']) (x17_0 := .agg #[.pointer pb']) (x17_1 := .string k) (C17 := fun v _ => v = .agg #[.int .i64 r1, .bool r2]) (by simp [Act.eval]) (by simp [Act.eval]) (by simp [Act.eval]) (by simp [Act.eval]) (by simp [Act.eval]) (by simp [Act.eval]) (fun W hW => ⟨cell_stays qd.1 hW, cell_stays qd.2.1 hW, cell_stays qd.2.2.1 hW, cell_stays qd.2.2.2.1 hW, cell_stays qd.2.2.2.2.1 hW, cell_stays qd.2.2.2.2.2.1 hW, hide (qd.2.2.2.2.2.2.out.trans (hW.mono qd.2.2.2.2.2.2.out.size))⟩) (fun W hW => hpartp W (qd.2.2.2.2.2.2.out.trans (hW.mono qd.2.2.2.2.2.2.out.size))) (fun W hW => hparts W (qd.2.2.2.2.2.2.out.trans (hW.mono qd.2.2.2.2.2.2.out.size))) (fun W hW => hpartr W (qd.2.2.2.2.2.2.out.trans (hW.mono qd.2.2.2.2.2.2.out.size))) (fun _ _ _ h _ => h) (fun _ _ _ h _ => h) (fun _ _ _ h _ => h) ?_ wr.drew (Below.refl _ _)
            rintro v5 v11 v17 Bp Bs Br W hbW rfl rfl rfl z0 z1 z2 l0 l1 l2 n01 n02 n12
            try simp only [Act.put, List.setIfInBounds_toArray, List.set_cons_zero, List.set_cons_succ]
            have qW : W.cell? ⟨X0, 0, none⟩ = some (.pointer po) ∧ W.cell? ⟨X1, 0, none⟩ = some (.pointer pa') ∧ W.cell? ⟨X2, 0, none⟩ = some (.pointer pb') ∧ W.cell? ⟨Y0, 0, none⟩ = some (.pointer pm) ∧ W.cell? ⟨lb, lo + i, none⟩ = some (.string k) ∧ W.cell? ⟨Pk, 0, none⟩ = some (.slice ap np cp) ∧ Hid (Below wL.heap.size wL W) := ⟨cell_stays qd.1 hbW, cell_stays qd.2.1 hbW, cell_stays qd.2.2.1 hbW, cell_stays qd.2.2.2.1 hbW, cell_stays qd.2.2.2.2.1 hbW, cell_stays qd.2.2.2.2.2.1 hbW, hide (qd.2.2.2.2.2.2.out.trans (hbW.mono qd.2.2.2.2.2.2.out.size))⟩
            have hlow : wL.heap.size ≤ wr.heap.size := qd.2.2.2.2.2.2.out.size
            have hlt0 := World.block_lt_of_cell? wr.drew _ qd.1
            simp only at hlt0
            have hlt1 := World.block_lt_of_cell? wr.drew _ qd.2.1
            simp only at hlt1
            have hlt2 := World.block_lt_of_cell? wr.drew _ qd.2.2.1
            simp only at hlt2
            have hlt3 := World.block_lt_of_cell? wr.drew _ qd.2.2.2.1
            simp only at hlt3
            have hlt4 := World.block_lt_of_cell? wr.drew _ qd.2.2.2.2.1
            simp only at hlt4
            have hlt5 := World.block_lt_of_cell? wr.drew _ qd.2.2.2.2.2.1
            simp only at hlt5
            have hdz : wr.drew.heap.size = wr.heap.size := rfl
            have e0 : W.cell? ⟨Bp, 0, none⟩ = some (.int .i64 0) := (cell_of_row _ _ 0 _ 38 (0, 0) z0).trans rfl
            have e1 : W.cell? ⟨Bp, 1, none⟩ = some (.bool false) := (cell_of_row _ _ 1 _ 38 (0, 0) z0).trans rfl
            have y0' : W.frozen? ⟨Bp, 0, none⟩ = false := frozen_of_row _ _ 0 _ 38 z0
            have y1' : W.frozen? ⟨Bp, 1, none⟩ = false := frozen_of_row _ _ 1 _ 38 z0
            obtain ⟨s0, o0⟩ := set2 (.int .i64 p1) (.bool p2) z0
            obtain ⟨y0, hy0⟩ : ∃ y, y = ((W.setCell ⟨Bp, 0, none⟩ (.int .i64 p1)).setCell ⟨Bp, 1, none⟩ (.bool p2)) := ⟨_, rfl⟩
            rw [← hy0] at s0 o0
            have qy0 : y0.cell? ⟨X0, 0, none⟩ = some (.pointer po) ∧ y0.cell? ⟨X1, 0, none⟩ = some (.pointer pa') ∧ y0.cell? ⟨X2, 0, none⟩ = some (.pointer pb') ∧ y0.cell? ⟨Y0, 0, none⟩ = some (.pointer pm) ∧ y0.cell? ⟨lb, lo + i, none⟩ = some (.string k) ∧ y0.cell? ⟨Pk, 0, none⟩ = some (.slice ap np cp) ∧ Hid (Below wL.heap.size wL y0) := ⟨o0.cell qW.1 (fun e => by simp only at e; omega), o0.cell qW.2.1 (fun e => by simp only at e; omega), o0.cell qW.2.2.1 (fun e => by simp only at e; omega), o0.cell qW.2.2.2.1 (fun e => by simp only at e; omega), o0.cell qW.2.2.2.2.1 (fun e => by simp only at e; omega), o0.cell qW.2.2.2.2.2.1 (fun e => by simp only at e; omega), hide (Below.only qW.2.2.2.2.2.2.out o0 qW.2.2.2.2.2.2.out.size (fun j e => by omega))⟩
            have t1_0 := (o0.block _ (Array.getElem?_eq_some_iff.1 z1).1 (fun e => by omega)).trans z1
            have t2_0 := (o0.block _ (Array.getElem?_eq_some_iff.1 z2).1 (fun e => by omega)).trans z2
            refine skip_op (i := 21) (OP := Op.store 38 (Operand.tmp 18) (Operand.tmp 92)) (T := 0) (w' := y0) rfl rfl rfl rfl (by kernel_rfl) (by rfl) (by rw [hy0]; go_simp) ⟨qy0, ?_⟩
            try simp only [Act.put, List.setIfInBounds_toArray, List.set_cons_zero, List.set_cons_succ]
            clear e0 e1 y0' y1' hy0
            have e0 : y0.cell? ⟨Bs, 0, none⟩ = some (.int .i64 0) := (cell_of_row _ _ 0 _ 38 (0, 0) t1_0).trans rfl
            have e1 : y0.cell? ⟨Bs, 1, none⟩ = some (.bool false) := (cell_of_row _ _ 1 _ 38 (0, 0) t1_0).trans rfl
            have y0' : y0.frozen? ⟨Bs, 0, none⟩ = false := frozen_of_row _ _ 0 _ 38 t1_0
            have y1' : y0.frozen? ⟨Bs, 1, none⟩ = false := frozen_of_row _ _ 1 _ 38 t1_0
            obtain ⟨s1, o1⟩ := set2 (.int .i64 s1') (.bool s2') t1_0
            obtain ⟨y1, hy1⟩ : ∃ y, y = ((y0.setCell ⟨Bs, 0, none⟩ (.int .i64 s1')).setCell ⟨Bs, 1, none⟩ (.bool s2')) := ⟨_, rfl⟩
            rw [← hy1] at s1 o1
            have qy1 : y1.cell? ⟨X0, 0, none⟩ = some (.pointer po) ∧ y1.cell? ⟨X1, 0, none⟩ = some (.pointer pa') ∧ y1.cell? ⟨X2, 0, none⟩ = some (.pointer pb') ∧ y1.cell? ⟨Y0, 0, none⟩ = some (.pointer pm) ∧ y1.cell? ⟨lb, lo + i, none⟩ = some (.string k) ∧ y1.cell? ⟨Pk, 0, none⟩ = some (.slice ap np cp) ∧ Hid (Below wL.heap.size wL y1) := ⟨o1.cell qy0.1 (fun e => by simp only at e; omega), o1.cell qy0.2.1 (fun e => by simp only at e; omega), o1.cell qy0.2.2.1 (fun e => by simp only at e; omega), o1.cell qy0.2.2.2.1 (fun e => by simp only at e; omega), o1.cell qy0.2.2.2.2.1 (fun e => by simp only at e; omega), o1.cell qy0.2.2.2.2.2.1 (fun e => by simp only at e; omega), hide (Below.only qy0.2.2.2.2.2.2.out o1 qy0.2.2.2.2.2.2.out.size (fun j e => by omega))⟩
            have t0_1 := (o1.block _ (Array.getElem?_eq_some_iff.1 s0).1 (fun e => by omega)).trans s0
            have t2_1 := (o1.block _ (Array.getElem?_eq_some_iff.1 t2_0).1 (fun e => by omega)).trans t2_0
            refine skip_op (i := 22) (OP := Op.store 38 (Operand.tmp 19) (Operand.tmp 98)) (T := 0) (w' := y1) rfl rfl rfl rfl (by kernel_rfl) (by rfl) (by rw [hy1]; go_simp) ⟨qy1, ?_⟩
            try simp only [Act.put, List.setIfInBounds_toArray, List.set_cons_zero, List.set_cons_succ]
            clear e0 e1 y0' y1' hy1
            have e0 : y1.cell? ⟨Br, 0, none⟩ = some (.int .i64 0) := (cell_of_row _ _ 0 _ 38 (0, 0) t2_1).trans rfl
            have e1 : y1.cell? ⟨Br, 1, none⟩ = some (.bool false) := (cell_of_row _ _ 1 _ 38 (0, 0) t2_1).trans rfl
            have y0' : y1.frozen? ⟨Br, 0, none⟩ = false := frozen_of_row _ _ 0 _ 38 t2_1
            have y1' : y1.frozen? ⟨Br, 1, none⟩ = false := frozen_of_row _ _ 1 _ 38 t2_1
            obtain ⟨s2, o2⟩ := set2 (.int .i64 r1) (.bool r2) t2_1
            obtain ⟨y2, hy2⟩ : ∃ y, y = ((y1.setCell ⟨Br, 0, none⟩ (.int .i64 r1)).setCell ⟨Br, 1, none⟩ (.bool r2)) := ⟨_, rfl⟩
            rw [← hy2] at s2 o2
            have qy2 : y2.cell? ⟨X0, 0, none⟩ = some (.pointer po) ∧ y2.cell? ⟨X1, 0, none⟩ = some (.pointer pa') ∧ y2.cell? ⟨X2, 0, none⟩ = some (.pointer pb') ∧ y2.cell? ⟨Y0, 0, none⟩ = some (.pointer pm) ∧ y2.cell? ⟨lb, lo + i, none⟩ = some (.string k) ∧ y2.cell? ⟨Pk, 0, none⟩ = some (.slice ap np cp) ∧ Hid (Below wL.heap.size wL y2) := ⟨o2.cell qy1.1 (fun e => by simp only at e; omega), o2.cell qy1.2.1 (fun e => by simp only at e; omega), o2.cell qy1.2.2.1 (fun e => by simp only at e; omega), o2.cell qy1.2.2.2.1 (fun e => by simp only at e; omega), o2.cell qy1.2.2.2.2.1 (fun e => by simp only at e; omega), o2.cell qy1.2.2.2.2.2.1 (fun e => by simp only at e; omega), hide (Below.only qy1.2.2.2.2.2.2.out o2 qy1.2.2.2.2.2.2.out.size (fun j e => by omega))⟩
            have t0_2 := (o2.block _ (Array.getElem?_eq_some_iff.1 t0_1).1 (fun e => by omega)).trans t0_1
            have t1_2 := (o2.block _ (Array.getElem?_eq_some_iff.1 s1).1 (fun e => by omega)).trans s1
            refine skip_op (i := 23) (OP := Op.store 38 (Operand.tmp 20) (Operand.tmp 104)) (T := 0) (w' := y2) rfl rfl rfl rfl (by kernel_rfl) (by rfl) (by rw [hy2]; go_simp) ⟨qy2, ?_⟩
            try simp only [Act.put, List.setIfInBounds_toArray, List.set_cons_zero, List.set_cons_succ]
            clear e0 e1 y0' y1' hy2
            refine wpAnyH_done (by kernel_rfl) ?_ _
            have ccp0 : y2.cell? ⟨Bp, 0, none⟩ = some (.int .i64 p1) := (cell_of_row _ _ 0 _ 38 (0, 0) t0_2).trans rfl
            have ccp1 : y2.cell? ⟨Bp, 1, none⟩ = some (.bool p2) := (cell_of_row _ _ 1 _ 38 (0, 0) t0_2).trans rfl
            have ccs0 : y2.cell? ⟨Bs, 0, none⟩ = some (.int .i64 s1') := (cell_of_row _ _ 0 _ 38 (0, 0) t1_2).trans rfl
            have ccs1 : y2.cell? ⟨Bs, 1, none⟩ = some (.bool s2') := (cell_of_row _ _ 1 _ 38 (0, 0) t1_2).trans rfl
            have ccr0 : y2.cell? ⟨Br, 0, none⟩ = some (.int .i64 r1) := (cell_of_row _ _ 0 _ 38 (0, 0) s2).trans rfl
            have ccr1 : y2.cell? ⟨Br, 1, none⟩ = some (.bool r2) := (cell_of_row _ _ 1 _ 38 (0, 0) s2).trans rfl
            clear hbW hlow hdz hHeld qW z0 s0 o0 l0 z1 s1 o1 l1 z2 s2 o2 l2 n01 n02 n12 hlt0 hlt1 hlt2 hlt3 hlt4 hlt5 qy0 qy1 t0_1 t0_2 t1_0 t1_2 t2_0 t2_1 qd
            clear q0 hpartp hparts hpartr
            obtain ⟨b1, hb1⟩ : ∃ b, b = decide ((p1, p2) = (s1', s2')) := ⟨_, rfl⟩
            obtain ⟨b2, hb2⟩ : ∃ b, b = decide ((s1', s2') = (r1, r2)) := ⟨_, rfl⟩
            obtain ⟨b3, hb3⟩ : ∃ b, b = decide ((p1, p2) = (r1, r2)) := ⟨_, rfl⟩
            have eqs1 := run_eq38 p1 s1' p2 s2'
            have nes1 := run_ne38 p1 s1' p2 s2'
            have nes2 := run_ne38 s1' r1 s2' r2
            have nes3 := run_ne38 p1 r1 p2 r2
            rw [← hb1] at eqs1 nes1
            rw [← hb2] at nes2
            rw [← hb3] at nes3
            have HBB := hide (And.intro hb1 (And.intro hb2 hb3))
            clear hb1 hb2 hb3
            go_upto_region 24 with (fail)
            obtain ⟨wa, hwa, cwa, hbwa⟩ : ∃ W, W = y2.alloc (.cells #[.int .i64 s1', .bool s2'] 38) ∧ W.heap[y2.heap.size]? = some (.cells #[.int .i64 s1', .bool s2'] 38 (0, 0)) ∧ Below y2.heap.size y2 W := ⟨_, rfl, heap_alloc_new y2 _, (Below.refl _ _).alloc (Nat.le_refl _) _⟩
            rw [← hwa]
            obtain ⟨Bw, hBw⟩ : ∃ B, B = y2.heap.size := ⟨_, rfl⟩
            rw [← hBw] at cwa ⊢
            have hlt0 := World.block_lt_of_cell? y2 _ qy2.2.2.2.1
            have hlt1 := World.block_lt_of_cell? y2 _ qy2.2.2.2.2.1
            have hltL : wL.heap.size ≤ Bw := by rw [hBw]; exact qy2.2.2.2.2.2.2.out.size
            have hltP := World.block_lt_of_cell? y2 _ ccp0
            have hltS := World.block_lt_of_cell? y2 _ ccs0
            have hltR := World.block_lt_of_cell? y2 _ ccr0
            simp only at hlt0 hlt1 hltP hltS hltR
            rw [← hBw] at hlt0 hlt1 hltP hltS hltR
            have cY := cell_stays qy2.2.2.2.1 hbwa
            have cK := cell_stays qy2.2.2.2.2.1 hbwa
            have cPk := cell_stays qy2.2.2.2.2.2.1 hbwa
            have kp0 := cell_stays ccp0 hbwa
            have kp1 := cell_stays ccp1 hbwa
            have ks0 := cell_stays ccs0 hbwa
            have ks1 := cell_stays ccs1 hbwa
            have kr0 := cell_stays ccr0 hbwa
            have kr1 := cell_stays ccr1 hbwa
            have HBA := hide (qy2.2.2.2.2.2.2.out.trans (hbwa.mono qy2.2.2.2.2.2.2.out.size))
            clear hwa hbwa hBw qy2 ccp0 ccp1 ccs0 ccs1 ccr0 ccr1
            have kb0 : wa.cell? ⟨Bw, 0, none⟩ = some (.int .i64 s1') := (cell_of_row _ _ 0 _ 38 (0, 0) cwa).trans rfl
            have kb1 : wa.cell? ⟨Bw, 1, none⟩ = some (.bool s2') := (cell_of_row _ _ 1 _ 38 (0, 0) cwa).trans rfl
            have kf0 : wa.frozen? ⟨Bw, 0, none⟩ = false := frozen_of_row _ _ 0 _ 38 cwa
            have kf1 : wa.frozen? ⟨Bw, 1, none⟩ = false := frozen_of_row _ _ 1 _ 38 cwa
            have HCW := hide cwa
            clear cwa
            cases b1
            · cases b2
              · cases b3
                · -- all unlike
                  have hne : ¬ ((s1', s2') = (r1, r2) ∨ (p1, p2) = (r1, r2)) := by have h2 := HBB.out.2.1; have h3 := HBB.out.2.2; simp only [Bool.false_eq, decide_eq_false_iff_not] at h2 h3; exact fun h => h.elim h2 h3
                  have hn1 : ¬ (p1, p2) = (s1', s2') := by have h1 := HBB.out.1; simp only [Bool.false_eq, decide_eq_false_iff_not] at h1; exact h1
                  have HXX : Hid (ruleX bs k (p1, p2) (s1', s2') (r1, r2) = (7, pickB bs k)) := hide (by unfold ruleX; rw [if_neg hne, if_neg hn1])
                  clear hne hn1
                  obtain ⟨ao', epk, hpick⟩ := HPC.out
                  simp only [Value.slice.injEq, and_true] at epk
                  obtain ⟨rfl, hnp⟩ := epk
                  obtain ⟨n, hn⟩ : ∃ n, n = k.size % max 1 np := ⟨_, rfl⟩
                  have hmod : ((k.size : Int) % max (1 : Int) (np : Int)) = (n : Int) := by
                    have hmx : max (1 : Int) (np : Int) = ((max 1 np : Nat) : Int) := by omega
                    rw [hmx, hn]
                    exact (Int.natCast_emod _ _).symm
                  have hmx0 : ¬ max (1 : Int) (np : Int) = 0 := by omega
                  have HNP := hide (And.intro hnp hn)
                  have HMOD := hide hmod
                  clear hnp hn hmod
                  by_cases hin : n < np
                  · obtain ⟨bv, hbv⟩ : ∃ bv, bs[n]? = some bv := ⟨bs[n]'(by rw [← HNP.out.1]; exact hin), List.getElem?_eq_getElem _⟩
                    obtain ⟨kb2, ko2, rfl, hkc⟩ := hpick n bv hbv
                    have hpb : pickB bs k = bv := by unfold pickB; rw [← HNP.out.1, ← HNP.out.2, hbv]; rfl
                    have HPB : Hid (ruleX bs k (p1, p2) (s1', s2') (r1, r2) = (7, bv)) := hide (by rw [HXX.out, hpb])
                    have y7 : (n : Int) < (np : Int) := by omega
                    have q27 : wa.cell? ⟨lb, lo + i, none⟩ = some (.string k) ∧ wa.cell? ⟨Pk, 0, none⟩ = some (.slice (some ⟨kb2, ko2, none⟩) np cp) ∧ Hid (Below wL.heap.size wL wa) := ⟨cK, cPk, HBA⟩
                    have ckn := cell_stays hkc HBA.out
                    clear hbv hpb hkc hpick
                    go_upto_region 27 with (fail)
                    have qd : wa.drew.cell? ⟨lb, lo + i, none⟩ = some (.string k) ∧ wa.drew.cell? ⟨Pk, 0, none⟩ = some (.slice (some ⟨kb2, ko2, none⟩) np cp) ∧ Hid (Below wL.heap.size wL wa.drew) := ⟨q27.1, q27.2.1, hide (q27.2.2.out.trans ((drew_below wa).mono q27.2.2.out.size))⟩
                    refine wp_region_held_drew (S := (fun w' => w'.cell? ⟨lb, lo + i, none⟩ = some (.string k) ∧ w'.cell? ⟨Pk, 0, none⟩ = some (.slice (some ⟨kb2, ko2, none⟩) np cp) ∧ Hid (Below wL.heap.size wL w'))) (by kernel_rfl) qd (fun hHeld => ?_)
                    try dsimp only at hHeld
                    refine take_op (i := 0) (d := 123) (OP := Op.move (Operand.tmp 16)) (T := 22) (v := ?vzz16) rfl rfl rfl rfl (by kernel_rfl) (by kernel_rfl) (by kernel_rfl) (fun _ _ _ h => h) (by rfl) ?hzz16 hHeld ?rzz16
                    case hzz16 => (intro w' hSw; (try dsimp only at hSw); go_simp <;> with_reducible rfl)
                    try simp only [Act.put, List.setIfInBounds_toArray, List.set_cons_zero, List.set_cons_succ]
                    refine take_op (i := 1) (d := 124) (OP := Op.move (Operand.tmp 17)) (T := 3) (v := ?vzz17) rfl rfl rfl rfl (by kernel_rfl) (by kernel_rfl) (by kernel_rfl) (fun _ _ _ h => h) (by rfl) ?hzz17 hHeld ?rzz17
                    case hzz17 => (intro w' hSw; (try dsimp only at hSw); go_simp <;> with_reducible rfl)
                    try simp only [Act.put, List.setIfInBounds_toArray, List.set_cons_zero, List.set_cons_succ]
                    refine take_op (i := 2) (d := 125) (OP := Op.indexAddr 22 (Operand.tmp 123) (Operand.tmp 124)) (T := 0) (v := ?vzz18) rfl rfl rfl rfl (by kernel_rfl) (by kernel_rfl) (by kernel_rfl) (fun _ _ _ h => h) (by rfl) ?hzz18 hHeld ?rzz18
                    case hzz18 => (intro w' hSw; (try dsimp only at hSw); go_simp <;> with_reducible rfl)
                    try simp only [Act.put, List.setIfInBounds_toArray, List.set_cons_zero, List.set_cons_succ]
                    refine take_op (i := 3) (d := 126) (OP := Op.load 9 (Operand.tmp 125)) (T := 9) (v := ?vzz19) rfl rfl rfl rfl (by kernel_rfl) (by kernel_rfl) (by kernel_rfl) (fun _ _ _ h => h) (by rfl) ?hzz19 hHeld ?rzz19
                    case hzz19 => (intro w' hSw; (try dsimp only at hSw); go_simp <;> with_reducible rfl)
                    try simp only [Act.put, List.setIfInBounds_toArray, List.set_cons_zero, List.set_cons_succ]
                    refine take_op (i := 4) (d := 127) (OP := Op.call { callee := Callee.builtin Builtin.len, args := #[Operand.tmp 126], argTypes := #[9] }) (T := 3) (v := ?vzz20) rfl rfl rfl rfl (by kernel_rfl) (by kernel_rfl) (by kernel_rfl) (fun _ _ _ h => h) (by rfl) ?hzz20 hHeld ?rzz20
                    case hzz20 => (intro w' hSw; (try dsimp only at hSw); go_simp <;> with_reducible rfl)
                    try simp only [Act.put, List.setIfInBounds_toArray, List.set_cons_zero, List.set_cons_succ]
                    refine take_op (i := 5) (d := 128) (OP := Op.load 50 (Operand.tmp 3)) (T := 50) (v := ?vzz21) rfl rfl rfl rfl (by kernel_rfl) (by kernel_rfl) (by kernel_rfl) (fun _ _ _ h => h) (by rfl) ?hzz21 hHeld ?rzz21
                    case hzz21 => (intro w' hSw; (try dsimp only at hSw); go_simp <;> with_reducible rfl)
                    try simp only [Act.put, List.setIfInBounds_toArray, List.set_cons_zero, List.set_cons_succ]
                    refine take_op (i := 6) (d := 129) (OP := Op.call { callee := Callee.builtin Builtin.len, args := #[Operand.tmp 128], argTypes := #[50] }) (T := 3) (v := ?vzz22) rfl rfl rfl rfl (by kernel_rfl) (by kernel_rfl) (by kernel_rfl) (fun _ _ _ h => h) (by rfl) ?hzz22 hHeld ?rzz22
                    case hzz22 => (intro w' hSw; (try dsimp only at hSw); go_simp <;> with_reducible rfl)
                    try simp only [Act.put, List.setIfInBounds_toArray, List.set_cons_zero, List.set_cons_succ]
                    refine take_op (i := 7) (d := 130) (OP := Op.call { callee := Callee.builtin Builtin.max, args := #[Operand.const (Value.int IntKind.i64 1), Operand.tmp 129], argTypes := #[3, 3] }) (T := 3) (v := ?vzz23) rfl rfl rfl rfl (by kernel_rfl) (by kernel_rfl) (by kernel_rfl) (fun _ _ _ h => h) (by rfl) ?hzz23 hHeld ?rzz23
                    case hzz23 => (intro w' hSw; (try dsimp only at hSw); go_simp <;> with_reducible rfl)
                    try simp only [Act.put, List.setIfInBounds_toArray, List.set_cons_zero, List.set_cons_succ]
                    refine take_op (i := 8) (d := 131) (OP := Op.binOp BinOp.rem 3 (Operand.tmp 127) (Operand.tmp 130) 3) (T := 3) (v := ?vzz24) rfl rfl rfl rfl (by kernel_rfl) (by kernel_rfl) (by kernel_rfl) (fun _ _ _ h => h) (by rfl) ?hzz24 hHeld ?rzz24
                    case hzz24 => (intro w' hSw; (try dsimp only at hSw); go_simp <;> with_reducible rfl)
                    try simp only [Act.put, List.setIfInBounds_toArray, List.set_cons_zero, List.set_cons_succ]
                    refine take_op (i := 9) (d := 22) (OP := Op.assign (Operand.tmp 131)) (T := 3) (v := ?vzz25) rfl rfl rfl rfl (by kernel_rfl) (by kernel_rfl) (by kernel_rfl) (fun _ _ _ h => h) (by rfl) ?hzz25 hHeld ?rzz25
                    case hzz25 => (intro w' hSw; (try dsimp only at hSw); go_simp <;> with_reducible rfl)
                    try simp only [Act.put, List.setIfInBounds_toArray, List.set_cons_zero, List.set_cons_succ]
                    refine wpAnyH_done (by kernel_rfl) ?_ _
                    rw [Int.tmod_eq_emod_of_nonneg (by omega), HMOD.out]
                    have cY' : wa.drew.cell? _ = _ := cY
                    have cK' : wa.drew.cell? _ = _ := cK
                    have cPk' : wa.drew.cell? _ = _ := cPk
                    have ckn' : wa.drew.cell? _ = _ := ckn
                    have hcw' : wa.drew.heap[Bw]? = some (.cells #[.int .i64 s1', .bool s2'] 38 (0, 0)) := HCW.out
                    have kb0' : wa.drew.cell? ⟨Bw, 0, none⟩ = some (.int .i64 s1') := kb0
                    have kb1' : wa.drew.cell? ⟨Bw, 1, none⟩ = some (.bool s2') := kb1
                    have kf0' : wa.drew.frozen? ⟨Bw, 0, none⟩ = false := kf0
                    have kf1' : wa.drew.frozen? ⟨Bw, 1, none⟩ = false := kf1
                    have HBD := hide (HBA.out.trans ((drew_below wa).mono HBA.out.size))
                    obtain ⟨wd, hwd⟩ : ∃ wd, wd = wa.drew := ⟨_, rfl⟩
                    rw [← hwd] at cY' cK' cPk' ckn' hcw' kb0' kb1' kf0' kf1' HBD ⊢
                    clear hwd
                    obtain ⟨sb', ob'⟩ := set2 (.int .i64 7) (.bool bv) hcw'
                    have HSB := hide (And.intro sb' ob')
                    clear hHeld q27 qd HMOD hmx0 cY cK cPk ckn kb0 kb1 kf0 kf1 HBA HCW hcw' sb' ob'
                    go_upto_region 29 with (fail)
                    obtain ⟨wv, hwv⟩ : ∃ wv, wv = (wd.setCell ⟨Bw, 0, none⟩ (.int .i64 7)).setCell ⟨Bw, 1, none⟩ (.bool bv) := ⟨_, rfl⟩
                    rw [← hwv] at HSB ⊢
                    clear hwv
                    have cY2 := HSB.out.2.cell cY' (fun e => by simp only at e; omega)
                    have cK2 := HSB.out.2.cell cK' (fun e => by simp only at e; omega)
                    have HBV := hide (Below.only HBD.out HSB.out.2 HBD.out.size (fun j e => by omega))
                    have hrowv := HSB.out.1
                    have cBv0 : wv.cell? ⟨Bw, 0, none⟩ = some (.int .i64 7) := (cell_of_row _ _ 0 _ 38 (0, 0) hrowv).trans rfl
                    clear kb0' kb1' kf0' kf1' cY' cK' cPk' ckn' HBD
                    cases bv
                    · have hgm : ∀ W', Below wL.heap.size wL W' → Calls Try.prog 12 #[.agg #[.pointer pm], .string k] W' fun e w' => e = .returned (.agg #[.int .i64 0, .bool false]) ∧ Below W'.heap.size W' w' := fun W' hW => hgm0 W' 0 false (by have h := HPB.out; rw [HRX.out]; unfold ruleR; rw [h]; rfl) hW
                      have tw0 : wv.cell? ⟨Bw, 0, none⟩ = some (.int .i64 7) := (cell_of_row _ _ 0 _ 38 (0, 0) hrowv).trans rfl
                      have tw1 : wv.cell? ⟨Bw, 1, none⟩ = some (.bool false) := (cell_of_row _ _ 1 _ 38 (0, 0) hrowv).trans rfl
                      have tf0 : wv.frozen? ⟨Bw, 0, none⟩ = false := frozen_of_row _ _ 0 _ 38 hrowv
                      obtain ⟨sz, oz⟩ := set_one (i := 0) (.int .i64 0) hrowv
                      go_upto_region 31 with (fail)
                      obtain ⟨wz, hwz⟩ : ∃ wz, wz = wv.setCell ⟨Bw, 0, none⟩ (.int .i64 0) := ⟨_, rfl⟩
                      rw [← hwz] at sz oz ⊢
                      have qt : wz.cell? ⟨Y0, 0, none⟩ = some (.pointer pm) ∧ wz.cell? ⟨lb, lo + i, none⟩ = some (.string k) ∧ wz.cell? ⟨Bw, 0, none⟩ = some (.int .i64 0) ∧ wz.cell? ⟨Bw, 1, none⟩ = some (.bool false) ∧ Hid (Below wL.heap.size wL wz) := ⟨oz.cell cY2 (fun e => by simp only at e; omega), oz.cell cK2 (fun e => by simp only at e; omega), (cell_of_row _ _ 0 _ 38 (0, 0) sz).trans rfl, (cell_of_row _ _ 1 _ 38 (0, 0) sz).trans rfl, hide (Below.only HBV.out oz HBV.out.size (fun j e => by omega))⟩
                      clear hwz sz oz tw0 tw1 tf0
                      have qd : wz.drew.cell? ⟨Y0, 0, none⟩ = some (.pointer pm) ∧ wz.drew.cell? ⟨lb, lo + i, none⟩ = some (.string k) ∧ wz.drew.cell? ⟨Bw, 0, none⟩ = some (.int .i64 0) ∧ wz.drew.cell? ⟨Bw, 1, none⟩ = some (.bool false) ∧ Hid (Below wL.heap.size wL wz.drew) := ⟨qt.1, qt.2.1, qt.2.2.1, qt.2.2.2.1, hide (qt.2.2.2.2.out.trans ((drew_below wz).mono qt.2.2.2.2.out.size))⟩
                      refine wp_region_held_drew (S := (fun w' => w'.cell? ⟨Y0, 0, none⟩ = some (.pointer pm) ∧ w'.cell? ⟨lb, lo + i, none⟩ = some (.string k) ∧ w'.cell? ⟨Bw, 0, none⟩ = some (.int .i64 0) ∧ w'.cell? ⟨Bw, 1, none⟩ = some (.bool false) ∧ Hid (Below wL.heap.size wL w'))) (by kernel_rfl) qd (fun hHeld => ?_)
                      try dsimp only at hHeld
                      refine take_op (i := 0) (d := 147) (OP := Op.load 29 (Operand.tmp 11)) (T := 29) (v := ?vzz45) rfl rfl rfl rfl (by kernel_rfl) (by kernel_rfl) (by kernel_rfl) (fun _ _ _ h => h) (by rfl) ?hzz45 hHeld ?rzz45
                      case hzz45 => (intro w' hSw; (try dsimp only at hSw); go_simp <;> with_reducible rfl)
                      try simp only [Act.put, List.setIfInBounds_toArray, List.set_cons_zero, List.set_cons_succ]
                      refine take_op (i := 1) (d := 148) (OP := Op.move (Operand.tmp 16)) (T := 22) (v := ?vzz46) rfl rfl rfl rfl (by kernel_rfl) (by kernel_rfl) (by kernel_rfl) (fun _ _ _ h => h) (by rfl) ?hzz46 hHeld ?rzz46
                      case hzz46 => (intro w' hSw; (try dsimp only at hSw); go_simp <;> with_reducible rfl)
                      try simp only [Act.put, List.setIfInBounds_toArray, List.set_cons_zero, List.set_cons_succ]
                      refine take_op (i := 2) (d := 149) (OP := Op.move (Operand.tmp 17)) (T := 3) (v := ?vzz47) rfl rfl rfl rfl (by kernel_rfl) (by kernel_rfl) (by kernel_rfl) (fun _ _ _ h => h) (by rfl) ?hzz47 hHeld ?rzz47
                      case hzz47 => (intro w' hSw; (try dsimp only at hSw); go_simp <;> with_reducible rfl)
                      try simp only [Act.put, List.setIfInBounds_toArray, List.set_cons_zero, List.set_cons_succ]
                      refine take_op (i := 3) (d := 150) (OP := Op.indexAddr 22 (Operand.tmp 148) (Operand.tmp 149)) (T := 0) (v := ?vzz48) rfl rfl rfl rfl (by kernel_rfl) (by kernel_rfl) (by kernel_rfl) (fun _ _ _ h => h) (by rfl) ?hzz48 hHeld ?rzz48
                      case hzz48 => (intro w' hSw; (try dsimp only at hSw); go_simp <;> with_reducible rfl)
                      try simp only [Act.put, List.setIfInBounds_toArray, List.set_cons_zero, List.set_cons_succ]
                      refine take_op (i := 4) (d := 151) (OP := Op.load 9 (Operand.tmp 150)) (T := 9) (v := ?vzz49) rfl rfl rfl rfl (by kernel_rfl) (by kernel_rfl) (by kernel_rfl) (fun _ _ _ h => h) (by rfl) ?hzz49 hHeld ?rzz49
                      case hzz49 => (intro w' hSw; (try dsimp only at hSw); go_simp <;> with_reducible rfl)
                      try simp only [Act.put, List.setIfInBounds_toArray, List.set_cons_zero, List.set_cons_succ]
                      refine take_op (i := 6) (d := 153) (OP := Op.load 38 (Operand.tmp 21)) (T := 38) (v := ?vzz50) rfl rfl rfl rfl (by kernel_rfl) (by kernel_rfl) (by kernel_rfl) (fun _ _ _ h => h) (by rfl) ?hzz50 hHeld ?rzz50
                      case hzz50 => (intro w' hSw; (try dsimp only at hSw); go_simp <;> with_reducible rfl)
                      try simp only [Act.put, List.setIfInBounds_toArray, List.set_cons_zero, List.set_cons_succ]
                      refine call_op (i := 5) (d := 152) (OP := Op.call { callee := Callee.value (Operand.func 12), args := #[Operand.tmp 147, Operand.tmp 151], argTypes := #[29, 9] }) (T := 38) (f := 12) (args := #[.agg #[.pointer pm], .string k]) rfl rfl rfl rfl (by kernel_rfl) (by rfl) (by go_simp) ?_
                      refine (hgm _ qd.2.2.2.2.out).mono ?_
                      rintro e ze ⟨rfl, bze⟩
                      have qze : ze.cell? ⟨Y0, 0, none⟩ = some (.pointer pm) ∧ ze.cell? ⟨lb, lo + i, none⟩ = some (.string k) ∧ ze.cell? ⟨Bw, 0, none⟩ = some (.int .i64 0) ∧ ze.cell? ⟨Bw, 1, none⟩ = some (.bool false) ∧ Hid (Below wL.heap.size wL ze) := ⟨cell_stays qd.1 bze, cell_stays qd.2.1 bze, cell_stays qd.2.2.1 bze, cell_stays qd.2.2.2.1 bze, hide (qd.2.2.2.2.out.trans (bze.mono qd.2.2.2.2.out.size))⟩
                      refine ⟨_, rfl, qze, ?_⟩
                      replace hHeld := qze
                      try simp only [Act.put, List.setIfInBounds_toArray, List.set_cons_zero, List.set_cons_succ]
                      refine take_op (i := 7) (d := 154) (OP := Op.binOp BinOp.neq 38 (Operand.tmp 152) (Operand.tmp 153) 38) (T := 4) (v := ?vzz51) rfl rfl rfl rfl (by kernel_rfl) (by kernel_rfl) (by kernel_rfl) (fun _ _ _ h => h) (by rfl) ?hzz51 hHeld ?rzz51
                      case hzz51 => (intro w' hSw; (try dsimp only at hSw); go_simp <;> with_reducible rfl)
                      try simp only [Act.put, List.setIfInBounds_toArray, List.set_cons_zero, List.set_cons_succ]
                      refine wpAnyH_done (by kernel_rfl) ?_ _
                      clear hHeld qt qd
                      go_wp2
                      go_roundw
                      case rel => exact ⟨i + 1, by omega, by go_num, qze.2.2.2.2⟩
                      case measure => simp [intOf]; omega
                    · have hgm : ∀ W', Below wL.heap.size wL W' → Calls Try.prog 12 #[.agg #[.pointer pm], .string k] W' fun e w' => e = .returned (.agg #[.int .i64 7, .bool true]) ∧ Below W'.heap.size W' w' := fun W' hW => hgm0 W' 7 true (by have h := HPB.out; rw [HRX.out]; unfold ruleR; rw [h]; rfl) hW
                      have tw0 : wv.cell? ⟨Bw, 0, none⟩ = some (.int .i64 7) := (cell_of_row _ _ 0 _ 38 (0, 0) hrowv).trans rfl
                      have tw1 : wv.cell? ⟨Bw, 1, none⟩ = some (.bool true) := (cell_of_row _ _ 1 _ 38 (0, 0) hrowv).trans rfl
                      have qt : wv.cell? ⟨Y0, 0, none⟩ = some (.pointer pm) ∧ wv.cell? ⟨lb, lo + i, none⟩ = some (.string k) ∧ wv.cell? ⟨Bw, 0, none⟩ = some (.int .i64 7) ∧ wv.cell? ⟨Bw, 1, none⟩ = some (.bool true) ∧ Hid (Below wL.heap.size wL wv) := ⟨cY2, cK2, tw0, tw1, HBV⟩
                      go_upto_region 31 with (fail)
                      have qd : wv.drew.cell? ⟨Y0, 0, none⟩ = some (.pointer pm) ∧ wv.drew.cell? ⟨lb, lo + i, none⟩ = some (.string k) ∧ wv.drew.cell? ⟨Bw, 0, none⟩ = some (.int .i64 7) ∧ wv.drew.cell? ⟨Bw, 1, none⟩ = some (.bool true) ∧ Hid (Below wL.heap.size wL wv.drew) := ⟨qt.1, qt.2.1, qt.2.2.1, qt.2.2.2.1, hide (qt.2.2.2.2.out.trans ((drew_below wv).mono qt.2.2.2.2.out.size))⟩
                      refine wp_region_held_drew (S := (fun w' => w'.cell? ⟨Y0, 0, none⟩ = some (.pointer pm) ∧ w'.cell? ⟨lb, lo + i, none⟩ = some (.string k) ∧ w'.cell? ⟨Bw, 0, none⟩ = some (.int .i64 7) ∧ w'.cell? ⟨Bw, 1, none⟩ = some (.bool true) ∧ Hid (Below wL.heap.size wL w'))) (by kernel_rfl) qd (fun hHeld => ?_)
                      try dsimp only at hHeld
                      refine take_op (i := 0) (d := 147) (OP := Op.load 29 (Operand.tmp 11)) (T := 29) (v := ?vzz52) rfl rfl rfl rfl (by kernel_rfl) (by kernel_rfl) (by kernel_rfl) (fun _ _ _ h => h) (by rfl) ?hzz52 hHeld ?rzz52
                      case hzz52 => (intro w' hSw; (try dsimp only at hSw); go_simp <;> with_reducible rfl)
                      try simp only [Act.put, List.setIfInBounds_toArray, List.set_cons_zero, List.set_cons_succ]
                      refine take_op (i := 1) (d := 148) (OP := Op.move (Operand.tmp 16)) (T := 22) (v := ?vzz53) rfl rfl rfl rfl (by kernel_rfl) (by kernel_rfl) (by kernel_rfl) (fun _ _ _ h => h) (by rfl) ?hzz53 hHeld ?rzz53
                      case hzz53 => (intro w' hSw; (try dsimp only at hSw); go_simp <;> with_reducible rfl)
                      try simp only [Act.put, List.setIfInBounds_toArray, List.set_cons_zero, List.set_cons_succ]
                      refine take_op (i := 2) (d := 149) (OP := Op.move (Operand.tmp 17)) (T := 3) (v := ?vzz54) rfl rfl rfl rfl (by kernel_rfl) (by kernel_rfl) (by kernel_rfl) (fun _ _ _ h => h) (by rfl) ?hzz54 hHeld ?rzz54
                      case hzz54 => (intro w' hSw; (try dsimp only at hSw); go_simp <;> with_reducible rfl)
                      try simp only [Act.put, List.setIfInBounds_toArray, List.set_cons_zero, List.set_cons_succ]
                      refine take_op (i := 3) (d := 150) (OP := Op.indexAddr 22 (Operand.tmp 148) (Operand.tmp 149)) (T := 0) (v := ?vzz55) rfl rfl rfl rfl (by kernel_rfl) (by kernel_rfl) (by kernel_rfl) (fun _ _ _ h => h) (by rfl) ?hzz55 hHeld ?rzz55
                      case hzz55 => (intro w' hSw; (try dsimp only at hSw); go_simp <;> with_reducible rfl)
                      try simp only [Act.put, List.setIfInBounds_toArray, List.set_cons_zero, List.set_cons_succ]
                      refine take_op (i := 4) (d := 151) (OP := Op.load 9 (Operand.tmp 150)) (T := 9) (v := ?vzz56) rfl rfl rfl rfl (by kernel_rfl) (by kernel_rfl) (by kernel_rfl) (fun _ _ _ h => h) (by rfl) ?hzz56 hHeld ?rzz56
                      case hzz56 => (intro w' hSw; (try dsimp only at hSw); go_simp <;> with_reducible rfl)
                      try simp only [Act.put, List.setIfInBounds_toArray, List.set_cons_zero, List.set_cons_succ]
                      refine take_op (i := 6) (d := 153) (OP := Op.load 38 (Operand.tmp 21)) (T := 38) (v := ?vzz57) rfl rfl rfl rfl (by kernel_rfl) (by kernel_rfl) (by kernel_rfl) (fun _ _ _ h => h) (by rfl) ?hzz57 hHeld ?rzz57
                      case hzz57 => (intro w' hSw; (try dsimp only at hSw); go_simp <;> with_reducible rfl)
                      try simp only [Act.put, List.setIfInBounds_toArray, List.set_cons_zero, List.set_cons_succ]
                      refine call_op (i := 5) (d := 152) (OP := Op.call { callee := Callee.value (Operand.func 12), args := #[Operand.tmp 147, Operand.tmp 151], argTypes := #[29, 9] }) (T := 38) (f := 12) (args := #[.agg #[.pointer pm], .string k]) rfl rfl rfl rfl (by kernel_rfl) (by rfl) (by go_simp) ?_
                      refine (hgm _ qd.2.2.2.2.out).mono ?_
                      rintro e ze ⟨rfl, bze⟩
                      have qze : ze.cell? ⟨Y0, 0, none⟩ = some (.pointer pm) ∧ ze.cell? ⟨lb, lo + i, none⟩ = some (.string k) ∧ ze.cell? ⟨Bw, 0, none⟩ = some (.int .i64 7) ∧ ze.cell? ⟨Bw, 1, none⟩ = some (.bool true) ∧ Hid (Below wL.heap.size wL ze) := ⟨cell_stays qd.1 bze, cell_stays qd.2.1 bze, cell_stays qd.2.2.1 bze, cell_stays qd.2.2.2.1 bze, hide (qd.2.2.2.2.out.trans (bze.mono qd.2.2.2.2.out.size))⟩
                      refine ⟨_, rfl, qze, ?_⟩
                      replace hHeld := qze
                      try simp only [Act.put, List.setIfInBounds_toArray, List.set_cons_zero, List.set_cons_succ]
                      refine take_op (i := 7) (d := 154) (OP := Op.binOp BinOp.neq 38 (Operand.tmp 152) (Operand.tmp 153) 38) (T := 4) (v := ?vzz58) rfl rfl rfl rfl (by kernel_rfl) (by kernel_rfl) (by kernel_rfl) (fun _ _ _ h => h) (by rfl) ?hzz58 hHeld ?rzz58
                      case hzz58 => (intro w' hSw; (try dsimp only at hSw); go_simp <;> with_reducible rfl)
                      try simp only [Act.put, List.setIfInBounds_toArray, List.set_cons_zero, List.set_cons_succ]
                      refine wpAnyH_done (by kernel_rfl) ?_ _
                      clear hHeld qt qd tw0 tw1
                      go_wp2
                      go_roundw
                      case rel => exact ⟨i + 1, by omega, by go_num, qze.2.2.2.2⟩
                      case measure => simp [intOf]; omega
                  · have hpb : pickB bs k = false := by unfold pickB; rw [← HNP.out.1, ← HNP.out.2, List.getElem?_eq_none (by rw [← HNP.out.1]; omega)]; rfl
                    obtain ⟨bv, hbv⟩ : ∃ bv, bv = false := ⟨_, rfl⟩
                    have HPB : Hid (ruleX bs k (p1, p2) (s1', s2') (r1, r2) = (7, false)) := hide (by rw [HXX.out, hpb])
                    have y7 : decide ((n : Int) < (np : Int)) = false := by simp; omega
                    have y8 : decide (n < np) = false := by simp; omega
                    have q27 : wa.cell? ⟨lb, lo + i, none⟩ = some (.string k) ∧ wa.cell? ⟨Pk, 0, none⟩ = some (.slice ap np cp) ∧ Hid (Below wL.heap.size wL wa) := ⟨cK, cPk, HBA⟩
                    clear hpb hpick hbv
                    go_upto_region 27 with (fail)
                    have qd : wa.drew.cell? ⟨lb, lo + i, none⟩ = some (.string k) ∧ wa.drew.cell? ⟨Pk, 0, none⟩ = some (.slice ap np cp) ∧ Hid (Below wL.heap.size wL wa.drew) := ⟨q27.1, q27.2.1, hide (q27.2.2.out.trans ((drew_below wa).mono q27.2.2.out.size))⟩
                    refine wp_region_held_drew (S := (fun w' => w'.cell? ⟨lb, lo + i, none⟩ = some (.string k) ∧ w'.cell? ⟨Pk, 0, none⟩ = some (.slice ap np cp) ∧ Hid (Below wL.heap.size wL w'))) (by kernel_rfl) qd (fun hHeld => ?_)
                    try dsimp only at hHeld
                    refine take_op (i := 0) (d := 123) (OP := Op.move (Operand.tmp 16)) (T := 22) (v := ?vzz26) rfl rfl rfl rfl (by kernel_rfl) (by kernel_rfl) (by kernel_rfl) (fun _ _ _ h => h) (by rfl) ?hzz26 hHeld ?rzz26
                    case hzz26 => (intro w' hSw; (try dsimp only at hSw); go_simp <;> with_reducible rfl)
                    try simp only [Act.put, List.setIfInBounds_toArray, List.set_cons_zero, List.set_cons_succ]
                    refine take_op (i := 1) (d := 124) (OP := Op.move (Operand.tmp 17)) (T := 3) (v := ?vzz27) rfl rfl rfl rfl (by kernel_rfl) (by kernel_rfl) (by kernel_rfl) (fun _ _ _ h => h) (by rfl) ?hzz27 hHeld ?rzz27
                    case hzz27 => (intro w' hSw; (try dsimp only at hSw); go_simp <;> with_reducible rfl)
                    try simp only [Act.put, List.setIfInBounds_toArray, List.set_cons_zero, List.set_cons_succ]
                    refine take_op (i := 2) (d := 125) (OP := Op.indexAddr 22 (Operand.tmp 123) (Operand.tmp 124)) (T := 0) (v := ?vzz28) rfl rfl rfl rfl (by kernel_rfl) (by kernel_rfl) (by kernel_rfl) (fun _ _ _ h => h) (by rfl) ?hzz28 hHeld ?rzz28
                    case hzz28 => (intro w' hSw; (try dsimp only at hSw); go_simp <;> with_reducible rfl)
                    try simp only [Act.put, List.setIfInBounds_toArray, List.set_cons_zero, List.set_cons_succ]
                    refine take_op (i := 3) (d := 126) (OP := Op.load 9 (Operand.tmp 125)) (T := 9) (v := ?vzz29) rfl rfl rfl rfl (by kernel_rfl) (by kernel_rfl) (by kernel_rfl) (fun _ _ _ h => h) (by rfl) ?hzz29 hHeld ?rzz29
                    case hzz29 => (intro w' hSw; (try dsimp only at hSw); go_simp <;> with_reducible rfl)
                    try simp only [Act.put, List.setIfInBounds_toArray, List.set_cons_zero, List.set_cons_succ]
                    refine take_op (i := 4) (d := 127) (OP := Op.call { callee := Callee.builtin Builtin.len, args := #[Operand.tmp 126], argTypes := #[9] }) (T := 3) (v := ?vzz30) rfl rfl rfl rfl (by kernel_rfl) (by kernel_rfl) (by kernel_rfl) (fun _ _ _ h => h) (by rfl) ?hzz30 hHeld ?rzz30
                    case hzz30 => (intro w' hSw; (try dsimp only at hSw); go_simp <;> with_reducible rfl)
                    try simp only [Act.put, List.setIfInBounds_toArray, List.set_cons_zero, List.set_cons_succ]
                    refine take_op (i := 5) (d := 128) (OP := Op.load 50 (Operand.tmp 3)) (T := 50) (v := ?vzz31) rfl rfl rfl rfl (by kernel_rfl) (by kernel_rfl) (by kernel_rfl) (fun _ _ _ h => h) (by rfl) ?hzz31 hHeld ?rzz31
                    case hzz31 => (intro w' hSw; (try dsimp only at hSw); go_simp <;> with_reducible rfl)
                    try simp only [Act.put, List.setIfInBounds_toArray, List.set_cons_zero, List.set_cons_succ]
                    refine take_op (i := 6) (d := 129) (OP := Op.call { callee := Callee.builtin Builtin.len, args := #[Operand.tmp 128], argTypes := #[50] }) (T := 3) (v := ?vzz32) rfl rfl rfl rfl (by kernel_rfl) (by kernel_rfl) (by kernel_rfl) (fun _ _ _ h => h) (by rfl) ?hzz32 hHeld ?rzz32
                    case hzz32 => (intro w' hSw; (try dsimp only at hSw); go_simp <;> with_reducible rfl)
                    try simp only [Act.put, List.setIfInBounds_toArray, List.set_cons_zero, List.set_cons_succ]
                    refine take_op (i := 7) (d := 130) (OP := Op.call { callee := Callee.builtin Builtin.max, args := #[Operand.const (Value.int IntKind.i64 1), Operand.tmp 129], argTypes := #[3, 3] }) (T := 3) (v := ?vzz33) rfl rfl rfl rfl (by kernel_rfl) (by kernel_rfl) (by kernel_rfl) (fun _ _ _ h => h) (by rfl) ?hzz33 hHeld ?rzz33
                    case hzz33 => (intro w' hSw; (try dsimp only at hSw); go_simp <;> with_reducible rfl)
                    try simp only [Act.put, List.setIfInBounds_toArray, List.set_cons_zero, List.set_cons_succ]
                    refine take_op (i := 8) (d := 131) (OP := Op.binOp BinOp.rem 3 (Operand.tmp 127) (Operand.tmp 130) 3) (T := 3) (v := ?vzz34) rfl rfl rfl rfl (by kernel_rfl) (by kernel_rfl) (by kernel_rfl) (fun _ _ _ h => h) (by rfl) ?hzz34 hHeld ?rzz34
                    case hzz34 => (intro w' hSw; (try dsimp only at hSw); go_simp <;> with_reducible rfl)
                    try simp only [Act.put, List.setIfInBounds_toArray, List.set_cons_zero, List.set_cons_succ]
                    refine take_op (i := 9) (d := 22) (OP := Op.assign (Operand.tmp 131)) (T := 3) (v := ?vzz35) rfl rfl rfl rfl (by kernel_rfl) (by kernel_rfl) (by kernel_rfl) (fun _ _ _ h => h) (by rfl) ?hzz35 hHeld ?rzz35
                    case hzz35 => (intro w' hSw; (try dsimp only at hSw); go_simp <;> with_reducible rfl)
                    try simp only [Act.put, List.setIfInBounds_toArray, List.set_cons_zero, List.set_cons_succ]
                    refine wpAnyH_done (by kernel_rfl) ?_ _
                    rw [Int.tmod_eq_emod_of_nonneg (by omega), HMOD.out]
                    have cY' : wa.drew.cell? _ = _ := cY
                    have cK' : wa.drew.cell? _ = _ := cK
                    have cPk' : wa.drew.cell? _ = _ := cPk
                    have hcw' : wa.drew.heap[Bw]? = some (.cells #[.int .i64 s1', .bool s2'] 38 (0, 0)) := HCW.out
                    have kb0' : wa.drew.cell? ⟨Bw, 0, none⟩ = some (.int .i64 s1') := kb0
                    have kb1' : wa.drew.cell? ⟨Bw, 1, none⟩ = some (.bool s2') := kb1
                    have kf0' : wa.drew.frozen? ⟨Bw, 0, none⟩ = false := kf0
                    have kf1' : wa.drew.frozen? ⟨Bw, 1, none⟩ = false := kf1
                    have HBD := hide (HBA.out.trans ((drew_below wa).mono HBA.out.size))
                    obtain ⟨wd, hwd⟩ : ∃ wd, wd = wa.drew := ⟨_, rfl⟩
                    rw [← hwd] at cY' cK' cPk' hcw' kb0' kb1' kf0' kf1' HBD ⊢
                    clear hwd
                    obtain ⟨sb', ob'⟩ := set2 (.int .i64 7) (.bool false) hcw'
                    have HSB := hide (And.intro sb' ob')
                    clear hHeld q27 qd HMOD hmx0 cY cK cPk kb0 kb1 kf0 kf1 HBA HCW hcw' sb' ob'
                    go_upto_region 29 with (fail)
                    obtain ⟨wv, hwv⟩ : ∃ wv, wv = (wd.setCell ⟨Bw, 0, none⟩ (.int .i64 7)).setCell ⟨Bw, 1, none⟩ (.bool false) := ⟨_, rfl⟩
                    rw [← hwv] at HSB ⊢
                    clear hwv
                    have cY2 := HSB.out.2.cell cY' (fun e => by simp only at e; omega)
                    have cK2 := HSB.out.2.cell cK' (fun e => by simp only at e; omega)
                    have HBV := hide (Below.only HBD.out HSB.out.2 HBD.out.size (fun j e => by omega))
                    have hrowv := HSB.out.1
                    clear kb0' kb1' kf0' kf1' cY' cK' cPk' HBD
                    · have hgm : ∀ W', Below wL.heap.size wL W' → Calls Try.prog 12 #[.agg #[.pointer pm], .string k] W' fun e w' => e = .returned (.agg #[.int .i64 0, .bool false]) ∧ Below W'.heap.size W' w' := fun W' hW => hgm0 W' 0 false (by have h := HPB.out; rw [HRX.out]; unfold ruleR; rw [h]; rfl) hW
                      have tw0 : wv.cell? ⟨Bw, 0, none⟩ = some (.int .i64 7) := (cell_of_row _ _ 0 _ 38 (0, 0) hrowv).trans rfl
                      have tw1 : wv.cell? ⟨Bw, 1, none⟩ = some (.bool false) := (cell_of_row _ _ 1 _ 38 (0, 0) hrowv).trans rfl
                      have tf0 : wv.frozen? ⟨Bw, 0, none⟩ = false := frozen_of_row _ _ 0 _ 38 hrowv
                      obtain ⟨sz, oz⟩ := set_one (i := 0) (.int .i64 0) hrowv
                      go_upto_region 31 with (fail)
                      obtain ⟨wz, hwz⟩ : ∃ wz, wz = wv.setCell ⟨Bw, 0, none⟩ (.int .i64 0) := ⟨_, rfl⟩
                      rw [← hwz] at sz oz ⊢
                      have qt : wz.cell? ⟨Y0, 0, none⟩ = some (.pointer pm) ∧ wz.cell? ⟨lb, lo + i, none⟩ = some (.string k) ∧ wz.cell? ⟨Bw, 0, none⟩ = some (.int .i64 0) ∧ wz.cell? ⟨Bw, 1, none⟩ = some (.bool false) ∧ Hid (Below wL.heap.size wL wz) := ⟨oz.cell cY2 (fun e => by simp only at e; omega), oz.cell cK2 (fun e => by simp only at e; omega), (cell_of_row _ _ 0 _ 38 (0, 0) sz).trans rfl, (cell_of_row _ _ 1 _ 38 (0, 0) sz).trans rfl, hide (Below.only HBV.out oz HBV.out.size (fun j e => by omega))⟩
                      clear hwz sz oz tw0 tw1 tf0
                      have qd : wz.drew.cell? ⟨Y0, 0, none⟩ = some (.pointer pm) ∧ wz.drew.cell? ⟨lb, lo + i, none⟩ = some (.string k) ∧ wz.drew.cell? ⟨Bw, 0, none⟩ = some (.int .i64 0) ∧ wz.drew.cell? ⟨Bw, 1, none⟩ = some (.bool false) ∧ Hid (Below wL.heap.size wL wz.drew) := ⟨qt.1, qt.2.1, qt.2.2.1, qt.2.2.2.1, hide (qt.2.2.2.2.out.trans ((drew_below wz).mono qt.2.2.2.2.out.size))⟩
                      refine wp_region_held_drew (S := (fun w' => w'.cell? ⟨Y0, 0, none⟩ = some (.pointer pm) ∧ w'.cell? ⟨lb, lo + i, none⟩ = some (.string k) ∧ w'.cell? ⟨Bw, 0, none⟩ = some (.int .i64 0) ∧ w'.cell? ⟨Bw, 1, none⟩ = some (.bool false) ∧ Hid (Below wL.heap.size wL w'))) (by kernel_rfl) qd (fun hHeld => ?_)
                      try dsimp only at hHeld
                      refine take_op (i := 0) (d := 147) (OP := Op.load 29 (Operand.tmp 11)) (T := 29) (v := ?vzz59) rfl rfl rfl rfl (by kernel_rfl) (by kernel_rfl) (by kernel_rfl) (fun _ _ _ h => h) (by rfl) ?hzz59 hHeld ?rzz59
                      case hzz59 => (intro w' hSw; (try dsimp only at hSw); go_simp <;> with_reducible rfl)
                      try simp only [Act.put, List.setIfInBounds_toArray, List.set_cons_zero, List.set_cons_succ]
                      refine take_op (i := 1) (d := 148) (OP := Op.move (Operand.tmp 16)) (T := 22) (v := ?vzz60) rfl rfl rfl rfl (by kernel_rfl) (by kernel_rfl) (by kernel_rfl) (fun _ _ _ h => h) (by rfl) ?hzz60 hHeld ?rzz60
                      case hzz60 => (intro w' hSw; (try dsimp only at hSw); go_simp <;> with_reducible rfl)
                      try simp only [Act.put, List.setIfInBounds_toArray, List.set_cons_zero, List.set_cons_succ]
                      refine take_op (i := 2) (d := 149) (OP := Op.move (Operand.tmp 17)) (T := 3) (v := ?vzz61) rfl rfl rfl rfl (by kernel_rfl) (by kernel_rfl) (by kernel_rfl) (fun _ _ _ h => h) (by rfl) ?hzz61 hHeld ?rzz61
                      case hzz61 => (intro w' hSw; (try dsimp only at hSw); go_simp <;> with_reducible rfl)
                      try simp only [Act.put, List.setIfInBounds_toArray, List.set_cons_zero, List.set_cons_succ]
                      refine take_op (i := 3) (d := 150) (OP := Op.indexAddr 22 (Operand.tmp 148) (Operand.tmp 149)) (T := 0) (v := ?vzz62) rfl rfl rfl rfl (by kernel_rfl) (by kernel_rfl) (by kernel_rfl) (fun _ _ _ h => h) (by rfl) ?hzz62 hHeld ?rzz62
                      case hzz62 => (intro w' hSw; (try dsimp only at hSw); go_simp <;> with_reducible rfl)
                      try simp only [Act.put, List.setIfInBounds_toArray, List.set_cons_zero, List.set_cons_succ]
                      refine take_op (i := 4) (d := 151) (OP := Op.load 9 (Operand.tmp 150)) (T := 9) (v := ?vzz63) rfl rfl rfl rfl (by kernel_rfl) (by kernel_rfl) (by kernel_rfl) (fun _ _ _ h => h) (by rfl) ?hzz63 hHeld ?rzz63
                      case hzz63 => (intro w' hSw; (try dsimp only at hSw); go_simp <;> with_reducible rfl)
                      try simp only [Act.put, List.setIfInBounds_toArray, List.set_cons_zero, List.set_cons_succ]
                      refine take_op (i := 6) (d := 153) (OP := Op.load 38 (Operand.tmp 21)) (T := 38) (v := ?vzz64) rfl rfl rfl rfl (by kernel_rfl) (by kernel_rfl) (by kernel_rfl) (fun _ _ _ h => h) (by rfl) ?hzz64 hHeld ?rzz64
                      case hzz64 => (intro w' hSw; (try dsimp only at hSw); go_simp <;> with_reducible rfl)
                      try simp only [Act.put, List.setIfInBounds_toArray, List.set_cons_zero, List.set_cons_succ]
                      refine call_op (i := 5) (d := 152) (OP := Op.call { callee := Callee.value (Operand.func 12), args := #[Operand.tmp 147, Operand.tmp 151], argTypes := #[29, 9] }) (T := 38) (f := 12) (args := #[.agg #[.pointer pm], .string k]) rfl rfl rfl rfl (by kernel_rfl) (by rfl) (by go_simp) ?_
                      refine (hgm _ qd.2.2.2.2.out).mono ?_
                      rintro e ze ⟨rfl, bze⟩
                      have qze : ze.cell? ⟨Y0, 0, none⟩ = some (.pointer pm) ∧ ze.cell? ⟨lb, lo + i, none⟩ = some (.string k) ∧ ze.cell? ⟨Bw, 0, none⟩ = some (.int .i64 0) ∧ ze.cell? ⟨Bw, 1, none⟩ = some (.bool false) ∧ Hid (Below wL.heap.size wL ze) := ⟨cell_stays qd.1 bze, cell_stays qd.2.1 bze, cell_stays qd.2.2.1 bze, cell_stays qd.2.2.2.1 bze, hide (qd.2.2.2.2.out.trans (bze.mono qd.2.2.2.2.out.size))⟩
                      refine ⟨_, rfl, qze, ?_⟩
                      replace hHeld := qze
                      try simp only [Act.put, List.setIfInBounds_toArray, List.set_cons_zero, List.set_cons_succ]
                      refine take_op (i := 7) (d := 154) (OP := Op.binOp BinOp.neq 38 (Operand.tmp 152) (Operand.tmp 153) 38) (T := 4) (v := ?vzz65) rfl rfl rfl rfl (by kernel_rfl) (by kernel_rfl) (by kernel_rfl) (fun _ _ _ h => h) (by rfl) ?hzz65 hHeld ?rzz65
                      case hzz65 => (intro w' hSw; (try dsimp only at hSw); go_simp <;> with_reducible rfl)
                      try simp only [Act.put, List.setIfInBounds_toArray, List.set_cons_zero, List.set_cons_succ]
                      refine wpAnyH_done (by kernel_rfl) ?_ _
                      clear hHeld qt qd
                      go_wp2
                      go_roundw
                      case rel => exact ⟨i + 1, by omega, by go_num, qze.2.2.2.2⟩
                      case measure => simp [intOf]; omega
                · -- p = r
                  have HXX : Hid (ruleX bs k (p1, p2) (s1', s2') (r1, r2) = (s1', s2')) := hide (by unfold ruleX; rw [if_pos (.inr (of_decide_eq_true HBB.out.2.2.symm))])
                  have hrowv := HCW.out
                  cases s2'
                  · have hgm : ∀ W', Below wL.heap.size wL W' → Calls Try.prog 12 #[.agg #[.pointer pm], .string k] W' fun e w' => e = .returned (.agg #[.int .i64 0, .bool false]) ∧ Below W'.heap.size W' w' := fun W' hW => hgm0 W' 0 false (by have h := HXX.out; rw [HRX.out]; unfold ruleR; rw [h]; rfl) hW
                    have tw0 : wa.cell? ⟨Bw, 0, none⟩ = some (.int .i64 s1') := (cell_of_row _ _ 0 _ 38 (0, 0) hrowv).trans rfl
                    have tw1 : wa.cell? ⟨Bw, 1, none⟩ = some (.bool false) := (cell_of_row _ _ 1 _ 38 (0, 0) hrowv).trans rfl
                    have tf0 : wa.frozen? ⟨Bw, 0, none⟩ = false := frozen_of_row _ _ 0 _ 38 hrowv
                    obtain ⟨sz, oz⟩ := set_one (i := 0) (.int .i64 0) hrowv
                    go_upto_region 31 with (fail)
                    obtain ⟨wz, hwz⟩ : ∃ wz, wz = wa.setCell ⟨Bw, 0, none⟩ (.int .i64 0) := ⟨_, rfl⟩
                    rw [← hwz] at sz oz ⊢
                    have qt : wz.cell? ⟨Y0, 0, none⟩ = some (.pointer pm) ∧ wz.cell? ⟨lb, lo + i, none⟩ = some (.string k) ∧ wz.cell? ⟨Bw, 0, none⟩ = some (.int .i64 0) ∧ wz.cell? ⟨Bw, 1, none⟩ = some (.bool false) ∧ Hid (Below wL.heap.size wL wz) := ⟨oz.cell cY (fun e => by simp only at e; omega), oz.cell cK (fun e => by simp only at e; omega), (cell_of_row _ _ 0 _ 38 (0, 0) sz).trans rfl, (cell_of_row _ _ 1 _ 38 (0, 0) sz).trans rfl, hide (Below.only HBA.out oz HBA.out.size (fun j e => by omega))⟩
                    clear hwz sz oz tw0 tw1 tf0
                    have qd : wz.drew.cell? ⟨Y0, 0, none⟩ = some (.pointer pm) ∧ wz.drew.cell? ⟨lb, lo + i, none⟩ = some (.string k) ∧ wz.drew.cell? ⟨Bw, 0, none⟩ = some (.int .i64 0) ∧ wz.drew.cell? ⟨Bw, 1, none⟩ = some (.bool false) ∧ Hid (Below wL.heap.size wL wz.drew) := ⟨qt.1, qt.2.1, qt.2.2.1, qt.2.2.2.1, hide (qt.2.2.2.2.out.trans ((drew_below wz).mono qt.2.2.2.2.out.size))⟩
                    refine wp_region_held_drew (S := (fun w' => w'.cell? ⟨Y0, 0, none⟩ = some (.pointer pm) ∧ w'.cell? ⟨lb, lo + i, none⟩ = some (.string k) ∧ w'.cell? ⟨Bw, 0, none⟩ = some (.int .i64 0) ∧ w'.cell? ⟨Bw, 1, none⟩ = some (.bool false) ∧ Hid (Below wL.heap.size wL w'))) (by kernel_rfl) qd (fun hHeld => ?_)
                    try dsimp only at hHeld
                    refine take_op (i := 0) (d := 147) (OP := Op.load 29 (Operand.tmp 11)) (T := 29) (v := ?vzz73) rfl rfl rfl rfl (by kernel_rfl) (by kernel_rfl) (by kernel_rfl) (fun _ _ _ h => h) (by rfl) ?hzz73 hHeld ?rzz73
                    case hzz73 => (intro w' hSw; (try dsimp only at hSw); go_simp <;> with_reducible rfl)
                    try simp only [Act.put, List.setIfInBounds_toArray, List.set_cons_zero, List.set_cons_succ]
                    refine take_op (i := 1) (d := 148) (OP := Op.move (Operand.tmp 16)) (T := 22) (v := ?vzz74) rfl rfl rfl rfl (by kernel_rfl) (by kernel_rfl) (by kernel_rfl) (fun _ _ _ h => h) (by rfl) ?hzz74 hHeld ?rzz74
                    case hzz74 => (intro w' hSw; (try dsimp only at hSw); go_simp <;> with_reducible rfl)
                    try simp only [Act.put, List.setIfInBounds_toArray, List.set_cons_zero, List.set_cons_succ]
                    refine take_op (i := 2) (d := 149) (OP := Op.move (Operand.tmp 17)) (T := 3) (v := ?vzz75) rfl rfl rfl rfl (by kernel_rfl) (by kernel_rfl) (by kernel_rfl) (fun _ _ _ h => h) (by rfl) ?hzz75 hHeld ?rzz75
                    case hzz75 => (intro w' hSw; (try dsimp only at hSw); go_simp <;> with_reducible rfl)
                    try simp only [Act.put, List.setIfInBounds_toArray, List.set_cons_zero, List.set_cons_succ]
                    refine take_op (i := 3) (d := 150) (OP := Op.indexAddr 22 (Operand.tmp 148) (Operand.tmp 149)) (T := 0) (v := ?vzz76) rfl rfl rfl rfl (by kernel_rfl) (by kernel_rfl) (by kernel_rfl) (fun _ _ _ h => h) (by rfl) ?hzz76 hHeld ?rzz76
                    case hzz76 => (intro w' hSw; (try dsimp only at hSw); go_simp <;> with_reducible rfl)
                    try simp only [Act.put, List.setIfInBounds_toArray, List.set_cons_zero, List.set_cons_succ]
                    refine take_op (i := 4) (d := 151) (OP := Op.load 9 (Operand.tmp 150)) (T := 9) (v := ?vzz77) rfl rfl rfl rfl (by kernel_rfl) (by kernel_rfl) (by kernel_rfl) (fun _ _ _ h => h) (by rfl) ?hzz77 hHeld ?rzz77
                    case hzz77 => (intro w' hSw; (try dsimp only at hSw); go_simp <;> with_reducible rfl)
                    try simp only [Act.put, List.setIfInBounds_toArray, List.set_cons_zero, List.set_cons_succ]
                    refine take_op (i := 6) (d := 153) (OP := Op.load 38 (Operand.tmp 21)) (T := 38) (v := ?vzz78) rfl rfl rfl rfl (by kernel_rfl) (by kernel_rfl) (by kernel_rfl) (fun _ _ _ h => h) (by rfl) ?hzz78 hHeld ?rzz78
                    case hzz78 => (intro w' hSw; (try dsimp only at hSw); go_simp <;> with_reducible rfl)
                    try simp only [Act.put, List.setIfInBounds_toArray, List.set_cons_zero, List.set_cons_succ]
                    refine call_op (i := 5) (d := 152) (OP := Op.call { callee := Callee.value (Operand.func 12), args := #[Operand.tmp 147, Operand.tmp 151], argTypes := #[29, 9] }) (T := 38) (f := 12) (args := #[.agg #[.pointer pm], .string k]) rfl rfl rfl rfl (by kernel_rfl) (by rfl) (by go_simp) ?_
                    refine (hgm _ qd.2.2.2.2.out).mono ?_
                    rintro e ze ⟨rfl, bze⟩
                    have qze : ze.cell? ⟨Y0, 0, none⟩ = some (.pointer pm) ∧ ze.cell? ⟨lb, lo + i, none⟩ = some (.string k) ∧ ze.cell? ⟨Bw, 0, none⟩ = some (.int .i64 0) ∧ ze.cell? ⟨Bw, 1, none⟩ = some (.bool false) ∧ Hid (Below wL.heap.size wL ze) := ⟨cell_stays qd.1 bze, cell_stays qd.2.1 bze, cell_stays qd.2.2.1 bze, cell_stays qd.2.2.2.1 bze, hide (qd.2.2.2.2.out.trans (bze.mono qd.2.2.2.2.out.size))⟩
                    refine ⟨_, rfl, qze, ?_⟩
                    replace hHeld := qze
                    try simp only [Act.put, List.setIfInBounds_toArray, List.set_cons_zero, List.set_cons_succ]
                    refine take_op (i := 7) (d := 154) (OP := Op.binOp BinOp.neq 38 (Operand.tmp 152) (Operand.tmp 153) 38) (T := 4) (v := ?vzz79) rfl rfl rfl rfl (by kernel_rfl) (by kernel_rfl) (by kernel_rfl) (fun _ _ _ h => h) (by rfl) ?hzz79 hHeld ?rzz79
                    case hzz79 => (intro w' hSw; (try dsimp only at hSw); go_simp <;> with_reducible rfl)
                    try simp only [Act.put, List.setIfInBounds_toArray, List.set_cons_zero, List.set_cons_succ]
                    refine wpAnyH_done (by kernel_rfl) ?_ _
                    clear hHeld qt qd
                    go_wp2
                    go_roundw
                    case rel => exact ⟨i + 1, by omega, by go_num, qze.2.2.2.2⟩
                    case measure => simp [intOf]; omega
                  · have hgm : ∀ W', Below wL.heap.size wL W' → Calls Try.prog 12 #[.agg #[.pointer pm], .string k] W' fun e w' => e = .returned (.agg #[.int .i64 s1', .bool true]) ∧ Below W'.heap.size W' w' := fun W' hW => hgm0 W' s1' true (by have h := HXX.out; rw [HRX.out]; unfold ruleR; rw [h]; rfl) hW
                    have tw0 : wa.cell? ⟨Bw, 0, none⟩ = some (.int .i64 s1') := (cell_of_row _ _ 0 _ 38 (0, 0) hrowv).trans rfl
                    have tw1 : wa.cell? ⟨Bw, 1, none⟩ = some (.bool true) := (cell_of_row _ _ 1 _ 38 (0, 0) hrowv).trans rfl
                    have qt : wa.cell? ⟨Y0, 0, none⟩ = some (.pointer pm) ∧ wa.cell? ⟨lb, lo + i, none⟩ = some (.string k) ∧ wa.cell? ⟨Bw, 0, none⟩ = some (.int .i64 s1') ∧ wa.cell? ⟨Bw, 1, none⟩ = some (.bool true) ∧ Hid (Below wL.heap.size wL wa) := ⟨cY, cK, tw0, tw1, HBA⟩
                    go_upto_region 31 with (fail)
                    have qd : wa.drew.cell? ⟨Y0, 0, none⟩ = some (.pointer pm) ∧ wa.drew.cell? ⟨lb, lo + i, none⟩ = some (.string k) ∧ wa.drew.cell? ⟨Bw, 0, none⟩ = some (.int .i64 s1') ∧ wa.drew.cell? ⟨Bw, 1, none⟩ = some (.bool true) ∧ Hid (Below wL.heap.size wL wa.drew) := ⟨qt.1, qt.2.1, qt.2.2.1, qt.2.2.2.1, hide (qt.2.2.2.2.out.trans ((drew_below wa).mono qt.2.2.2.2.out.size))⟩
                    refine wp_region_held_drew (S := (fun w' => w'.cell? ⟨Y0, 0, none⟩ = some (.pointer pm) ∧ w'.cell? ⟨lb, lo + i, none⟩ = some (.string k) ∧ w'.cell? ⟨Bw, 0, none⟩ = some (.int .i64 s1') ∧ w'.cell? ⟨Bw, 1, none⟩ = some (.bool true) ∧ Hid (Below wL.heap.size wL w'))) (by kernel_rfl) qd (fun hHeld => ?_)
                    try dsimp only at hHeld
                    refine take_op (i := 0) (d := 147) (OP := Op.load 29 (Operand.tmp 11)) (T := 29) (v := ?vzz80) rfl rfl rfl rfl (by kernel_rfl) (by kernel_rfl) (by kernel_rfl) (fun _ _ _ h => h) (by rfl) ?hzz80 hHeld ?rzz80
                    case hzz80 => (intro w' hSw; (try dsimp only at hSw); go_simp <;> with_reducible rfl)
                    try simp only [Act.put, List.setIfInBounds_toArray, List.set_cons_zero, List.set_cons_succ]
                    refine take_op (i := 1) (d := 148) (OP := Op.move (Operand.tmp 16)) (T := 22) (v := ?vzz81) rfl rfl rfl rfl (by kernel_rfl) (by kernel_rfl) (by kernel_rfl) (fun _ _ _ h => h) (by rfl) ?hzz81 hHeld ?rzz81
                    case hzz81 => (intro w' hSw; (try dsimp only at hSw); go_simp <;> with_reducible rfl)
                    try simp only [Act.put, List.setIfInBounds_toArray, List.set_cons_zero, List.set_cons_succ]
                    refine take_op (i := 2) (d := 149) (OP := Op.move (Operand.tmp 17)) (T := 3) (v := ?vzz82) rfl rfl rfl rfl (by kernel_rfl) (by kernel_rfl) (by kernel_rfl) (fun _ _ _ h => h) (by rfl) ?hzz82 hHeld ?rzz82
                    case hzz82 => (intro w' hSw; (try dsimp only at hSw); go_simp <;> with_reducible rfl)
                    try simp only [Act.put, List.setIfInBounds_toArray, List.set_cons_zero, List.set_cons_succ]
                    refine take_op (i := 3) (d := 150) (OP := Op.indexAddr 22 (Operand.tmp 148) (Operand.tmp 149)) (T := 0) (v := ?vzz83) rfl rfl rfl rfl (by kernel_rfl) (by kernel_rfl) (by kernel_rfl) (fun _ _ _ h => h) (by rfl) ?hzz83 hHeld ?rzz83
                    case hzz83 => (intro w' hSw; (try dsimp only at hSw); go_simp <;> with_reducible rfl)
                    try simp only [Act.put, List.setIfInBounds_toArray, List.set_cons_zero, List.set_cons_succ]
                    refine take_op (i := 4) (d := 151) (OP := Op.load 9 (Operand.tmp 150)) (T := 9) (v := ?vzz84) rfl rfl rfl rfl (by kernel_rfl) (by kernel_rfl) (by kernel_rfl) (fun _ _ _ h => h) (by rfl) ?hzz84 hHeld ?rzz84
                    case hzz84 => (intro w' hSw; (try dsimp only at hSw); go_simp <;> with_reducible rfl)
                    try simp only [Act.put, List.setIfInBounds_toArray, List.set_cons_zero, List.set_cons_succ]
                    refine take_op (i := 6) (d := 153) (OP := Op.load 38 (Operand.tmp 21)) (T := 38) (v := ?vzz85) rfl rfl rfl rfl (by kernel_rfl) (by kernel_rfl) (by kernel_rfl) (fun _ _ _ h => h) (by rfl) ?hzz85 hHeld ?rzz85
                    case hzz85 => (intro w' hSw; (try dsimp only at hSw); go_simp <;> with_reducible rfl)
                    try simp only [Act.put, List.setIfInBounds_toArray, List.set_cons_zero, List.set_cons_succ]
                    refine call_op (i := 5) (d := 152) (OP := Op.call { callee := Callee.value (Operand.func 12), args := #[Operand.tmp 147, Operand.tmp 151], argTypes := #[29, 9] }) (T := 38) (f := 12) (args := #[.agg #[.pointer pm], .string k]) rfl rfl rfl rfl (by kernel_rfl) (by rfl) (by go_simp) ?_
                    refine (hgm _ qd.2.2.2.2.out).mono ?_
                    rintro e ze ⟨rfl, bze⟩
                    have qze : ze.cell? ⟨Y0, 0, none⟩ = some (.pointer pm) ∧ ze.cell? ⟨lb, lo + i, none⟩ = some (.string k) ∧ ze.cell? ⟨Bw, 0, none⟩ = some (.int .i64 s1') ∧ ze.cell? ⟨Bw, 1, none⟩ = some (.bool true) ∧ Hid (Below wL.heap.size wL ze) := ⟨cell_stays qd.1 bze, cell_stays qd.2.1 bze, cell_stays qd.2.2.1 bze, cell_stays qd.2.2.2.1 bze, hide (qd.2.2.2.2.out.trans (bze.mono qd.2.2.2.2.out.size))⟩
                    refine ⟨_, rfl, qze, ?_⟩
                    replace hHeld := qze
                    try simp only [Act.put, List.setIfInBounds_toArray, List.set_cons_zero, List.set_cons_succ]
                    refine take_op (i := 7) (d := 154) (OP := Op.binOp BinOp.neq 38 (Operand.tmp 152) (Operand.tmp 153) 38) (T := 4) (v := ?vzz86) rfl rfl rfl rfl (by kernel_rfl) (by kernel_rfl) (by kernel_rfl) (fun _ _ _ h => h) (by rfl) ?hzz86 hHeld ?rzz86
                    case hzz86 => (intro w' hSw; (try dsimp only at hSw); go_simp <;> with_reducible rfl)
                    try simp only [Act.put, List.setIfInBounds_toArray, List.set_cons_zero, List.set_cons_succ]
                    refine wpAnyH_done (by kernel_rfl) ?_ _
                    clear hHeld qt qd tw0 tw1
                    go_wp2
                    go_roundw
                    case rel => exact ⟨i + 1, by omega, by go_num, qze.2.2.2.2⟩
                    case measure => simp [intOf]; omega
              · -- q = r
                have HXX : Hid (ruleX bs k (p1, p2) (s1', s2') (r1, r2) = (s1', s2')) := hide (by unfold ruleX; rw [if_pos (.inl (of_decide_eq_true HBB.out.2.1.symm))])
                have hrowv := HCW.out
                cases s2'
                · have hgm : ∀ W', Below wL.heap.size wL W' → Calls Try.prog 12 #[.agg #[.pointer pm], .string k] W' fun e w' => e = .returned (.agg #[.int .i64 0, .bool false]) ∧ Below W'.heap.size W' w' := fun W' hW => hgm0 W' 0 false (by have h := HXX.out; rw [HRX.out]; unfold ruleR; rw [h]; rfl) hW
                  have tw0 : wa.cell? ⟨Bw, 0, none⟩ = some (.int .i64 s1') := (cell_of_row _ _ 0 _ 38 (0, 0) hrowv).trans rfl
                  have tw1 : wa.cell? ⟨Bw, 1, none⟩ = some (.bool false) := (cell_of_row _ _ 1 _ 38 (0, 0) hrowv).trans rfl
                  have tf0 : wa.frozen? ⟨Bw, 0, none⟩ = false := frozen_of_row _ _ 0 _ 38 hrowv
                  obtain ⟨sz, oz⟩ := set_one (i := 0) (.int .i64 0) hrowv
                  go_upto_region 31 with (fail)
                  obtain ⟨wz, hwz⟩ : ∃ wz, wz = wa.setCell ⟨Bw, 0, none⟩ (.int .i64 0) := ⟨_, rfl⟩
                  rw [← hwz] at sz oz ⊢
                  have qt : wz.cell? ⟨Y0, 0, none⟩ = some (.pointer pm) ∧ wz.cell? ⟨lb, lo + i, none⟩ = some (.string k) ∧ wz.cell? ⟨Bw, 0, none⟩ = some (.int .i64 0) ∧ wz.cell? ⟨Bw, 1, none⟩ = some (.bool false) ∧ Hid (Below wL.heap.size wL wz) := ⟨oz.cell cY (fun e => by simp only at e; omega), oz.cell cK (fun e => by simp only at e; omega), (cell_of_row _ _ 0 _ 38 (0, 0) sz).trans rfl, (cell_of_row _ _ 1 _ 38 (0, 0) sz).trans rfl, hide (Below.only HBA.out oz HBA.out.size (fun j e => by omega))⟩
                  clear hwz sz oz tw0 tw1 tf0
                  have qd : wz.drew.cell? ⟨Y0, 0, none⟩ = some (.pointer pm) ∧ wz.drew.cell? ⟨lb, lo + i, none⟩ = some (.string k) ∧ wz.drew.cell? ⟨Bw, 0, none⟩ = some (.int .i64 0) ∧ wz.drew.cell? ⟨Bw, 1, none⟩ = some (.bool false) ∧ Hid (Below wL.heap.size wL wz.drew) := ⟨qt.1, qt.2.1, qt.2.2.1, qt.2.2.2.1, hide (qt.2.2.2.2.out.trans ((drew_below wz).mono qt.2.2.2.2.out.size))⟩
                  refine wp_region_held_drew (S := (fun w' => w'.cell? ⟨Y0, 0, none⟩ = some (.pointer pm) ∧ w'.cell? ⟨lb, lo + i, none⟩ = some (.string k) ∧ w'.cell? ⟨Bw, 0, none⟩ = some (.int .i64 0) ∧ w'.cell? ⟨Bw, 1, none⟩ = some (.bool false) ∧ Hid (Below wL.heap.size wL w'))) (by kernel_rfl) qd (fun hHeld => ?_)
                  try dsimp only at hHeld
                  refine take_op (i := 0) (d := 147) (OP := Op.load 29 (Operand.tmp 11)) (T := 29) (v := ?vzz87) rfl rfl rfl rfl (by kernel_rfl) (by kernel_rfl) (by kernel_rfl) (fun _ _ _ h => h) (by rfl) ?hzz87 hHeld ?rzz87
                  case hzz87 => (intro w' hSw; (try dsimp only at hSw); go_simp <;> with_reducible rfl)
                  try simp only [Act.put, List.setIfInBounds_toArray, List.set_cons_zero, List.set_cons_succ]
                  refine take_op (i := 1) (d := 148) (OP := Op.move (Operand.tmp 16)) (T := 22) (v := ?vzz88) rfl rfl rfl rfl (by kernel_rfl) (by kernel_rfl) (by kernel_rfl) (fun _ _ _ h => h) (by rfl) ?hzz88 hHeld ?rzz88
                  case hzz88 => (intro w' hSw; (try dsimp only at hSw); go_simp <;> with_reducible rfl)
                  try simp only [Act.put, List.setIfInBounds_toArray, List.set_cons_zero, List.set_cons_succ]
                  refine take_op (i := 2) (d := 149) (OP := Op.move (Operand.tmp 17)) (T := 3) (v := ?vzz89) rfl rfl rfl rfl (by kernel_rfl) (by kernel_rfl) (by kernel_rfl) (fun _ _ _ h => h) (by rfl) ?hzz89 hHeld ?rzz89
                  case hzz89 => (intro w' hSw; (try dsimp only at hSw); go_simp <;> with_reducible rfl)
                  try simp only [Act.put, List.setIfInBounds_toArray, List.set_cons_zero, List.set_cons_succ]
                  refine take_op (i := 3) (d := 150) (OP := Op.indexAddr 22 (Operand.tmp 148) (Operand.tmp 149)) (T := 0) (v := ?vzz90) rfl rfl rfl rfl (by kernel_rfl) (by kernel_rfl) (by kernel_rfl) (fun _ _ _ h => h) (by rfl) ?hzz90 hHeld ?rzz90
                  case hzz90 => (intro w' hSw; (try dsimp only at hSw); go_simp <;> with_reducible rfl)
                  try simp only [Act.put, List.setIfInBounds_toArray, List.set_cons_zero, List.set_cons_succ]
                  refine take_op (i := 4) (d := 151) (OP := Op.load 9 (Operand.tmp 150)) (T := 9) (v := ?vzz91) rfl rfl rfl rfl (by kernel_rfl) (by kernel_rfl) (by kernel_rfl) (fun _ _ _ h => h) (by rfl) ?hzz91 hHeld ?rzz91
                  case hzz91 => (intro w' hSw; (try dsimp only at hSw); go_simp <;> with_reducible rfl)
                  try simp only [Act.put, List.setIfInBounds_toArray, List.set_cons_zero, List.set_cons_succ]
                  refine take_op (i := 6) (d := 153) (OP := Op.load 38 (Operand.tmp 21)) (T := 38) (v := ?vzz92) rfl rfl rfl rfl (by kernel_rfl) (by kernel_rfl) (by kernel_rfl) (fun _ _ _ h => h) (by rfl) ?hzz92 hHeld ?rzz92
                  case hzz92 => (intro w' hSw; (try dsimp only at hSw); go_simp <;> with_reducible rfl)
                  try simp only [Act.put, List.setIfInBounds_toArray, List.set_cons_zero, List.set_cons_succ]
                  refine call_op (i := 5) (d := 152) (OP := Op.call { callee := Callee.value (Operand.func 12), args := #[Operand.tmp 147, Operand.tmp 151], argTypes := #[29, 9] }) (T := 38) (f := 12) (args := #[.agg #[.pointer pm], .string k]) rfl rfl rfl rfl (by kernel_rfl) (by rfl) (by go_simp) ?_
                  refine (hgm _ qd.2.2.2.2.out).mono ?_
                  rintro e ze ⟨rfl, bze⟩
                  have qze : ze.cell? ⟨Y0, 0, none⟩ = some (.pointer pm) ∧ ze.cell? ⟨lb, lo + i, none⟩ = some (.string k) ∧ ze.cell? ⟨Bw, 0, none⟩ = some (.int .i64 0) ∧ ze.cell? ⟨Bw, 1, none⟩ = some (.bool false) ∧ Hid (Below wL.heap.size wL ze) := ⟨cell_stays qd.1 bze, cell_stays qd.2.1 bze, cell_stays qd.2.2.1 bze, cell_stays qd.2.2.2.1 bze, hide (qd.2.2.2.2.out.trans (bze.mono qd.2.2.2.2.out.size))⟩
                  refine ⟨_, rfl, qze, ?_⟩
                  replace hHeld := qze
                  try simp only [Act.put, List.setIfInBounds_toArray, List.set_cons_zero, List.set_cons_succ]
                  refine take_op (i := 7) (d := 154) (OP := Op.binOp BinOp.neq 38 (Operand.tmp 152) (Operand.tmp 153) 38) (T := 4) (v := ?vzz93) rfl rfl rfl rfl (by kernel_rfl) (by kernel_rfl) (by kernel_rfl) (fun _ _ _ h => h) (by rfl) ?hzz93 hHeld ?rzz93
                  case hzz93 => (intro w' hSw; (try dsimp only at hSw); go_simp <;> with_reducible rfl)
                  try simp only [Act.put, List.setIfInBounds_toArray, List.set_cons_zero, List.set_cons_succ]
                  refine wpAnyH_done (by kernel_rfl) ?_ _
                  clear hHeld qt qd
                  go_wp2
                  go_roundw
                  case rel => exact ⟨i + 1, by omega, by go_num, qze.2.2.2.2⟩
                  case measure => simp [intOf]; omega
                · have hgm : ∀ W', Below wL.heap.size wL W' → Calls Try.prog 12 #[.agg #[.pointer pm], .string k] W' fun e w' => e = .returned (.agg #[.int .i64 s1', .bool true]) ∧ Below W'.heap.size W' w' := fun W' hW => hgm0 W' s1' true (by have h := HXX.out; rw [HRX.out]; unfold ruleR; rw [h]; rfl) hW
                  have tw0 : wa.cell? ⟨Bw, 0, none⟩ = some (.int .i64 s1') := (cell_of_row _ _ 0 _ 38 (0, 0) hrowv).trans rfl
                  have tw1 : wa.cell? ⟨Bw, 1, none⟩ = some (.bool true) := (cell_of_row _ _ 1 _ 38 (0, 0) hrowv).trans rfl
                  have qt : wa.cell? ⟨Y0, 0, none⟩ = some (.pointer pm) ∧ wa.cell? ⟨lb, lo + i, none⟩ = some (.string k) ∧ wa.cell? ⟨Bw, 0, none⟩ = some (.int .i64 s1') ∧ wa.cell? ⟨Bw, 1, none⟩ = some (.bool true) ∧ Hid (Below wL.heap.size wL wa) := ⟨cY, cK, tw0, tw1, HBA⟩
                  go_upto_region 31 with (fail)
                  have qd : wa.drew.cell? ⟨Y0, 0, none⟩ = some (.pointer pm) ∧ wa.drew.cell? ⟨lb, lo + i, none⟩ = some (.string k) ∧ wa.drew.cell? ⟨Bw, 0, none⟩ = some (.int .i64 s1') ∧ wa.drew.cell? ⟨Bw, 1, none⟩ = some (.bool true) ∧ Hid (Below wL.heap.size wL wa.drew) := ⟨qt.1, qt.2.1, qt.2.2.1, qt.2.2.2.1, hide (qt.2.2.2.2.out.trans ((drew_below wa).mono qt.2.2.2.2.out.size))⟩
                  refine wp_region_held_drew (S := (fun w' => w'.cell? ⟨Y0, 0, none⟩ = some (.pointer pm) ∧ w'.cell? ⟨lb, lo + i, none⟩ = some (.string k) ∧ w'.cell? ⟨Bw, 0, none⟩ = some (.int .i64 s1') ∧ w'.cell? ⟨Bw, 1, none⟩ = some (.bool true) ∧ Hid (Below wL.heap.size wL w'))) (by kernel_rfl) qd (fun hHeld => ?_)
                  try dsimp only at hHeld
                  refine take_op (i := 0) (d := 147) (OP := Op.load 29 (Operand.tmp 11)) (T := 29) (v := ?vzz94) rfl rfl rfl rfl (by kernel_rfl) (by kernel_rfl) (by kernel_rfl) (fun _ _ _ h => h) (by rfl) ?hzz94 hHeld ?rzz94
                  case hzz94 => (intro w' hSw; (try dsimp only at hSw); go_simp <;> with_reducible rfl)
                  try simp only [Act.put, List.setIfInBounds_toArray, List.set_cons_zero, List.set_cons_succ]
                  refine take_op (i := 1) (d := 148) (OP := Op.move (Operand.tmp 16)) (T := 22) (v := ?vzz95) rfl rfl rfl rfl (by kernel_rfl) (by kernel_rfl) (by kernel_rfl) (fun _ _ _ h => h) (by rfl) ?hzz95 hHeld ?rzz95
                  case hzz95 => (intro w' hSw; (try dsimp only at hSw); go_simp <;> with_reducible rfl)
                  try simp only [Act.put, List.setIfInBounds_toArray, List.set_cons_zero, List.set_cons_succ]
                  refine take_op (i := 2) (d := 149) (OP := Op.move (Operand.tmp 17)) (T := 3) (v := ?vzz96) rfl rfl rfl rfl (by kernel_rfl) (by kernel_rfl) (by kernel_rfl) (fun _ _ _ h => h) (by rfl) ?hzz96 hHeld ?rzz96
                  case hzz96 => (intro w' hSw; (try dsimp only at hSw); go_simp <;> with_reducible rfl)
                  try simp only [Act.put, List.setIfInBounds_toArray, List.set_cons_zero, List.set_cons_succ]
                  refine take_op (i := 3) (d := 150) (OP := Op.indexAddr 22 (Operand.tmp 148) (Operand.tmp 149)) (T := 0) (v := ?vzz97) rfl rfl rfl rfl (by kernel_rfl) (by kernel_rfl) (by kernel_rfl) (fun _ _ _ h => h) (by rfl) ?hzz97 hHeld ?rzz97
                  case hzz97 => (intro w' hSw; (try dsimp only at hSw); go_simp <;> with_reducible rfl)
                  try simp only [Act.put, List.setIfInBounds_toArray, List.set_cons_zero, List.set_cons_succ]
                  refine take_op (i := 4) (d := 151) (OP := Op.load 9 (Operand.tmp 150)) (T := 9) (v := ?vzz98) rfl rfl rfl rfl (by kernel_rfl) (by kernel_rfl) (by kernel_rfl) (fun _ _ _ h => h) (by rfl) ?hzz98 hHeld ?rzz98
                  case hzz98 => (intro w' hSw; (try dsimp only at hSw); go_simp <;> with_reducible rfl)
                  try simp only [Act.put, List.setIfInBounds_toArray, List.set_cons_zero, List.set_cons_succ]
                  refine take_op (i := 6) (d := 153) (OP := Op.load 38 (Operand.tmp 21)) (T := 38) (v := ?vzz99) rfl rfl rfl rfl (by kernel_rfl) (by kernel_rfl) (by kernel_rfl) (fun _ _ _ h => h) (by rfl) ?hzz99 hHeld ?rzz99
                  case hzz99 => (intro w' hSw; (try dsimp only at hSw); go_simp <;> with_reducible rfl)
                  try simp only [Act.put, List.setIfInBounds_toArray, List.set_cons_zero, List.set_cons_succ]
                  refine call_op (i := 5) (d := 152) (OP := Op.call { callee := Callee.value (Operand.func 12), args := #[Operand.tmp 147, Operand.tmp 151], argTypes := #[29, 9] }) (T := 38) (f := 12) (args := #[.agg #[.pointer pm], .string k]) rfl rfl rfl rfl (by kernel_rfl) (by rfl) (by go_simp) ?_
                  refine (hgm _ qd.2.2.2.2.out).mono ?_
                  rintro e ze ⟨rfl, bze⟩
                  have qze : ze.cell? ⟨Y0, 0, none⟩ = some (.pointer pm) ∧ ze.cell? ⟨lb, lo + i, none⟩ = some (.string k) ∧ ze.cell? ⟨Bw, 0, none⟩ = some (.int .i64 s1') ∧ ze.cell? ⟨Bw, 1, none⟩ = some (.bool true) ∧ Hid (Below wL.heap.size wL ze) := ⟨cell_stays qd.1 bze, cell_stays qd.2.1 bze, cell_stays qd.2.2.1 bze, cell_stays qd.2.2.2.1 bze, hide (qd.2.2.2.2.out.trans (bze.mono qd.2.2.2.2.out.size))⟩
                  refine ⟨_, rfl, qze, ?_⟩
                  replace hHeld := qze
                  try simp only [Act.put, List.setIfInBounds_toArray, List.set_cons_zero, List.set_cons_succ]
                  refine take_op (i := 7) (d := 154) (OP := Op.binOp BinOp.neq 38 (Operand.tmp 152) (Operand.tmp 153) 38) (T := 4) (v := ?vzz100) rfl rfl rfl rfl (by kernel_rfl) (by kernel_rfl) (by kernel_rfl) (fun _ _ _ h => h) (by rfl) ?hzz100 hHeld ?rzz100
                  case hzz100 => (intro w' hSw; (try dsimp only at hSw); go_simp <;> with_reducible rfl)
                  try simp only [Act.put, List.setIfInBounds_toArray, List.set_cons_zero, List.set_cons_succ]
                  refine wpAnyH_done (by kernel_rfl) ?_ _
                  clear hHeld qt qd tw0 tw1
                  go_wp2
                  go_roundw
                  case rel => exact ⟨i + 1, by omega, by go_num, qze.2.2.2.2⟩
                  case measure => simp [intOf]; omega
            · -- p = q
              have HXX : Hid (ruleX bs k (p1, p2) (s1', s2') (r1, r2) = (r1, r2)) := hide (by
                have h1 := of_decide_eq_true HBB.out.1.symm
                unfold ruleX
                by_cases h : (s1', s2') = (r1, r2) ∨ (p1, p2) = (r1, r2)
                · rw [if_pos h]
                  rcases h with h | h
                  · exact h
                  · rw [← h1]; exact h
                · rw [if_neg h, if_pos h1])
              obtain ⟨sb', ob'⟩ := set2 (.int .i64 r1) (.bool r2) HCW.out
              have HSB := hide (And.intro sb' ob')
              clear sb' ob'
              go_upto_region 26 with (fail)
              obtain ⟨wv, hwv⟩ : ∃ wv, wv = (wa.setCell ⟨Bw, 0, none⟩ (.int .i64 r1)).setCell ⟨Bw, 1, none⟩ (.bool r2) := ⟨_, rfl⟩
              rw [← hwv] at HSB ⊢
              clear hwv
              have cY2 := HSB.out.2.cell cY (fun e => by simp only at e; omega)
              have cK2 := HSB.out.2.cell cK (fun e => by simp only at e; omega)
              have hp0 := HSB.out.2.cell kp0 (fun e => by simp only at e; omega)
              have hp1 := HSB.out.2.cell kp1 (fun e => by simp only at e; omega)
              have hs0 := HSB.out.2.cell ks0 (fun e => by simp only at e; omega)
              have hs1 := HSB.out.2.cell ks1 (fun e => by simp only at e; omega)
              have HBV := hide (Below.only HBA.out HSB.out.2 HBA.out.size (fun j e => by omega))
              have hrowv := HSB.out.1
              clear cY cK cPk kp0 kp1 ks0 ks1 kr0 kr1 kb0 kb1 kf0 kf1 HBA HCW
              cases r2
              · have hgm : ∀ W', Below wL.heap.size wL W' → Calls Try.prog 12 #[.agg #[.pointer pm], .string k] W' fun e w' => e = .returned (.agg #[.int .i64 0, .bool false]) ∧ Below W'.heap.size W' w' := fun W' hW => hgm0 W' 0 false (by have h := HXX.out; rw [HRX.out]; unfold ruleR; rw [h]; rfl) hW
                have tw0 : wv.cell? ⟨Bw, 0, none⟩ = some (.int .i64 r1) := (cell_of_row _ _ 0 _ 38 (0, 0) hrowv).trans rfl
                have tw1 : wv.cell? ⟨Bw, 1, none⟩ = some (.bool false) := (cell_of_row _ _ 1 _ 38 (0, 0) hrowv).trans rfl
                have tf0 : wv.frozen? ⟨Bw, 0, none⟩ = false := frozen_of_row _ _ 0 _ 38 hrowv
                obtain ⟨sz, oz⟩ := set_one (i := 0) (.int .i64 0) hrowv
                go_upto_region 31 with (fail)
                obtain ⟨wz, hwz⟩ : ∃ wz, wz = wv.setCell ⟨Bw, 0, none⟩ (.int .i64 0) := ⟨_, rfl⟩
                rw [← hwz] at sz oz ⊢
                have qt : wz.cell? ⟨Y0, 0, none⟩ = some (.pointer pm) ∧ wz.cell? ⟨lb, lo + i, none⟩ = some (.string k) ∧ wz.cell? ⟨Bw, 0, none⟩ = some (.int .i64 0) ∧ wz.cell? ⟨Bw, 1, none⟩ = some (.bool false) ∧ Hid (Below wL.heap.size wL wz) := ⟨oz.cell cY2 (fun e => by simp only at e; omega), oz.cell cK2 (fun e => by simp only at e; omega), (cell_of_row _ _ 0 _ 38 (0, 0) sz).trans rfl, (cell_of_row _ _ 1 _ 38 (0, 0) sz).trans rfl, hide (Below.only HBV.out oz HBV.out.size (fun j e => by omega))⟩
                clear hwz sz oz tw0 tw1 tf0
                have qd : wz.drew.cell? ⟨Y0, 0, none⟩ = some (.pointer pm) ∧ wz.drew.cell? ⟨lb, lo + i, none⟩ = some (.string k) ∧ wz.drew.cell? ⟨Bw, 0, none⟩ = some (.int .i64 0) ∧ wz.drew.cell? ⟨Bw, 1, none⟩ = some (.bool false) ∧ Hid (Below wL.heap.size wL wz.drew) := ⟨qt.1, qt.2.1, qt.2.2.1, qt.2.2.2.1, hide (qt.2.2.2.2.out.trans ((drew_below wz).mono qt.2.2.2.2.out.size))⟩
                refine wp_region_held_drew (S := (fun w' => w'.cell? ⟨Y0, 0, none⟩ = some (.pointer pm) ∧ w'.cell? ⟨lb, lo + i, none⟩ = some (.string k) ∧ w'.cell? ⟨Bw, 0, none⟩ = some (.int .i64 0) ∧ w'.cell? ⟨Bw, 1, none⟩ = some (.bool false) ∧ Hid (Below wL.heap.size wL w'))) (by kernel_rfl) qd (fun hHeld => ?_)
                try dsimp only at hHeld
                refine take_op (i := 0) (d := 147) (OP := Op.load 29 (Operand.tmp 11)) (T := 29) (v := ?vzz101) rfl rfl rfl rfl (by kernel_rfl) (by kernel_rfl) (by kernel_rfl) (fun _ _ _ h => h) (by rfl) ?hzz101 hHeld ?rzz101
                case hzz101 => (intro w' hSw; (try dsimp only at hSw); go_simp <;> with_reducible rfl)
                try simp only [Act.put, List.setIfInBounds_toArray, List.set_cons_zero, List.set_cons_succ]
                refine take_op (i := 1) (d := 148) (OP := Op.move (Operand.tmp 16)) (T := 22) (v := ?vzz102) rfl rfl rfl rfl (by kernel_rfl) (by kernel_rfl) (by kernel_rfl) (fun _ _ _ h => h) (by rfl) ?hzz102 hHeld ?rzz102
                case hzz102 => (intro w' hSw; (try dsimp only at hSw); go_simp <;> with_reducible rfl)
                try simp only [Act.put, List.setIfInBounds_toArray, List.set_cons_zero, List.set_cons_succ]
                refine take_op (i := 2) (d := 149) (OP := Op.move (Operand.tmp 17)) (T := 3) (v := ?vzz103) rfl rfl rfl rfl (by kernel_rfl) (by kernel_rfl) (by kernel_rfl) (fun _ _ _ h => h) (by rfl) ?hzz103 hHeld ?rzz103
                case hzz103 => (intro w' hSw; (try dsimp only at hSw); go_simp <;> with_reducible rfl)
                try simp only [Act.put, List.setIfInBounds_toArray, List.set_cons_zero, List.set_cons_succ]
                refine take_op (i := 3) (d := 150) (OP := Op.indexAddr 22 (Operand.tmp 148) (Operand.tmp 149)) (T := 0) (v := ?vzz104) rfl rfl rfl rfl (by kernel_rfl) (by kernel_rfl) (by kernel_rfl) (fun _ _ _ h => h) (by rfl) ?hzz104 hHeld ?rzz104
                case hzz104 => (intro w' hSw; (try dsimp only at hSw); go_simp <;> with_reducible rfl)
                try simp only [Act.put, List.setIfInBounds_toArray, List.set_cons_zero, List.set_cons_succ]
                refine take_op (i := 4) (d := 151) (OP := Op.load 9 (Operand.tmp 150)) (T := 9) (v := ?vzz105) rfl rfl rfl rfl (by kernel_rfl) (by kernel_rfl) (by kernel_rfl) (fun _ _ _ h => h) (by rfl) ?hzz105 hHeld ?rzz105
                case hzz105 => (intro w' hSw; (try dsimp only at hSw); go_simp <;> with_reducible rfl)
                try simp only [Act.put, List.setIfInBounds_toArray, List.set_cons_zero, List.set_cons_succ]
                refine take_op (i := 6) (d := 153) (OP := Op.load 38 (Operand.tmp 21)) (T := 38) (v := ?vzz106) rfl rfl rfl rfl (by kernel_rfl) (by kernel_rfl) (by kernel_rfl) (fun _ _ _ h => h) (by rfl) ?hzz106 hHeld ?rzz106
                case hzz106 => (intro w' hSw; (try dsimp only at hSw); go_simp <;> with_reducible rfl)
                try simp only [Act.put, List.setIfInBounds_toArray, List.set_cons_zero, List.set_cons_succ]
                refine call_op (i := 5) (d := 152) (OP := Op.call { callee := Callee.value (Operand.func 12), args := #[Operand.tmp 147, Operand.tmp 151], argTypes := #[29, 9] }) (T := 38) (f := 12) (args := #[.agg #[.pointer pm], .string k]) rfl rfl rfl rfl (by kernel_rfl) (by rfl) (by go_simp) ?_
                refine (hgm _ qd.2.2.2.2.out).mono ?_
                rintro e ze ⟨rfl, bze⟩
                have qze : ze.cell? ⟨Y0, 0, none⟩ = some (.pointer pm) ∧ ze.cell? ⟨lb, lo + i, none⟩ = some (.string k) ∧ ze.cell? ⟨Bw, 0, none⟩ = some (.int .i64 0) ∧ ze.cell? ⟨Bw, 1, none⟩ = some (.bool false) ∧ Hid (Below wL.heap.size wL ze) := ⟨cell_stays qd.1 bze, cell_stays qd.2.1 bze, cell_stays qd.2.2.1 bze, cell_stays qd.2.2.2.1 bze, hide (qd.2.2.2.2.out.trans (bze.mono qd.2.2.2.2.out.size))⟩
                refine ⟨_, rfl, qze, ?_⟩
                replace hHeld := qze
                try simp only [Act.put, List.setIfInBounds_toArray, List.set_cons_zero, List.set_cons_succ]
                refine take_op (i := 7) (d := 154) (OP := Op.binOp BinOp.neq 38 (Operand.tmp 152) (Operand.tmp 153) 38) (T := 4) (v := ?vzz107) rfl rfl rfl rfl (by kernel_rfl) (by kernel_rfl) (by kernel_rfl) (fun _ _ _ h => h) (by rfl) ?hzz107 hHeld ?rzz107
                case hzz107 => (intro w' hSw; (try dsimp only at hSw); go_simp <;> with_reducible rfl)
                try simp only [Act.put, List.setIfInBounds_toArray, List.set_cons_zero, List.set_cons_succ]
                refine wpAnyH_done (by kernel_rfl) ?_ _
                clear hHeld qt qd
                go_wp2
                go_roundw
                case rel => exact ⟨i + 1, by omega, by go_num, qze.2.2.2.2⟩
                case measure => simp [intOf]; omega
              · have hgm : ∀ W', Below wL.heap.size wL W' → Calls Try.prog 12 #[.agg #[.pointer pm], .string k] W' fun e w' => e = .returned (.agg #[.int .i64 r1, .bool true]) ∧ Below W'.heap.size W' w' := fun W' hW => hgm0 W' r1 true (by have h := HXX.out; rw [HRX.out]; unfold ruleR; rw [h]; rfl) hW
                have tw0 : wv.cell? ⟨Bw, 0, none⟩ = some (.int .i64 r1) := (cell_of_row _ _ 0 _ 38 (0, 0) hrowv).trans rfl
                have tw1 : wv.cell? ⟨Bw, 1, none⟩ = some (.bool true) := (cell_of_row _ _ 1 _ 38 (0, 0) hrowv).trans rfl
                have qt : wv.cell? ⟨Y0, 0, none⟩ = some (.pointer pm) ∧ wv.cell? ⟨lb, lo + i, none⟩ = some (.string k) ∧ wv.cell? ⟨Bw, 0, none⟩ = some (.int .i64 r1) ∧ wv.cell? ⟨Bw, 1, none⟩ = some (.bool true) ∧ Hid (Below wL.heap.size wL wv) := ⟨cY2, cK2, tw0, tw1, HBV⟩
                go_upto_region 31 with (fail)
                have qd : wv.drew.cell? ⟨Y0, 0, none⟩ = some (.pointer pm) ∧ wv.drew.cell? ⟨lb, lo + i, none⟩ = some (.string k) ∧ wv.drew.cell? ⟨Bw, 0, none⟩ = some (.int .i64 r1) ∧ wv.drew.cell? ⟨Bw, 1, none⟩ = some (.bool true) ∧ Hid (Below wL.heap.size wL wv.drew) := ⟨qt.1, qt.2.1, qt.2.2.1, qt.2.2.2.1, hide (qt.2.2.2.2.out.trans ((drew_below wv).mono qt.2.2.2.2.out.size))⟩
                refine wp_region_held_drew (S := (fun w' => w'.cell? ⟨Y0, 0, none⟩ = some (.pointer pm) ∧ w'.cell? ⟨lb, lo + i, none⟩ = some (.string k) ∧ w'.cell? ⟨Bw, 0, none⟩ = some (.int .i64 r1) ∧ w'.cell? ⟨Bw, 1, none⟩ = some (.bool true) ∧ Hid (Below wL.heap.size wL w'))) (by kernel_rfl) qd (fun hHeld => ?_)
                try dsimp only at hHeld
                refine take_op (i := 0) (d := 147) (OP := Op.load 29 (Operand.tmp 11)) (T := 29) (v := ?vzz108) rfl rfl rfl rfl (by kernel_rfl) (by kernel_rfl) (by kernel_rfl) (fun _ _ _ h => h) (by rfl) ?hzz108 hHeld ?rzz108
                case hzz108 => (intro w' hSw; (try dsimp only at hSw); go_simp <;> with_reducible rfl)
                try simp only [Act.put, List.setIfInBounds_toArray, List.set_cons_zero, List.set_cons_succ]
                refine take_op (i := 1) (d := 148) (OP := Op.move (Operand.tmp 16)) (T := 22) (v := ?vzz109) rfl rfl rfl rfl (by kernel_rfl) (by kernel_rfl) (by kernel_rfl) (fun _ _ _ h => h) (by rfl) ?hzz109 hHeld ?rzz109
                case hzz109 => (intro w' hSw; (try dsimp only at hSw); go_simp <;> with_reducible rfl)
                try simp only [Act.put, List.setIfInBounds_toArray, List.set_cons_zero, List.set_cons_succ]
                refine take_op (i := 2) (d := 149) (OP := Op.move (Operand.tmp 17)) (T := 3) (v := ?vzz110) rfl rfl rfl rfl (by kernel_rfl) (by kernel_rfl) (by kernel_rfl) (fun _ _ _ h => h) (by rfl) ?hzz110 hHeld ?rzz110
                case hzz110 => (intro w' hSw; (try dsimp only at hSw); go_simp <;> with_reducible rfl)
                try simp only [Act.put, List.setIfInBounds_toArray, List.set_cons_zero, List.set_cons_succ]
                refine take_op (i := 3) (d := 150) (OP := Op.indexAddr 22 (Operand.tmp 148) (Operand.tmp 149)) (T := 0) (v := ?vzz111) rfl rfl rfl rfl (by kernel_rfl) (by kernel_rfl) (by kernel_rfl) (fun _ _ _ h => h) (by rfl) ?hzz111 hHeld ?rzz111
                case hzz111 => (intro w' hSw; (try dsimp only at hSw); go_simp <;> with_reducible rfl)
                try simp only [Act.put, List.setIfInBounds_toArray, List.set_cons_zero, List.set_cons_succ]
                refine take_op (i := 4) (d := 151) (OP := Op.load 9 (Operand.tmp 150)) (T := 9) (v := ?vzz112) rfl rfl rfl rfl (by kernel_rfl) (by kernel_rfl) (by kernel_rfl) (fun _ _ _ h => h) (by rfl) ?hzz112 hHeld ?rzz112
                case hzz112 => (intro w' hSw; (try dsimp only at hSw); go_simp <;> with_reducible rfl)
                try simp only [Act.put, List.setIfInBounds_toArray, List.set_cons_zero, List.set_cons_succ]
                refine take_op (i := 6) (d := 153) (OP := Op.load 38 (Operand.tmp 21)) (T := 38) (v := ?vzz113) rfl rfl rfl rfl (by kernel_rfl) (by kernel_rfl) (by kernel_rfl) (fun _ _ _ h => h) (by rfl) ?hzz113 hHeld ?rzz113
                case hzz113 => (intro w' hSw; (try dsimp only at hSw); go_simp <;> with_reducible rfl)
                try simp only [Act.put, List.setIfInBounds_toArray, List.set_cons_zero, List.set_cons_succ]
                refine call_op (i := 5) (d := 152) (OP := Op.call { callee := Callee.value (Operand.func 12), args := #[Operand.tmp 147, Operand.tmp 151], argTypes := #[29, 9] }) (T := 38) (f := 12) (args := #[.agg #[.pointer pm], .string k]) rfl rfl rfl rfl (by kernel_rfl) (by rfl) (by go_simp) ?_
                refine (hgm _ qd.2.2.2.2.out).mono ?_
                rintro e ze ⟨rfl, bze⟩
                have qze : ze.cell? ⟨Y0, 0, none⟩ = some (.pointer pm) ∧ ze.cell? ⟨lb, lo + i, none⟩ = some (.string k) ∧ ze.cell? ⟨Bw, 0, none⟩ = some (.int .i64 r1) ∧ ze.cell? ⟨Bw, 1, none⟩ = some (.bool true) ∧ Hid (Below wL.heap.size wL ze) := ⟨cell_stays qd.1 bze, cell_stays qd.2.1 bze, cell_stays qd.2.2.1 bze, cell_stays qd.2.2.2.1 bze, hide (qd.2.2.2.2.out.trans (bze.mono qd.2.2.2.2.out.size))⟩
                refine ⟨_, rfl, qze, ?_⟩
                replace hHeld := qze
                try simp only [Act.put, List.setIfInBounds_toArray, List.set_cons_zero, List.set_cons_succ]
                refine take_op (i := 7) (d := 154) (OP := Op.binOp BinOp.neq 38 (Operand.tmp 152) (Operand.tmp 153) 38) (T := 4) (v := ?vzz114) rfl rfl rfl rfl (by kernel_rfl) (by kernel_rfl) (by kernel_rfl) (fun _ _ _ h => h) (by rfl) ?hzz114 hHeld ?rzz114
                case hzz114 => (intro w' hSw; (try dsimp only at hSw); go_simp <;> with_reducible rfl)
                try simp only [Act.put, List.setIfInBounds_toArray, List.set_cons_zero, List.set_cons_succ]
                refine wpAnyH_done (by kernel_rfl) ?_ _
                clear hHeld qt qd tw0 tw1
                go_wp2
                go_roundw
                case rel => exact ⟨i + 1, by omega, by go_num, qze.2.2.2.2⟩
                case measure => simp [intOf]; omega
          · as_aux_lemma =>
            have ei : i = N := by omega
            subst ei
            have y1 : decide ((i : Int) < (i : Int)) = false := by simp
            have bw2 := hide (HWL.out.trans (HB.out.mono HWL.out.size))
            go_wp2_with (go_at_call 8; refine (HK.out wr).mono ?_; rintro e w9 ⟨rfl, b9⟩; have B9 := hide (bw2.out.trans (b9.mono bw2.out.size)); clear b9; dsimp only)
            go_ret
            exact ⟨rfl, B9.out⟩
  · have hf1 := hf.2 hfew
    clear hf hfew
    go_enter Try.func5, Try.ntmps5
    go_wp2_with (first
      | (go_at_call 7; refine hf1.mono ?_; rintro e w1 ⟨rfl, b1⟩; dsimp only)
      | (go_at_call 8; refine (HK.out w1).mono ?_; rintro e w2 ⟨rfl, b2⟩; have S2 := hide (b1.trans (b2.mono b1.size)); clear b2; dsimp only))
    go_ret
    exact ⟨rfl, HT.out.2.1.trans (S2.out.mono HT.out.2.1.size)⟩
end Go.Proofs.Ytckkoigghkgfdaa
