/-
  tagset: Of (18).
  tagset: Three (34) of maps that lie apart; Three with a map that may not be.
  register: the chapter's rows (known 38).
-/
import Derived.Test.YtkkpdgfllnbigaaGreatDoorMg22
import Derived.Test.YtkkpdgfllnbigaaGreatDoorMg18
import Derived.Test.YtkkpdgfllnbigaaGreatDoorMg12
import Derived.Deep.DeepCutAuto
import Derived.Deep.CutBlock
namespace Go.Proofs.YtkkpdgfllnbigaaGreatDoor.Tg
open Go.RowKit Go.Shelf
set_option linter.unusedSimpArgs false
set_option linter.unusedVariables false
attribute [local go_sem] Oper.semAt_some

set_option maxHeartbeats 8000000 in
set_option maxRecDepth 100000 in
theorem of18 {w : World} {ao : Option Addr} {c : Nat} (l : List El) (h : Re w ao l) (hl : l.length ≤ 400) : Calls Tryz.prog 12 #[.slice ao l.length c] w (OfT w l) := by
  obtain ⟨w0, hw0⟩ : ∃ w0, w0 = w.alloc (.cells #[.pointer none] 43) := ⟨_, rfl⟩
  have m0 := heap_alloc_new w (.cells #[.pointer none] 43)
  rw [← hw0] at m0
  have b0 : Below w.heap.size w w0 := by rw [hw0]; exact (Below.refl _ w).alloc (Nat.le_refl _) _
  have s0 : w0.heap.size = w.heap.size + 1 := by rw [hw0]; simp
  have h0 : Re w0 ao l := h.below b0
  obtain ⟨N, hN⟩ : ∃ N, N = l.length := ⟨_, rfl⟩
  obtain ⟨Rb, hRb⟩ : ∃ Rb, Rb = w.heap.size := ⟨_, rfl⟩
  obtain ⟨Mb, hMb⟩ : ∃ Mb, Mb = w0.heap.size := ⟨_, rfl⟩
  obtain ⟨wM, hwM⟩ : ∃ q, q = w0.alloc (.map #[] 0) := ⟨_, rfl⟩
  have bM : Below w0.heap.size w0 wM := by rw [hwM]; exact (Below.refl _ w0).alloc (Nat.le_refl _) _
  have mM : Sm wM Mb [] := by rw [hwM, hMb]; exact Sm.new w0
  have HS : Hid (w0.heap.size = w.heap.size + 1 ∧ Rb = w.heap.size ∧ N = l.length ∧ l.length ≤ 400) := hide ⟨s0, hRb, hN, hl⟩
  rw [← hN]
  rw [← hRb] at m0
  have HM : Hid (w0.heap[Rb]? = some (.cells #[.pointer none] 43 (0, 0)) ∧ Below w.heap.size w w0 ∧ Re w0 ao l) := hide ⟨m0, b0, h0⟩
  have hNb : N ≤ 400 := by omega
  -- where it is refused
  have bad : ∀ W, Below w0.heap.size w0 W → W.cell? ⟨Rb, 0, none⟩ = some (.pointer none) ∧ W.frozen? ⟨Rb, 0, none⟩ = false ∧ Hid ((W.setCell ⟨Rb, 0, none⟩ (.pointer none)).heap[Rb]? = some (.cells #[.pointer none] 43 (0, 0)) ∧ (goodT l = false → OfT w l (.returned (.tuple #[.agg #[.pointer none], .int .i64 2])) (W.setCell ⟨Rb, 0, none⟩ (.pointer none)))) := fun W hW => by
    have q2 := (hW.block _ (gI m0).1).trans m0
    have q3 := b0.trans (hW.mono b0.size)
    obtain ⟨u, o⟩ := set_one (i := 0) (.pointer none) q2
    refine ⟨(cell_of_row _ _ 0 _ 43 (0, 0) q2).trans rfl, frozen_of_row _ _ 0 _ 43 q2, hide ⟨by simpa using u, fun hg => ⟨.nil, ?_, Mg.nil _, Below.only q3 o q3.size (fun j e => by have e' : j = Rb := e; omega), fun hc => ?_, fun _ => rfl, Pm.T.over_nil⟩⟩⟩
    · rw [hg]; rfl
    · rw [hg] at hc; cases hc
  have HBAD := hide bad
  have hky := fun (X : ByteArray) (s : St) W => key109 X s W
  have hmk : (Instr.makeMap 70 (some (.int .i64 (N : Int)))).run Tryz.prog w0 = .ok (.map (some Mb)) wM := by
    rw [hMb, hwM]
    simp [Instr.makeMap, run_underlying Tryz.underlying70, asInt, asIntOf, Result.andThen]
  have HW0 := hide (And.intro hw0 (And.intro hMb hwM))
  have HI0 : Hid (OJ w0 Mb [] [] [] (.slice none 0 0) (.slice none 0 0) wM) := hide ⟨bM, Ot.nil _ _, Ot.nil _ _, (fun j hj => by cases hj), mM, by rw [hMb]; exact Nat.le_refl _⟩
  clear m0 b0 s0 h0 hN hRb h hl bad hw0 hMb hwM bM mM
  go_enter Tryz.func12, Tryz.ntmps12
  go_upto_region 1 with fail
  rw [← HW0.out.1]
  rw [show w.heap.size = Rb from HS.out.2.1.symm]
  go_upto_region 2 with fail
  clear hmk
  go_wp2
  go_loopw [5, 6, 18] (fun v5 v6 v18 wr => ∃ j : Nat, j ≤ N ∧ v18 = .int .i64 (j : Nat) ∧ Hid (OJ w0 Mb ((l.take j).map Prod.fst) ((l.take j).map fun x => tkey x.2 x.1) ((l.take j).map Prod.snd) v5 v6 wr ∧ (l.take j).all okEl = true ∧ ((l.take j).map Prod.fst).Nodup)) (fun _ _ v18 _ => N - (intOf v18).toNat)
  case atStart => exact ⟨0, Nat.zero_le _, rfl, hide ⟨HI0.out, rfl, List.Pairwise.nil⟩⟩
  case round =>
    obtain ⟨j, hj, rfl, HI⟩ := hrel
    by_cases hlt : j < N
    · have z1 : (j : Int) < (N : Int) := by omega
      have z2 : decide ((j : Int) < (N : Int)) = true := by simpa using z1
      obtain ⟨x, hx⟩ : ∃ x, l[j]? = some x := ⟨_, List.getElem?_eq_getElem (by rw [← HS.out.2.2.1]; exact hlt)⟩
      have hre : Re wr ao l := HM.out.2.2.below HI.out.1.low
      obtain ⟨b, off, hao, c0, c1, c2, c3, c4, c5⟩ := hre.cells hx
      obtain ⟨⟨g, r, lb, n, ix⟩, xt⟩ := x
      dsimp only at c0 c1 c2 c3 c4 c5
      obtain ⟨Eb, hEbb⟩ : ∃ Eb, Eb = wr.heap.size := ⟨_, rfl⟩
      obtain ⟨wE, hwE⟩ : ∃ wE, wE = wr.alloc (.cells #[.int .i64 g, .int .i64 r, .string lb, .int .i64 n, .int .i64 ix, .string xt] 33) := ⟨_, rfl⟩
      have rE : wE.heap[Eb]? = some (.cells #[.int .i64 g, .int .i64 r, .string lb, .int .i64 n, .int .i64 ix, .string xt] 33 (0, 0)) := by rw [hwE, hEbb]; exact heap_alloc_new wr _
      have bE : Below wr.heap.size wr wE := by rw [hwE]; exact (Below.refl _ wr).alloc (Nat.le_refl _) _
      have hk109 := hky xt (g, r, lb, n, ix) wE
      have hIE := HI.out.1.below bE
      have HB : Hid (∀ W, Below wE.heap.size wE W → W.heap[Eb]? = some (.cells #[.int .i64 g, .int .i64 r, .string lb, .int .i64 n, .int .i64 ix, .string xt] 33 (0, 0)) ∧ OJ w0 Mb ((l.take j).map Prod.fst) ((l.take j).map fun x => tkey x.2 x.1) ((l.take j).map Prod.snd) u5 u6 W) := hide (fun W hW => ⟨(hW.block _ (gI rE).1).trans rE, hIE.below hW⟩)
      have q53 : ∀ W : World, W.heap[Eb]? = some (.cells #[.int .i64 g, .int .i64 r, .string lb, .int .i64 n, .int .i64 ix, .string xt] 33 (0, 0)) → W.cell? ⟨Eb, 0, none⟩ = some (.int .i64 g) ∧ W.cell? ⟨Eb, 1, none⟩ = some (.int .i64 r) ∧ W.cell? ⟨Eb, 2, none⟩ = some (.string lb) ∧ W.cell? ⟨Eb, 3, none⟩ = some (.int .i64 n) ∧ W.cell? ⟨Eb, 4, none⟩ = some (.int .i64 ix) ∧ W.cell? ⟨Eb, 5, none⟩ = some (.string xt) := fun W this =>
        ⟨(cell_of_row _ _ 0 _ 33 (0, 0) this).trans rfl, (cell_of_row _ _ 1 _ 33 (0, 0) this).trans rfl, (cell_of_row _ _ 2 _ 33 (0, 0) this).trans rfl, (cell_of_row _ _ 3 _ 33 (0, 0) this).trans rfl, (cell_of_row _ _ 4 _ 33 (0, 0) this).trans rfl, (cell_of_row _ _ 5 _ 33 (0, 0) this).trans rfl⟩
      obtain ⟨e0, e1, e2, e3, e4, e5⟩ := q53 wE rE
      have HQ := hide q53
      have HWE := hide hwE
      have HEB := hide hEbb
      have HX := hide hx
      have HJ : Hid (j < N ∧ N ≤ 400 ∧ N = l.length) := hide ⟨hlt, hNb, HS.out.2.2.1⟩
      have HOUT : Hid (∀ W, Below w0.heap.size w0 W → (okEl ((g, r, lb, n, ix), xt) = false ∨ seen (g, r, lb, n, ix) ((l.take j).map Prod.fst) = true) → OfT w l (.returned (.tuple #[.agg #[.pointer none], .int .i64 2])) (W.setCell ⟨Rb, 0, none⟩ (.pointer none))) := hide (fun W hW ho => (HBAD.out W hW).2.2.out.2 (by
        rcases ho with ho | ho
        · exact goodT_bad (List.mem_of_getElem? HX.out) ho
        · exact goodT_seen HX.out ho))
      subst hao
      clear hx hEbb hwE rE bE q53 hIE hky hj hre hlt
      obtain ⟨V, hV⟩ : ∃ V, V = okEl ((g, r, lb, n, ix), xt) := ⟨_, rfl⟩
      rw [← hV] at hk109
      have HV := hide hV
      dsimp only [svT, sv] at hk109
      obtain ⟨SN, hSN⟩ : ∃ SN, SN = seen (g, r, lb, n, ix) ((l.take j).map Prod.fst) := ⟨_, rfl⟩
      have HLK : Hid (∀ W, Sm W Mb ((l.take j).map Prod.fst) → (Instr.lookup 70 (.map (some Mb)) (.agg #[.int .i64 g, .int .i64 r, .string lb, .int .i64 n, .int .i64 ix]) true).run Tryz.prog W = .ok (.tuple #[.agg #[], .bool SN]) W) := hide (fun W hW => by rw [hSN]; exact hW.lookup (g, r, lb, n, ix))
      have HSN := hide hSN
      obtain ⟨xk, hxk⟩ : ∃ xk, xk = keyE ((g, r, lb, n, ix), xt) := ⟨_, rfl⟩
      rw [← hxk] at hk109
      have HXK := hide hxk
      clear hV hxk hSN
      go_upto_region 6 with fail
      rw [← HEB.out, ← HWE.out]
      go_upto_region 7 with (go_at_call 5; refine hk109.mono ?_; rintro e w1 ⟨rfl, b1⟩; have H1 := hide (And.intro b1 (HB.out w1 b1)); clear b1; dsimp only)
      clear hk109 e0 e1 e2 e3 e4 e5
      obtain ⟨f0, f1, f2, f3, f4, f5⟩ := HQ.out w1 H1.out.2.1
      have hlk := HLK.out w1 H1.out.2.2.m
      go_upto_region 8 with fail
      clear hlk f1 f2 f3 f4
      obtain ⟨w2, hw2⟩ : ∃ q, q = w1.alloc (.cells #[] 71) := ⟨_, rfl⟩
      rw [← hw2]
      have b2 : Below w1.heap.size w1 w2 := by rw [hw2]; exact (Below.refl _ w1).alloc (Nat.le_refl _) _
      have r2 := (b2.block _ (gI H1.out.2.1).1).trans H1.out.2.1
      have I2 := H1.out.2.2.below b2
      obtain ⟨y1, y2, hy⟩ := HBAD.out w2 I2.low
      have HY := hide hy
      have HO2 := hide (HOUT.out w2 I2.low)
      obtain ⟨g0, g1, g2, g3, g4, g5⟩ := HQ.out w2 r2
      have H2 := hide (And.intro r2 I2)
      clear hw2 b2 r2 I2 hy f0 f5
      cases V with
      | false =>
        simp only [Bool.false_eq_true, if_false]
        cases SN with
        | true =>
          clear g0 g1 g2 g3 g4 g5
          go_wp2
          refine ret_row_tmp Rb [.pointer none] rfl rfl rfl Tryz.underlying43 rfl T27 HY.out.out.1 rfl ?_
          exact HO2.out (.inl HV.out.symm)
        | false =>
          clear g0 g1 g2 g3 g4 g5
          go_wp2
          refine ret_row_tmp Rb [.pointer none] rfl rfl rfl Tryz.underlying43 rfl T27 HY.out.out.1 rfl ?_
          exact HO2.out (.inl HV.out.symm)
      | true =>
        simp only [if_true]
        cases SN with
        | true =>
          clear g0 g1 g2 g3 g4 g5
          go_wp2
          refine ret_row_tmp Rb [.pointer none] rfl rfl rfl Tryz.underlying43 rfl T27 HY.out.out.1 rfl ?_
          exact HO2.out (.inr HSN.out.symm)
        | false =>
          clear y1 y2 HY HO2
          obtain ⟨w3, hr3, I3, o3⟩ := H2.out.2.put (g, r, lb, n, ix) HSN.out.symm
          dsimp only [svT, sv] at hr3
          have hEM : Eb ≠ Mb := fun e => by have h1 := HEB.out; have h2 := HI.out.1.m.lt; omega
          have r3 := (o3.block _ (gI H2.out.1).1 hEM).trans H2.out.1
          have H3 := hide (And.intro r3 I3)
          clear I3 o3 hEM r3
          go_upto_region 11 with fail
          obtain ⟨ks, hks⟩ : ∃ ks, ks = (l.take j).map (fun x => tkey x.2 x.1) := ⟨_, rfl⟩
          obtain ⟨ts, hts⟩ : ∃ ts, ts = (l.take j).map Prod.snd := ⟨_, rfl⟩
          obtain ⟨ss, hss⟩ : ∃ ss, ss = (l.take j).map Prod.fst ++ [(g, r, lb, n, ix)] := ⟨_, rfl⟩
          have I1 : OJ w0 Mb ss ks ts u5 u6 w3 := by rw [hks, hts, hss]; exact H3.out.2
          have HLN : Hid (ks.length ≤ 400 ∧ ts.length ≤ 400) := hide (by rw [hks, hts]; have := HJ.out; simp; omega)
          have HNE : Hid (¬ u5.ownBlock = some Eb ∧ ¬ u6.ownBlock = some Eb) := hide ⟨HI.out.1.notK (by rw [HEB.out]; exact Nat.le_refl _), HI.out.1.notT (by rw [HEB.out]; exact Nat.le_refl _)⟩
          have HNX : Hid (∀ kv' tv' W', OJ w0 Mb ss (ks ++ [xk]) (ts ++ [xt]) kv' tv' W' → OJ w0 Mb ((l.take (j + 1)).map Prod.fst) ((l.take (j + 1)).map fun x => tkey x.2 x.1) ((l.take (j + 1)).map Prod.snd) kv' tv' W' ∧ (l.take (j + 1)).all okEl = true ∧ ((l.take (j + 1)).map Prod.fst).Nodup) := hide (fun kv' tv' W' h => by
            refine ⟨?_, ?_, nodup_step HX.out HSN.out.symm HI.out.2.2⟩
            · rw [List.take_add_one, HX.out]
              simp only [Option.toList, List.map_append, List.map_cons, List.map_nil]
              rw [← hks, ← hts, ← hss, show tkey xt (g, r, lb, n, ix) = xk by rw [HXK.out, keyE, ← HV.out, if_pos rfl]]
              exact h
            · rw [List.take_add_one, HX.out]
              simp only [Option.toList, List.all_append, List.all_cons, List.all_nil, Bool.and_true, Bool.and_eq_true]
              exact ⟨HI.out.2.1, HV.out.symm⟩)
          obtain ⟨Wd, hWd⟩ : ∃ Wd, Wd = w3.drew := ⟨_, rfl⟩
          have I0 : OJ w0 Mb ss ks ts u5 u6 Wd := by rw [hWd]; exact I1.below (drew_below w3)
          have HNW : Hid ((∀ q, Wd.heap.size ≤ q → ¬ u5.ownBlock = some q) ∧ (∀ q, Wd.heap.size ≤ q → ¬ u6.ownBlock = some q)) := hide ⟨fun q hq => I0.notK hq, fun q hq => I0.notT hq⟩
          obtain ⟨-, -, -, -, -, f5⟩ := HQ.out w3 H3.out.1
          have qd : w3.drew.cell? ⟨Eb, 5, none⟩ = some (.string xt) := f5
          clear g0 g1 g2 g3 g4 g5 f5 I1 hks hts hss hr3 HQ H1 H2 H3 HOUT HBAD HB HLK c0 c1 c2 c3 c4 c5
          refine wp_region_held_drew (S := fun w' => w'.cell? ⟨Eb, 5, none⟩ = some (.string xt)) (by kernel_rfl) qd (fun hHeld => ?_)
          clear qd
          rw [← hWd] at hHeld ⊢
          clear hWd
          refine take_op (i := 0) (d := 47) (OP := Op.move (Operand.tmp 5)) (T := 50) (v := ?v1) rfl rfl rfl rfl (by kernel_rfl) (by kernel_rfl) (by kernel_rfl) (fun _ _ _ h => h) (by rfl) ?h1 hHeld ?r1
          case h1 => (intro w' hSw; (try dsimp only at hSw); go_simp <;> with_reducible rfl)
          try simp only [Act.put, sI, sZ, sS]
          refine take_op (i := 1) (d := 48) (OP := Op.move (Operand.tmp 9)) (T := 9) (v := ?v2) rfl rfl rfl rfl (by kernel_rfl) (by kernel_rfl) (by kernel_rfl) (fun _ _ _ h => h) (by rfl) ?h2 hHeld ?r2
          case h2 => (intro w' hSw; (try dsimp only at hSw); go_simp <;> with_reducible rfl)
          try simp only [Act.put, sI, sZ, sS]
          refine take_op (i := 4) (d := 51) (OP := Op.move (Operand.tmp 6)) (T := 50) (v := ?v3) rfl rfl rfl rfl (by kernel_rfl) (by kernel_rfl) (by kernel_rfl) (fun _ _ _ h => h) (by rfl) ?h3 hHeld ?r3
          case h3 => (intro w' hSw; (try dsimp only at hSw); go_simp <;> with_reducible rfl)
          try simp only [Act.put, sI, sZ, sS]
          refine take_op (i := 5) (d := 52) (OP := Op.fieldAddr 33 (Operand.tmp 8) 1) (T := 0) (v := ?v4) rfl rfl rfl rfl (by kernel_rfl) (by kernel_rfl) (by kernel_rfl) (fun _ _ _ h => h) (by rfl) ?h4 hHeld ?r4
          case h4 => (intro w' hSw; (try dsimp only at hSw); go_simp <;> with_reducible rfl)
          try simp only [Act.put, sI, sZ, sS]
          refine take_op (i := 6) (d := 53) (OP := Op.load 9 (Operand.tmp 52)) (T := 9) (v := ?v5) rfl rfl rfl rfl (by kernel_rfl) (by kernel_rfl) (by kernel_rfl) (fun _ _ _ h => h) (by rfl) ?h5 hHeld ?r5
          case h5 => (intro w' hSw; (try dsimp only at hSw); go_simp <;> with_reducible rfl)
          try simp only [Act.put, sI, sZ, sS]
          obtain ⟨z1, hz1⟩ : ∃ q, q = Wd.alloc (.cells #[.string xk] 9) := ⟨_, rfl⟩
          have rz1 : z1.heap[Wd.heap.size]? = some (.cells #[.string xk] 9 (0, 0)) := by rw [hz1]; exact heap_alloc_new Wd _
          have bz1 : Below Wd.heap.size Wd z1 := by rw [hz1]; exact (Below.refl _ Wd).alloc (Nat.le_refl _) _
          have iz1 := I0.below bz1
          have sz1 : z1.cell? ⟨Eb, 5, none⟩ = some (.string xt) := cell_stays hHeld bz1
          obtain ⟨y1, hy1⟩ : ∃ q, q = Wd.alloc (.cells #[.string xt] 9) := ⟨_, rfl⟩
          have ry1 : y1.heap[Wd.heap.size]? = some (.cells #[.string xt] 9 (0, 0)) := by rw [hy1]; exact heap_alloc_new Wd _
          have by1 : Below Wd.heap.size Wd y1 := by rw [hy1]; exact (Below.refl _ Wd).alloc (Nat.le_refl _) _
          have iy1 := I0.below by1
          have sy1 : y1.cell? ⟨Eb, 5, none⟩ = some (.string xt) := cell_stays hHeld by1
          refine turn2_op (i := 2) (di := 49) (OPi := Op.buildSlice 50 1 #[(0, Operand.tmp 48)]) (Ti := 50) (j := 7) (dj := 54) (OPj := Op.buildSlice 50 1 #[(0, Operand.tmp 53)]) (Tj := 50) (v := .slice (some ⟨Wd.heap.size, 0, none⟩) 1 1) (u := .slice (some ⟨Wd.heap.size, 0, none⟩) 1 1) (wi := z1) (wj := y1) rfl rfl rfl rfl rfl rfl rfl rfl (by kernel_rfl) (by rfl) (by rfl) (by rw [hz1]; exact exec_bs9 rfl) (by rw [hy1]; exact exec_bs9 rfl) sz1 sy1 ?_ ?_
          · try simp only [Act.put, sI, sZ, sS]
            obtain ⟨Ka, Kc, z2, hrz2, iz2, oz2⟩ := iz1.pushK (by have := HLN.out; omega) rz1
            have sz2 : z2.cell? ⟨Eb, 5, none⟩ = some (.string xt) := (World.cell?_of_block (oz2.block Eb (World.block_lt_of_cell? _ _ sz1) (HNE.out.1))).trans sz1
            obtain ⟨y2, hy2⟩ : ∃ q, q = z1.alloc (.cells #[.string xt] 9) := ⟨_, rfl⟩
            have ry2 : y2.heap[z1.heap.size]? = some (.cells #[.string xt] 9 (0, 0)) := by rw [hy2]; exact heap_alloc_new z1 _
            have by2 : Below z1.heap.size z1 y2 := by rw [hy2]; exact (Below.refl _ z1).alloc (Nat.le_refl _) _
            have iy2 := iz1.below by2
            have sy2 : y2.cell? ⟨Eb, 5, none⟩ = some (.string xt) := cell_stays sz1 by2
            refine turn2_op (i := 3) (di := 50) (OPi := Op.call { callee := Callee.builtin Builtin.append, args := #[Operand.tmp 47, Operand.tmp 49], argTypes := #[50, 50] }) (Ti := 50) (j := 7) (dj := 54) (OPj := Op.buildSlice 50 1 #[(0, Operand.tmp 53)]) (Tj := 50) (v := .slice Ka (ks.length + 1) Kc) (u := .slice (some ⟨z1.heap.size, 0, none⟩) 1 1) (wi := z2) (wj := y2) rfl rfl rfl rfl rfl rfl rfl rfl (by kernel_rfl) (by rfl) (by rfl) (exec_append rfl rfl hrz2) (by rw [hy2]; exact exec_bs9 rfl) sz2 sy2 ?_ ?_
            · try simp only [Act.put, sI, sZ, sS]
              obtain ⟨z3, hz3⟩ : ∃ q, q = z2.alloc (.cells #[.string xt] 9) := ⟨_, rfl⟩
              have rz3 : z3.heap[z2.heap.size]? = some (.cells #[.string xt] 9 (0, 0)) := by rw [hz3]; exact heap_alloc_new z2 _
              have bz3 : Below z2.heap.size z2 z3 := by rw [hz3]; exact (Below.refl _ z2).alloc (Nat.le_refl _) _
              have iz3 := iz2.below bz3
              have sz3 : z3.cell? ⟨Eb, 5, none⟩ = some (.string xt) := cell_stays sz2 bz3
              refine turn_op (i := 7) (d := 54) (OP := Op.buildSlice 50 1 #[(0, Operand.tmp 53)]) (T := 50) (v := .slice (some ⟨z2.heap.size, 0, none⟩) 1 1) (w' := z3) rfl rfl rfl rfl (by kernel_rfl) (by rfl) (by rw [hz3]; exact exec_bs9 rfl) sz3 ?_
              try simp only [Act.put, sI, sZ, sS]
              obtain ⟨Ta, Tc, z4, hrz4, iz4, oz4⟩ := iz3.pushT (by have := HLN.out; omega) rz3
              have sz4 : z4.cell? ⟨Eb, 5, none⟩ = some (.string xt) := (World.cell?_of_block (oz4.block Eb (World.block_lt_of_cell? _ _ sz3) (HNE.out.2))).trans sz3
              refine turn_op (i := 8) (d := 55) (OP := Op.call { callee := Callee.builtin Builtin.append, args := #[Operand.tmp 51, Operand.tmp 54], argTypes := #[50, 50] }) (T := 50) (v := .slice Ta (ts.length + 1) Tc) (w' := z4) rfl rfl rfl rfl (by kernel_rfl) (by rfl) (exec_append rfl rfl hrz4) sz4 ?_
              try simp only [Act.put, sI, sZ, sS]
              refine take_op (i := 9) (d := 5) (OP := Op.assign (Operand.tmp 50)) (T := 50) (v := ?v6) rfl rfl rfl rfl (by kernel_rfl) (by kernel_rfl) (by kernel_rfl) (fun _ _ _ h => h) (by rfl) ?h6 sz4 ?r6
              case h6 => (intro w' hSw; (try dsimp only at hSw); go_simp <;> with_reducible rfl)
              try simp only [Act.put, sI, sZ, sS]
              refine take_op (i := 10) (d := 6) (OP := Op.assign (Operand.tmp 55)) (T := 50) (v := ?v7) rfl rfl rfl rfl (by kernel_rfl) (by kernel_rfl) (by kernel_rfl) (fun _ _ _ h => h) (by rfl) ?h7 sz4 ?r7
              case h7 => (intro w' hSw; (try dsimp only at hSw); go_simp <;> with_reducible rfl)
              try simp only [Act.put, sI, sZ, sS]
              refine wpAnyH_done (by kernel_rfl) ?_ _
              have HEND := hide (HNX.out _ _ _ iz4)
              clear hHeld HNE I0
              go_wp2
              go_roundw
              case rel => exact ⟨j + 1, by have := HJ.out; omega, by go_num, HEND⟩
              case measure => have := HJ.out; simp [intOf]; omega
            · try simp only [Act.put, sI, sZ, sS]
              have rk2 := (by2.block _ (gI rz1).1).trans rz1
              obtain ⟨La, Lc, z5, hrz5, iz5, oz5⟩ := iy2.pushK (by have := HLN.out; omega) rk2
              have sz5 : z5.cell? ⟨Eb, 5, none⟩ = some (.string xt) := (World.cell?_of_block (oz5.block Eb (World.block_lt_of_cell? _ _ sy2) (HNE.out.1))).trans sy2
              refine turn_op (i := 3) (d := 50) (OP := Op.call { callee := Callee.builtin Builtin.append, args := #[Operand.tmp 47, Operand.tmp 49], argTypes := #[50, 50] }) (T := 50) (v := .slice La (ks.length + 1) Lc) (w' := z5) rfl rfl rfl rfl (by kernel_rfl) (by rfl) (exec_append rfl rfl hrz5) sz5 ?_
              try simp only [Act.put, sI, sZ, sS]
              have rt5 := (oz5.block _ (gI ry2).1 (HNW.out.1 _ (by have := bz1.size; omega))).trans ry2
              obtain ⟨Ta, Tc, z6, hrz6, iz6, oz6⟩ := iz5.pushT (by have := HLN.out; omega) rt5
              have sz6 : z6.cell? ⟨Eb, 5, none⟩ = some (.string xt) := (World.cell?_of_block (oz6.block Eb (World.block_lt_of_cell? _ _ sz5) (HNE.out.2))).trans sz5
              refine turn_op (i := 8) (d := 55) (OP := Op.call { callee := Callee.builtin Builtin.append, args := #[Operand.tmp 51, Operand.tmp 54], argTypes := #[50, 50] }) (T := 50) (v := .slice Ta (ts.length + 1) Tc) (w' := z6) rfl rfl rfl rfl (by kernel_rfl) (by rfl) (exec_append rfl rfl hrz6) sz6 ?_
              try simp only [Act.put, sI, sZ, sS]
              refine take_op (i := 9) (d := 5) (OP := Op.assign (Operand.tmp 50)) (T := 50) (v := ?v8) rfl rfl rfl rfl (by kernel_rfl) (by kernel_rfl) (by kernel_rfl) (fun _ _ _ h => h) (by rfl) ?h8 sz6 ?r8
              case h8 => (intro w' hSw; (try dsimp only at hSw); go_simp <;> with_reducible rfl)
              try simp only [Act.put, sI, sZ, sS]
              refine take_op (i := 10) (d := 6) (OP := Op.assign (Operand.tmp 55)) (T := 50) (v := ?v9) rfl rfl rfl rfl (by kernel_rfl) (by kernel_rfl) (by kernel_rfl) (fun _ _ _ h => h) (by rfl) ?h9 sz6 ?r9
              case h9 => (intro w' hSw; (try dsimp only at hSw); go_simp <;> with_reducible rfl)
              try simp only [Act.put, sI, sZ, sS]
              refine wpAnyH_done (by kernel_rfl) ?_ _
              have HEND := hide (HNX.out _ _ _ iz6)
              clear hHeld HNE I0
              go_wp2
              go_roundw
              case rel => exact ⟨j + 1, by have := HJ.out; omega, by go_num, HEND⟩
              case measure => have := HJ.out; simp [intOf]; omega
          · try simp only [Act.put, sI, sZ, sS]
            obtain ⟨y3, hy3⟩ : ∃ q, q = y1.alloc (.cells #[.string xk] 9) := ⟨_, rfl⟩
            have ry3 : y3.heap[y1.heap.size]? = some (.cells #[.string xk] 9 (0, 0)) := by rw [hy3]; exact heap_alloc_new y1 _
            have by3 : Below y1.heap.size y1 y3 := by rw [hy3]; exact (Below.refl _ y1).alloc (Nat.le_refl _) _
            have iy3 := iy1.below by3
            have sy3 : y3.cell? ⟨Eb, 5, none⟩ = some (.string xt) := cell_stays sy1 by3
            refine turn_op (i := 2) (d := 49) (OP := Op.buildSlice 50 1 #[(0, Operand.tmp 48)]) (T := 50) (v := .slice (some ⟨y1.heap.size, 0, none⟩) 1 1) (w' := y3) rfl rfl rfl rfl (by kernel_rfl) (by rfl) (by rw [hy3]; exact exec_bs9 rfl) sy3 ?_
            try simp only [Act.put, sI, sZ, sS]
            obtain ⟨Ka, Kc, y4, hry4, iy4, oy4⟩ := iy3.pushK (by have := HLN.out; omega) ry3
            have sy4 : y4.cell? ⟨Eb, 5, none⟩ = some (.string xt) := (World.cell?_of_block (oy4.block Eb (World.block_lt_of_cell? _ _ sy3) (HNE.out.1))).trans sy3
            refine turn_op (i := 3) (d := 50) (OP := Op.call { callee := Callee.builtin Builtin.append, args := #[Operand.tmp 47, Operand.tmp 49], argTypes := #[50, 50] }) (T := 50) (v := .slice Ka (ks.length + 1) Kc) (w' := y4) rfl rfl rfl rfl (by kernel_rfl) (by rfl) (exec_append rfl rfl hry4) sy4 ?_
            try simp only [Act.put, sI, sZ, sS]
            have rt3 := (by3.block _ (gI ry1).1).trans ry1
            have rt4 := (oy4.block _ (gI rt3).1 (HNW.out.1 _ (Nat.le_refl _))).trans rt3
            obtain ⟨Ta, Tc, y5, hry5, iy5, oy5⟩ := iy4.pushT (by have := HLN.out; omega) rt4
            have sy5 : y5.cell? ⟨Eb, 5, none⟩ = some (.string xt) := (World.cell?_of_block (oy5.block Eb (World.block_lt_of_cell? _ _ sy4) (HNE.out.2))).trans sy4
            refine turn_op (i := 8) (d := 55) (OP := Op.call { callee := Callee.builtin Builtin.append, args := #[Operand.tmp 51, Operand.tmp 54], argTypes := #[50, 50] }) (T := 50) (v := .slice Ta (ts.length + 1) Tc) (w' := y5) rfl rfl rfl rfl (by kernel_rfl) (by rfl) (exec_append rfl rfl hry5) sy5 ?_
            try simp only [Act.put, sI, sZ, sS]
            refine take_op (i := 9) (d := 5) (OP := Op.assign (Operand.tmp 50)) (T := 50) (v := ?v10) rfl rfl rfl rfl (by kernel_rfl) (by kernel_rfl) (by kernel_rfl) (fun _ _ _ h => h) (by rfl) ?h10 sy5 ?r10
            case h10 => (intro w' hSw; (try dsimp only at hSw); go_simp <;> with_reducible rfl)
            try simp only [Act.put, sI, sZ, sS]
            refine take_op (i := 10) (d := 6) (OP := Op.assign (Operand.tmp 55)) (T := 50) (v := ?v11) rfl rfl rfl rfl (by kernel_rfl) (by kernel_rfl) (by kernel_rfl) (fun _ _ _ h => h) (by rfl) ?h11 sy5 ?r11
            case h11 => (intro w' hSw; (try dsimp only at hSw); go_simp <;> with_reducible rfl)
            try simp only [Act.put, sI, sZ, sS]
            refine wpAnyH_done (by kernel_rfl) ?_ _
            have HEND := hide (HNX.out _ _ _ iy5)
            clear hHeld HNE I0
            go_wp2
            go_roundw
            case rel => exact ⟨j + 1, by have := HJ.out; omega, by go_num, HEND⟩
            case measure => have := HJ.out; simp [intOf]; omega
    · have hjN : j = N := by omega
      have z1 : ¬ (j : Int) < (N : Int) := by omega
      have z2 : decide ((j : Int) < (N : Int)) = false := by simpa using z1
      obtain ⟨hoi, hall, hnd⟩ := HI.out
      have htl : l.take j = l := by rw [hjN, HS.out.2.2.1, List.take_length]
      rw [htl] at hoi hall hnd
      have hof := of_tags (w := wr) rfl rfl hall hnd (by have := HS.out; omega) hoi.k.cs hoi.t.cs
      have HLOW := hide hoi.low
      obtain ⟨ec0, hec0⟩ : ∃ ec0 : Int, ec0 = 0 := ⟨_, rfl⟩
      clear hoi hall hnd htl HI hjN hec0 hky
      go_wp2_with (go_at_call 29; refine hof.mono ?_; rintro e w5 ⟨t, ec, pt, hpt, rfl, b5, hec, hmg, hp1, hp2⟩; obtain ⟨y1, y2, -⟩ := HBAD.out w5 (HLOW.out.trans (b5.mono HLOW.out.size)); have H5 := hide (And.intro hpt (And.intro b5 (And.intro hec (And.intro hmg (And.intro hp1 hp2))))); clear hpt b5 hec hmg hp1 hp2; dsimp only)
      obtain ⟨hpt, b5, hec, hmg, hp1, hp2⟩ := H5.out
      have bl := HLOW.out.trans (b5.mono HLOW.out.size)
      have q2 := (bl.block _ (gI HM.out.1).1).trans HM.out.1
      have q3 := HM.out.2.1.trans (bl.mono HM.out.2.1.size)
      obtain ⟨u, o⟩ := set_one (i := 0) (.pointer pt) q2
      refine ret_row_tmp Rb [.pointer pt] rfl rfl rfl Tryz.underlying43 rfl T27 (by simpa using u) rfl ?_
      refine ⟨t, ?_, ⟨Pm.In.aside q2 o hmg.inn, hmg.srt, hmg.bal, hmg.few, hmg.key⟩, Below.only q3 o q3.size (fun k e => by have e' : k = Rb := e; have := HS.out; omega), hp1, hp2.1, hp2.2.mono (Nat.le_trans HM.out.2.1.size HLOW.out.size)⟩
      unfold Pm.mv
      rw [hpt, ← hec]
      rfl
end Go.Proofs.YtkkpdgfllnbigaaGreatDoor.Tg
namespace Go.Proofs.YtkkpdgfllnbigaaGreatDoor.Tg
open Go.RowKit Go.Shelf
set_option linter.unusedSimpArgs false
set_option linter.unusedVariables false
attribute [local go_sem] Oper.semAt_some

end Go.Proofs.YtkkpdgfllnbigaaGreatDoor.Tg
namespace Go.Proofs.YtkkpdgfllnbigaaGreatDoor
open Go.RowKit Go.Shelf
set_option linter.unusedSimpArgs false
attribute [local go_sem] Oper.semAt_some

theorem fld53 (a b c d e f : Value) (w : World) : (Instr.field 33 (.agg #[a, b, c, d, e, f]) 0).run Tryz.prog w = .ok (.agg #[a, b, c, d, e]) w := by
  kernel_rfl
theorem exec_fld53 {ev' : Operand → Value} {x : Operand} {T : TypeId} {w : World} {a b c d e f : Value} (hx : ev' x = .agg #[a, b, c, d, e, f]) : (execOp ev' { dst := none, op := .field 33 x 0, type := T, pos := "", after := #[], guard := none }).run Tryz.prog w = .ok (.value (.agg #[a, b, c, d, e])) w := by
  simp [execOp, hx, fld53, Result.andThen]
end Go.Proofs.YtkkpdgfllnbigaaGreatDoor
