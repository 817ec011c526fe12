/-
  journal: the walk of JournalAppends (13).
-/
import Derived.Test.YtkkpdgfllnbigaaGreatMg23
namespace Go.Proofs.YtkkpdgfllnbigaaGreat.Jo
open Go.RowKit Go.Shelf
set_option linter.unusedSimpArgs false
attribute [local go_sem] Oper.semAt_some

theorem cell_lt8' {w : World} {b o : Nat} {u : Value} (h : w.cell? ⟨b, o, none⟩ = some u) : b < w.heap.size := by
  by_cases hb : b < w.heap.size
  · exact hb
  · exfalso
    have : w.heap[b]? = none := Array.getElem?_eq_none (by omega)
    simp [World.cell?, this] at h
set_option maxHeartbeats 16000000 in
set_option maxRecDepth 100000 in
theorem appends13 {w : World} {ao bo : Option Addr} {c d : Nat} (l ws : List El) (s : St) (h : Re w ao l) (k : Re w bo ws) (hs : ∀ x ∈ l, x.1.2.2.1.size ≤ 9223372036854775807) (ks : ∀ x ∈ ws, x.1.2.2.1.size ≤ 9223372036854775807) (hss : s.2.2.1.size ≤ 9223372036854775807) : Calls Tryz.prog 13 #[.slice ao l.length c, .slice bo ws.length d, svT s] w fun e w' => e = .returned (.bool true) ∧ Below w.heap.size w w' := by
  obtain ⟨g, r, lb, n, ix⟩ := s
  obtain ⟨N, hN⟩ : ∃ N, N = l.length := ⟨_, rfl⟩
  obtain ⟨M, hMM⟩ : ∃ M, M = ws.length := ⟨_, rfl⟩
  obtain ⟨w0, hw0⟩ : ∃ q, q = w.alloc (.cells #[.int .i64 g, .int .i64 r, .string lb, .int .i64 n, .int .i64 ix] 43) := ⟨_, rfl⟩
  have m0 := heap_alloc_new w (.cells #[.int .i64 g, .int .i64 r, .string lb, .int .i64 n, .int .i64 ix] 43)
  rw [← hw0] at m0
  have b0 : Below w.heap.size w w0 := by rw [hw0]; exact (Below.refl _ w).alloc (Nat.le_refl _) _
  obtain ⟨Sb, hSb⟩ : ∃ q, q = w.heap.size := ⟨_, rfl⟩
  rw [← hSb] at m0
  have HC : Hid (∀ W, Below w0.heap.size w0 W → W.cell? ⟨Sb, 0, none⟩ = some (.int .i64 g) ∧ W.cell? ⟨Sb, 1, none⟩ = some (.int .i64 r) ∧ W.cell? ⟨Sb, 2, none⟩ = some (.string lb) ∧ W.cell? ⟨Sb, 3, none⟩ = some (.int .i64 n) ∧ W.cell? ⟨Sb, 4, none⟩ = some (.int .i64 ix) ∧ Below w.heap.size w W) := hide (fun W hW => ⟨cell_stays ((cell_of_row _ _ 0 _ 43 (0, 0) m0).trans rfl) hW, cell_stays ((cell_of_row _ _ 1 _ 43 (0, 0) m0).trans rfl) hW, cell_stays ((cell_of_row _ _ 2 _ 43 (0, 0) m0).trans rfl) hW, cell_stays ((cell_of_row _ _ 3 _ 43 (0, 0) m0).trans rfl) hW, cell_stays ((cell_of_row _ _ 4 _ 43 (0, 0) m0).trans rfl) hW, b0.trans (hW.mono b0.size)⟩)
  have HW0 := hide (And.intro hw0 (And.intro hSb b0))
  have HL := hide (And.intro hN (And.intro hMM (And.intro h (And.intro k (And.intro hs ks)))))
  rw [← hN, ← hMM]
  dsimp only [svT, sv]
  by_cases h60 : 60 < N
  · have z1 : (60 : Int) < (N : Int) := by omega
    have z2 : decide (60 < N) = true := by simpa using h60
    clear h k hs ks hN hMM m0 hw0 hSb b0
    go_enter Tryz.func13, Tryz.ntmps13
    go_upto_region 1 with fail
    rw [← HW0.out.1]
    go_wp2_with (go_at_call 84; refine (known84 _).mono ?_; rintro e w1 ⟨rfl, b1⟩; have H1 := hide b1; clear b1; dsimp only)
    go_ret
    exact ⟨rfl, (HC.out _ H1.out).2.2.2.2.2⟩
  · have z1 : ¬ (60 : Int) < (N : Int) := by omega
    have z2 : decide (60 < N) = false := by simpa using h60
    have hof := jofP (c := c) l (h.below b0) (by omega)
    rw [← hN] at hof
    have hmy := fun W (hW : Below w0.heap.size w0 W) => refMay14 (c := c) l (h.below (b0.trans (hW.mono b0.size))) (by omega) hs
    rw [mayE_good l, ← hN] at hmy
    have hso := fun W (hW : Below w0.heap.size w0 W) (hg : goodL l = true) => refSorted14 (c := c) l (h.below (b0.trans (hW.mono b0.size))) (by omega) (by rw [mayE_good]; exact hg)
    rw [← hN] at hso
    cases hg : goodL l with
    | false =>
      rw [hg] at hof hmy
      rw [if_neg (by decide)] at hof
      clear h k hs ks hN hMM m0 hw0 hSb b0 hso hg
      go_enter Tryz.func13, Tryz.ntmps13
      go_upto_region 1 with fail
      rw [← HW0.out.1]
      go_upto_region 4 with (go_at_call 85; refine hof.mono ?_; rintro e w1 ⟨t, pt, hpt, rfl, mg, -, hnil, b1⟩; have H1 := hide (And.intro hpt (And.intro mg (And.intro (hnil rfl) b1))); clear hpt mg hnil b1; dsimp only)
      obtain ⟨hpt, mg, hnil, b1⟩ := H1.out
      obtain ⟨B7, hB7⟩ : ∃ q, q = w1.heap.size := ⟨_, rfl⟩
      obtain ⟨W1, hW1⟩ : ∃ q, q = w1.alloc (.cells #[.pointer pt] 27) := ⟨_, rfl⟩
      have b31 : Below w1.heap.size w1 W1 := by rw [hW1]; exact (Below.refl _ w1).alloc (Nat.le_refl _) _
      have BX1 : Boxd W1 B7 pt t := ⟨by rw [hW1, hB7]; exact heap_alloc_new w1 _, hpt, mg.below b31⟩
      have bW1 : Below w0.heap.size w0 W1 := b1.trans (b31.mono b1.size)
      rw [← hW1, ← hB7]
      have hn0 : t.n = 0 := by rw [hnil]; rfl
      have hmy1 := hmy W1 bW1
      have HT := hide (And.intro BX1 (And.intro hn0 bW1))
      clear H1 hpt mg hnil b1 hB7 hW1 b31 BX1 bW1 hof hn0 hmy
      go_upto_region 5 with (go_at_call 86; refine hmy1.mono ?_; rintro e W2 ⟨rfl, b2⟩; replace HT := hide (And.intro (HT.out.1.below b2) (And.intro HT.out.2.1 (HT.out.2.2.trans (b2.mono HT.out.2.2.size)))); clear b2 hmy1; dsimp only)
      have cM := HT.out.1.cell
      have hlen := lenP HT.out.1.2.2 HT.out.1.2.1
      rw [HT.out.2.1] at hlen
      go_wp2_with (first
        | (go_at_call 87; refine (jnum35 _ _).mono ?_; rintro e wn ⟨rfl, rfl⟩; dsimp only)
        | (go_at_call 21; refine hlen.mono ?_; rintro e w3 ⟨rfl, b3⟩; have H3 := hide (HT.out.2.2.trans (b3.mono HT.out.2.2.size)); clear b3; dsimp only)
        | (go_at_call 84; refine (known84 _).mono ?_; rintro e w4 ⟨rfl, b4⟩; have H4 := hide (H3.out.trans (b4.mono H3.out.size)); clear b4; dsimp only))
      go_ret
      exact ⟨rfl, (HC.out _ H4.out).2.2.2.2.2⟩
    | true =>
      rw [hg] at hof hmy
      rw [if_pos rfl] at hof
      replace hso := fun W hW => hso W hW hg
      have HG := hide hg
      have hup : UpS (srtE l) := srtE_up l (by
        have := mayE_good l
        rw [hg] at this
        simp only [mayE, Bool.and_eq_true, decide_eq_true_eq] at this
        exact this.2)
      have HU := hide hup
      have HN60 := hide h60
      have HSS := hide hss
      clear h k hs ks hN hMM m0 hw0 hSb b0 hg hup h60 hss
      go_enter Tryz.func13, Tryz.ntmps13
      go_upto_region 1 with fail
      rw [← HW0.out.1, ← HW0.out.2.1]
      go_upto_region 4 with (go_at_call 85; refine hof.mono ?_; rintro e w1 ⟨t, pt, hpt, rfl, mg, hperm, -, b1⟩; have H1 := hide (And.intro hpt (And.intro mg (And.intro (And.intro (els_srt HG.out (hperm rfl) mg.srt) (hperm rfl).length_eq) b1))); clear hpt mg hperm b1; dsimp only)
      obtain ⟨hpt, mg, hnil, b1⟩ := H1.out
      obtain ⟨B7, hB7⟩ : ∃ q, q = w1.heap.size := ⟨_, rfl⟩
      obtain ⟨W1, hW1⟩ : ∃ q, q = w1.alloc (.cells #[.pointer pt] 27) := ⟨_, rfl⟩
      have b31 : Below w1.heap.size w1 W1 := by rw [hW1]; exact (Below.refl _ w1).alloc (Nat.le_refl _) _
      have BX1 : Boxd W1 B7 pt t := ⟨by rw [hW1, hB7]; exact heap_alloc_new w1 _, hpt, mg.below b31⟩
      have bW1 : Below w0.heap.size w0 W1 := b1.trans (b31.mono b1.size)
      rw [← hW1, ← hB7]
      have hn60 : t.n ≤ 60 := by have := hnil.2; rw [List.length_map, Pm.T.n_eq] at this; have := HL.out.1; have := HN60.out; omega
      have HB7 : Hid (w0.heap.size ≤ B7) := hide (by rw [hB7]; exact b1.size)
      have hmy1 := hmy W1 bW1
      have HT := hide (And.intro BX1 (And.intro hnil.1 (And.intro hn60 bW1)))
      clear H1 hpt mg hnil b1 hB7 hW1 b31 BX1 bW1 hof hn60 hmy
      go_upto_region 6 with (go_at_call 86; refine hmy1.mono ?_; rintro e W2 ⟨rfl, b2⟩; have HT2 := hide (And.intro (HT.out.1.below b2) (HT.out.2.2.2.trans (b2.mono HT.out.2.2.2.size))); clear b2 hmy1; dsimp only)
      have BX := HT2.out.1
      have bW2 := HT2.out.2
      have hsort : ∀ W, Below W2.heap.size W2 W → Calls Tryz.prog 88 #[.slice ao N c] W fun e w' => ∃ a8 c8, e = .returned (.slice a8 N c8) ∧ Re w' a8 (srtE l) ∧ (N ≤ c8 ∧ (a8 = none → c8 = 0)) ∧ Below W.heap.size W w' := fun W hW => (hso W (bW2.trans (hW.mono bW2.size))).mono (fun e w' ⟨a8, c8, he, ho, hb⟩ => ⟨a8, c8, he, ho.re, (by obtain ⟨a', c', e', -, h2, h3, -⟩ := ho.form; injection e' with e1 e2 e3; rw [e3, e2, e1]; exact ⟨h3, h2⟩), hb⟩)
      go_cut [9, 10, 38, 39, 40] (fun v9 v10 v38 v39 v40 wc => ∃ B9 a8 c8, v9 = .pointer (some ⟨B9, 0, none⟩) ∧ v10 = .slice a8 N c8 ∧ Hid (wc.heap[B9]? = some (.cells #[.pointer pt] 27 (0, 0)) ∧ Re wc a8 (srtE l) ∧ Below W2.heap.size W2 wc ∧ W2.heap.size ≤ B9 ∧ (N ≤ c8 ∧ (a8 = none → c8 = 0))))
      case first =>
        clear HT HT2 bW2 hso
        refine wp_region_held_drew (S := fun w' => Below W2.heap.size W2 w') (by kernel_rfl) (by exact drew_below W2) (fun hHeld => ?_)
        try dsimp only at hHeld
        generalize W2.drew = Wd at hHeld ⊢
        refine take_op (i := 0) (d := 38) (OP := Op.load 27 (Operand.tmp 7)) (T := 27) (v := .agg #[.pointer pt]) rfl rfl rfl rfl (by kernel_rfl) (by kernel_rfl) (by kernel_rfl) (fun _ _ _ h => h) (by rfl) ?hzw1 hHeld ?rzw1
        case hzw1 => (intro w' hSw; (try dsimp only at hSw); have lc := cell_stays BX.cell hSw; go_simp)
        try simp only [Act.put, sI, sZ, sS]
        refine take_op (i := 1) (d := 39) (OP := Op.move (Operand.tmp 0)) (T := 22) (v := ?vzw2) rfl rfl rfl rfl (by kernel_rfl) (by kernel_rfl) (by kernel_rfl) (fun _ _ _ h => h) (by rfl) ?hzw2 hHeld ?rzw2
        case hzw2 => (intro w' hSw; (try dsimp only at hSw); go_simp <;> with_reducible rfl)
        try simp only [Act.put, sI, sZ, sS]
        obtain ⟨y1, ey1⟩ : ∃ q, q = Wd.alloc (.cells #[.pointer none] 27) := ⟨_, rfl⟩
        have by1 : Below Wd.heap.size Wd y1 := by rw [ey1]; exact (Below.refl _ Wd).alloc (Nat.le_refl _) _
        have ry1 : y1.heap[Wd.heap.size]? = some (.cells #[.pointer none] 27 (0, 0)) := by rw [ey1]; exact heap_alloc_new Wd _
        have hy1 := hHeld.trans (by1.mono hHeld.size)
        refine call_turn_op (i := 2) (di := 40) (OPi := Op.call { callee := Callee.value (Operand.func 88), args := #[Operand.tmp 39], argTypes := #[22] }) (Ti := 22) (j := 3) (dj := 9) (OPj := Op.alloc 27) (Tj := 0) (f := 88) (args := #[.slice ao N c]) (u := .pointer (some ⟨Wd.heap.size, 0, none⟩)) (w' := y1) rfl rfl rfl rfl rfl rfl rfl rfl (by kernel_rfl) (by rfl) (by rfl) (by go_simp) (by rw [ey1]; exact exec_al27 Wd) hy1 ?_ ?_
        · refine (hsort _ hHeld).mono ?_
          rintro e z1 ⟨a8, c8, rfl, re8, hc8, bz⟩
          have hz1 := hHeld.trans (bz.mono hHeld.size)
          refine ⟨_, rfl, hz1, ?_⟩
          try simp only [Act.put, sI, sZ, sS]
          obtain ⟨z2, ez2⟩ : ∃ q, q = z1.alloc (.cells #[.pointer none] 27) := ⟨_, rfl⟩
          have bz2 : Below z1.heap.size z1 z2 := by rw [ez2]; exact (Below.refl _ z1).alloc (Nat.le_refl _) _
          have r9 : z2.heap[z1.heap.size]? = some (.cells #[.pointer none] 27 (0, 0)) := by rw [ez2]; exact heap_alloc_new z1 _
          have h9 := hz1.trans (bz2.mono hz1.size)
          refine turn_op (i := 3) (d := 9) (OP := Op.alloc 27) (T := 0) (v := .pointer (some ⟨z1.heap.size, 0, none⟩)) (w' := z2) rfl rfl rfl rfl (by kernel_rfl) (by rfl) (by rw [ez2]; exact exec_al27 z1) h9 ?_
          try simp only [Act.put, sI, sZ, sS]
          have re9 := re8.below bz2
          have hzs := hz1.size
          clear re8 bz2 ez2 bz by1 ry1 hy1 ey1
          obtain ⟨Bx, hBx⟩ : ∃ q, q = z1.heap.size := ⟨_, rfl⟩
          rw [← hBx] at r9 hzs ⊢
          replace hHeld : Below W2.heap.size W2 Wd ∧ W2.heap.size ≤ Bx := ⟨hHeld, hzs⟩
          clear hBx hzs hz1
          obtain ⟨u9, o9⟩ := set_one (i := 0) (.pointer pt) r9
          have hM9 : Below W2.heap.size W2 (z2.setCell ⟨Bx, 0, none⟩ (.pointer pt)) := Below.only h9 o9 h9.size (fun j e => by have e' : j = Bx := e; have := hHeld.2; omega)
          refine skip_op (i := 4) (OP := Op.store 27 (Operand.tmp 9) (Operand.tmp 38)) (T := 0) (w' := z2.setCell ⟨Bx, 0, none⟩ (.pointer pt)) rfl rfl rfl rfl (by kernel_rfl) (by rfl) (exec_st27 rfl rfl ((cell_of_row _ _ 0 _ 27 (0, 0) r9).trans rfl) (frozen_of_row _ _ 0 _ 27 r9)) ⟨hM9, ?_⟩
          try simp only [Act.put, sI, sZ, sS]
          refine take_op (i := 5) (d := 10) (OP := Op.assign (Operand.tmp 40)) (T := 22) (v := ?vzw3) rfl rfl rfl rfl (by kernel_rfl) (by kernel_rfl) (by kernel_rfl) (fun _ _ _ h => h) (by rfl) ?hzw3 hM9 ?rzw3
          case hzw3 => (intro w' hSw; (try dsimp only at hSw); go_simp <;> with_reducible rfl)
          try simp only [Act.put, sI, sZ, sS]
          refine wpAnyH_done (by kernel_rfl) ?_ _
          have HE : Hid ((z2.setCell ⟨Bx, 0, none⟩ (.pointer pt)).heap[Bx]? = some (.cells #[.pointer pt] 27 (0, 0)) ∧ Re (z2.setCell ⟨Bx, 0, none⟩ (.pointer pt)) a8 (srtE l) ∧ Below W2.heap.size W2 (z2.setCell ⟨Bx, 0, none⟩ (.pointer pt)) ∧ W2.heap.size ≤ Bx ∧ (N ≤ c8 ∧ (a8 = none → c8 = 0))) := hide ⟨by simpa using u9, re9.aside r9 o9, hM9, hHeld.2, hc8⟩
          clear u9 o9 hM9 h9 r9 re9 hHeld
          go_wp2
          go_meet
          exact ⟨Bx, a8, c8, rfl, rfl, HE⟩
        · try simp only [Act.put, sI, sZ, sS]
          refine call_op (i := 2) (d := 40) (OP := Op.call { callee := Callee.value (Operand.func 88), args := #[Operand.tmp 39], argTypes := #[22] }) (T := 22) (f := 88) (args := #[.slice ao N c]) rfl rfl rfl rfl (by kernel_rfl) (by rfl) (by go_simp) ?_
          refine (hsort _ hy1).mono ?_
          rintro e z2 ⟨a8, c8, rfl, re9, hc8, bz⟩
          have h9 := hy1.trans (bz.mono hy1.size)
          refine ⟨_, rfl, h9, ?_⟩
          try simp only [Act.put, sI, sZ, sS]
          have r9 := (bz.block _ (gI ry1).1).trans ry1
          have hzs := hHeld.size
          clear bz by1 ry1 hy1 ey1
          obtain ⟨Bx, hBx⟩ : ∃ q, q = Wd.heap.size := ⟨_, rfl⟩
          rw [← hBx] at r9 hzs ⊢
          replace hHeld : Below W2.heap.size W2 Wd ∧ W2.heap.size ≤ Bx := ⟨hHeld, hzs⟩
          clear hBx hzs
          obtain ⟨u9, o9⟩ := set_one (i := 0) (.pointer pt) r9
          have hM9 : Below W2.heap.size W2 (z2.setCell ⟨Bx, 0, none⟩ (.pointer pt)) := Below.only h9 o9 h9.size (fun j e => by have e' : j = Bx := e; have := hHeld.2; omega)
          refine skip_op (i := 4) (OP := Op.store 27 (Operand.tmp 9) (Operand.tmp 38)) (T := 0) (w' := z2.setCell ⟨Bx, 0, none⟩ (.pointer pt)) rfl rfl rfl rfl (by kernel_rfl) (by rfl) (exec_st27 rfl rfl ((cell_of_row _ _ 0 _ 27 (0, 0) r9).trans rfl) (frozen_of_row _ _ 0 _ 27 r9)) ⟨hM9, ?_⟩
          try simp only [Act.put, sI, sZ, sS]
          refine take_op (i := 5) (d := 10) (OP := Op.assign (Operand.tmp 40)) (T := 22) (v := ?vzw4) rfl rfl rfl rfl (by kernel_rfl) (by kernel_rfl) (by kernel_rfl) (fun _ _ _ h => h) (by rfl) ?hzw4 hM9 ?rzw4
          case hzw4 => (intro w' hSw; (try dsimp only at hSw); go_simp <;> with_reducible rfl)
          try simp only [Act.put, sI, sZ, sS]
          refine wpAnyH_done (by kernel_rfl) ?_ _
          have HE : Hid ((z2.setCell ⟨Bx, 0, none⟩ (.pointer pt)).heap[Bx]? = some (.cells #[.pointer pt] 27 (0, 0)) ∧ Re (z2.setCell ⟨Bx, 0, none⟩ (.pointer pt)) a8 (srtE l) ∧ Below W2.heap.size W2 (z2.setCell ⟨Bx, 0, none⟩ (.pointer pt)) ∧ W2.heap.size ≤ Bx ∧ (N ≤ c8 ∧ (a8 = none → c8 = 0))) := hide ⟨by simpa using u9, re9.aside r9 o9, hM9, hHeld.2, hc8⟩
          clear u9 o9 hM9 h9 r9 re9 hHeld
          go_wp2
          go_meet
          exact ⟨Bx, a8, c8, rfl, rfl, HE⟩
      case rest =>
        obtain ⟨B9, a8, c8, rfl, rfl, HCC⟩ := hcut
        have hst : Boxd wc B7 pt t ∧ Boxd wc B9 pt t ∧ Re wc a8 (srtE l) ∧ Below w0.heap.size w0 wc ∧ B7 ≠ B9 ∧ (N ≤ c8 ∧ (a8 = none → c8 = 0)) := by
          obtain ⟨q1, q2, q3, q4, q5⟩ := HCC.out
          have hB := BX.below q3
          refine ⟨hB, ⟨q1, BX.2.1, hB.2.2⟩, q2, bW2.trans (q3.mono bW2.size), fun e => ?_, q5⟩
          have := (gI BX.1).1
          omega
        have HST := hide hst
        have HMY := hide (And.intro HT.out.2.1.1 (And.intro HT.out.2.1.2 HT.out.2.2.1))
        have cM : wc.cell? ⟨B7, 0, none⟩ = some (.pointer pt) := hst.1.cell
        obtain ⟨s0, s1, s2, s3, s4, -⟩ := HC.out wc hst.2.2.2.1
        have hsd := stands89 (c := c8) (g, r, lb, n, ix) hst.1.2.2 BX.2.1 HMY.out.1 HMY.out.2.1.symm hst.2.2.1 (by rw [srtE_len, ← HL.out.1]; exact hst.2.2.2.2.2.1) HSS.out
        rw [srtE_len, ← HL.out.1] at hsd
        dsimp only [svT, sv] at hsd
        clear HT HT2 BX bW2 hsort HCC hst hso
        go_upto_region 10 with (first
          | (go_at_call 87; refine (jnum35 _ _).mono ?_; rintro e wn ⟨rfl, rfl⟩; dsimp only)
          | (go_at_call 89; refine hsd.mono ?_; rintro e w5 ⟨rfl, b5⟩; replace HST := hide (And.intro (HST.out.1.below b5) (And.intro (HST.out.2.1.below b5) (And.intro (HST.out.2.2.1.below b5) (And.intro (HST.out.2.2.2.1.trans (b5.mono HST.out.2.2.2.1.size)) HST.out.2.2.2.2)))); clear b5; dsimp only))
        clear hsd cM s0 s1 s2 s3 s4
        go_wp2
        go_loopw [11, 12] (fun v11 v12 wr => ∃ (i : Nat) (tc : Pm.T) (pc : Option Addr) (lc : List El) (K : Nat) (a9 : Option Addr) (c9 : Nat), v11 = .slice a9 K c9 ∧ v12 = .int .i64 (i : Nat) ∧ i ≤ M ∧ i ≤ 30 ∧ Hid (Boxd wr B7 pc tc ∧ mayL tc.list = true ∧ lc = elsL tc.list ∧ Re wr a9 lc ∧ K = lc.length ∧ (K ≤ c9 ∧ (a9 = none → c9 = 0)) ∧ tc.n ≤ 60 + i ∧ partF (srtE l) lc = true ∧ Boxd wr B9 pt t ∧ Re wr a8 (srtE l) ∧ Below w0.heap.size w0 wr)) (fun _ v12 _ => M - (intOf v12).toNat)
        case atStart => exact ⟨0, t, pt, srtE l, N, a8, c8, rfl, rfl, Nat.zero_le _, Nat.zero_le _, hide ⟨HST.out.1, HMY.out.1, HMY.out.2.1.symm, HST.out.2.2.1, by rw [srtE_len]; exact HL.out.1, HST.out.2.2.2.2.2, by have := HMY.out.2.2; omega, part_self HU.out, HST.out.2.1, HST.out.2.2.1, HST.out.2.2.2.1⟩⟩
        case round =>
          obtain ⟨i, tc, pc, lc, K, a9, c9, rfl, rfl, hi, hi3, HI⟩ := hrel
          by_cases hgo : i < M ∧ i < 30
          · have y1 : (i : Int) < (M : Int) := by omega
            have y2 : decide (i < M) = true := by simpa using hgo.1
            have y3 : (i : Int) < 30 := by omega
            have y4 : decide (i < 30) = true := by simpa using hgo.2
            obtain ⟨x, hx⟩ : ∃ x, ws[i]? = some x := ⟨_, List.getElem?_eq_getElem (by rw [← HL.out.2.1]; exact hgo.1)⟩
            have hxs := HL.out.2.2.2.2.2 x (List.mem_of_getElem? hx)
            have hbw := HW0.out.2.2.trans (HI.out.2.2.2.2.2.2.2.2.2.2.mono HW0.out.2.2.size)
            have hrew := HL.out.2.2.2.1.below hbw
            obtain ⟨b, off, hbo, q0, q1, q2, q3, q4, q5⟩ := hrew.cells hx
            have hblt := (cell_lt8' q0)
            obtain ⟨s, X⟩ := x
            have hap := fun W (hW : Below wr.heap.size wr W) => appP s X (HI.out.1.2.2.below hW) (by have := HI.out.2.2.2.2.2.2.1; omega) HI.out.1.2.1
            rw [okWr_doc HI.out.2.1 s X, ← HI.out.2.2.1] at hap
            have hft := fun W => jfits39 s X W hxs
            have hbh := fun W (hW : Re W a9 lc) => behind14 (c := c9) lc s hW (by have h1 := HI.out.1.2.2.few; rw [HI.out.2.2.1, elsL, if_pos HI.out.2.1]; simp [elsM]; rw [Pm.T.n_eq]; omega) (fun x hx => okEl_size (els_ok HI.out.2.1 x (by rw [← HI.out.2.2.1]; exact hx)))
            rw [← HI.out.2.2.2.2.1] at hbh
            obtain ⟨g1, r1, l1, n1, i1⟩ := s
            dsimp only at q0 q1 q2 q3 q4 q5 hxs
            obtain ⟨FT, hFT⟩ : ∃ q, q = (stV (g1, r1, l1, n1, i1) && txtB X) := ⟨_, rfl⟩
            obtain ⟨BH, hBH⟩ : ∃ q, q = behB lc (g1, r1, l1, n1, i1) := ⟨_, rfl⟩
            rw [← hFT, ← hBH] at hap
            rw [← hFT] at hft
            rw [← hBH] at hbh
            obtain ⟨LST, hLST⟩ : ∃ q, q = (if (FT && BH) = true then tc.list ++ [(keyT (g1, r1, l1, n1, i1), X)] else []) := ⟨_, rfl⟩
            obtain ⟨EC, hEC⟩ : ∃ q : Int, q = (if (FT && BH) = true then 0 else 2) := ⟨_, rfl⟩
            rw [← hLST, ← hEC] at hap
            have HF := hide (And.intro hFT (And.intro hBH (And.intro hLST hEC)))
            have HX := hide hx
            have HBO := hide (And.intro hbo hblt)
            have hB7 := (gI HI.out.1.1).1
            subst hbo
            dsimp only [svT, sv] at hap hft hbh
            have cM := HI.out.1.cell
            clear hx hFT hBH hLST hEC hbw hrew hxs
            go_upto_region 13 with fail
            go_cut [13, 14, 62, 63, 64, 65, 66, 67, 68, 69, 70, 71, 72, 73, 74, 75, 76] (fun v13 v14 v62 v63 v64 v65 v66 v67 v68 v69 v70 v71 v72 v73 v74 v75 v76 W3 => ∃ B13 pn tn, v13 = .pointer (some ⟨B13, 0, none⟩) ∧ v14 = .int .i64 EC ∧ Hid (Boxd W3 B13 pn tn ∧ tn.list = LST ∧ Below wr.heap.size wr W3 ∧ wr.heap.size ≤ B13))
            case first =>
              clear hft hbh HL HMY HST HF HX HU HG
              refine wp_region_held_drew (S := fun w' => w'.cell? ⟨b, off + i * 6, none⟩ = some (.int .i64 g1) ∧ w'.cell? ⟨b, off + i * 6 + 1, none⟩ = some (.int .i64 r1) ∧ w'.cell? ⟨b, off + i * 6 + 2, none⟩ = some (.string l1) ∧ w'.cell? ⟨b, off + i * 6 + 3, none⟩ = some (.int .i64 n1) ∧ w'.cell? ⟨b, off + i * 6 + 4, none⟩ = some (.int .i64 i1) ∧ w'.cell? ⟨b, off + i * 6 + 5, none⟩ = some (.string X) ∧ w'.cell? ⟨B7, 0, none⟩ = some (.pointer pc) ∧ Below wr.heap.size wr w') (by kernel_rfl) (by exact ⟨q0, q1, q2, q3, q4, q5, cM, drew_below wr⟩) (fun hHeld => ?_)
              try dsimp only at hHeld
              generalize wr.drew = Wd at hHeld ⊢
              refine take_op (i := 0) (d := 63) (OP := Op.load 27 (Operand.tmp 7)) (T := 27) (v := ?vzw5) rfl rfl rfl rfl (by kernel_rfl) (by kernel_rfl) (by kernel_rfl) (fun _ _ _ h => h) (by rfl) ?hzw5 hHeld ?rzw5
              case hzw5 => (intro w' hSw; (try dsimp only at hSw); go_simp <;> with_reducible rfl)
              try simp only [Act.put, sI, sZ, sS]
              refine take_op (i := 1) (d := 64) (OP := Op.move (Operand.tmp 1)) (T := 22) (v := ?vzw6) rfl rfl rfl rfl (by kernel_rfl) (by kernel_rfl) (by kernel_rfl) (fun _ _ _ h => h) (by rfl) ?hzw6 hHeld ?rzw6
              case hzw6 => (intro w' hSw; (try dsimp only at hSw); go_simp <;> with_reducible rfl)
              try simp only [Act.put, sI, sZ, sS]
              refine take_op (i := 2) (d := 65) (OP := Op.move (Operand.tmp 12)) (T := 3) (v := ?vzw7) rfl rfl rfl rfl (by kernel_rfl) (by kernel_rfl) (by kernel_rfl) (fun _ _ _ h => h) (by rfl) ?hzw7 hHeld ?rzw7
              case hzw7 => (intro w' hSw; (try dsimp only at hSw); go_simp <;> with_reducible rfl)
              try simp only [Act.put, sI, sZ, sS]
              refine take_op (i := 3) (d := 66) (OP := Op.indexAddr 22 (Operand.tmp 64) (Operand.tmp 65)) (T := 0) (v := ?vzw8) rfl rfl rfl rfl (by kernel_rfl) (by kernel_rfl) (by kernel_rfl) (fun _ _ _ h => h) (by rfl) ?hzw8 hHeld ?rzw8
              case hzw8 => (intro w' hSw; (try dsimp only at hSw); go_simp <;> with_reducible rfl)
              try simp only [Act.put, sI, sZ, sS]
              refine take_op (i := 4) (d := 67) (OP := Op.fieldAddr 53 (Operand.tmp 66) 0) (T := 0) (v := ?vzw9) rfl rfl rfl rfl (by kernel_rfl) (by kernel_rfl) (by kernel_rfl) (fun _ _ _ h => h) (by rfl) ?hzw9 hHeld ?rzw9
              case hzw9 => (intro w' hSw; (try dsimp only at hSw); go_simp <;> with_reducible rfl)
              try simp only [Act.put, sI, sZ, sS]
              refine take_op (i := 5) (d := 68) (OP := Op.load 43 (Operand.tmp 67)) (T := 43) (v := ?vzw10) rfl rfl rfl rfl (by kernel_rfl) (by kernel_rfl) (by kernel_rfl) (fun _ _ _ h => h) (by rfl) ?hzw10 hHeld ?rzw10
              case hzw10 => (intro w' hSw; (try dsimp only at hSw); go_simp <;> with_reducible rfl)
              try simp only [Act.put, sI, sZ, sS]
              refine take_op (i := 6) (d := 69) (OP := Op.move (Operand.tmp 1)) (T := 22) (v := ?vzw11) rfl rfl rfl rfl (by kernel_rfl) (by kernel_rfl) (by kernel_rfl) (fun _ _ _ h => h) (by rfl) ?hzw11 hHeld ?rzw11
              case hzw11 => (intro w' hSw; (try dsimp only at hSw); go_simp <;> with_reducible rfl)
              try simp only [Act.put, sI, sZ, sS]
              refine take_op (i := 7) (d := 70) (OP := Op.move (Operand.tmp 12)) (T := 3) (v := ?vzw12) rfl rfl rfl rfl (by kernel_rfl) (by kernel_rfl) (by kernel_rfl) (fun _ _ _ h => h) (by rfl) ?hzw12 hHeld ?rzw12
              case hzw12 => (intro w' hSw; (try dsimp only at hSw); go_simp <;> with_reducible rfl)
              try simp only [Act.put, sI, sZ, sS]
              refine take_op (i := 8) (d := 71) (OP := Op.indexAddr 22 (Operand.tmp 69) (Operand.tmp 70)) (T := 0) (v := ?vzw13) rfl rfl rfl rfl (by kernel_rfl) (by kernel_rfl) (by kernel_rfl) (fun _ _ _ h => h) (by rfl) ?hzw13 hHeld ?rzw13
              case hzw13 => (intro w' hSw; (try dsimp only at hSw); go_simp <;> with_reducible rfl)
              try simp only [Act.put, sI, sZ, sS]
              refine take_op (i := 9) (d := 72) (OP := Op.fieldAddr 53 (Operand.tmp 71) 1) (T := 0) (v := ?vzw14) rfl rfl rfl rfl (by kernel_rfl) (by kernel_rfl) (by kernel_rfl) (fun _ _ _ h => h) (by rfl) ?hzw14 hHeld ?rzw14
              case hzw14 => (intro w' hSw; (try dsimp only at hSw); go_simp <;> with_reducible rfl)
              try simp only [Act.put, sI, sZ, sS]
              refine take_op (i := 10) (d := 73) (OP := Op.load 9 (Operand.tmp 72)) (T := 9) (v := ?vzw15) rfl rfl rfl rfl (by kernel_rfl) (by kernel_rfl) (by kernel_rfl) (fun _ _ _ h => h) (by rfl) ?hzw15 hHeld ?rzw15
              case hzw15 => (intro w' hSw; (try dsimp only at hSw); go_simp <;> with_reducible rfl)
              try simp only [Act.put, sI, sZ, sS]
              obtain ⟨y1, ey1⟩ : ∃ q, q = Wd.alloc (.cells #[.pointer none] 27) := ⟨_, rfl⟩
              have by1 : Below Wd.heap.size Wd y1 := by rw [ey1]; exact (Below.refl _ Wd).alloc (Nat.le_refl _) _
              have ry1 : y1.heap[Wd.heap.size]? = some (.cells #[.pointer none] 27 (0, 0)) := by rw [ey1]; exact heap_alloc_new Wd _
              have hy1 : y1.cell? ⟨b, off + i * 6, none⟩ = some (.int .i64 g1) ∧ y1.cell? ⟨b, off + i * 6 + 1, none⟩ = some (.int .i64 r1) ∧ y1.cell? ⟨b, off + i * 6 + 2, none⟩ = some (.string l1) ∧ y1.cell? ⟨b, off + i * 6 + 3, none⟩ = some (.int .i64 n1) ∧ y1.cell? ⟨b, off + i * 6 + 4, none⟩ = some (.int .i64 i1) ∧ y1.cell? ⟨b, off + i * 6 + 5, none⟩ = some (.string X) ∧ y1.cell? ⟨B7, 0, none⟩ = some (.pointer pc) ∧ Below wr.heap.size wr y1 := ⟨cell_stays hHeld.1 by1, cell_stays hHeld.2.1 by1, cell_stays hHeld.2.2.1 by1, cell_stays hHeld.2.2.2.1 by1, cell_stays hHeld.2.2.2.2.1 by1, cell_stays hHeld.2.2.2.2.2.1 by1, cell_stays hHeld.2.2.2.2.2.2.1 by1, (hHeld.2.2.2.2.2.2.2).trans (by1.mono (hHeld.2.2.2.2.2.2.2).size)⟩
              refine call_turn_op (i := 11) (di := 74) (OPi := Op.call { callee := Callee.value (Operand.func 90), args := #[Operand.tmp 63, Operand.tmp 68, Operand.tmp 73], argTypes := #[27, 43, 9] }) (Ti := 29) (j := 15) (dj := 13) (OPj := Op.alloc 27) (Tj := 0) (f := 90) (args := #[.agg #[.pointer pc], .agg #[.int .i64 g1, .int .i64 r1, .string l1, .int .i64 n1, .int .i64 i1], .string X]) (u := .pointer (some ⟨Wd.heap.size, 0, none⟩)) (w' := y1) rfl rfl rfl rfl rfl rfl rfl rfl (by kernel_rfl) (by rfl) (by rfl) (by go_simp) (by rw [ey1]; exact exec_al27 Wd) hy1 ?_ ?_
              · refine (hap _ hHeld.2.2.2.2.2.2.2).mono ?_
                rintro e z1 ⟨tn, pn, hpn, rfl, mgn, hln, bz⟩
                have hz1 : z1.cell? ⟨b, off + i * 6, none⟩ = some (.int .i64 g1) ∧ z1.cell? ⟨b, off + i * 6 + 1, none⟩ = some (.int .i64 r1) ∧ z1.cell? ⟨b, off + i * 6 + 2, none⟩ = some (.string l1) ∧ z1.cell? ⟨b, off + i * 6 + 3, none⟩ = some (.int .i64 n1) ∧ z1.cell? ⟨b, off + i * 6 + 4, none⟩ = some (.int .i64 i1) ∧ z1.cell? ⟨b, off + i * 6 + 5, none⟩ = some (.string X) ∧ z1.cell? ⟨B7, 0, none⟩ = some (.pointer pc) ∧ Below wr.heap.size wr z1 := ⟨cell_stays hHeld.1 bz, cell_stays hHeld.2.1 bz, cell_stays hHeld.2.2.1 bz, cell_stays hHeld.2.2.2.1 bz, cell_stays hHeld.2.2.2.2.1 bz, cell_stays hHeld.2.2.2.2.2.1 bz, cell_stays hHeld.2.2.2.2.2.2.1 bz, (hHeld.2.2.2.2.2.2.2).trans (bz.mono (hHeld.2.2.2.2.2.2.2).size)⟩
                refine ⟨_, rfl, hz1, ?_⟩
                try simp only [Act.put, sI, sZ, sS]
                refine take_op (i := 12) (d := 62) (OP := Op.move (Operand.tmp 74)) (T := 29) (v := ?vzw16) rfl rfl rfl rfl (by kernel_rfl) (by kernel_rfl) (by kernel_rfl) (fun _ _ _ h => h) (by rfl) ?hzw16 hz1 ?rzw16
                case hzw16 => (intro w' hSw; (try dsimp only at hSw); go_simp <;> with_reducible rfl)
                try simp only [Act.put, sI, sZ, sS]
                refine take_op (i := 13) (d := 75) (OP := Op.extract (Operand.tmp 62) 0) (T := 27) (v := ?vzw17) rfl rfl rfl rfl (by kernel_rfl) (by kernel_rfl) (by kernel_rfl) (fun _ _ _ h => h) (by rfl) ?hzw17 hz1 ?rzw17
                case hzw17 => (intro w' hSw; (try dsimp only at hSw); go_simp <;> with_reducible rfl)
                try simp only [Act.put, sI, sZ, sS]
                refine take_op (i := 14) (d := 76) (OP := Op.extract (Operand.tmp 62) 1) (T := 28) (v := ?vzw18) rfl rfl rfl rfl (by kernel_rfl) (by kernel_rfl) (by kernel_rfl) (fun _ _ _ h => h) (by rfl) ?hzw18 hz1 ?rzw18
                case hzw18 => (intro w' hSw; (try dsimp only at hSw); go_simp <;> with_reducible rfl)
                try simp only [Act.put, sI, sZ, sS]
                obtain ⟨z2, ez2⟩ : ∃ q, q = z1.alloc (.cells #[.pointer none] 27) := ⟨_, rfl⟩
                have bz2 : Below z1.heap.size z1 z2 := by rw [ez2]; exact (Below.refl _ z1).alloc (Nat.le_refl _) _
                have r9 : z2.heap[z1.heap.size]? = some (.cells #[.pointer none] 27 (0, 0)) := by rw [ez2]; exact heap_alloc_new z1 _
                have h9 : z2.cell? ⟨b, off + i * 6, none⟩ = some (.int .i64 g1) ∧ z2.cell? ⟨b, off + i * 6 + 1, none⟩ = some (.int .i64 r1) ∧ z2.cell? ⟨b, off + i * 6 + 2, none⟩ = some (.string l1) ∧ z2.cell? ⟨b, off + i * 6 + 3, none⟩ = some (.int .i64 n1) ∧ z2.cell? ⟨b, off + i * 6 + 4, none⟩ = some (.int .i64 i1) ∧ z2.cell? ⟨b, off + i * 6 + 5, none⟩ = some (.string X) ∧ z2.cell? ⟨B7, 0, none⟩ = some (.pointer pc) ∧ Below wr.heap.size wr z2 := ⟨cell_stays hz1.1 bz2, cell_stays hz1.2.1 bz2, cell_stays hz1.2.2.1 bz2, cell_stays hz1.2.2.2.1 bz2, cell_stays hz1.2.2.2.2.1 bz2, cell_stays hz1.2.2.2.2.2.1 bz2, cell_stays hz1.2.2.2.2.2.2.1 bz2, (hz1.2.2.2.2.2.2.2).trans (bz2.mono (hz1.2.2.2.2.2.2.2).size)⟩
                refine turn_op (i := 15) (d := 13) (OP := Op.alloc 27) (T := 0) (v := .pointer (some ⟨z1.heap.size, 0, none⟩)) (w' := z2) rfl rfl rfl rfl (by kernel_rfl) (by rfl) (by rw [ez2]; exact exec_al27 z1) h9 ?_
                try simp only [Act.put, sI, sZ, sS]
                have hzs := hz1.2.2.2.2.2.2.2.size
                replace mgn := mgn.below bz2
                obtain ⟨Bx, hBx⟩ : ∃ q, q = z1.heap.size := ⟨_, rfl⟩
                rw [← hBx] at r9 hzs ⊢
                have hne1 : ¬ b = Bx := by have := hblt; omega
                have hne2 : ¬ B7 = Bx := by have := hB7; omega
                clear hBx hz1 bz bz2 ez2 by1 ry1 hy1 ey1 hHeld
                obtain ⟨u9, o9⟩ := set_one (i := 0) (.pointer pn) r9
                have hM9 : (z2.setCell ⟨Bx, 0, none⟩ (.pointer pn)).cell? ⟨b, off + i * 6, none⟩ = some (.int .i64 g1) ∧ (z2.setCell ⟨Bx, 0, none⟩ (.pointer pn)).cell? ⟨b, off + i * 6 + 1, none⟩ = some (.int .i64 r1) ∧ (z2.setCell ⟨Bx, 0, none⟩ (.pointer pn)).cell? ⟨b, off + i * 6 + 2, none⟩ = some (.string l1) ∧ (z2.setCell ⟨Bx, 0, none⟩ (.pointer pn)).cell? ⟨b, off + i * 6 + 3, none⟩ = some (.int .i64 n1) ∧ (z2.setCell ⟨Bx, 0, none⟩ (.pointer pn)).cell? ⟨b, off + i * 6 + 4, none⟩ = some (.int .i64 i1) ∧ (z2.setCell ⟨Bx, 0, none⟩ (.pointer pn)).cell? ⟨b, off + i * 6 + 5, none⟩ = some (.string X) ∧ (z2.setCell ⟨Bx, 0, none⟩ (.pointer pn)).cell? ⟨B7, 0, none⟩ = some (.pointer pc) ∧ Below wr.heap.size wr (z2.setCell ⟨Bx, 0, none⟩ (.pointer pn)) := ⟨o9.cell h9.1 hne1, o9.cell h9.2.1 hne1, o9.cell h9.2.2.1 hne1, o9.cell h9.2.2.2.1 hne1, o9.cell h9.2.2.2.2.1 hne1, o9.cell h9.2.2.2.2.2.1 hne1, o9.cell h9.2.2.2.2.2.2.1 hne2, Below.only h9.2.2.2.2.2.2.2 o9 h9.2.2.2.2.2.2.2.size (fun j e => by have e' : j = Bx := e; omega)⟩
                refine skip_op (i := 16) (OP := Op.store 27 (Operand.tmp 13) (Operand.tmp 75)) (T := 0) (w' := z2.setCell ⟨Bx, 0, none⟩ (.pointer pn)) rfl rfl rfl rfl (by kernel_rfl) (by rfl) (exec_st27 rfl rfl ((cell_of_row _ _ 0 _ 27 (0, 0) r9).trans rfl) (frozen_of_row _ _ 0 _ 27 r9)) ⟨hM9, ?_⟩
                try simp only [Act.put, sI, sZ, sS]
                refine take_op (i := 17) (d := 14) (OP := Op.assign (Operand.tmp 76)) (T := 28) (v := ?vzw19) rfl rfl rfl rfl (by kernel_rfl) (by kernel_rfl) (by kernel_rfl) (fun _ _ _ h => h) (by rfl) ?hzw19 hM9 ?rzw19
                case hzw19 => (intro w' hSw; (try dsimp only at hSw); go_simp <;> with_reducible rfl)
                try simp only [Act.put, sI, sZ, sS]
                refine wpAnyH_done (by kernel_rfl) ?_ _
                have HE : Hid (Boxd (z2.setCell ⟨Bx, 0, none⟩ (.pointer pn)) Bx pn tn ∧ tn.list = LST ∧ Below wr.heap.size wr (z2.setCell ⟨Bx, 0, none⟩ (.pointer pn)) ∧ wr.heap.size ≤ Bx) := hide ⟨⟨by simpa using u9, hpn, mgn.aside r9 o9⟩, hln, hM9.2.2.2.2.2.2.2, hzs⟩
                clear u9 o9 hM9 h9 r9 hpn mgn hln hzs hne1 hne2
                go_wp2
                go_meet
                exact ⟨Bx, pn, tn, rfl, rfl, HE⟩
              · try simp only [Act.put, sI, sZ, sS]
                refine call_op (i := 11) (d := 74) (OP := Op.call { callee := Callee.value (Operand.func 90), args := #[Operand.tmp 63, Operand.tmp 68, Operand.tmp 73], argTypes := #[27, 43, 9] }) (T := 29) (f := 90) (args := #[.agg #[.pointer pc], .agg #[.int .i64 g1, .int .i64 r1, .string l1, .int .i64 n1, .int .i64 i1], .string X]) rfl rfl rfl rfl (by kernel_rfl) (by rfl) (by go_simp) ?_
                refine (hap _ hy1.2.2.2.2.2.2.2).mono ?_
                rintro e z2 ⟨tn, pn, hpn, rfl, mgn, hln, bz⟩
                have h9 : z2.cell? ⟨b, off + i * 6, none⟩ = some (.int .i64 g1) ∧ z2.cell? ⟨b, off + i * 6 + 1, none⟩ = some (.int .i64 r1) ∧ z2.cell? ⟨b, off + i * 6 + 2, none⟩ = some (.string l1) ∧ z2.cell? ⟨b, off + i * 6 + 3, none⟩ = some (.int .i64 n1) ∧ z2.cell? ⟨b, off + i * 6 + 4, none⟩ = some (.int .i64 i1) ∧ z2.cell? ⟨b, off + i * 6 + 5, none⟩ = some (.string X) ∧ z2.cell? ⟨B7, 0, none⟩ = some (.pointer pc) ∧ Below wr.heap.size wr z2 := ⟨cell_stays hy1.1 bz, cell_stays hy1.2.1 bz, cell_stays hy1.2.2.1 bz, cell_stays hy1.2.2.2.1 bz, cell_stays hy1.2.2.2.2.1 bz, cell_stays hy1.2.2.2.2.2.1 bz, cell_stays hy1.2.2.2.2.2.2.1 bz, (hy1.2.2.2.2.2.2.2).trans (bz.mono (hy1.2.2.2.2.2.2.2).size)⟩
                refine ⟨_, rfl, h9, ?_⟩
                try simp only [Act.put, sI, sZ, sS]
                refine take_op (i := 12) (d := 62) (OP := Op.move (Operand.tmp 74)) (T := 29) (v := ?vzw20) rfl rfl rfl rfl (by kernel_rfl) (by kernel_rfl) (by kernel_rfl) (fun _ _ _ h => h) (by rfl) ?hzw20 h9 ?rzw20
                case hzw20 => (intro w' hSw; (try dsimp only at hSw); go_simp <;> with_reducible rfl)
                try simp only [Act.put, sI, sZ, sS]
                refine take_op (i := 13) (d := 75) (OP := Op.extract (Operand.tmp 62) 0) (T := 27) (v := ?vzw21) rfl rfl rfl rfl (by kernel_rfl) (by kernel_rfl) (by kernel_rfl) (fun _ _ _ h => h) (by rfl) ?hzw21 h9 ?rzw21
                case hzw21 => (intro w' hSw; (try dsimp only at hSw); go_simp <;> with_reducible rfl)
                try simp only [Act.put, sI, sZ, sS]
                refine take_op (i := 14) (d := 76) (OP := Op.extract (Operand.tmp 62) 1) (T := 28) (v := ?vzw22) rfl rfl rfl rfl (by kernel_rfl) (by kernel_rfl) (by kernel_rfl) (fun _ _ _ h => h) (by rfl) ?hzw22 h9 ?rzw22
                case hzw22 => (intro w' hSw; (try dsimp only at hSw); go_simp <;> with_reducible rfl)
                try simp only [Act.put, sI, sZ, sS]
                have r9 := (bz.block _ (gI ry1).1).trans ry1
                have hzs := hHeld.2.2.2.2.2.2.2.size
                obtain ⟨Bx, hBx⟩ : ∃ q, q = Wd.heap.size := ⟨_, rfl⟩
                rw [← hBx] at r9 hzs ⊢
                have hne1 : ¬ b = Bx := by have := hblt; omega
                have hne2 : ¬ B7 = Bx := by have := hB7; omega
                clear hBx bz by1 ry1 hy1 ey1 hHeld
                obtain ⟨u9, o9⟩ := set_one (i := 0) (.pointer pn) r9
                have hM9 : (z2.setCell ⟨Bx, 0, none⟩ (.pointer pn)).cell? ⟨b, off + i * 6, none⟩ = some (.int .i64 g1) ∧ (z2.setCell ⟨Bx, 0, none⟩ (.pointer pn)).cell? ⟨b, off + i * 6 + 1, none⟩ = some (.int .i64 r1) ∧ (z2.setCell ⟨Bx, 0, none⟩ (.pointer pn)).cell? ⟨b, off + i * 6 + 2, none⟩ = some (.string l1) ∧ (z2.setCell ⟨Bx, 0, none⟩ (.pointer pn)).cell? ⟨b, off + i * 6 + 3, none⟩ = some (.int .i64 n1) ∧ (z2.setCell ⟨Bx, 0, none⟩ (.pointer pn)).cell? ⟨b, off + i * 6 + 4, none⟩ = some (.int .i64 i1) ∧ (z2.setCell ⟨Bx, 0, none⟩ (.pointer pn)).cell? ⟨b, off + i * 6 + 5, none⟩ = some (.string X) ∧ (z2.setCell ⟨Bx, 0, none⟩ (.pointer pn)).cell? ⟨B7, 0, none⟩ = some (.pointer pc) ∧ Below wr.heap.size wr (z2.setCell ⟨Bx, 0, none⟩ (.pointer pn)) := ⟨o9.cell h9.1 hne1, o9.cell h9.2.1 hne1, o9.cell h9.2.2.1 hne1, o9.cell h9.2.2.2.1 hne1, o9.cell h9.2.2.2.2.1 hne1, o9.cell h9.2.2.2.2.2.1 hne1, o9.cell h9.2.2.2.2.2.2.1 hne2, Below.only h9.2.2.2.2.2.2.2 o9 h9.2.2.2.2.2.2.2.size (fun j e => by have e' : j = Bx := e; omega)⟩
                refine skip_op (i := 16) (OP := Op.store 27 (Operand.tmp 13) (Operand.tmp 75)) (T := 0) (w' := z2.setCell ⟨Bx, 0, none⟩ (.pointer pn)) rfl rfl rfl rfl (by kernel_rfl) (by rfl) (exec_st27 rfl rfl ((cell_of_row _ _ 0 _ 27 (0, 0) r9).trans rfl) (frozen_of_row _ _ 0 _ 27 r9)) ⟨hM9, ?_⟩
                try simp only [Act.put, sI, sZ, sS]
                refine take_op (i := 17) (d := 14) (OP := Op.assign (Operand.tmp 76)) (T := 28) (v := ?vzw23) rfl rfl rfl rfl (by kernel_rfl) (by kernel_rfl) (by kernel_rfl) (fun _ _ _ h => h) (by rfl) ?hzw23 hM9 ?rzw23
                case hzw23 => (intro w' hSw; (try dsimp only at hSw); go_simp <;> with_reducible rfl)
                try simp only [Act.put, sI, sZ, sS]
                refine wpAnyH_done (by kernel_rfl) ?_ _
                have HE : Hid (Boxd (z2.setCell ⟨Bx, 0, none⟩ (.pointer pn)) Bx pn tn ∧ tn.list = LST ∧ Below wr.heap.size wr (z2.setCell ⟨Bx, 0, none⟩ (.pointer pn)) ∧ wr.heap.size ≤ Bx) := hide ⟨⟨by simpa using u9, hpn, mgn.aside r9 o9⟩, hln, hM9.2.2.2.2.2.2.2, hzs⟩
                clear u9 o9 hM9 h9 r9 hpn mgn hln hzs hne1 hne2
                go_wp2
                go_meet
                exact ⟨Bx, pn, tn, rfl, rfl, HE⟩
            case rest =>
              obtain ⟨B13, pn, tn, rfl, rfl, HE⟩ := hcut
              obtain ⟨W3, hW3⟩ : ∃ q, wc = q := ⟨_, rfl⟩
              rw [hW3] at HE ⊢
              clear hW3
              replace q0 := cell_stays q0 HE.out.2.2.1
              replace q1 := cell_stays q1 HE.out.2.2.1
              replace q2 := cell_stays q2 HE.out.2.2.1
              replace q3 := cell_stays q3 HE.out.2.2.1
              replace q4 := cell_stays q4 HE.out.2.2.1
              replace q5 := cell_stays q5 HE.out.2.2.1
              clear hap cM
              skip
              have hbh3 := fun W (hW : Below W3.heap.size W3 W) => hbh W (HI.out.2.2.2.1.below (HE.out.2.2.1.trans (hW.mono HE.out.2.2.1.size)))
              clear hbh
              go_upto_region 14 with fail
              go_cut [98] (fun v98 wc => v98 = .bool (!(FT && BH)) ∧ Hid (Below W3.heap.size W3 wc))
              case first =>
                clear HL HMY HST HX HU HG HE HF HI
                cases FT with
                | false =>
                    refine wp_region_held_drew (S := fun w' => w'.cell? ⟨b, off + i * 6, none⟩ = some (.int .i64 g1) ∧ w'.cell? ⟨b, off + i * 6 + 1, none⟩ = some (.int .i64 r1) ∧ w'.cell? ⟨b, off + i * 6 + 2, none⟩ = some (.string l1) ∧ w'.cell? ⟨b, off + i * 6 + 3, none⟩ = some (.int .i64 n1) ∧ w'.cell? ⟨b, off + i * 6 + 4, none⟩ = some (.int .i64 i1) ∧ w'.cell? ⟨b, off + i * 6 + 5, none⟩ = some (.string X) ∧ Below W3.heap.size W3 w') (by kernel_rfl) (by exact ⟨q0, q1, q2, q3, q4, q5, drew_below W3⟩) (fun hHeld => ?_)
                    try dsimp only at hHeld
                    refine take_op (i := 0) (d := 77) (OP := Op.move (Operand.tmp 1)) (T := 22) (v := ?v24) rfl rfl rfl rfl (by kernel_rfl) (by kernel_rfl) (by kernel_rfl) (fun _ _ _ h => h) (by rfl) ?h24 hHeld ?r24
                    case h24 => (intro w' hSw; (try dsimp only at hSw); go_simp <;> with_reducible rfl)
                    try simp only [Act.put, sI, sZ, sS]
                    refine take_op (i := 1) (d := 78) (OP := Op.move (Operand.tmp 12)) (T := 3) (v := ?v25) rfl rfl rfl rfl (by kernel_rfl) (by kernel_rfl) (by kernel_rfl) (fun _ _ _ h => h) (by rfl) ?h25 hHeld ?r25
                    case h25 => (intro w' hSw; (try dsimp only at hSw); go_simp <;> with_reducible rfl)
                    try simp only [Act.put, sI, sZ, sS]
                    refine take_op (i := 2) (d := 79) (OP := Op.indexAddr 22 (Operand.tmp 77) (Operand.tmp 78)) (T := 0) (v := ?v26) rfl rfl rfl rfl (by kernel_rfl) (by kernel_rfl) (by kernel_rfl) (fun _ _ _ h => h) (by rfl) ?h26 hHeld ?r26
                    case h26 => (intro w' hSw; (try dsimp only at hSw); go_simp <;> with_reducible rfl)
                    try simp only [Act.put, sI, sZ, sS]
                    refine take_op (i := 3) (d := 80) (OP := Op.fieldAddr 53 (Operand.tmp 79) 0) (T := 0) (v := ?v27) rfl rfl rfl rfl (by kernel_rfl) (by kernel_rfl) (by kernel_rfl) (fun _ _ _ h => h) (by rfl) ?h27 hHeld ?r27
                    case h27 => (intro w' hSw; (try dsimp only at hSw); go_simp <;> with_reducible rfl)
                    try simp only [Act.put, sI, sZ, sS]
                    refine take_op (i := 4) (d := 81) (OP := Op.load 43 (Operand.tmp 80)) (T := 43) (v := ?v28) rfl rfl rfl rfl (by kernel_rfl) (by kernel_rfl) (by kernel_rfl) (fun _ _ _ h => h) (by rfl) ?h28 hHeld ?r28
                    case h28 => (intro w' hSw; (try dsimp only at hSw); go_simp <;> with_reducible rfl)
                    try simp only [Act.put, sI, sZ, sS]
                    refine take_op (i := 5) (d := 82) (OP := Op.move (Operand.tmp 1)) (T := 22) (v := ?v29) rfl rfl rfl rfl (by kernel_rfl) (by kernel_rfl) (by kernel_rfl) (fun _ _ _ h => h) (by rfl) ?h29 hHeld ?r29
                    case h29 => (intro w' hSw; (try dsimp only at hSw); go_simp <;> with_reducible rfl)
                    try simp only [Act.put, sI, sZ, sS]
                    refine take_op (i := 6) (d := 83) (OP := Op.move (Operand.tmp 12)) (T := 3) (v := ?v30) rfl rfl rfl rfl (by kernel_rfl) (by kernel_rfl) (by kernel_rfl) (fun _ _ _ h => h) (by rfl) ?h30 hHeld ?r30
                    case h30 => (intro w' hSw; (try dsimp only at hSw); go_simp <;> with_reducible rfl)
                    try simp only [Act.put, sI, sZ, sS]
                    refine take_op (i := 7) (d := 84) (OP := Op.indexAddr 22 (Operand.tmp 82) (Operand.tmp 83)) (T := 0) (v := ?v31) rfl rfl rfl rfl (by kernel_rfl) (by kernel_rfl) (by kernel_rfl) (fun _ _ _ h => h) (by rfl) ?h31 hHeld ?r31
                    case h31 => (intro w' hSw; (try dsimp only at hSw); go_simp <;> with_reducible rfl)
                    try simp only [Act.put, sI, sZ, sS]
                    refine take_op (i := 8) (d := 85) (OP := Op.fieldAddr 53 (Operand.tmp 84) 1) (T := 0) (v := ?v32) rfl rfl rfl rfl (by kernel_rfl) (by kernel_rfl) (by kernel_rfl) (fun _ _ _ h => h) (by rfl) ?h32 hHeld ?r32
                    case h32 => (intro w' hSw; (try dsimp only at hSw); go_simp <;> with_reducible rfl)
                    try simp only [Act.put, sI, sZ, sS]
                    refine take_op (i := 9) (d := 86) (OP := Op.load 9 (Operand.tmp 85)) (T := 9) (v := ?v33) rfl rfl rfl rfl (by kernel_rfl) (by kernel_rfl) (by kernel_rfl) (fun _ _ _ h => h) (by rfl) ?h33 hHeld ?r33
                    case h33 => (intro w' hSw; (try dsimp only at hSw); go_simp <;> with_reducible rfl)
                    try simp only [Act.put, sI, sZ, sS]
                    refine call_op (i := 10) (d := 87) (OP := Op.call { callee := Callee.value (Operand.func 91), args := #[Operand.tmp 81, Operand.tmp 86], argTypes := #[43, 9] }) (T := 4) (f := 91) (args := #[.agg #[.int .i64 g1, .int .i64 r1, .string l1, .int .i64 n1, .int .i64 i1], .string X]) rfl rfl rfl rfl (by kernel_rfl) (by rfl) (by go_simp) ?_
                    refine (hft _).mono ?_
                    rintro e z1 ⟨rfl, bz1⟩
                    have qz1 : z1.cell? ⟨b, off + i * 6, none⟩ = some (.int .i64 g1) ∧ z1.cell? ⟨b, off + i * 6 + 1, none⟩ = some (.int .i64 r1) ∧ z1.cell? ⟨b, off + i * 6 + 2, none⟩ = some (.string l1) ∧ z1.cell? ⟨b, off + i * 6 + 3, none⟩ = some (.int .i64 n1) ∧ z1.cell? ⟨b, off + i * 6 + 4, none⟩ = some (.int .i64 i1) ∧ z1.cell? ⟨b, off + i * 6 + 5, none⟩ = some (.string X) ∧ Below W3.heap.size W3 z1 := ⟨cell_stays hHeld.1 bz1, cell_stays hHeld.2.1 bz1, cell_stays hHeld.2.2.1 bz1, cell_stays hHeld.2.2.2.1 bz1, cell_stays hHeld.2.2.2.2.1 bz1, cell_stays hHeld.2.2.2.2.2.1 bz1, (hHeld.2.2.2.2.2.2).trans (bz1.mono (hHeld.2.2.2.2.2.2).size)⟩
                    refine ⟨_, rfl, qz1, ?_⟩
                    replace hHeld := qz1
                    clear qz1 bz1
                    try simp only [Act.put, sI, sZ, sS]
                    refine take_op (i := 11) (d := 88) (OP := Op.unOp UnOp.not 4 (Operand.tmp 87)) (T := 4) (v := ?v34) rfl rfl rfl rfl (by kernel_rfl) (by kernel_rfl) (by kernel_rfl) (fun _ _ _ h => h) (by rfl) ?h34 hHeld ?r34
                    case h34 => (intro w' hSw; (try dsimp only at hSw); go_simp <;> with_reducible rfl)
                    try simp only [Act.put, sI, sZ, sS]
                    refine take_op (i := 12) (d := 89) (OP := Op.move (Operand.tmp 88)) (T := 4) (v := ?v35) rfl rfl rfl rfl (by kernel_rfl) (by kernel_rfl) (by kernel_rfl) (fun _ _ _ h => h) (by rfl) ?h35 hHeld ?r35
                    case h35 => (intro w' hSw; (try dsimp only at hSw); go_simp <;> with_reducible rfl)
                    try simp only [Act.put, sI, sZ, sS]
                    refine pass_op (i := 13) (d := 90) rfl rfl (by kernel_rfl) (by kernel_rfl) (by kernel_rfl) (fun _ _ _ h => h) (by rfl) hHeld ?_
                    try simp only [Act.put, sI, sZ, sS]
                    refine pass_op (i := 14) (d := 91) rfl rfl (by kernel_rfl) (by kernel_rfl) (by kernel_rfl) (fun _ _ _ h => h) (by rfl) hHeld ?_
                    try simp only [Act.put, sI, sZ, sS]
                    refine pass_op (i := 15) (d := 92) rfl rfl (by kernel_rfl) (by kernel_rfl) (by kernel_rfl) (fun _ _ _ h => h) (by rfl) hHeld ?_
                    try simp only [Act.put, sI, sZ, sS]
                    refine pass_op (i := 16) (d := 93) rfl rfl (by kernel_rfl) (by kernel_rfl) (by kernel_rfl) (fun _ _ _ h => h) (by rfl) hHeld ?_
                    try simp only [Act.put, sI, sZ, sS]
                    refine pass_op (i := 17) (d := 94) rfl rfl (by kernel_rfl) (by kernel_rfl) (by kernel_rfl) (fun _ _ _ h => h) (by rfl) hHeld ?_
                    try simp only [Act.put, sI, sZ, sS]
                    refine pass_op (i := 18) (d := 95) rfl rfl (by kernel_rfl) (by kernel_rfl) (by kernel_rfl) (fun _ _ _ h => h) (by rfl) hHeld ?_
                    try simp only [Act.put, sI, sZ, sS]
                    refine pass_op (i := 19) (d := 96) rfl rfl (by kernel_rfl) (by kernel_rfl) (by kernel_rfl) (fun _ _ _ h => h) (by rfl) hHeld ?_
                    try simp only [Act.put, sI, sZ, sS]
                    refine pass_op (i := 20) (d := 97) rfl rfl (by kernel_rfl) (by kernel_rfl) (by kernel_rfl) (fun _ _ _ h => h) (by rfl) hHeld ?_
                    try simp only [Act.put, sI, sZ, sS]
                    refine take_op (i := 21) (d := 98) (OP := Op.pick (Operand.tmp 89) (Operand.const (Value.bool true)) (Operand.tmp 97)) (T := 4) (v := ?v36) rfl rfl rfl rfl (by kernel_rfl) (by kernel_rfl) (by kernel_rfl) (fun _ _ _ h => h) (by rfl) ?h36 hHeld ?r36
                    case h36 => (intro w' hSw; (try dsimp only at hSw); go_simp <;> with_reducible rfl)
                    try simp only [Act.put, sI, sZ, sS]
                    refine wpAnyH_done (by kernel_rfl) ?_ _
                    have HE := hide hHeld.2.2.2.2.2.2
                    clear hHeld
                    go_wp2
                    go_meet
                    exact ⟨rfl, HE⟩
                | true =>
                    refine wp_region_held_drew (S := fun w' => w'.cell? ⟨b, off + i * 6, none⟩ = some (.int .i64 g1) ∧ w'.cell? ⟨b, off + i * 6 + 1, none⟩ = some (.int .i64 r1) ∧ w'.cell? ⟨b, off + i * 6 + 2, none⟩ = some (.string l1) ∧ w'.cell? ⟨b, off + i * 6 + 3, none⟩ = some (.int .i64 n1) ∧ w'.cell? ⟨b, off + i * 6 + 4, none⟩ = some (.int .i64 i1) ∧ w'.cell? ⟨b, off + i * 6 + 5, none⟩ = some (.string X) ∧ Below W3.heap.size W3 w') (by kernel_rfl) (by exact ⟨q0, q1, q2, q3, q4, q5, drew_below W3⟩) (fun hHeld => ?_)
                    try dsimp only at hHeld
                    refine take_op (i := 0) (d := 77) (OP := Op.move (Operand.tmp 1)) (T := 22) (v := ?v37) rfl rfl rfl rfl (by kernel_rfl) (by kernel_rfl) (by kernel_rfl) (fun _ _ _ h => h) (by rfl) ?h37 hHeld ?r37
                    case h37 => (intro w' hSw; (try dsimp only at hSw); go_simp <;> with_reducible rfl)
                    try simp only [Act.put, sI, sZ, sS]
                    refine take_op (i := 1) (d := 78) (OP := Op.move (Operand.tmp 12)) (T := 3) (v := ?v38) rfl rfl rfl rfl (by kernel_rfl) (by kernel_rfl) (by kernel_rfl) (fun _ _ _ h => h) (by rfl) ?h38 hHeld ?r38
                    case h38 => (intro w' hSw; (try dsimp only at hSw); go_simp <;> with_reducible rfl)
                    try simp only [Act.put, sI, sZ, sS]
                    refine take_op (i := 2) (d := 79) (OP := Op.indexAddr 22 (Operand.tmp 77) (Operand.tmp 78)) (T := 0) (v := ?v39) rfl rfl rfl rfl (by kernel_rfl) (by kernel_rfl) (by kernel_rfl) (fun _ _ _ h => h) (by rfl) ?h39 hHeld ?r39
                    case h39 => (intro w' hSw; (try dsimp only at hSw); go_simp <;> with_reducible rfl)
                    try simp only [Act.put, sI, sZ, sS]
                    refine take_op (i := 3) (d := 80) (OP := Op.fieldAddr 53 (Operand.tmp 79) 0) (T := 0) (v := ?v40) rfl rfl rfl rfl (by kernel_rfl) (by kernel_rfl) (by kernel_rfl) (fun _ _ _ h => h) (by rfl) ?h40 hHeld ?r40
                    case h40 => (intro w' hSw; (try dsimp only at hSw); go_simp <;> with_reducible rfl)
                    try simp only [Act.put, sI, sZ, sS]
                    refine take_op (i := 4) (d := 81) (OP := Op.load 43 (Operand.tmp 80)) (T := 43) (v := ?v41) rfl rfl rfl rfl (by kernel_rfl) (by kernel_rfl) (by kernel_rfl) (fun _ _ _ h => h) (by rfl) ?h41 hHeld ?r41
                    case h41 => (intro w' hSw; (try dsimp only at hSw); go_simp <;> with_reducible rfl)
                    try simp only [Act.put, sI, sZ, sS]
                    refine take_op (i := 5) (d := 82) (OP := Op.move (Operand.tmp 1)) (T := 22) (v := ?v42) rfl rfl rfl rfl (by kernel_rfl) (by kernel_rfl) (by kernel_rfl) (fun _ _ _ h => h) (by rfl) ?h42 hHeld ?r42
                    case h42 => (intro w' hSw; (try dsimp only at hSw); go_simp <;> with_reducible rfl)
                    try simp only [Act.put, sI, sZ, sS]
                    refine take_op (i := 6) (d := 83) (OP := Op.move (Operand.tmp 12)) (T := 3) (v := ?v43) rfl rfl rfl rfl (by kernel_rfl) (by kernel_rfl) (by kernel_rfl) (fun _ _ _ h => h) (by rfl) ?h43 hHeld ?r43
                    case h43 => (intro w' hSw; (try dsimp only at hSw); go_simp <;> with_reducible rfl)
                    try simp only [Act.put, sI, sZ, sS]
                    refine take_op (i := 7) (d := 84) (OP := Op.indexAddr 22 (Operand.tmp 82) (Operand.tmp 83)) (T := 0) (v := ?v44) rfl rfl rfl rfl (by kernel_rfl) (by kernel_rfl) (by kernel_rfl) (fun _ _ _ h => h) (by rfl) ?h44 hHeld ?r44
                    case h44 => (intro w' hSw; (try dsimp only at hSw); go_simp <;> with_reducible rfl)
                    try simp only [Act.put, sI, sZ, sS]
                    refine take_op (i := 8) (d := 85) (OP := Op.fieldAddr 53 (Operand.tmp 84) 1) (T := 0) (v := ?v45) rfl rfl rfl rfl (by kernel_rfl) (by kernel_rfl) (by kernel_rfl) (fun _ _ _ h => h) (by rfl) ?h45 hHeld ?r45
                    case h45 => (intro w' hSw; (try dsimp only at hSw); go_simp <;> with_reducible rfl)
                    try simp only [Act.put, sI, sZ, sS]
                    refine take_op (i := 9) (d := 86) (OP := Op.load 9 (Operand.tmp 85)) (T := 9) (v := ?v46) rfl rfl rfl rfl (by kernel_rfl) (by kernel_rfl) (by kernel_rfl) (fun _ _ _ h => h) (by rfl) ?h46 hHeld ?r46
                    case h46 => (intro w' hSw; (try dsimp only at hSw); go_simp <;> with_reducible rfl)
                    try simp only [Act.put, sI, sZ, sS]
                    refine call_op (i := 10) (d := 87) (OP := Op.call { callee := Callee.value (Operand.func 91), args := #[Operand.tmp 81, Operand.tmp 86], argTypes := #[43, 9] }) (T := 4) (f := 91) (args := #[.agg #[.int .i64 g1, .int .i64 r1, .string l1, .int .i64 n1, .int .i64 i1], .string X]) rfl rfl rfl rfl (by kernel_rfl) (by rfl) (by go_simp) ?_
                    refine (hft _).mono ?_
                    rintro e z1 ⟨rfl, bz1⟩
                    have qz1 : z1.cell? ⟨b, off + i * 6, none⟩ = some (.int .i64 g1) ∧ z1.cell? ⟨b, off + i * 6 + 1, none⟩ = some (.int .i64 r1) ∧ z1.cell? ⟨b, off + i * 6 + 2, none⟩ = some (.string l1) ∧ z1.cell? ⟨b, off + i * 6 + 3, none⟩ = some (.int .i64 n1) ∧ z1.cell? ⟨b, off + i * 6 + 4, none⟩ = some (.int .i64 i1) ∧ z1.cell? ⟨b, off + i * 6 + 5, none⟩ = some (.string X) ∧ Below W3.heap.size W3 z1 := ⟨cell_stays hHeld.1 bz1, cell_stays hHeld.2.1 bz1, cell_stays hHeld.2.2.1 bz1, cell_stays hHeld.2.2.2.1 bz1, cell_stays hHeld.2.2.2.2.1 bz1, cell_stays hHeld.2.2.2.2.2.1 bz1, (hHeld.2.2.2.2.2.2).trans (bz1.mono (hHeld.2.2.2.2.2.2).size)⟩
                    refine ⟨_, rfl, qz1, ?_⟩
                    replace hHeld := qz1
                    clear qz1 bz1
                    try simp only [Act.put, sI, sZ, sS]
                    refine take_op (i := 11) (d := 88) (OP := Op.unOp UnOp.not 4 (Operand.tmp 87)) (T := 4) (v := ?v47) rfl rfl rfl rfl (by kernel_rfl) (by kernel_rfl) (by kernel_rfl) (fun _ _ _ h => h) (by rfl) ?h47 hHeld ?r47
                    case h47 => (intro w' hSw; (try dsimp only at hSw); go_simp <;> with_reducible rfl)
                    try simp only [Act.put, sI, sZ, sS]
                    refine take_op (i := 12) (d := 89) (OP := Op.move (Operand.tmp 88)) (T := 4) (v := ?v48) rfl rfl rfl rfl (by kernel_rfl) (by kernel_rfl) (by kernel_rfl) (fun _ _ _ h => h) (by rfl) ?h48 hHeld ?r48
                    case h48 => (intro w' hSw; (try dsimp only at hSw); go_simp <;> with_reducible rfl)
                    try simp only [Act.put, sI, sZ, sS]
                    refine take_op (i := 13) (d := 90) (OP := Op.move (Operand.tmp 11)) (T := 22) (v := ?v49) rfl rfl rfl rfl (by kernel_rfl) (by kernel_rfl) (by kernel_rfl) (fun _ _ _ h => h) (by rfl) ?h49 hHeld ?r49
                    case h49 => (intro w' hSw; (try dsimp only at hSw); go_simp <;> with_reducible rfl)
                    try simp only [Act.put, sI, sZ, sS]
                    refine take_op (i := 14) (d := 91) (OP := Op.move (Operand.tmp 1)) (T := 22) (v := ?v50) rfl rfl rfl rfl (by kernel_rfl) (by kernel_rfl) (by kernel_rfl) (fun _ _ _ h => h) (by rfl) ?h50 hHeld ?r50
                    case h50 => (intro w' hSw; (try dsimp only at hSw); go_simp <;> with_reducible rfl)
                    try simp only [Act.put, sI, sZ, sS]
                    refine take_op (i := 15) (d := 92) (OP := Op.move (Operand.tmp 12)) (T := 3) (v := ?v51) rfl rfl rfl rfl (by kernel_rfl) (by kernel_rfl) (by kernel_rfl) (fun _ _ _ h => h) (by rfl) ?h51 hHeld ?r51
                    case h51 => (intro w' hSw; (try dsimp only at hSw); go_simp <;> with_reducible rfl)
                    try simp only [Act.put, sI, sZ, sS]
                    refine take_op (i := 16) (d := 93) (OP := Op.indexAddr 22 (Operand.tmp 91) (Operand.tmp 92)) (T := 0) (v := ?v52) rfl rfl rfl rfl (by kernel_rfl) (by kernel_rfl) (by kernel_rfl) (fun _ _ _ h => h) (by rfl) ?h52 hHeld ?r52
                    case h52 => (intro w' hSw; (try dsimp only at hSw); go_simp <;> with_reducible rfl)
                    try simp only [Act.put, sI, sZ, sS]
                    refine take_op (i := 17) (d := 94) (OP := Op.fieldAddr 53 (Operand.tmp 93) 0) (T := 0) (v := ?v53) rfl rfl rfl rfl (by kernel_rfl) (by kernel_rfl) (by kernel_rfl) (fun _ _ _ h => h) (by rfl) ?h53 hHeld ?r53
                    case h53 => (intro w' hSw; (try dsimp only at hSw); go_simp <;> with_reducible rfl)
                    try simp only [Act.put, sI, sZ, sS]
                    refine take_op (i := 18) (d := 95) (OP := Op.load 43 (Operand.tmp 94)) (T := 43) (v := ?v54) rfl rfl rfl rfl (by kernel_rfl) (by kernel_rfl) (by kernel_rfl) (fun _ _ _ h => h) (by rfl) ?h54 hHeld ?r54
                    case h54 => (intro w' hSw; (try dsimp only at hSw); go_simp <;> with_reducible rfl)
                    try simp only [Act.put, sI, sZ, sS]
                    refine call_op (i := 19) (d := 96) (OP := Op.call { callee := Callee.value (Operand.func 92), args := #[Operand.tmp 90, Operand.tmp 95], argTypes := #[22, 43] }) (T := 4) (f := 92) (args := #[.slice a9 K c9, .agg #[.int .i64 g1, .int .i64 r1, .string l1, .int .i64 n1, .int .i64 i1]]) rfl rfl rfl rfl (by kernel_rfl) (by rfl) (by go_simp) ?_
                    refine (hbh3 _ hHeld.2.2.2.2.2.2).mono ?_
                    rintro e z2 ⟨rfl, bz2⟩
                    have qz2 : z2.cell? ⟨b, off + i * 6, none⟩ = some (.int .i64 g1) ∧ z2.cell? ⟨b, off + i * 6 + 1, none⟩ = some (.int .i64 r1) ∧ z2.cell? ⟨b, off + i * 6 + 2, none⟩ = some (.string l1) ∧ z2.cell? ⟨b, off + i * 6 + 3, none⟩ = some (.int .i64 n1) ∧ z2.cell? ⟨b, off + i * 6 + 4, none⟩ = some (.int .i64 i1) ∧ z2.cell? ⟨b, off + i * 6 + 5, none⟩ = some (.string X) ∧ Below W3.heap.size W3 z2 := ⟨cell_stays hHeld.1 bz2, cell_stays hHeld.2.1 bz2, cell_stays hHeld.2.2.1 bz2, cell_stays hHeld.2.2.2.1 bz2, cell_stays hHeld.2.2.2.2.1 bz2, cell_stays hHeld.2.2.2.2.2.1 bz2, (hHeld.2.2.2.2.2.2).trans (bz2.mono (hHeld.2.2.2.2.2.2).size)⟩
                    refine ⟨_, rfl, qz2, ?_⟩
                    replace hHeld := qz2
                    clear qz2 bz2
                    try simp only [Act.put, sI, sZ, sS]
                    refine take_op (i := 20) (d := 97) (OP := Op.unOp UnOp.not 4 (Operand.tmp 96)) (T := 4) (v := ?v55) rfl rfl rfl rfl (by kernel_rfl) (by kernel_rfl) (by kernel_rfl) (fun _ _ _ h => h) (by rfl) ?h55 hHeld ?r55
                    case h55 => (intro w' hSw; (try dsimp only at hSw); go_simp <;> with_reducible rfl)
                    try simp only [Act.put, sI, sZ, sS]
                    refine take_op (i := 21) (d := 98) (OP := Op.pick (Operand.tmp 89) (Operand.const (Value.bool true)) (Operand.tmp 97)) (T := 4) (v := ?v56) rfl rfl rfl rfl (by kernel_rfl) (by kernel_rfl) (by kernel_rfl) (fun _ _ _ h => h) (by rfl) ?h56 hHeld ?r56
                    case h56 => (intro w' hSw; (try dsimp only at hSw); go_simp <;> with_reducible rfl)
                    try simp only [Act.put, sI, sZ, sS]
                    refine wpAnyH_done (by kernel_rfl) ?_ _
                    have HE := hide hHeld.2.2.2.2.2.2
                    clear hHeld
                    go_wp2
                    go_meet
                    exact ⟨rfl, HE⟩
              case rest =>
                obtain ⟨rfl, HE4⟩ := hcut
                obtain ⟨W6, hW6⟩ : ∃ q, wc = q := ⟨_, rfl⟩
                rw [hW6] at HE4 ⊢
                clear hW6
                have HN : Hid (Boxd W6 B13 pn tn ∧ tn.list = LST ∧ Below wr.heap.size wr W6 ∧ wr.heap.size ≤ B13) := hide ⟨HE.out.1.below HE4.out, HE.out.2.1, HE.out.2.2.1.trans (HE4.out.mono HE.out.2.2.1.size), HE.out.2.2.2⟩
                replace q0 := cell_stays q0 HE4.out
                replace q1 := cell_stays q1 HE4.out
                replace q2 := cell_stays q2 HE4.out
                replace q3 := cell_stays q3 HE4.out
                replace q4 := cell_stays q4 HE4.out
                replace q5 := cell_stays q5 HE4.out
                clear HE HE4 hft hbh3
                cases hq : (FT && BH) with
                | false =>
                  have hE2 : EC = 2 := by rw [HF.out.2.2.2, hq]; rfl
                  have hn0 : tn.n = 0 := by rw [← Pm.T.n_eq, HN.out.2.1, HF.out.2.2.1, hq]; rfl
                  have hlen := lenP HN.out.1.2.2 HN.out.1.2.1
                  rw [hn0] at hlen
                  have cN := HN.out.1.cell
                  have HF2 := hide hE2
                  rw [hE2]
                  clear hE2 hq hn0 q0 q1 q2 q3 q4 q5
                  go_wp2_with (first
                    | (go_at_call 87; refine (jnum35 _ _).mono ?_; rintro e wn ⟨rfl, rfl⟩; dsimp only)
                    | (go_at_call 21; refine hlen.mono ?_; rintro e w3 ⟨rfl, b3⟩; have H3 := hide b3; clear b3; dsimp only))
                  have H8 := hide (HN.out.2.2.1.trans (H3.out.mono HN.out.2.2.1.size))
                  go_roundw
                  case rel => exact ⟨i + 1, tc, pc, lc, K, a9, c9, rfl, by go_num, by omega, by omega, hide ⟨HI.out.1.below H8.out, HI.out.2.1, HI.out.2.2.1, HI.out.2.2.2.1.below H8.out, HI.out.2.2.2.2.1, HI.out.2.2.2.2.2.1, by have := HI.out.2.2.2.2.2.2.1; omega, HI.out.2.2.2.2.2.2.2.1, HI.out.2.2.2.2.2.2.2.2.1.below H8.out, HI.out.2.2.2.2.2.2.2.2.2.1.below H8.out, HI.out.2.2.2.2.2.2.2.2.2.2.trans (H8.out.mono HI.out.2.2.2.2.2.2.2.2.2.2.size)⟩⟩
                  case measure => simp [intOf]; omega
                | true =>
                  have hE2 : EC = 0 := by rw [HF.out.2.2.2, hq]; rfl
                  have hv : stV (g1, r1, l1, n1, i1) = true ∧ txtB X = true ∧ BH = true := by rw [HF.out.1] at hq; simp only [Bool.and_eq_true] at hq; exact ⟨hq.1.1, hq.1.2, hq.2⟩
                  have hlst : tn.list = tc.list ++ [(keyT (g1, r1, l1, n1, i1), X)] := by rw [HN.out.2.1, HF.out.2.2.1, hq]; rfl
                  obtain ⟨hmn, hen⟩ := els_more HI.out.2.1 hv.1 hv.2.1
                  rw [← hlst] at hmn hen
                  rw [← HI.out.2.2.1] at hen
                  have hup : UpS (elsL tn.list) := els_up hmn HN.out.1.2.2.srt
                  have hpm := part_more (x := ((g1, r1, l1, n1, i1), X)) (hen ▸ hup)
                  have hnn : tn.n = tc.n + 1 := by rw [← Pm.T.n_eq, hlst, List.length_append, Pm.T.n_eq]; rfl
                  have hupc : UpS lc := by rw [HI.out.2.2.1]; exact els_up HI.out.2.1 HI.out.1.2.2.srt
                  have hpo := part_on HU.out hupc (hen ▸ hup) HI.out.2.2.2.2.2.2.2.1 hpm.1
                  obtain ⟨lnw, hlnw⟩ : ∃ q, q = lc ++ [((g1, r1, l1, n1, i1), X)] := ⟨_, rfl⟩
                  rw [← hlnw] at hen hpm hpo
                  have hkn : K + 1 = lnw.length := by rw [hlnw, List.length_append, ← HI.out.2.2.2.2.1]; rfl
                  have HP := hide (And.intro hmn (And.intro hen (And.intro hpm.1 (And.intro hpm.2 (And.intro hpo (And.intro hnn (And.intro hkn hlnw)))))))
                  have HE2 := hide hE2
                  rw [hE2]
                  clear hE2 hq hv hlst hmn hen hup hpm hnn hupc hpo hkn hlnw
                  go_upto_region 17 with fail
                  go_cut [11] (fun v11 wc => ∃ a11 c11, v11 = .slice a11 (K + 1) c11 ∧ Hid (Re wc a11 lnw ∧ (K + 1 ≤ c11 ∧ (a11 = none → c11 = 0)) ∧ Below W6.heap.size W6 wc))
                  case first =>
                    clear HMY HST HU HG HF HE2
                    have hR9 : ∀ W, Below W6.heap.size W6 W → Re W a9 lc := fun W hW => HI.out.2.2.2.1.below (HN.out.2.2.1.trans (hW.mono HN.out.2.2.1.size))
                    have hKL := HI.out.2.2.2.2.1
                    have hk6 : lc.length ≤ 90 := by have h1 := HI.out.2.2.2.2.2.2.1; rw [HI.out.2.2.1, elsL, if_pos HI.out.2.1]; simp [elsM]; rw [Pm.T.n_eq]; omega
                    have hz9 := HI.out.2.2.2.2.2.1
                    have hln := HP.out.2.2.2.2.2.2.2
                    have hap1 : ∀ W, Below W6.heap.size W6 W → ∃ v9 w9, (Builtin.append_ #[22, 22] 22 #[.slice none 0 0, .slice a9 K c9]).run Tryz.prog W = .ok v9 w9 ∧ Oe w9 W6.heap.size v9 lc ∧ Below W.heap.size W w9 := fun W hW => by
                      obtain ⟨a', c', w', h1, h2, h3⟩ := app_elems (c := c9) (Oe.nil W W.heap.size) hz9.2 (hR9 W hW) (by simp; omega) (Nat.le_refl _)
                      rw [← hKL] at h1
                      exact ⟨_, w', h1, h2.lift hW.size, h3⟩
                    have hap2 : ∀ (W : World) (v : Value) (R : Nat), Below W6.heap.size W6 W → Oe W W6.heap.size v lc → Re W (some ⟨R, 0, none⟩) [((g1, r1, l1, n1, i1), X)] → ∃ v9 w9, (Builtin.append_ #[22, 22] 22 #[v, .slice (some ⟨R, 0, none⟩) 1 1]).run Tryz.prog W = .ok v9 w9 ∧ Oe w9 W6.heap.size v9 (lc ++ [((g1, r1, l1, n1, i1), X)]) ∧ Below W6.heap.size W w9 := fun W v R hW ho hr => by
                      obtain ⟨a', c', w', h1, h2, h3⟩ := app_elems (c := 1) ho (by simp) hr (by simp; omega) hW.size
                      exact ⟨_, w', h1, h2, h3⟩
                    have hzz : ∀ v w', Oe w' W6.heap.size v lnw → ∃ a11 c11, v = .slice a11 (K + 1) c11 ∧ Re w' a11 lnw ∧ (K + 1 ≤ c11 ∧ (a11 = none → c11 = 0)) := fun v w' ho => by
                      obtain ⟨a', c', e', -, h2, h3, -⟩ := ho.form
                      subst e'
                      have hr := ho.re
                      rw [← HP.out.2.2.2.2.2.2.1] at h3 ⊢
                      exact ⟨a', c', rfl, hr, h3, h2⟩
                    have HLN := hide hln
                    clear hR9 hz9 hKL hk6 hln HI HN HP HX HBO HW0 HC HL HSS HN60 HB7 y2 y3 y4 hi hi3 hgo hB7 hblt z1 z2
                    refine wp_region_held_drew (S := (fun w' => Below W6.heap.size W6 w')) (by kernel_rfl) (by exact (Below.refl _ W6).drew) (fun hHeld => ?_)
                    try dsimp only at hHeld
                    generalize W6.drew = W1 at hHeld ⊢
                    have f0 := q0
                    refine take_op (i := 0) (d := 107) (OP := Op.move (Operand.tmp 11)) (T := 22) (v := ?vzw57) rfl rfl rfl rfl (by kernel_rfl) (by kernel_rfl) (by kernel_rfl) (fun _ _ _ h => h) (by rfl) ?hzw57 hHeld ?rzw57
                    case hzw57 => (intro w' hSw; (try dsimp only at hSw); go_simp <;> with_reducible rfl)
                    try simp only [Act.put, sI, sZ, sS]
                    refine take_op (i := 2) (d := 109) (OP := Op.move (Operand.tmp 1)) (T := 22) (v := ?vzw58) rfl rfl rfl rfl (by kernel_rfl) (by kernel_rfl) (by kernel_rfl) (fun _ _ _ h => h) (by rfl) ?hzw58 hHeld ?rzw58
                    case hzw58 => (intro w' hSw; (try dsimp only at hSw); go_simp <;> with_reducible rfl)
                    try simp only [Act.put, sI, sZ, sS]
                    refine take_op (i := 3) (d := 110) (OP := Op.move (Operand.tmp 12)) (T := 3) (v := ?vzw59) rfl rfl rfl rfl (by kernel_rfl) (by kernel_rfl) (by kernel_rfl) (fun _ _ _ h => h) (by rfl) ?hzw59 hHeld ?rzw59
                    case hzw59 => (intro w' hSw; (try dsimp only at hSw); go_simp <;> with_reducible rfl)
                    try simp only [Act.put, sI, sZ, sS]
                    refine take_op (i := 4) (d := 111) (OP := Op.indexAddr 22 (Operand.tmp 109) (Operand.tmp 110)) (T := 0) (v := .pointer (some ⟨b, off + i * 6, none⟩)) rfl rfl rfl rfl (by kernel_rfl) (by kernel_rfl) (by kernel_rfl) (fun _ _ _ h => h) (by rfl) (fun w' _ => exec_ixE rfl rfl y1) hHeld ?_
                    try simp only [Act.put, sI, sZ, sS]
                    refine take_op (i := 5) (d := 112) (OP := Op.load 53 (Operand.tmp 111)) (T := 53) (v := ev ((g1, r1, l1, n1, i1), X)) rfl rfl rfl rfl (by kernel_rfl) (by kernel_rfl) (by kernel_rfl) (fun _ _ _ h => h) (by rfl) (fun w' hSw => exec_ld53 rfl (cell_stays q0 hSw) (cell_stays q1 hSw) (cell_stays q2 hSw) (cell_stays q3 hSw) (cell_stays q4 hSw) (cell_stays q5 hSw)) hHeld ?_
                    try simp only [Act.put, sI, sZ, sS]
                    obtain ⟨v9, w9, run9, hO9, b9⟩ := hap1 W1 hHeld
                    have hS9 : Below W6.heap.size W6 w9 := hHeld.trans (b9.mono hHeld.size)
                    have hSl : Below W6.heap.size W6 (W1.alloc (.cells (encE ((g1, r1, l1, n1, i1), X)).toArray 53)) := hHeld.alloc hHeld.size _
                    refine turn2_op (i := 1) (di := 108) (OPi := Op.call { callee := Callee.builtin Builtin.append, args := #[Operand.const (Value.slice none 0 0), Operand.tmp 107], argTypes := #[22, 22] }) (Ti := 22) (j := 6) (dj := 113) (OPj := Op.buildSlice 22 1 #[(0, Operand.tmp 112)]) (Tj := 22) (v := v9) (wi := w9) (u := .slice (some ⟨W1.heap.size, 0, none⟩) 1 1) (wj := W1.alloc (.cells (encE ((g1, r1, l1, n1, i1), X)).toArray 53)) rfl rfl rfl rfl rfl rfl rfl rfl (by kernel_rfl) (by rfl) (by rfl) (exec_append rfl rfl run9) (exec_bs53 rfl) hS9 hSl ?_ ?_
                    · try simp only [Act.put, sI, sZ, sS]
                      replace hHeld := hS9
                      have hS8 : Below W6.heap.size W6 (w9.alloc (.cells (encE ((g1, r1, l1, n1, i1), X)).toArray 53)) := hHeld.alloc hHeld.size _
                      refine turn_op (i := 6) (d := 113) (OP := Op.buildSlice 22 1 #[(0, Operand.tmp 112)]) (T := 22) (v := .slice (some ⟨w9.heap.size, 0, none⟩) 1 1) (w' := w9.alloc (.cells (encE ((g1, r1, l1, n1, i1), X)).toArray 53)) rfl rfl rfl rfl (by kernel_rfl) (by rfl) (exec_bs53 rfl) hS8 ?_
                      replace hHeld := hS8
                      try simp only [Act.put, sI, sZ, sS]
                      obtain ⟨v10, w10, run10, hO10, b10⟩ := hap2 (w9.alloc (.cells (encE ((g1, r1, l1, n1, i1), X)).toArray 53)) _ w9.heap.size hHeld (hO9.alloc (.cells (encE ((g1, r1, l1, n1, i1), X)).toArray 53)) (one_re w9 ((g1, r1, l1, n1, i1), X))
                      have hS10 := hHeld.trans b10
                      refine turn_op (i := 7) (d := 114) (OP := Op.call { callee := Callee.builtin Builtin.append, args := #[Operand.tmp 108, Operand.tmp 113], argTypes := #[22, 22] }) (T := 22) (v := v10) (w' := w10) rfl rfl rfl rfl (by kernel_rfl) (by rfl) (exec_append rfl rfl run10) hS10 ?_
                      replace hHeld := hS10
                      try simp only [Act.put, sI, sZ, sS]
                      refine take_op (i := 8) (d := 11) (OP := Op.assign (Operand.tmp 114)) (T := 22) (v := ?vzw60) rfl rfl rfl rfl (by kernel_rfl) (by kernel_rfl) (by kernel_rfl) (fun _ _ _ h => h) (by rfl) ?hzw60 hHeld ?rzw60
                      case hzw60 => (intro w' hSw; (try dsimp only at hSw); go_simp <;> with_reducible rfl)
                      try simp only [Act.put, sI, sZ, sS]
                      refine wpAnyH_done (by kernel_rfl) ?_ _
                      rw [← HLN.out] at hO10
                      obtain ⟨a11, c11, rfl, hr11, hc11⟩ := hzz _ _ hO10
                      have HZ9 : Hid (Re w10 a11 lnw ∧ (K + 1 ≤ c11 ∧ (a11 = none → c11 = 0)) ∧ Below W6.heap.size W6 w10) := hide ⟨hr11, hc11, hS10⟩
                      clear hap1 hap2 hzz hO9 b9 run9 hO10 run10 b10 hS10 hr11 hc11 hHeld
                      go_wp2
                      go_meet
                      exact ⟨a11, c11, rfl, HZ9⟩
                    · try simp only [Act.put, sI, sZ, sS]
                      clear run9 hO9 b9 hS9 v9 w9
                      replace hHeld := hSl
                      obtain ⟨v9, w9, run9, hO9, b9⟩ := hap1 _ hHeld
                      have hS9 : Below W6.heap.size W6 w9 := hHeld.trans (b9.mono hHeld.size)
                      refine turn_op (i := 1) (d := 108) (OP := Op.call { callee := Callee.builtin Builtin.append, args := #[Operand.const (Value.slice none 0 0), Operand.tmp 107], argTypes := #[22, 22] }) (T := 22) (v := v9) (w' := w9) rfl rfl rfl rfl (by kernel_rfl) (by rfl) (exec_append rfl rfl run9) hS9 ?_
                      replace hHeld := hS9
                      try simp only [Act.put, sI, sZ, sS]
                      obtain ⟨v10, w10, run10, hO10, b10⟩ := hap2 w9 _ W1.heap.size hHeld hO9 ((one_re W1 ((g1, r1, l1, n1, i1), X)).below b9)
                      have hS10 := hHeld.trans b10
                      refine turn_op (i := 7) (d := 114) (OP := Op.call { callee := Callee.builtin Builtin.append, args := #[Operand.tmp 108, Operand.tmp 113], argTypes := #[22, 22] }) (T := 22) (v := v10) (w' := w10) rfl rfl rfl rfl (by kernel_rfl) (by rfl) (exec_append rfl rfl run10) hS10 ?_
                      replace hHeld := hS10
                      try simp only [Act.put, sI, sZ, sS]
                      refine take_op (i := 8) (d := 11) (OP := Op.assign (Operand.tmp 114)) (T := 22) (v := ?vzw61) rfl rfl rfl rfl (by kernel_rfl) (by kernel_rfl) (by kernel_rfl) (fun _ _ _ h => h) (by rfl) ?hzw61 hHeld ?rzw61
                      case hzw61 => (intro w' hSw; (try dsimp only at hSw); go_simp <;> with_reducible rfl)
                      try simp only [Act.put, sI, sZ, sS]
                      refine wpAnyH_done (by kernel_rfl) ?_ _
                      rw [← HLN.out] at hO10
                      obtain ⟨a11, c11, rfl, hr11, hc11⟩ := hzz _ _ hO10
                      have HZ9 : Hid (Re w10 a11 lnw ∧ (K + 1 ≤ c11 ∧ (a11 = none → c11 = 0)) ∧ Below W6.heap.size W6 w10) := hide ⟨hr11, hc11, hS10⟩
                      clear hap1 hap2 hzz hO9 b9 run9 hO10 run10 b10 hS10 hr11 hc11 hHeld
                      go_wp2
                      go_meet
                      exact ⟨a11, c11, rfl, HZ9⟩
                  case rest =>
                    obtain ⟨a11, c11, rfl, HE7⟩ := hcut
                    obtain ⟨W7, hW7⟩ : ∃ q, wc = q := ⟨_, rfl⟩
                    rw [hW7] at HE7 ⊢
                    clear hW7
                    have HB : Hid (Boxd W7 B13 pn tn ∧ Boxd W7 B7 pc tc ∧ Boxd W7 B9 pt t ∧ Re W7 a8 (srtE l) ∧ Below w0.heap.size w0 W7) := hide (by
                      have hb := HN.out.2.2.1.trans (HE7.out.2.2.mono HN.out.2.2.1.size)
                      exact ⟨HN.out.1.below HE7.out.2.2, HI.out.1.below hb, HI.out.2.2.2.2.2.2.2.2.1.below hb, HI.out.2.2.2.2.2.2.2.2.2.1.below hb, HI.out.2.2.2.2.2.2.2.2.2.2.trans (hb.mono HI.out.2.2.2.2.2.2.2.2.2.2.size)⟩)
                    clear q0 q1 q2 q3 q4 q5
                    have hsd := stands89 (c := c11) (g, r, lb, n, ix) HB.out.1.2.2 HB.out.1.2.1 HP.out.1 HP.out.2.1.symm HE7.out.1 (by rw [← HP.out.2.2.2.2.2.2.1]; exact HE7.out.2.1.1) HSS.out
                    rw [← HP.out.2.2.2.2.2.2.1] at hsd
                    dsimp only [svT, sv] at hsd
                    have cN := HB.out.1.cell
                    have cM := HB.out.2.1.cell
                    obtain ⟨s0, s1, s2, s3, s4, -⟩ := HC.out W7 HB.out.2.2.2.2
                    have hpa := fun W (hW : Below W7.heap.size W7 W) => partP (B := true) (HB.out.2.1.2.2.below hW) HB.out.2.1.2.1 (HB.out.1.2.2.below hW) HB.out.1.2.1 rfl rfl (by rw [HI.out.2.1, HP.out.1, HP.out.2.1, ← HI.out.2.2.1, HP.out.2.2.1]; rfl)
                    have hpb := fun W (hW : Below W7.heap.size W7 W) => partP (B := false) (HB.out.1.2.2.below hW) HB.out.1.2.1 (HB.out.2.1.2.2.below hW) HB.out.2.1.2.1 rfl rfl (by rw [HI.out.2.1, HP.out.1, HP.out.2.1, ← HI.out.2.2.1, HP.out.2.2.2.1]; rfl)
                    go_upto_region 20 with (first
                      | (go_at_call 93; refine hpb10.mono ?_; rintro e w11 ⟨rfl, b11⟩; have H11 := hide (H10.out.trans (b11.mono H10.out.size)); clear b11 hpb10; dsimp only)
                      | (go_at_call 93; refine hpa9.mono ?_; rintro e w10 ⟨rfl, b10⟩; have H10 := hide (H9.out.trans (b10.mono H9.out.size)); have cM10 := cell_stays cM9 b10; have cN10 := cell_stays cN9 b10; have hpb10 := hpb9 w10 H10.out; clear b10 hpb9 hpa9 cM9 cN9; dsimp only)
                      | (go_at_call 89; refine hsd.mono ?_; rintro e w9 ⟨rfl, b9⟩; have cN9 := cell_stays cN b9; have cM9 := cell_stays cM b9; have hpa9 := hpa w9 b9; have hpb9 := hpb; have H9 := hide b9; clear b9 hsd cN cM s0 s1 s2 s3 s4 hpa hpb; dsimp only)
                      | (go_at_call 87; refine (jnum35 _ _).mono ?_; rintro e wn ⟨rfl, rfl⟩; dsimp only))
                    obtain ⟨W8, hW8⟩ : ∃ q, w11 = q := ⟨_, rfl⟩
                    rw [hW8] at H11 ⊢
                    clear hW8
                    have r5 := (HB.out.2.1.below H11.out).1
                    obtain ⟨u5, o5⟩ := set_one (i := 0) (.pointer pn) r5
                    have HZ : Hid (Boxd (W8.setCell ⟨B7, 0, none⟩ (.pointer pn)) B7 pn tn ∧ Re (W8.setCell ⟨B7, 0, none⟩ (.pointer pn)) a11 lnw ∧ Boxd (W8.setCell ⟨B7, 0, none⟩ (.pointer pn)) B9 pt t ∧ Re (W8.setCell ⟨B7, 0, none⟩ (.pointer pn)) a8 (srtE l) ∧ Below w0.heap.size w0 (W8.setCell ⟨B7, 0, none⟩ (.pointer pn))) := hide (by
                      have hb := HB.out.2.2.2.2.trans (H11.out.mono HB.out.2.2.2.2.size)
                      exact ⟨⟨by simpa using u5, HB.out.1.2.1, (HB.out.1.2.2.below H11.out).aside r5 o5⟩, (HE7.out.1.below H11.out).aside r5 o5, (HB.out.2.2.1.below H11.out).aside r5 o5 (fun e => HST.out.2.2.2.2.1 e.symm), (HB.out.2.2.2.1.below H11.out).aside r5 o5, Below.only hb o5 hb.size (fun j e => by have e' : j = B7 := e; have := HB7.out; omega)⟩)
                    have fz := frozen_of_row _ _ 0 _ 27 r5
                    have cM' := (HB.out.2.1.below H11.out).cell
                    have cN' := (HB.out.1.below H11.out).cell
                    clear u5 o5 r5
                    go_wp2
                    go_roundw
                    case rel => exact ⟨i + 1, tn, pn, lnw, K + 1, a11, c11, rfl, by go_num, by omega, by omega, hide ⟨HZ.out.1, HP.out.1, HP.out.2.1.symm, HZ.out.2.1, HP.out.2.2.2.2.2.2.1, HE7.out.2.1, by have h1 := HP.out.2.2.2.2.2.1; have h2 := HI.out.2.2.2.2.2.2.1; omega, HP.out.2.2.2.2.1, HZ.out.2.2.1, HZ.out.2.2.2.1, HZ.out.2.2.2.2⟩⟩
                    case measure => simp [intOf]; omega
          · have hsd := stands89 (c := c8) (g, r, lb, n, ix) HI.out.2.2.2.2.2.2.2.2.1.2.2 HI.out.2.2.2.2.2.2.2.2.1.2.1 HMY.out.1 HMY.out.2.1.symm HI.out.2.2.2.2.2.2.2.2.2.1 (by rw [srtE_len, ← HL.out.1]; exact HST.out.2.2.2.2.2.1) HSS.out
            rw [srtE_len, ← HL.out.1] at hsd
            dsimp only [svT, sv] at hsd
            have cF := HI.out.2.2.2.2.2.2.2.2.1.cell
            have cM := HI.out.1.cell
            obtain ⟨s0, s1, s2, s3, s4, -⟩ := HC.out wr HI.out.2.2.2.2.2.2.2.2.2.2
            have hpa := fun W (hW : Below wr.heap.size wr W) => partP (B := true) (HI.out.2.2.2.2.2.2.2.2.1.2.2.below hW) HI.out.2.2.2.2.2.2.2.2.1.2.1 (HI.out.1.2.2.below hW) HI.out.1.2.1 rfl rfl (by rw [HMY.out.1, HI.out.2.1, HMY.out.2.1, ← HI.out.2.2.1, HI.out.2.2.2.2.2.2.2.1]; rfl)
            by_cases h1 : i < M
            · have y1 : (i : Int) < (M : Int) := by omega
              have y2 : decide (i < M) = true := by simpa using h1
              have y3 : ¬ (i : Int) < 30 := by omega
              have y4 : decide (i < 30) = false := by simp; omega
              clear hgo
              go_wp2_with (first
                | (go_at_call 89; refine hsd.mono ?_; rintro e w9 ⟨rfl, b9⟩; have cF9 := cell_stays cF b9; have cM9 := cell_stays cM b9; have hpa9 := hpa w9 b9; have H9 := hide b9; clear b9 hsd cF cM s0 s1 s2 s3 s4 hpa; dsimp only)
                | (go_at_call 93; refine hpa9.mono ?_; rintro e w10 ⟨rfl, b10⟩; have H10 := hide (HI.out.2.2.2.2.2.2.2.2.2.2.trans ((H9.out.trans (b10.mono H9.out.size)).mono HI.out.2.2.2.2.2.2.2.2.2.2.size)); clear b10; dsimp only)
                | (go_at_call 84; refine (known84 _).mono ?_; rintro e w11 ⟨rfl, b11⟩; have H11 := hide (H10.out.trans (b11.mono H10.out.size)); clear b11; dsimp only))
              go_ret
              exact ⟨rfl, (HC.out _ H11.out).2.2.2.2.2⟩
            · have y1 : ¬ (i : Int) < (M : Int) := by omega
              have y2 : decide (i < M) = false := by simpa using h1
              clear hgo
              go_wp2_with (first
                | (go_at_call 89; refine hsd.mono ?_; rintro e w9 ⟨rfl, b9⟩; have cF9 := cell_stays cF b9; have cM9 := cell_stays cM b9; have hpa9 := hpa w9 b9; have H9 := hide b9; clear b9 hsd cF cM s0 s1 s2 s3 s4 hpa; dsimp only)
                | (go_at_call 93; refine hpa9.mono ?_; rintro e w10 ⟨rfl, b10⟩; have H10 := hide (HI.out.2.2.2.2.2.2.2.2.2.2.trans ((H9.out.trans (b10.mono H9.out.size)).mono HI.out.2.2.2.2.2.2.2.2.2.2.size)); clear b10; dsimp only)
                | (go_at_call 84; refine (known84 _).mono ?_; rintro e w11 ⟨rfl, b11⟩; have H11 := hide (H10.out.trans (b11.mono H10.out.size)); clear b11; dsimp only))
              go_ret
              exact ⟨rfl, (HC.out _ H11.out).2.2.2.2.2⟩
end Go.Proofs.YtkkpdgfllnbigaaGreat.Jo
